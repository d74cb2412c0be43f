/-
  Falls, plain facts: what is not sure, what is left, what could have fallen.
-/
import Derived.Test.YtkibddcjogfklaaGreatDoorDtX
import Derived.Test.YtkibddcjogfklaaGreatDoorDuY
namespace Go.Proofs.YtkibddcjogfklaaGreatDoor.fall
open Go
open kit strs recs disk deed

/-! ### what is not sure -/
def uns (n : Nod) : Nat := n.2.1.size - n.2.2.toNat
def unsT (ns : List Nod) : Nat := (ns.map uns).sum
theorem unsT_snoc {ns : List Nod} {k : Nat} {n : Nod} (h : ns[k]? = some n) : unsT (ns.take (k + 1)) = unsT (ns.take k) + uns n := by
  unfold unsT
  rw [List.take_add_one, h, List.map_append, List.sum_append]
  simp
theorem unsT_le : ∀ ns : List Nod, unsT ns ≤ tot (ns.map (·.2.1))
  | [] => Nat.le_refl _
  | n :: r => by
    have ih := unsT_le r
    unfold unsT tot uns at *
    simp only [List.map_cons, List.sum_cons]
    omega
theorem tot_take_le : ∀ (ns : List Nod) (k : Nat), tot ((ns.take k).map (·.2.1)) ≤ tot (ns.map (·.2.1))
  | [], k => by simp
  | n :: r, 0 => by simp [tot]
  | n :: r, k + 1 => by
    have ih := tot_take_le r k
    unfold tot at *
    simp only [List.take_succ_cons, List.map_cons, List.sum_cons]
    omega
def calmN (n : Nod) : Bool := decide (n.2.2 = (n.2.1.size : Int))
theorem calm_uns : ∀ {ns : List Nod}, (∀ n ∈ ns, 0 ≤ n.2.2 ∧ n.2.2 ≤ (n.2.1.size : Int)) → ns.all calmN = decide (unsT ns = 0)
  | [], _ => rfl
  | n :: r, h => by
    have ih := calm_uns (ns := r) fun m hm => h m (List.mem_cons_of_mem _ hm)
    have hn := h n List.mem_cons_self
    rw [List.all_cons, ih]
    have e : unsT (n :: r) = uns n + unsT r := rfl
    rw [e]
    have e2 : calmN n = decide (uns n = 0) := by
      unfold calmN uns
      by_cases hc : n.2.2 = (n.2.1.size : Int)
      · rw [decide_eq_true hc, decide_eq_true (by omega)]
      · rw [decide_eq_false hc, decide_eq_false (by omega)]
    rw [e2]
    by_cases h1 : uns n = 0
    · rw [h1]; simp
    · have h2 : ¬ uns n + unsT r = 0 := by omega
      rw [decide_eq_false h1, decide_eq_false h2]; rfl

/-! ### what is the same -/
theorem sameB_is {a b : D} : sameB a b = true ↔ a = b := by
  obtain ⟨a1, a2, a3, a4, a5, a6⟩ := a
  obtain ⟨b1, b2, b3, b4, b5, b6⟩ := b
  unfold sameB
  simp only [Bool.and_eq_true, decide_eq_true_eq, D.mk.injEq]
  constructor
  · rintro ⟨⟨⟨⟨⟨h1, h2⟩, h3⟩, h4⟩, h5⟩, h6⟩
    exact ⟨h1, h2, h3, h4, h5, h6⟩
  · rintro ⟨h1, h2, h3, h4, h5, h6⟩
    exact ⟨⟨⟨⟨⟨h1, h2⟩, h3⟩, h4⟩, h5⟩, h6⟩

/-! ### what is left behind a fall -/
def keepFor (ks : List Int) (id : Int) : Int := if ks = [] then 0 else (ks[id.toNat % ks.length]?).getD 0
def moreOf (ks : List Int) (n : Nod) : Nat := clampN (keepFor ks n.1) (n.2.1.size - n.2.2.toNat)
def leftN (ks : List Int) (n : Nod) : Nod := (n.1, n.2.1.extract 0 (n.2.2.toNat + moreOf ks n), ((n.2.2.toNat + moreOf ks n : Nat) : Int))
def stands (l : List Ent) (n : Nod) : Bool := l.any fun e => decide (e.2 = n.1)
def under (d : D) (l : List Ent) (ks : List Int) : D := { d with nodes := (d.nodes.filter (stands l)).map (leftN ks), ents := l, old := l, steps := [] }
theorem more_le (ks : List Int) (n : Nod) : moreOf ks n ≤ n.2.1.size - n.2.2.toNat := clampN_le _ _
theorem filter_left (ks : List Int) (l : List Ent) (ns : List Nod) : (ns.map (leftN ks)).filter (stands l) = (ns.filter (stands l)).map (leftN ks) := by
  rw [List.filter_map]
  rfl

/-! ### what could have fallen -/
def maxId (ns : List Nod) : Nat := ns.foldl (fun m n => max m n.1.toNat) 0
theorem max_fold : ∀ (ns : List Nod) (a : Nat), a ≤ ns.foldl (fun m n => max m n.1.toNat) a ∧ ∀ n ∈ ns, n.1.toNat ≤ ns.foldl (fun m n => max m n.1.toNat) a
  | [], a => ⟨Nat.le_refl _, fun n hn => by cases hn⟩
  | x :: r, a => by
    obtain ⟨h1, h2⟩ := max_fold r (max a x.1.toNat)
    rw [List.foldl_cons]
    refine ⟨by omega, fun n hn => ?_⟩
    rcases List.mem_cons.1 hn with rfl | hn
    · omega
    · exact h2 n hn
theorem max_over {ns : List Nod} {n : Nod} (h : n ∈ ns) : n.1.toNat ≤ maxId ns := (max_fold ns 0).2 n h
theorem max_snoc {ns : List Nod} {k : Nat} {n : Nod} (h : ns[k]? = some n) : maxId (ns.take (k + 1)) = max (maxId (ns.take k)) n.1.toNat := by
  unfold maxId
  rw [List.take_add_one, h, List.foldl_append]
  rfl
def sureR (o : Option Nod) : Int := match o with | none => 0 | some n => n.2.2
def sizeR (o : Option Nod) : Int := match o with | none => 0 | some n => (n.2.1.size : Int)
def nodeOf (ns : List Nod) (id : Int) : Option Nod := match nodeIx ns id with | none => none | some k => ns[k]?
/-- spec's keeps -/
def keepS (d x : D) (id : Int) : Int := if (nodeIx d.nodes id).isSome && (nodeIx x.nodes id).isSome then sizeR (nodeOf x.nodes id) - sureR (nodeOf d.nodes id) else 0
def keepsS (d x : D) : List Int := (List.range (maxId d.nodes + 1)).map fun (i : Nat) => keepS d x (i : Int)
/-- the program's keeps -/
def sizeL (ns : List Nod) (id : Int) : Int := ns.foldl (fun a n => if n.1 = id then (n.2.1.size : Int) else a) 0
def sureL (ns : List Nod) (id : Int) : Int := ns.foldl (fun a n => if n.1 = id then a - n.2.2 else a) 0
def keepsI (d x : D) : List Int := (List.range (maxId d.nodes + 1)).map fun (i : Nat) => d.nodes.foldl (fun a n => if n.1 = (i : Int) then a - n.2.2 else a) (sizeL x.nodes (i : Int))

theorem fold_other {α : Type} (f : Int → Nod → Int) (id : Int) (h : ∀ a n, n.1 ≠ id → f a n = a) : ∀ (ns : List Nod) (a : Int), (∀ n ∈ ns, n.1 ≠ id) → ns.foldl f a = a
  | [], a, _ => rfl
  | x :: r, a, hn => by
    rw [List.foldl_cons, h a x (hn x List.mem_cons_self)]
    exact fold_other (α := α) f id h r a fun n hm => hn n (List.mem_cons_of_mem _ hm)
theorem fold_one {next : Int} (f : Int → Nod → Int) (id : Int) (h : ∀ a n, n.1 ≠ id → f a n = a) : ∀ (ns : List Nod) (p : Int) (a : Int) (n : Nod), ik.idsFrom next p ns = true → n ∈ ns → n.1 = id → ns.foldl f a = f a n
  | [], p, a, n, _, hn, _ => by cases hn
  | x :: r, p, a, n, hi, hn, e => by
    unfold ik.idsFrom at hi
    rw [Bool.and_eq_true, decide_eq_true_eq] at hi
    rw [List.foldl_cons]
    rcases List.mem_cons.1 hn with rfl | hn
    · refine fold_other (α := Nat) f id h r _ fun m hm => ?_
      have := ids_over hi.2 m hm
      omega
    · have := ids_over hi.2 n hn
      rw [h a x (by omega)]
      exact fold_one f id h r x.1 a n hi.2 hn e
theorem nodeOf_one {next : Int} {ns : List Nod} {p : Int} {n : Nod} (hi : ik.idsFrom next p ns = true) (hn : n ∈ ns) : nodeOf ns n.1 = some n := by
  induction ns generalizing p with
  | nil => cases hn
  | cons x r ih =>
    unfold ik.idsFrom at hi
    rw [Bool.and_eq_true, decide_eq_true_eq] at hi
    unfold nodeOf nodeIx
    by_cases e : x.1 = n.1
    · rw [if_pos e]
      rcases List.mem_cons.1 hn with rfl | hn
      · rfl
      · have := ids_over hi.2 n hn
        omega
    · rw [if_neg e]
      rcases List.mem_cons.1 hn with rfl | hn
      · exact absurd rfl e
      · have := ih hi.2 hn
        unfold nodeOf at this
        cases hx : nodeIx r n.1 with
        | none => rw [hx] at this; cases this
        | some k => rw [hx] at this; simpa using this
theorem ix_some_of_mem {ns : List Nod} {n : Nod} (h : n ∈ ns) : (nodeIx ns n.1).isSome = true := by
  rw [ik.nodeIx_mem, List.any_eq_true]
  exact ⟨n, h, by simp⟩
theorem keepFor_at {m : Nat} {f : Nat → Int} {id : Int} (h : id.toNat ≤ m) : keepFor ((List.range (m + 1)).map f) id = f id.toNat := by
  unfold keepFor
  rw [if_neg (by simp [List.range_succ]), List.length_map, List.length_range, Nat.mod_eq_of_lt (by omega)]
  simp [show id.toNat < m + 1 by omega]
theorem keeps_same {next next' : Int} {d x : D} {n m : Nod} (hd : ik.idsFrom next 0 d.nodes = true) (hx : ik.idsFrom next' 0 x.nodes = true) (hn : n ∈ d.nodes) (hm : m ∈ x.nodes) (e : m.1 = n.1) : keepFor (keepsS d x) n.1 = keepFor (keepsI d x) n.1 := by
  have h0 : 0 < n.1 := ids_over hd n hn
  have hle := max_over hn
  have hi : ((n.1.toNat : Nat) : Int) = n.1 := by omega
  unfold keepsS keepsI
  rw [keepFor_at hle, keepFor_at hle, hi]
  unfold keepS
  rw [ix_some_of_mem hn, ← e, ix_some_of_mem hm, nodeOf_one hx hm, e, nodeOf_one hd hn]
  rw [fold_one (fun a n' => if n'.1 = n.1 then a - n'.2.2 else a) n.1 (fun a k hk => if_neg hk) d.nodes 0 _ n hd hn rfl, if_pos rfl]
  unfold sizeL
  rw [fold_one (fun a n' => if n'.1 = n.1 then (n'.2.1.size : Int) else a) n.1 (fun a k hk => if_neg hk) x.nodes 0 _ m hx hm e, if_pos e]
  rfl
theorem under_same {next next' : Int} {d x : D} {l : List Ent} (hd : ik.idsFrom next 0 d.nodes = true) (hx : ik.idsFrom next' 0 x.nodes = true) (hl : ∀ e ∈ l, (nodeIx x.nodes e.2).isSome = true) : under d l (keepsS d x) = under d l (keepsI d x) := by
  unfold under
  congr 1
  refine List.map_congr_left fun n hn => ?_
  obtain ⟨h1, h2⟩ := List.mem_filter.1 hn
  unfold stands at h2
  rw [List.any_eq_true] at h2
  obtain ⟨e, he, heq⟩ := h2
  have heq : e.2 = n.1 := by simpa using heq
  have hs := hl e he
  rw [ik.nodeIx_mem, List.any_eq_true] at hs
  obtain ⟨m, hm, hme⟩ := hs
  have hme : m.1 = e.2 := by simpa using hme
  have := keeps_same hd hx h1 hm (by omega)
  unfold leftN moreOf
  rw [this]
theorem same_under {d x : D} {l : List Ent} {ks : List Int} : sameB (under d l ks) x = (decide (l = x.old) && sameB (under d x.old ks) x) := by
  by_cases h : l = x.old
  · rw [h]; simp
  · rw [decide_eq_false h, Bool.false_and]
    rw [Bool.eq_false_iff]
    intro hs
    have e := sameB_is.1 hs
    exact h (by rw [← e]; rfl)
theorem any_same {d x : D} {ks : List Int} (f : Nat → List Ent) (r : List Nat) : (r.any fun k => sameB (under d (f k) ks) x) = ((r.any fun k => decide (f k = x.old)) && sameB (under d x.old ks) x) := by
  induction r with
  | nil => rfl
  | cons k r ih =>
    rw [List.any_cons, List.any_cons, ih, same_under]
    cases decide (f k = x.old) <;> cases sameB (under d x.old ks) x <;> simp

/-! ### right disks -/
def unsureOn (d : D) : Nat := if diskOk d = false then 0 else d.steps.length + unsT d.nodes
def calmB (d : D) : Bool := diskOk d && decide (d.steps.length = 0) && d.nodes.all calmN
theorem right_uns {d : D} (h : diskOk d = true) : ∀ n ∈ d.nodes, 0 ≤ n.2.2 ∧ n.2.2 ≤ (n.2.1.size : Int) := fun n hn => (right_nod h n hn).2
theorem calm_is (d : D) : calmB d = (diskOk d && decide (unsureOn d = 0)) := by
  unfold calmB unsureOn
  cases h : diskOk d with
  | false => rfl
  | true =>
    rw [if_neg (by simp), Bool.true_and, Bool.true_and, calm_uns (right_uns h)]
    by_cases h1 : d.steps.length = 0
    · rw [h1, Nat.zero_add]; simp
    · have h2 : ¬ d.steps.length + unsT d.nodes = 0 := by omega
      rw [decide_eq_false h1, decide_eq_false h2]; rfl
def listAt (d : D) (m : Int) : List Ent := (stepsDone d.old d.steps m).getD []
def fallen (d : D) (m : Int) (ks : List Int) : D := if diskOk d = false then d else under d (listAt d m) ks
def mid (d : D) (l : List Ent) (ks : List Int) : D := { d with nodes := d.nodes.map (leftN ks), ents := l, old := l, steps := [] }
theorem clean_mid (d : D) (l : List Ent) (ks : List Int) : clean (mid d l ks) = under d l ks := by
  have h : ∀ n, usedN (mid d l ks) n = stands l n := fun n => by
    unfold usedN stands
    show ((List.range 1).any fun k => ((histAt (mid d l ks) k).getD []).any fun e => decide (e.2 = n.1)) = _
    have e0 : histAt (mid d l ks) 0 = some l := rfl
    simp [List.range_succ, e0]
  unfold clean under
  congr 1
  show (d.nodes.map (leftN ks)).filter (usedN (mid d l ks)) = _
  rw [← filter_left]
  congr 1
  funext n
  exact h n
theorem right_list {d : D} (h : diskOk d = true) (m : Int) : ∃ l, stepsDone d.old d.steps m = some l ∧ entsOk d l = true := right_hist h (clampN_le m d.steps.length)
theorem list_at {d : D} {k : Nat} {l : List Ent} (hk : k ≤ d.steps.length) (h : histAt d k = some l) : listAt d (k : Int) = l := by
  unfold listAt stepsDone
  rw [clampN_nat _ _ hk]
  unfold histAt at h
  rw [h]
  rfl
def couldB (d x : D) : Bool := diskOk d && diskOk x && decide (maxId d.nodes ≤ 100000) && (List.range (d.steps.length + 1)).any fun k => sameB (fallen d (k : Int) (keepsS d x)) x
theorem could_is {d x : D} (hd : diskOk d = true) (hx : diskOk x = true) : ((List.range (d.steps.length + 1)).any fun k => sameB (fallen d (k : Int) (keepsS d x)) x) = (((List.range (d.steps.length + 1)).any fun k => decide (listAt d (k : Int) = x.old)) && sameB (under d x.old (keepsI d x)) x) := by
  have h1 := (right_parts hd).2.1
  have h2 := (right_parts hx).2.1
  rw [ik.ids_none] at h1 h2
  rw [← under_same h1 h2 (ents_nodes (right_old hx)), ← any_same]
  unfold fallen
  simp [hd]

end Go.Proofs.YtkibddcjogfklaaGreatDoor.fall
