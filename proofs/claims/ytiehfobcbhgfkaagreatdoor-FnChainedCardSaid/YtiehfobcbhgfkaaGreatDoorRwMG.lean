/-
  Plain facts on rows of files: the text of a base, the chain, the row, what is loose, bases put in order.
-/
import Derived.Test.YtiehfobcbhgfkaaGreatDoorDkX
import Derived.Test.YtiehfobcbhgfkaaGreatDoorMathX
import Derived.Test.YtiehfobcbhgfkaaGreatDoorScC
import Derived.Test.YtiehfobcbhgfkaaGreatDoorDqY
namespace Go.Proofs.YtiehfobcbhgfkaaGreatDoor.row
set_option maxRecDepth 20000
open Go.RowKit
open kit sum num burst hd fr recs sc disk nam

theorem tot_mem {ts : List ByteArray} {t : ByteArray} (h : t ∈ ts) : t.size ≤ strs.tot ts := by
  induction ts with
  | nil => cases h
  | cons x xs ih =>
    show t.size ≤ strs.tot (x :: xs)
    have e : strs.tot (x :: xs) = x.size + strs.tot xs := by simp [strs.tot]
    rcases List.mem_cons.1 h with rfl | h
    · omega
    · have := ih h
      omega
/-- the text of the file of a base -/
def tAt (d : D) (base : Int) : ByteArray := textR (nodeAt d (segI base))
theorem text_le {d : D} (h : bulk d ≤ 1048576) (s : ByteArray) : (textR (nodeAt d s)).size ≤ 1048576 := by
  unfold nodeAt
  split
  · exact Nat.zero_le _
  · split
    · exact Nat.zero_le _
    · next k _ =>
      cases e : d.nodes[k]? with
      | none => exact Nat.zero_le _
      | some n =>
        have hm : n.2.1 ∈ d.nodes.map (·.2.1) := List.mem_map.2 ⟨n, List.mem_of_getElem? e, rfl⟩
        have := tot_mem hm
        unfold bulk bulkN at h
        show n.2.1.size ≤ _
        omega
theorem tAt_le {d : D} (h : bulk d ≤ 1048576) (base : Int) : (tAt d base).size ≤ 1048576 := text_le h _
/-- whether the file of a base goes on with it -/
def goOnB (d : D) (base link : Int) : Bool := !(decide ((sc.recs (tAt d base)).length = 0)) && goesB (tAt d base) base link
def chGo (d : D) : Nat → Int → Int → List Int
  | 0, _, _ => []
  | f + 1, base, link => if goOnB d base link = true then base :: chGo d f (base + ((sc.recs (tAt d base)).length : Int)) (linkN (tAt d base) : Int) else []
theorem chGo_no {d : D} {f : Nat} {base link : Int} (h : goOnB d base link = false) : chGo d f base link = [] := by
  cases f with
  | zero => rfl
  | succ f => exact if_neg (by rw [h]; decide)
theorem chGo_yes {d : D} {f : Nat} {base link : Int} (h : goOnB d base link = true) : chGo d (f + 1) base link = base :: chGo d f (base + ((sc.recs (tAt d base)).length : Int)) (linkN (tAt d base) : Int) := if_pos h
def chain (d : D) : List Int := chGo d 16 0 0
theorem chGo_length (d : D) : ∀ (f : Nat) (base link : Int), (chGo d f base link).length ≤ f := by
  intro f
  induction f with
  | zero => intro _ _; exact Nat.le_refl _
  | succ f ih =>
    intro base link
    cases h : goOnB d base link with
    | false => rw [chGo_no h]; exact Nat.zero_le _
    | true =>
      rw [chGo_yes h, List.length_cons]
      have := ih (base + ((sc.recs (tAt d base)).length : Int)) (linkN (tAt d base) : Int)
      omega
theorem chain_length (d : D) : (chain d).length ≤ 16 := chGo_length d 16 0 0
theorem recs_few {d : D} (h : bulk d ≤ 1048576) (base : Int) : (sc.recs (tAt d base)).length ≤ 1048576 := by
  have h1 := recs_le (tAt d base)
  have h2 := tAt_le h base
  omega
theorem chGo_in {d : D} (hb : bulk d ≤ 1048576) : ∀ (f : Nat) (base link : Int), ∀ x ∈ chGo d f base link, base ≤ x ∧ x ≤ base + 1048576 * (f : Int) := by
  intro f
  induction f with
  | zero => intro _ _ x hx; cases hx
  | succ f ih =>
    intro base link x hx
    cases h : goOnB d base link with
    | false => rw [chGo_no h] at hx; cases hx
    | true =>
      rw [chGo_yes h] at hx
      have hr := recs_few hb base
      rcases List.mem_cons.1 hx with rfl | hx
      · omega
      · have := ih _ _ x hx
        omega
theorem chain_in {d : D} (hb : bulk d ≤ 1048576) : ∀ x ∈ chain d, 0 ≤ x ∧ x ≤ 16777216 := fun x hx => by
  have := chGo_in hb 16 0 0 x hx
  omega
/-- so far -/
structure Far (d : D) (xs : List Int) (base link : Int) : Prop where
  all : chain d = xs ++ chGo d (16 - xs.length) base link
  len : xs.length ≤ 16
  lo : 0 ≤ base
  hi : base ≤ 1048576 * (xs.length : Int)
  l0 : 0 ≤ link
  l1 : link ≤ 4294967296
theorem Far.start (d : D) : Far d [] 0 0 := ⟨rfl, by simp, by omega, by simp, by omega, by omega⟩
theorem linkN_lt (b : ByteArray) : linkN b ≤ 4294967296 := by
  unfold linkN
  have hl := hdOf_link b
  rcases List.eq_nil_or_concat (sc.recs b) with e | ⟨xs, x, e⟩
  · rw [e]; show (hdOf b).l.toNat ≤ _; omega
  · rw [e, List.concat_eq_append, lkL_append]
    exact Nat.le_of_lt (lkM_lt _ _)
theorem Far.next {d : D} {xs : List Int} {base link : Int} (h : Far d xs base link) (hb : bulk d ≤ 1048576) (hl : xs.length < 16) (hg : goOnB d base link = true) : Far d (xs ++ [base]) (base + ((sc.recs (tAt d base)).length : Int)) (linkN (tAt d base) : Int) := by
  have hr := recs_few hb base
  have hk := linkN_lt (tAt d base)
  have e : (xs ++ [base]).length = xs.length + 1 := by simp
  have h3 := h.lo
  have h4 := h.hi
  refine ⟨?_, by omega, by omega, by rw [e]; omega, by omega, by omega⟩
  rw [h.all, show 16 - xs.length = (16 - (xs ++ [base]).length) + 1 by rw [e]; omega, chGo_yes hg, List.append_assoc]
  rfl
theorem Far.stop {d : D} {xs : List Int} {base link : Int} (h : Far d xs base link) (hg : goOnB d base link = false) : chain d = xs := by rw [h.all, chGo_no hg, List.append_nil]
theorem Far.full {d : D} {xs : List Int} {base link : Int} (h : Far d xs base link) (hl : ¬ xs.length < 16) : chain d = xs := by
  rw [h.all, show 16 - xs.length = 0 by have := h.len; omega]
  exact List.append_nil _

/-! ### the row, the texts, the bases behind -/
def rowOf (d : D) : List ByteArray := (chain d).flatMap fun b => sc.recs (tAt d b)
def texts (d : D) : List ByteArray := (chain d).map (tAt d)
def behind (d : D) (base : Int) : List Int := (chain d).filter fun b => decide (base < b)
def rowLink (d : D) : Nat := lkL 0 (rowOf d)
theorem flat_take {α β : Type} (f : α → List β) {l : List α} {k : Nat} {x : α} (h : l[k]? = some x) : (l.take (k + 1)).flatMap f = (l.take k).flatMap f ++ f x := by
  rw [List.take_add_one, h, Option.toList_some, List.flatMap_append]
  simp
theorem map_take1 {α β : Type} (f : α → β) {l : List α} {k : Nat} {x : α} (h : l[k]? = some x) : (l.take (k + 1)).map f = (l.take k).map f ++ [f x] := by
  rw [List.take_add_one, h, Option.toList_some, List.map_append]
  rfl
theorem filter_take1 {α : Type} (p : α → Bool) {l : List α} {k : Nat} {x : α} (h : l[k]? = some x) : (l.take (k + 1)).filter p = (l.take k).filter p ++ (if p x = true then [x] else []) := by
  rw [List.take_add_one, h, Option.toList_some, List.filter_append]
  cases e : p x <;> simp [e]
theorem flat_le {d : D} (hb : bulk d ≤ 1048576) : ∀ l : List Int, (l.flatMap fun b => sc.recs (tAt d b)).length ≤ 1048576 * l.length := by
  intro l
  induction l with
  | nil => exact Nat.le_refl _
  | cons x xs ih =>
    rw [List.flatMap_cons, List.length_append, List.length_cons]
    have := recs_few hb x
    omega
theorem rowOf_le {d : D} (hb : bulk d ≤ 1048576) : (rowOf d).length ≤ 16777216 := by
  have h1 := flat_le hb (chain d)
  have h2 := chain_length d
  unfold rowOf
  omega
theorem rowOf_small (d : D) : ∀ r ∈ rowOf d, r.size ≤ 60 := fun r hr => by
  obtain ⟨b, _, hb⟩ := List.mem_flatMap.1 hr
  exact recs_small _ r hb

/-! ### names -/
def hasI (xs : List Int) (n : Int) : Bool := xs.any fun x => x == n
def looseB (l : List Int) (s : ByteArray) : Bool := (rn s).1 == 2 || ((rn s).1 == 1 && !(hasI l (rn s).2))
def loose (d : D) : List ByteArray := (d.ents.filter fun e => looseB (chain d) e.1).map (·.1)
theorem loose_take {l : List Int} {es : List Ent} {k : Nat} {e : Ent} (h : es[k]? = some e) : ((es.take (k + 1)).filter fun e => looseB l e.1).map (·.1) = ((es.take k).filter fun e => looseB l e.1).map (·.1) ++ (if looseB l e.1 = true then [e.1] else []) := by
  rw [filter_take1 _ h, List.map_append]
  split <;> rfl
/-- where a base is put: behind all that are not above it, as they stand from the end on -/
def atB (out : List Int) (b : Int) : Nat → Nat
  | 0 => 0
  | k + 1 => match out[k]? with | some x => if b < x then atB out b k else k + 1 | none => k + 1
theorem atB_up {out : List Int} {b x : Int} {k : Nat} (h : out[k]? = some x) (hx : b < x) : atB out b (k + 1) = atB out b k := by
  show (match out[k]? with | some x => _ | none => _) = _
  rw [h]
  exact if_pos hx
theorem atB_here {out : List Int} {b x : Int} {k : Nat} (h : out[k]? = some x) (hx : ¬ b < x) : atB out b (k + 1) = k + 1 := by
  show (match out[k]? with | some x => _ | none => _) = _
  rw [h]
  exact if_neg hx
theorem atB_le (out : List Int) (b : Int) : ∀ k, atB out b k ≤ k := by
  intro k
  induction k with
  | zero => exact Nat.le_refl _
  | succ k ih =>
    show (match out[k]? with | some x => if b < x then atB out b k else k + 1 | none => k + 1) ≤ k + 1
    split
    · split
      · omega
      · exact Nat.le_refl _
    · exact Nat.le_refl _
def insB (out : List Int) (b : Int) : List Int := out.take (atB out b out.length) ++ [b] ++ out.drop (atB out b out.length)
theorem insB_length (out : List Int) (b : Int) : (insB out b).length = out.length + 1 := by
  unfold insB
  have := atB_le out b out.length
  simp
  omega
def bases (es : List Ent) : List Int := es.foldl (fun out e => if (rn e.1).1 = 1 then insB out (rn e.1).2 else out) []
theorem bases_take {es : List Ent} {k : Nat} {e : Ent} (h : es[k]? = some e) : bases (es.take (k + 1)) = if (rn e.1).1 = 1 then insB (bases (es.take k)) (rn e.1).2 else bases (es.take k) := by
  unfold bases
  rw [List.take_add_one, h, Option.toList_some, List.foldl_append]
  rfl
theorem bases_le (es : List Ent) : (bases es).length ≤ es.length := by
  unfold bases
  suffices h : ∀ (l : List Ent) (o : List Int), (l.foldl (fun out e => if (rn e.1).1 = 1 then insB out (rn e.1).2 else out) o).length ≤ o.length + l.length by
    have := h es []
    simpa using this
  intro l
  induction l with
  | nil => intro o; exact Nat.le_refl _
  | cons x xs ih =>
    intro o
    rw [List.foldl_cons, List.length_cons]
    refine Nat.le_trans (ih _) ?_
    split
    · rw [insB_length]; omega
    · omega

end Go.Proofs.YtiehfobcbhgfkaaGreatDoor.row

namespace Go.Proofs.YtiehfobcbhgfkaaGreatDoor.row
set_option maxRecDepth 20000
open Go.RowKit
open kit sum num burst hd fr recs sc disk nam

theorem atB_above (out : List Int) (b : Int) : ∀ k, k ≤ out.length → ∀ j x, atB out b k ≤ j → j < k → out[j]? = some x → b < x := by
  intro k
  induction k with
  | zero => intro _ j x _ h _; omega
  | succ k ih =>
    intro hk j x h1 h2 h3
    have e : out[k]? = some out[k] := List.getElem?_eq_getElem (by omega)
    by_cases hx : b < out[k]
    · rw [atB_up e hx] at h1
      by_cases hj : j = k
      · subst hj
        rw [e] at h3
        cases h3
        exact hx
      · exact ih (by omega) j x h1 (by omega) h3
    · rw [atB_here e hx] at h1
      omega
theorem atB_last (out : List Int) (b : Int) : ∀ k, k ≤ out.length → ∀ i, i < atB out b k → ∃ x, out[atB out b k - 1]? = some x ∧ x ≤ b := by
  intro k
  induction k with
  | zero => intro _ i h; exact absurd h (Nat.not_lt_zero _)
  | succ k ih =>
    intro hk i h
    have e : out[k]? = some out[k] := List.getElem?_eq_getElem (by omega)
    by_cases hx : b < out[k]
    · rw [atB_up e hx] at h ⊢
      exact ih (by omega) i h
    · rw [atB_here e hx]
      exact ⟨out[k], e, by omega⟩
theorem insB_sorted {out : List Int} {b : Int} (h : out.Pairwise (· ≤ ·)) : (insB out b).Pairwise (· ≤ ·) := by
  have hhi := atB_above out b out.length (Nat.le_refl _)
  have hlo := atB_last out b out.length (Nat.le_refl _)
  unfold insB
  generalize atB out b out.length = p at hhi hlo
  have ht : ∀ x ∈ out.take p, x ≤ b := by
    intro x hx
    obtain ⟨i, hi, rfl⟩ := List.mem_take_iff_getElem.1 hx
    obtain ⟨y, hy, hyb⟩ := hlo i (by omega)
    obtain ⟨hp, rfl⟩ := List.getElem?_eq_some_iff.1 hy
    by_cases e : i = p - 1
    · subst e
      exact hyb
    · exact Int.le_trans (List.pairwise_iff_getElem.1 h i (p - 1) (by omega) hp (by omega)) hyb
  have hd : ∀ x ∈ out.drop p, b < x := by
    intro x hx
    obtain ⟨i, hi, rfl⟩ := List.mem_drop_iff_getElem.1 hx
    exact hhi (p + i) _ (by omega) (by omega) (List.getElem?_eq_getElem (by omega))
  rw [List.pairwise_append, List.pairwise_append]
  refine ⟨⟨h.sublist (List.take_sublist _ _), List.pairwise_singleton _ _, ?_⟩, h.sublist (List.drop_sublist _ _), ?_⟩
  · intro x hx y hy
    rw [List.mem_singleton] at hy
    subst hy
    exact ht x hx
  · intro x hx y hy
    have h2 := hd y hy
    rcases List.mem_append.1 hx with hx | hx
    · have := ht x hx
      omega
    · rw [List.mem_singleton] at hx
      omega
theorem insB_perm (out : List Int) (b : Int) : (insB out b).Perm (out ++ [b]) := by
  unfold insB
  generalize atB out b out.length = p
  have h : (out.take p ++ ([b] ++ out.drop p)).Perm (out.take p ++ (out.drop p ++ [b])) := List.Perm.append_left _ List.perm_append_comm
  have e1 : out.take p ++ (out.drop p ++ [b]) = out ++ [b] := by rw [← List.append_assoc, List.take_append_drop]
  rw [e1] at h
  rw [List.append_assoc]
  exact h
/-- the bases in the order of the names -/
def basesOf (es : List Ent) : List Int := es.flatMap fun e => if (rn e.1).1 = 1 then [(rn e.1).2] else []
theorem basesOf_take {es : List Ent} {k : Nat} {e : Ent} (h : es[k]? = some e) : basesOf (es.take (k + 1)) = basesOf (es.take k) ++ (if (rn e.1).1 = 1 then [(rn e.1).2] else []) := flat_take _ h
theorem bases_is (es : List Ent) : (bases es).Pairwise (· ≤ ·) ∧ (bases es).Perm (basesOf es) := by
  unfold bases basesOf
  suffices h : ∀ (l : List Ent) (o : List Int), o.Pairwise (· ≤ ·) → (l.foldl (fun out e => if (rn e.1).1 = 1 then insB out (rn e.1).2 else out) o).Pairwise (· ≤ ·) ∧ (l.foldl (fun out e => if (rn e.1).1 = 1 then insB out (rn e.1).2 else out) o).Perm (o ++ l.flatMap fun e => if (rn e.1).1 = 1 then [(rn e.1).2] else []) by
    simpa using h es [] List.Pairwise.nil
  intro l
  induction l with
  | nil => intro o h; exact ⟨h, by simp⟩
  | cons x xs ih =>
    intro o h
    rw [List.foldl_cons, List.flatMap_cons]
    by_cases hx : (rn x.1).1 = 1
    · rw [if_pos hx, if_pos hx]
      obtain ⟨h1, h2⟩ := ih (insB o (rn x.1).2) (insB_sorted h)
      refine ⟨h1, h2.trans ?_⟩
      rw [← List.append_assoc]
      exact List.Perm.append_right _ (insB_perm o _)
    · rw [if_neg hx, if_neg hx, List.nil_append]
      exact ih o h
theorem sort_bases (es : List Ent) : (basesOf es).mergeSort (fun x y => decide (x ≤ y)) = bases es := by
  obtain ⟨h1, h2⟩ := bases_is es
  refine List.Perm.eq_of_pairwise (le := (· ≤ ·)) (fun a b _ _ h3 h4 => Int.le_antisymm h3 h4) ?_ h1 ((List.mergeSort_perm _ _).trans h2.symm)
  have := List.pairwise_mergeSort (le := fun (x y : Int) => decide (x ≤ y)) (by intro a b c; simp; omega) (by intro a b; simp; omega) (basesOf es)
  simpa using this
theorem basesOf_le (es : List Ent) : (basesOf es).length ≤ es.length := by
  rw [← (bases_is es).2.length_eq]
  exact bases_le es
/-- what is left of a row behind a base -/
theorem behind_is (l : List Int) (base : Int) : (l.filter fun x => !(decide (x ≤ base))) = l.filter fun b => decide (base < b) := by
  congr 1
  funext x
  by_cases h : base < x
  · rw [decide_eq_true h, decide_eq_false (by omega)]; rfl
  · rw [decide_eq_false h, decide_eq_true (by omega)]; rfl

end Go.Proofs.YtiehfobcbhgfkaaGreatDoor.row

namespace Go.Proofs.YtiehfobcbhgfkaaGreatDoor.row
set_option maxRecDepth 20000
open Go.RowKit
open kit sum num burst hd fr recs sc disk nam

/-- the records of the files of these bases -/
def flat (d : D) (l : List Int) : List ByteArray := l.flatMap fun b => sc.recs (tAt d b)
theorem flat_all (d : D) : flat d (chain d) = rowOf d := rfl
theorem flat_next {d : D} {l : List Int} {k : Nat} {c : Int} (h : l[k]? = some c) : flat d (l.take (k + 1)) = flat d (l.take k) ++ sc.recs (tAt d c) := flat_take _ h
theorem goes_link {b : ByteArray} {base link : Int} (h : goesB b base link = true) : (rdH b).isSome = true ∧ (hdOf b).b = base ∧ (hdOf b).l = link := by
  unfold goesB at h
  simp only [Bool.and_eq_true, beq_iff_eq] at h
  exact ⟨h.1.1, h.1.2, h.2⟩
theorem chGo_at {d : D} : ∀ (f : Nat) (all : List ByteArray) (k : Nat) (c : Int), (chGo d f (all.length : Int) (lkL 0 all : Int))[k]? = some c →
    c = ((all ++ flat d ((chGo d f (all.length : Int) (lkL 0 all : Int)).take k)).length : Int) ∧ goesB (tAt d c) c (lkL 0 (all ++ flat d ((chGo d f (all.length : Int) (lkL 0 all : Int)).take k)) : Int) = true := by
  intro f
  induction f with
  | zero => intro all k c h; cases h
  | succ f ih =>
    intro all k c h
    cases hg : goOnB d (all.length : Int) (lkL 0 all : Int) with
    | false => rw [chGo_no hg] at h; cases h
    | true =>
      rw [chGo_yes hg] at h ⊢
      have hg2 : goesB (tAt d (all.length : Int)) (all.length : Int) (lkL 0 all : Int) = true := by
        unfold goOnB at hg
        exact (Bool.and_eq_true _ _ ▸ hg).2
      cases k with
      | zero =>
        obtain rfl : (all.length : Int) = c := Option.some.inj h
        show (all.length : Int) = ((all ++ []).length : Int) ∧ goesB _ _ (lkL 0 (all ++ []) : Int) = true
        rw [List.append_nil]
        exact ⟨rfl, hg2⟩
      | succ k =>
        have e1 : (all.length : Int) + ((sc.recs (tAt d (all.length : Int))).length : Int) = ((all ++ sc.recs (tAt d (all.length : Int))).length : Int) := by rw [List.length_append]; omega
        have e2 : (linkN (tAt d (all.length : Int)) : Int) = (lkL 0 (all ++ sc.recs (tAt d (all.length : Int))) : Int) := by
          unfold linkN
          rw [(goes_link hg2).2.2, Int.toNat_natCast, lkL_append]
        rw [List.getElem?_cons_succ, e1, e2] at h
        have := ih _ k c h
        rw [List.take_succ_cons, e1, e2]
        show c = ((all ++ (sc.recs (tAt d (all.length : Int)) ++ flat d _)).length : Int) ∧ goesB _ _ (lkL 0 (all ++ (sc.recs (tAt d (all.length : Int)) ++ flat d _)) : Int) = true
        rw [← List.append_assoc]
        exact this
/-- each file of the chain begins where those ahead end, and goes on from their link -/
theorem chain_at {d : D} {k : Nat} {c : Int} (h : (chain d)[k]? = some c) : c = ((flat d ((chain d).take k)).length : Int) ∧ goesB (tAt d c) c (lkL 0 (flat d ((chain d).take k)) : Int) = true := chGo_at 16 [] k c h

/-! ### a disk of one sealed file -/
def name0 : ByteArray := { data := #[115, 48, 48, 48, 48, 48, 48, 48, 48, 46, 115, 101, 103] }
def oneR : List ByteArray := [{ data := #[97] }]
def oneH : Hd := ⟨1, 1, 0, 0⟩
def oneT : ByteArray := sl.slT oneH oneR
theorem one_ok : sl.okS oneH oneR := by decide
theorem one_scan : rdH oneT = some oneH ∧ sc.recs oneT = oneR := ⟨(sl.scan_self one_ok).1, (sl.scan_self one_ok).2.1⟩
theorem one_le : oneT.size ≤ 400 := by
  unfold oneT
  rw [sl.slT_yes one_ok, ByteArray.size_append]
  have h1 := sl.tx_le72 oneH oneR oneR.length
  have h2 := pl.ftT_le oneH (sl.offL oneH oneR) ((tx oneH oneR oneR.length).size : Int)
  rw [sl.offL_length] at h2
  have : oneR.length = 1 := rfl
  omega
theorem one_goes : goesB oneT 0 0 = true := by
  unfold goesB
  rw [one_scan.1, hdOf_some one_scan.1]
  decide
def d500 : D := ⟨[], [], [], [], 500, 1⟩
theorem sm_500 : deed.Sm 0 d500 :=
  ⟨⟨(fun n hn => by cases hn), (fun n hn => by cases hn), (fun n hn => by cases hn), (fun n hn => by cases hn), (show wfI 500 from ⟨by decide, by decide⟩), (show wfI 1 from ⟨by decide, by decide⟩), Nat.zero_le _, Nat.zero_le _, Nat.zero_le _, Nat.zero_le _⟩, Nat.le_refl _, Nat.le_refl _, Nat.le_refl _, Nat.le_refl _⟩
def dOne : D := (deed.appendFile (deed.createFile d500 name0).1 name0 oneT).1
theorem sm_one : deed.Sm 800 dOne := deed.sm_append (deed.sm_create sm_500 (by omega)) (by omega) one_le
def dMid : D := ⟨[(1, { data := #[] }, 0)], [(name0, 1)], [], [deed.plusStep name0 1], 500, 2⟩
theorem right_500 : deed.diskOk d500 = true := by decide +kernel
theorem right_mid : deed.diskOk dMid = true := by decide +kernel
theorem used_mid : deed.usedN dMid (1, { data := #[] }, 0) = true := by decide +kernel
theorem create_500 : deed.createFile d500 name0 = (dMid, 0) := by
  have hn : nam.nok name0 = true := by decide +kernel
  have hs : hasE d500.ents name0 = false := rfl
  unfold deed.createFile
  rw [if_neg (by rw [right_500]; simp), if_neg (by rw [hn]; simp), if_neg (by rw [hs]; simp), if_neg (by simp [d500])]
  show (deed.clean dMid, (0 : Int)) = (dMid, 0)
  unfold deed.clean
  show (({ dMid with nodes := [((1, { data := #[] }, 0) : Nod)].filter (deed.usedN dMid) } : D), (0 : Int)) = (dMid, 0)
  rw [List.filter_cons, if_pos used_mid]
  rfl
theorem dOne_is : deed.appendFile dMid name0 oneT = ({ dMid with nodes := [(1, { data := #[] } ++ oneT, 0)] }, 0) := by
  have h0 : hasE dMid.ents name0 = true := by simp [hasE, entAt, dMid]
  have h1 : usedOn dMid = 0 := rfl
  have h2 : dMid.room = 500 := rfl
  have h3 := one_le
  have hk : deed.nodeK dMid name0 = 0 := by simp [deed.nodeK, dMid, idE, entAt, nodeIx]
  have hn : deed.nodeN dMid name0 = (1, { data := #[] }, 0) := by unfold deed.nodeN; rw [hk]; rfl
  unfold deed.appendFile
  rw [if_neg (by rw [right_mid, h0]; simp), if_neg (by rw [h1, h2]; omega), hk, hn]
  rfl
theorem one_facts : dOne = { dMid with nodes := [(1, { data := #[] } ++ oneT, 0)] } := by
  unfold dOne
  rw [create_500]
  show (deed.appendFile dMid name0 oneT).1 = _
  rw [dOne_is]
theorem one_app : deed.appendFile dMid name0 oneT = (dOne, 0) := by rw [dOne_is, one_facts]
theorem tAt_zero : tAt dOne 0 = oneT := by
  have h : segI 0 = name0 := by decide +kernel
  unfold tAt nodeAt
  rw [h, one_facts]
  simp only [dMid, entAt, nodeIx, if_true]
  exact ByteArray.empty_append
theorem tAt_one : tAt dOne 1 = { data := #[] } := by
  have h : ¬ name0 = segI 1 := by decide +kernel
  unfold tAt nodeAt
  rw [one_facts]
  simp only [dMid, entAt, if_neg h]
  rfl
theorem chain_one : chain dOne = [0] := by
  have g0 : goOnB dOne 0 0 = true := by
    unfold goOnB
    rw [tAt_zero, one_scan.2, one_goes]
    rfl
  have g1 : ∀ l, goOnB dOne 1 l = false := fun l => by
    unfold goOnB
    rw [tAt_one]
    rfl
  unfold chain
  rw [chGo_yes g0, tAt_zero, one_scan.2]
  show (0 : Int) :: chGo dOne 15 1 _ = [0]
  rw [chGo_no (g1 _)]
theorem texts_one : texts dOne = [oneT] := by unfold texts; rw [chain_one]; show [tAt dOne 0] = _; rw [tAt_zero]
theorem behind_one : behind dOne (-1) = [0] := by unfold behind; rw [chain_one]; rfl

end Go.Proofs.YtiehfobcbhgfkaaGreatDoor.row
