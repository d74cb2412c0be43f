/-
  A map of names and a map of numbers, and the entries and nodes that they stand for: plain facts.
-/
import Derived.Test.YtkibddcjogfklaaGreatDoorIkMath
import Derived.Maps.RangeWalk
import Derived.Maps.OwnSet
import Derived.Maps.Ext
import Derived.Sort.KeysCollected
import Derived.WalkKit
namespace Go.Proofs.YtkibddcjogfklaaGreatDoor.ik
open Go Go.Maps
open kit strs recs disk deed

abbrev keyL (s : ByteArray) : Lit := .string s.data.toList
theorem keyL_ne {s t : ByteArray} (h : ¬ s = t) : keyL s ≠ keyL t := fun e => h (key_inj (by simpa [keyL] using e))
/-- the map reads as the entries -/
def Rep (D : DataW Unit) (l : List Ent) : Prop := IsMap D ∧ ∀ s z, D.atKey (keyL s) z = match entAt l s with | none => z | some i => .lit (.int .i64 i)
theorem Rep.at {D : DataW Unit} {l : List Ent} (h : Rep D l) {s : ByteArray} {i : Int} (e : entAt l s = some i) (z : DataW Unit) : D.atKey (keyL s) z = .lit (.int .i64 i) := by
  rw [h.2, e]
theorem Rep.no {D : DataW Unit} {l : List Ent} (h : Rep D l) {s : ByteArray} (e : entAt l s = none) (z : DataW Unit) : D.atKey (keyL s) z = z := by
  rw [h.2, e]
theorem Rep.has {D : DataW Unit} {l : List Ent} (h : Rep D l) (s : ByteArray) : Maps.has D (keyL s) = hasE l s := by
  unfold hasE
  cases e : entAt l s with
  | none => exact has_false_of_atKey (h.no e)
  | some i => exact has_true_of_atKey (h.at e)
theorem Rep.empty : Rep (.map []) [] := ⟨isMap_empty, fun _ _ => rfl⟩
theorem Rep.put {D : DataW Unit} {l : List Ent} (h : Rep D l) (e : Ent) : Rep (D.put (keyL e.1) (.lit (.int .i64 e.2))) (insE e l) := by
  refine ⟨h.1.put _ _, fun s z => ?_⟩
  rw [ins_at]
  by_cases hs : e.1 = s
  · rw [if_pos hs, ← hs, atKey_put_same h.1 (show WideAt.IsKeyLit (keyL e.1) from trivial)]
  · rw [if_neg hs, atKey_put_other (keyL_ne fun e2 => hs e2.symm)]
    exact h.2 s z
theorem Rep.del {D : DataW Unit} {l : List Ent} (h : Rep D l) (t : ByteArray) : Rep (D.del (keyL t)) (dropE l t) := by
  refine ⟨h.1.del _, fun s z => ?_⟩
  rw [drop_at]
  by_cases hs : t = s
  · rw [if_pos hs, ← hs, atKey_del_same]
  · rw [if_neg hs, atKey_del_other (keyL_ne fun e2 => hs e2.symm)]
    exact h.2 s z
def keysE (l : List Ent) : List (List UInt8) := l.map fun e => e.1.data.toList
theorem keys_nodup {l : List Ent} (h : Srt l) : (keysE l).Nodup := by
  refine List.pairwise_map.2 (h.imp fun {x y} hxy e => less_ne hxy (key_inj e))
theorem of_list (x : List UInt8) : x = (⟨x.toArray⟩ : ByteArray).data.toList := rfl
theorem mem_keys {l : List Ent} (x : List UInt8) : x ∈ keysE l ↔ hasE l ⟨x.toArray⟩ = true := by
  unfold keysE hasE
  rw [List.mem_map]
  constructor
  · rintro ⟨e, he, rfl⟩
    rw [show (⟨e.1.data.toList.toArray⟩ : ByteArray) = e.1 from rfl]
    induction l with
    | nil => cases he
    | cons y r ih =>
      unfold entAt
      by_cases hy : y.1 = e.1
      · rw [if_pos hy]; rfl
      · rw [if_neg hy]
        rcases List.mem_cons.1 he with rfl | he
        · exact absurd rfl hy
        · exact ih he
  · intro h
    cases e : entAt l ⟨x.toArray⟩ with
    | none => rw [e] at h; cases h
    | some i => exact ⟨_, at_mem e, rfl⟩
theorem Rep.perm {P : Program} {k : TypeId} {R : Value → Option (DataW Unit × List MemPlace)} {w : World} {b n : Nat} {D : DataW Unit} {l : List Ent}
    (h : Rep D l) (hs : Srt l) (hown : w.ownsMap P k R b n D) (K : Keyed P k) (hk : P.underlying k = some .string) : (keysE l).Perm (strKeys D) := by
  obtain ⟨es, hD, hpw, _⟩ := hown.entries K
  obtain ⟨es', hD', hko⟩ := hown.keysOf
  obtain rfl : es = es' := by rw [hD] at hD'; simpa using hD'
  subst hD
  exact perm_strKeys hpw (fun p hp => by obtain ⟨v, hv⟩ := hko p hp; obtain ⟨x, _, hx, _⟩ := Maps.keyOf_str hk hv; exact ⟨x, hx⟩) (keys_nodup hs) (fun x => by
    rw [mem_keys, ← h.has])
theorem Rep.size {P : Program} {k : TypeId} {R : Value → Option (DataW Unit × List MemPlace)} {w : World} {b n : Nat} {D : DataW Unit} {l : List Ent}
    (h : Rep D l) (hs : Srt l) (hown : w.ownsMap P k R b n D) (K : Keyed P k) (hk : P.underlying k = some .string) : Maps.size D = l.length := by
  have hp := (h.perm hs hown K hk).length_eq
  obtain ⟨es, rfl⟩ := hown.isMap
  unfold keysE strKeys at hp
  rw [List.length_map, List.length_map] at hp
  exact hp.symm
theorem sorted_keys {l : List Ent} (h : Srt l) {ss : List (List UInt8)} (hp : ss.Perm (keysE l)) : ss.mergeSort leB = keysE l := by
  rw [mergeSort_of_perm hp]
  refine List.mergeSort_of_pairwise ?_
  refine List.pairwise_map.2 (h.imp fun {x y} hxy => ?_)
  rw [less_is, decide_eq_true_eq] at hxy
  simp only [leB, decide_eq_true_eq]
  exact List.le_of_lt hxy

/-- the map stands for the numbers of the nodes -/
def RepN (D : DataW Unit) (ns : List Nod) : Prop := IsMap D ∧ ∀ i z, D.atKey (.int .i64 i) z = if (nodeIx ns i).isSome = true then .lit (.bool true) else z
theorem nodeIx_mem (ns : List Nod) (i : Int) : (nodeIx ns i).isSome = ns.any fun n => decide (n.1 = i) := by
  induction ns with
  | nil => rfl
  | cons n r ih =>
    unfold nodeIx
    rw [List.any_cons, ← ih]
    by_cases h : n.1 = i
    · rw [if_pos h]; simp [h]
    · rw [if_neg h]; simp [h]
theorem RepN.empty : RepN (.map []) [] := ⟨isMap_empty, fun _ _ => rfl⟩
theorem RepN.put {D : DataW Unit} {ns : List Nod} (h : RepN D ns) (n : Nod) : RepN (D.put (.int .i64 n.1) (.lit (.bool true))) (ns ++ [n]) := by
  refine ⟨h.1.put _ _, fun i z => ?_⟩
  rw [nodeIx_mem, List.any_append, ← nodeIx_mem]
  by_cases hs : n.1 = i
  · rw [← hs, atKey_put_same h.1 (show WideAt.IsKeyLit (.int .i64 n.1) from trivial)]; simp
  · rw [atKey_put_other (fun e => hs (by injection e with _ e; exact e.symm)), h.2]
    simp [hs]

/-- is every name that has come one of a node that is there? -/
def Come (D : DataW Unit) (left : Lit → Bool) (ns : List Nod) : Prop := ∀ s i, left (keyL s) = false → (∀ z, D.atKey (keyL s) z = .lit (.int .i64 i)) → (nodeIx ns i).isSome = true
theorem Come.start (D : DataW Unit) (ns : List Nod) : Come D (Maps.has D) ns := fun s i hl ha => by
  rw [has_true_of_atKey ha] at hl
  cases hl
theorem Come.step {D : DataW Unit} {left : Lit → Bool} {ns : List Nod} {t : ByteArray} {j : Int} (h : Come D left ns) (ha : ∀ z, D.atKey (keyL t) z = .lit (.int .i64 j)) (hn : (nodeIx ns j).isSome = true) :
    Come D (fun z => left z && !z.sameKey (keyL t)) ns := fun s i hl ha2 => by
  by_cases e : s = t
  · subst e
    have := (ha (.lit (.bool true))).symm.trans (ha2 _)
    simp only [DataW.lit.injEq, Lit.int.injEq, true_and] at this
    rw [← this]
    exact hn
  · refine h s i ?_ ha2
    have hk : (keyL s).sameKey (keyL t) = false := sameKey_ne (keyL_ne e)
    simpa [hk] using hl
theorem Come.end_ {D : DataW Unit} {left : Lit → Bool} {ns : List Nod} {l : List Ent} (h : Come D left ns) (hr : Rep D l) (hs : Srt l) (hl : ∀ kl, left kl = false) : (l.all fun e => (nodeIx ns e.2).isSome) = true := by
  rw [List.all_eq_true]
  intro e he
  exact h e.1 e.2 (hl _) (hr.at (mem_at hs he))
theorem bad_one {D : DataW Unit} {ns : List Nod} {l : List Ent} (hr : Rep D l) {t : ByteArray} {j : Int} (ha : ∀ z, D.atKey (keyL t) z = .lit (.int .i64 j)) (hn : (nodeIx ns j).isSome = false) : (l.all fun e => (nodeIx ns e.2).isSome) = false := by
  have h1 := ha (.lit (.bool true))
  rw [hr.2] at h1
  cases e : entAt l t with
  | none => rw [e] at h1; cases h1
  | some i =>
    rw [e] at h1
    simp only [DataW.lit.injEq, Lit.int.injEq, true_and] at h1
    subst h1
    rw [List.all_eq_false]
    exact ⟨_, at_mem e, by simp [hn]⟩

end Go.Proofs.YtkibddcjogfklaaGreatDoor.ik
