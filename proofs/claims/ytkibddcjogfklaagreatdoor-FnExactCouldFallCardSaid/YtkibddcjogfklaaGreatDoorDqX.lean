/-
  Deeds on a disk, plain facts: how much they add, and that what comes of them is well-formed.
-/
import Derived.Test.YtkibddcjogfklaaGreatDoorDpX
import Derived.Test.YtkibddcjogfklaaGreatDoorDecA
import Derived.Deep.RegionLaw
namespace Go.Proofs.YtkibddcjogfklaaGreatDoor.deed
open Go
open kit strs recs disk kd

theorem tot_app (xs ys : List ByteArray) : tot (xs ++ ys) = tot xs + tot ys := by unfold tot; rw [List.map_append, List.sum_append]
theorem bulkE_app (xs ys : List Ent) : bulkE (xs ++ ys) = bulkE xs + bulkE ys := by
  unfold bulkE
  rw [List.map_append, List.length_append, tot_app]
  omega
theorem bulkE_one (e : Ent) : bulkE [e] = e.1.size + 1 := by
  unfold bulkE tot
  simp
  omega
theorem bulkE_cons (e : Ent) (xs : List Ent) : bulkE (e :: xs) = e.1.size + 1 + bulkE xs := by
  rw [show e :: xs = [e] ++ xs from rfl, bulkE_app, bulkE_one]
theorem bulkE_nil : bulkE [] = 0 := rfl
theorem bulkE_drop (s : ByteArray) : ∀ xs : List Ent, bulkE (dropE xs s) ≤ bulkE xs
  | [] => Nat.le_refl _
  | x :: r => by
    have ih := bulkE_drop s r
    unfold dropE at ih ⊢
    rw [List.filter_cons]
    split
    · rw [bulkE_cons, bulkE_cons]; omega
    · rw [bulkE_cons]; omega
theorem bulkE_len (xs : List Ent) : xs.length ≤ bulkE xs := by unfold bulkE; rw [List.length_map]; omega
theorem putStep_bulk (e : Ent) (st : List Ent × Bool) (x : Ent) : bulkE (putStep e st x).1 + (e.1.size + 1) * one st.2 ≤ bulkE st.1 + (x.1.size + 1) + (e.1.size + 1) * one (putStep e st x).2 := by
  unfold putStep
  by_cases h1 : st.2 = false ∧ lessB x.1 e.1 = false
  · rw [if_pos h1, h1.1]
    by_cases h2 : x.1 = e.1
    · rw [if_pos h2]; simp only [bulkE_app, bulkE_one, one]; simp
    · rw [if_neg h2]; simp only [bulkE_app, bulkE_one, one]; simp; omega
  · rw [if_neg h1]
    by_cases h2 : x.1 = e.1
    · rw [if_pos h2]; omega
    · rw [if_neg h2]; simp only [bulkE_app, bulkE_one]; omega
theorem putTo_bulk (e : Ent) (xs : List Ent) : bulkE (putTo e xs).1 ≤ bulkE xs + (e.1.size + 1) * one (putTo e xs).2 := by
  have : ∀ (xs : List Ent) (st : List Ent × Bool), bulkE (xs.foldl (putStep e) st).1 + (e.1.size + 1) * one st.2 ≤ bulkE st.1 + bulkE xs + (e.1.size + 1) * one (xs.foldl (putStep e) st).2 := by
    intro xs
    induction xs with
    | nil => intro st; simp [bulkE_nil]
    | cons x r ih =>
      intro st
      rw [List.foldl_cons, bulkE_cons]
      have h := ih (putStep e st x)
      have hs := putStep_bulk e st x
      omega
  have h := this xs ([], false)
  have e0 : one (([], false) : List Ent × Bool).2 = 0 := rfl
  have e1 : bulkE (([], false) : List Ent × Bool).1 = 0 := rfl
  rw [e0, e1] at h
  unfold putTo
  omega
theorem bulkE_put (xs : List Ent) (e : Ent) : bulkE (putE xs e) ≤ bulkE xs + (e.1.size + 1) := by
  have h := putTo_bulk e xs
  unfold putE
  cases h2 : (putTo e xs).2
  · rw [h2] at h
    simp only [one] at h
    simp only [Bool.false_eq_true, if_false, bulkE_app, bulkE_one] at h ⊢
    omega
  · rw [h2] at h
    simpa [one] using h
theorem wfE_put {xs : List Ent} {e : Ent} (h : wfE xs) (he : e.1.size ≤ maxLen ∧ wfI e.2) : wfE (putE xs e) := fun y hy => by
  rcases putE_mem hy with rfl | hy
  · exact he
  · exact h y hy
theorem wfE_drop {xs : List Ent} {s : ByteArray} (h : wfE xs) : wfE (dropE xs s) := fun y hy => h y (List.mem_filter.1 hy).1
theorem bulkN_app (d : D) (n : Nod) : bulkN { d with nodes := d.nodes ++ [n] } = bulkN d + (n.2.1.size + 1) := by
  unfold bulkN
  simp only [List.map_append, List.length_append, tot_app]
  simp [tot]
  omega
theorem bulkN_filter (d : D) (f : Nod → Bool) : bulkN { d with nodes := d.nodes.filter f } ≤ bulkN d := by
  unfold bulkN
  simp only [List.length_map]
  induction d.nodes with
  | nil => exact Nat.le_refl _
  | cons x r ih =>
    rw [List.filter_cons]
    split
    · simp [tot] at ih ⊢; omega
    · simp [tot] at ih ⊢; omega
theorem id_wf {xs : List Ent} {s : ByteArray} (h : wfE xs) : wfI (idE xs s) := by
  unfold idE
  induction xs with
  | nil => exact (show wfI 0 from ⟨by decide, by decide⟩)
  | cons x r ih =>
    unfold entAt
    split
    · exact (h x List.mem_cons_self).2
    · exact ih (fun y hy => h y (List.mem_cons_of_mem _ hy))

/-- how much there is of each list -/
structure Sm (K : Nat) (d : D) : Prop where
  wf : wfD d
  n : bulkN d ≤ K
  e : bulkE d.ents ≤ K
  o : bulkE d.old ≤ K
  s : d.steps.length + tot d.steps ≤ K
theorem Sm.ok {K : Nat} {d : D} (h : Sm K d) (hK : K ≤ 200000) : okD d := ⟨h.wf, by
  have h1 := h.n
  have h2 := h.e
  have h3 := h.o
  have h4 := h.s
  unfold bulk
  omega⟩
theorem Sm.mono {K L : Nat} {d : D} (h : Sm K d) (hK : K ≤ L) : Sm L d := ⟨h.wf, Nat.le_trans h.n hK, Nat.le_trans h.e hK, Nat.le_trans h.o hK, Nat.le_trans h.s hK⟩
theorem Sm.clean {K : Nat} {d : D} (h : Sm K d) : Sm K (clean d) := by
  obtain ⟨wN, wE, wO, wS, wR, wX, m1, m2, m3, m4⟩ := h.wf
  refine ⟨⟨fun n hn => wN n (List.mem_filter.1 hn).1, wE, wO, wS, wR, wX, Nat.le_trans (List.length_filter_le _ _) m1, m2, m3, m4⟩, Nat.le_trans (bulkN_filter d _) h.n, h.e, h.o, h.s⟩

/-! ### what stands in the box before the disk is cleaned -/
theorem nok_small {s : ByteArray} (h : nam.nok s = true) : s.size ≤ 20 := by
  unfold nam.nok at h
  rw [Bool.and_eq_true, decide_eq_true_eq] at h
  exact h.2.2
theorem ents_small {d : D} {l : List Ent} (h : entsOk d l = true) : l.length ≤ 16 ∧ ∀ e ∈ l, e.1.size ≤ 20 := by
  have : ∀ (l : List Ent) (p : Option ByteArray), entsFrom d p l = true → ∀ e ∈ l, e.1.size ≤ 20 := by
    intro l
    induction l with
    | nil => intro p _ e he; cases he
    | cons x r ih =>
      intro p h e he
      unfold entsFrom at h
      simp only [Bool.and_eq_true] at h
      rcases List.mem_cons.1 he with rfl | he
      · exact nok_small h.1.1.1
      · exact ih _ h.2 e he
  unfold entsOk at h
  rw [Bool.and_eq_true, decide_eq_true_eq] at h
  exact ⟨h.2, this l none h.1⟩
theorem bulkE_bound (n : Nat) : ∀ (xs : List Ent), (∀ e ∈ xs, e.1.size ≤ n) → bulkE xs ≤ (n + 1) * xs.length
  | [], _ => Nat.zero_le _
  | x :: r, h => by
    have ih := bulkE_bound n r fun e he => h e (List.mem_cons_of_mem _ he)
    have hx := h x List.mem_cons_self
    rw [bulkE_cons, List.length_cons, Nat.mul_add, Nat.mul_one]
    omega
/-- of a disk that is right -/
theorem right_ents {d : D} (h : diskOk d = true) : entsOk d d.ents = true := by
  unfold diskOk at h
  rw [Bool.and_eq_true] at h
  have h := (List.all_eq_true.1 h.2) d.steps.length (List.mem_range.2 (Nat.lt_succ_self _))
  unfold okAt at h
  cases hh : histAt d d.steps.length with
  | none => rw [hh] at h; cases h
  | some l =>
    rw [hh] at h
    simp only [Bool.and_eq_true, Bool.or_eq_true, decide_eq_true_eq] at h
    rcases h.2 with h2 | h2
    · exact absurd rfl h2
    · rw [h2] at h; exact h.1
theorem right_small {d : D} (h : diskOk d = true) : bulkE d.ents ≤ 400 := by
  obtain ⟨h1, h2⟩ := ents_small (right_ents h)
  have := bulkE_bound 20 d.ents h2
  omega
theorem right_next {d : D} (h : diskOk d = true) : 1 ≤ d.next ∧ d.next ≤ 1000000000 := by
  unfold diskOk okHead at h
  simp only [Bool.and_eq_true, decide_eq_true_eq] at h
  omega
theorem has_small {d : D} {s : ByteArray} (h : diskOk d = true) (hs : hasE d.ents s = true) : s.size ≤ 20 := by
  obtain ⟨h1, h2⟩ := ents_small (right_ents h)
  unfold hasE at hs
  have : ∀ (l : List Ent), (entAt l s).isSome = true → ∃ e ∈ l, e.1 = s := by
    intro l
    induction l with
    | nil => intro h; cases h
    | cons x r ih =>
      intro h
      unfold entAt at h
      split at h
      · rename_i e; exact ⟨x, List.mem_cons_self, e⟩
      · obtain ⟨y, hy, e⟩ := ih h; exact ⟨y, List.mem_cons_of_mem _ hy, e⟩
  obtain ⟨e, he, rfl⟩ := this d.ents hs
  exact h2 e he

/-- a disk with at most a little more -/
structure More (d x : D) : Prop where
  wf : wfD x
  n : bulkN x ≤ bulkN d + 100
  e : bulkE x.ents ≤ bulkE d.ents + 100
  o : bulkE x.old ≤ bulkE d.old + 400
  s : x.steps.length + tot x.steps ≤ d.steps.length + tot d.steps + 100
theorem More.ok {d x : D} (h : More d x) (hd : okD d) : okL x := ⟨h.wf, by
  have h1 := h.n
  have h2 := h.e
  have h3 := h.o
  have h4 := h.s
  have h5 := hd.2
  unfold bulk at h5 ⊢
  omega⟩
theorem More.sm {K : Nat} {d x : D} (h : More d x) (hd : Sm K d) : Sm (K + 400) x := ⟨h.wf, by have := h.n; have := hd.n; omega, by have := h.e; have := hd.e; omega, by have := h.o; have := hd.o; omega, by have := h.s; have := hd.s; omega⟩
theorem len_of {d : D} (h : bulk d ≤ 1500000) : d.nodes.length ≤ maxLen ∧ d.ents.length ≤ maxLen ∧ d.old.length ≤ maxLen ∧ d.steps.length ≤ maxLen := by
  unfold bulk bulkN bulkE at h
  simp only [List.length_map] at h
  unfold maxLen
  omega

def removeMid (d : D) (s : ByteArray) : D := { d with ents := dropE d.ents s, steps := d.steps ++ [minusStep s] }
theorem minus_size (s : ByteArray) : (minusStep s).size = s.size + 1 := by
  unfold minusStep
  rw [ByteArray.size_append]
  show 1 + s.size = _
  omega
theorem move_size (s t : ByteArray) : (moveStep s t).size = s.size + t.size + 2 := by
  unfold moveStep
  rw [ByteArray.size_append, ByteArray.size_append, ByteArray.size_append]
  show 1 + s.size + 1 + t.size = _
  omega
theorem plus_size (s : ByteArray) (n : Int) : (plusStep s n).size = s.size + 2 + (Lib.itoa n).length := by
  unfold plusStep
  rw [ByteArray.size_append, ByteArray.size_append, ByteArray.size_append]
  show 1 + s.size + 1 + (Lib.itoa n).toArray.size = _
  rw [List.size_toArray]
  omega
theorem steps_more (xs : List ByteArray) (s : ByteArray) : (xs ++ [s]).length + tot (xs ++ [s]) = xs.length + tot xs + (s.size + 1) := by
  rw [List.length_append, tot_app]
  simp [tot]
  omega
theorem wfS_more {xs : List ByteArray} {s : ByteArray} (h : ∀ x ∈ xs, x.size ≤ maxLen) (hs : s.size ≤ maxLen) : ∀ x ∈ xs ++ [s], x.size ≤ maxLen := fun x hx => by
  rcases List.mem_append.1 hx with hx | hx
  · exact h x hx
  · obtain rfl := List.mem_singleton.1 hx
    exact hs
theorem more_remove {d : D} {s : ByteArray} (hd : okD d) (h : s.size ≤ 20) : More d (removeMid d s) := by
  obtain ⟨wN, wE, wO, wS, wR, wX, m1, m2, m3, m4⟩ := hd.1
  have hm := minus_size s
  have hs := steps_more d.steps (minusStep s)
  have hl := (okL_lens (okD.loose hd)).2.2.2
  refine ⟨⟨wN, wfE_drop wE, wO, wfS_more wS (by unfold maxLen; omega), wR, wX, m1, Nat.le_trans (dropE_length _ _) m2, m3, ?_⟩, Nat.le_add_right _ _, ?_, Nat.le_add_right _ _, ?_⟩
  · show (d.steps ++ [minusStep s]).length ≤ maxLen
    rw [List.length_append]
    unfold maxLen
    simp
    omega
  · exact Nat.le_trans (bulkE_drop s d.ents) (Nat.le_add_right _ _)
  · show (d.steps ++ [minusStep s]).length + tot (d.steps ++ [minusStep s]) ≤ _
    omega
def renameMid (d : D) (s t : ByteArray) : D := { d with ents := putE (dropE d.ents s) (t, idE d.ents s), steps := d.steps ++ [moveStep s t] }
theorem more_rename {d : D} {s t : ByteArray} (hd : okD d) (h : s.size ≤ 20) (ht : t.size ≤ 20) : More d (renameMid d s t) := by
  obtain ⟨wN, wE, wO, wS, wR, wX, m1, m2, m3, m4⟩ := hd.1
  have hm := move_size s t
  have hs := steps_more d.steps (moveStep s t)
  have hl := okL_lens (okD.loose hd)
  have hp := putE_length (dropE d.ents s) (t, idE d.ents s)
  have hq := dropE_length d.ents s
  refine ⟨⟨wN, wfE_put (wfE_drop wE) ⟨by unfold maxLen; show t.size ≤ _; omega, id_wf wE⟩, wO, wfS_more wS (by unfold maxLen; omega), wR, wX, m1, ?_, m3, ?_⟩, Nat.le_add_right _ _, ?_, Nat.le_add_right _ _, ?_⟩
  · show (putE (dropE d.ents s) (t, idE d.ents s)).length ≤ maxLen
    unfold maxLen
    omega
  · show (d.steps ++ [moveStep s t]).length ≤ maxLen
    rw [List.length_append]
    unfold maxLen
    simp
    omega
  · have h1 := bulkE_put (dropE d.ents s) (t, idE d.ents s)
    have h2 := bulkE_drop s d.ents
    show bulkE (putE (dropE d.ents s) (t, idE d.ents s)) ≤ _
    simp only [] at h1
    omega
  · show (d.steps ++ [moveStep s t]).length + tot (d.steps ++ [moveStep s t]) ≤ _
    omega
def createMid (d : D) (s : ByteArray) : D := { d with nodes := d.nodes ++ [(d.next, { data := #[] }, 0)], ents := putE d.ents (s, d.next), steps := d.steps ++ [plusStep s d.next], next := d.next + 1 }
theorem more_create {d : D} {s : ByteArray} (hd : okD d) (h : s.size ≤ 20) (h1 : 1 ≤ d.next) (h2 : d.next ≤ 1000000000) (hi : (Lib.itoa d.next).length ≤ 20) : More d (createMid d s) := by
  obtain ⟨wN, wE, wO, wS, wR, wX, m1, m2, m3, m4⟩ := hd.1
  have hm := plus_size s d.next
  have hs := steps_more d.steps (plusStep s d.next)
  have hl := okL_lens (okD.loose hd)
  have hp := putE_length d.ents (s, d.next)
  refine ⟨⟨?_, wfE_put wE ⟨by unfold maxLen; show s.size ≤ _; omega, wX⟩, wO, wfS_more wS (by unfold maxLen; omega), wR, ⟨by show _ ≤ d.next + 1; omega, by show d.next + 1 ≤ _; omega⟩, ?_, ?_, m3, ?_⟩, ?_, ?_, Nat.le_add_right _ _, ?_⟩
  · intro n hn
    rcases List.mem_append.1 hn with hn | hn
    · exact wN n hn
    · obtain rfl := List.mem_singleton.1 hn
      exact ⟨wX, Nat.zero_le _, (show wfI 0 from ⟨by decide, by decide⟩)⟩
  · show (d.nodes ++ [_]).length ≤ maxLen
    rw [List.length_append]
    unfold maxLen
    simp
    omega
  · show (putE d.ents (s, d.next)).length ≤ maxLen
    unfold maxLen
    omega
  · show (d.steps ++ [plusStep s d.next]).length ≤ maxLen
    rw [List.length_append]
    unfold maxLen
    simp
    omega
  · have := bulkN_app d (d.next, { data := #[] }, 0)
    have e0 : ({ data := #[] } : ByteArray).size = 0 := rfl
    simp only [e0] at this
    show bulkN { d with nodes := d.nodes ++ [(d.next, { data := #[] }, 0)] } ≤ _
    omega
  · have h1 := bulkE_put d.ents (s, d.next)
    show bulkE (putE d.ents (s, d.next)) ≤ _
    simp only [] at h1
    omega
  · show (d.steps ++ [plusStep s d.next]).length + tot (d.steps ++ [plusStep s d.next]) ≤ _
    omega
def syncMid (d : D) : D := { d with old := d.ents, steps := [] }
theorem more_sync {d : D} (hd : okD d) (h : diskOk d = true) : More d (syncMid d) := by
  obtain ⟨wN, wE, wO, wS, wR, wX, m1, m2, m3, m4⟩ := hd.1
  have := right_small h
  refine ⟨⟨wN, wE, wE, (fun s hs => by cases hs), wR, wX, m1, m2, m2, Nat.zero_le _⟩, Nat.le_add_right _ _, Nat.le_add_right _ _, ?_, ?_⟩
  · show bulkE d.ents ≤ _
    omega
  · show 0 + tot [] ≤ _
    simp [tot]

end Go.Proofs.YtkibddcjogfklaaGreatDoor.deed

namespace Go.Proofs.YtkibddcjogfklaaGreatDoor.deed
open Go.RowKit
open kit strs recs disk kd

theorem cells_new (w : World) (v : Value) (t : TypeId) : Cells (w.alloc (.cells #[v] t)) (some ⟨w.heap.size, 0, none⟩) 1 1 [v] := by
  refine ⟨rfl, .inr ⟨w.heap.size, 0, rfl, by simp, fun j x hx => ?_⟩⟩
  rw [cell_of_row _ _ _ _ _ _ (heap_alloc_new w _)]
  simpa using hx
theorem cells_new3 (w : World) (v0 v1 v2 : Value) (t : TypeId) : Cells (w.alloc (.cells #[v0, v1, v2] t)) (some ⟨w.heap.size, 0, none⟩) 1 3 [v0, v1, v2] := by
  refine ⟨rfl, .inr ⟨w.heap.size, 0, rfl, by simp, fun j x hx => ?_⟩⟩
  rw [cell_of_row _ _ _ _ _ _ (heap_alloc_new w _)]
  simpa using hx
theorem box_six {w : World} {r : Nat} {u0 u1 u2 u3 u4 u5 : Value} (c0 c1 c2 c3 c4 c5 : Value) (h : Box w r [u0, u1, u2, u3, u4, u5]) :
    Box ((((((w.setCell ⟨r, 0, none⟩ c0).setCell ⟨r, 1, none⟩ c1).setCell ⟨r, 2, none⟩ c2).setCell ⟨r, 3, none⟩ c3).setCell ⟨r, 4, none⟩ c4).setCell ⟨r, 5, none⟩ c5) r [c0, c1, c2, c3, c4, c5] :=
  box_set (i := 5) (box_set (i := 4) (box_set (i := 3) (box_set (i := 2) (box_set (i := 1) (box_set (i := 0) h (by simp)) (by simp)) (by simp)) (by simp)) (by simp)) (by simp)
theorem below_six {B r : Nat} {w0 w : World} (c0 c1 c2 c3 c4 c5 : Value) (h : Below B w0 w) (hr : B ≤ r) :
    Below B w0 ((((((w.setCell ⟨r, 0, none⟩ c0).setCell ⟨r, 1, none⟩ c1).setCell ⟨r, 2, none⟩ c2).setCell ⟨r, 3, none⟩ c3).setCell ⟨r, 4, none⟩ c4).setCell ⟨r, 5, none⟩ c5) := by
  iterate 6 refine Below.setCell ?_ hr _
  exact h
theorem disk_six {B r : Nat} {w : World} {v : Value} {d : D} (c0 c1 c2 c3 c4 c5 : Value) (h : OwnDisk B w v d) (hr : r < B) :
    OwnDisk B ((((((w.setCell ⟨r, 0, none⟩ c0).setCell ⟨r, 1, none⟩ c1).setCell ⟨r, 2, none⟩ c2).setCell ⟨r, 3, none⟩ c3).setCell ⟨r, 4, none⟩ c4).setCell ⟨r, 5, none⟩ c5) v d := by
  iterate 6 refine disk_setOther ?_ hr
  exact h
/-- The opening: the copy lies in the box. -/
theorem desk_open {B : Nat} {w : World} {b r : Nat} {sN sE sO sS : Value} {d : D} {o0 o1 o2 o3 o4 o5 u0 u1 u2 u3 u4 u5 : Value}
    (hx : Box w b [o0, o1, o2, o3, o4, o5]) (fz : ∀ j, w.frozen? ⟨b, j, none⟩ = false) (ho : Box w r [u0, u1, u2, u3, u4, u5]) (fr : ∀ j, w.frozen? ⟨r, j, none⟩ = false)
    (hd : OwnDisk B w (.agg #[sN, sE, sO, sS, .int .i64 d.room, .int .i64 d.next]) d) (hb : b < B) (hr : r < B) (hne : b ≠ r) (hs : B ≤ w.heap.size) (B0 : Nat) (w0 : World) (h0 : Below B0 w0 w) (hb0 : B0 ≤ b) :
    ∃ X, ((((((w.setCell ⟨b, 0, none⟩ sN).setCell ⟨b, 1, none⟩ sE).setCell ⟨b, 2, none⟩ sO).setCell ⟨b, 3, none⟩ sS).setCell ⟨b, 4, none⟩ (.int .i64 d.room)).setCell ⟨b, 5, none⟩ (.int .i64 d.next)) = X ∧ Desk B X b r sN sE sO sS d ∧ Below B0 w0 X := by
  refine ⟨_, rfl, ⟨box_six _ _ _ _ _ _ hx, ?_, ⟨u0, u1, u2, u3, u4, u5, ?_⟩, ?_, disk_six _ _ _ _ _ _ hd hb, hb, hr, hne, by simpa using hs⟩, below_six _ _ _ _ _ _ h0 hb0⟩
  · iterate 6 refine frozen_set ?_
    exact fz
  · iterate 6 refine box_far ?_ hne
    exact ho
  · iterate 6 refine frozen_set ?_
    exact fr
/-- An end: what the box holds is laid into the result. -/
theorem six_ret {B r : Nat} {w : World} {d : D} {u0 u1 u2 u3 u4 u5 c0 c1 c2 c3 c4 c5 : Value} (ho : Box w r [u0, u1, u2, u3, u4, u5]) (hr : r < B)
    (hd : OwnDisk B w (.agg #[c0, c1, c2, c3, c4, c5]) d) (B0 : Nat) (w0 : World) (h0 : Below B0 w0 w) (hr0 : B0 ≤ r) :
    ∃ X, ((((((w.setCell ⟨r, 0, none⟩ c0).setCell ⟨r, 1, none⟩ c1).setCell ⟨r, 2, none⟩ c2).setCell ⟨r, 3, none⟩ c3).setCell ⟨r, 4, none⟩ c4).setCell ⟨r, 5, none⟩ c5) = X ∧ Box X r [c0, c1, c2, c3, c4, c5] ∧ OwnDisk B X (.agg #[c0, c1, c2, c3, c4, c5]) d ∧ Below B0 w0 X :=
  ⟨_, rfl, box_six _ _ _ _ _ _ ho, disk_six _ _ _ _ _ _ hd hr, below_six _ _ _ _ _ _ h0 hr0⟩
theorem own_agg {B : Nat} {w : World} {v : Value} {d : D} (h : OwnDisk B w v d) : ∃ sN sE sO sS, v = .agg #[sN, sE, sO, sS, .int .i64 d.room, .int .i64 d.next] := by
  obtain ⟨sN, sE, sO, sS, _, _, _, _, rfl, _⟩ := h
  exact ⟨_, _, _, _, rfl⟩
/-- the four lists of the box -/
theorem Desk.shapes {B : Nat} {w : World} {b r : Nat} {sN sE sO sS : Value} {d : D} (h : Desk B w b r sN sE sO sS d) :
    ∃ aN aE aO aS cN cE cO cS, sN = .slice aN d.nodes.length cN ∧ sE = .slice aE d.ents.length cE ∧ sO = .slice aO d.old.length cO ∧ sS = .slice aS d.steps.length cS ∧
      AtN w aN d.nodes.length d.nodes ∧ AtE w aE d.ents.length d.ents ∧ AtE w aO d.old.length d.old ∧ strs.At w aS d.steps.length d.steps := by
  obtain ⟨aN, aE, aO, aS, nN, cN, nE, cE, nO, cO, nS, cS, hv, h1, h2, h3, h4⟩ := h.own.is
  simp only [Value.agg.injEq, Array.mk.injEq, List.cons.injEq] at hv
  obtain ⟨rfl, rfl, rfl, rfl, _⟩ := hv
  obtain rfl := h1.len
  obtain rfl := h2.len
  obtain rfl := h3.len
  obtain rfl := h4.1
  exact ⟨aN, aE, aO, aS, cN, cE, cO, cS, rfl, rfl, rfl, rfl, h1, h2, h3, h4⟩
/-- while a list of the box's own grows, the boxes stay -/
theorem Desk.mid {B : Nat} {w w' : World} {b r : Nat} {sN sE sO sS u : Value} {d : D} (h : Desk B w b r sN sE sO sS d) (hu : u.ownBlock ≠ some b) (hg : w.grownBy w' u.ownBlock) :
    Box w' b [sN, sE, sO, sS, .int .i64 d.room, .int .i64 d.next] ∧ ∀ j, w'.frozen? ⟨b, j, none⟩ = false := ⟨box_grown h.box hg hu, frozen_grown h.fz h.box.1 hg hu⟩
theorem Desk.rowS {B : Nat} {w : World} {b r : Nat} {sN sE sO sS : Value} {d : D} (h : Desk B w b r sN sE sO sS d) : w.ownsRow B 9 1 sS d.steps.length (d.steps.map Value.string) := by
  obtain ⟨_, _, _, _, nN, nE, nO, nS, hv, rN, rE, rO, rS, _⟩ := h.own
  simp only [Value.agg.injEq, Array.mk.injEq, List.cons.injEq] at hv
  obtain ⟨rfl, rfl, rfl, rfl, _⟩ := hv
  have := rS.1
  rw [List.length_map, Nat.mul_one] at this
  rw [this]
  exact rS
theorem Desk.rowN {B : Nat} {w : World} {b r : Nat} {sN sE sO sS : Value} {d : D} (h : Desk B w b r sN sE sO sS d) : w.ownsRow B 41 3 sN d.nodes.length (cellsN d.nodes) := by
  obtain ⟨_, _, _, _, nN, nE, nO, nS, hv, rN, rE, rO, rS, _⟩ := h.own
  simp only [Value.agg.injEq, Array.mk.injEq, List.cons.injEq] at hv
  obtain ⟨rfl, rfl, rfl, rfl, _⟩ := hv
  have := rN.1
  rw [cellsN_len] at this
  have e : d.nodes.length = nN := by omega
  rw [e]
  exact rN
theorem one_str (s : ByteArray) : ∀ u ∈ ([.string s] : List Value), u.oneCell' = true := by simp [Value.oneCell']
theorem own_slices {B : Nat} {w : World} {u : Value} {d : D} (h : OwnDisk B w u d) : ∃ aN aE aO aS cN cE cO cS, u = .agg #[.slice aN d.nodes.length cN, .slice aE d.ents.length cE, .slice aO d.old.length cO, .slice aS d.steps.length cS, .int .i64 d.room, .int .i64 d.next] := by
  obtain ⟨aN, aE, aO, aS, nN, cN, nE, cE, nO, cO, nS, cS, rfl, h1, h2, h3, h4⟩ := h.is
  obtain rfl := h1.len
  obtain rfl := h2.len
  obtain rfl := h3.len
  obtain rfl := h4.1
  exact ⟨_, _, _, _, _, _, _, _, rfl⟩
theorem Desk.atE {B : Nat} {w : World} {b r : Nat} {sN sO sS : Value} {a : Option Addr} {n c : Nat} {d : D} (h : Desk B w b r sN (.slice a n c) sO sS d) : AtE w a n d.ents := by
  obtain ⟨aN, aE, aO, aS, nN, cN, nE, cE, nO, cO, nS, cS, hv, h1, h2, h3, h4⟩ := h.own.is
  simp only [Value.agg.injEq, Array.mk.injEq, List.cons.injEq, Value.slice.injEq] at hv
  obtain ⟨rfl, ⟨rfl, rfl, rfl⟩, _⟩ := hv
  exact h2
theorem Desk.setO {B : Nat} {w w' : World} {b r : Nat} {sN sE sO sS : Value} {d : D} {u : Value} {es : List Ent} (h : Desk B w b r sN sE sO sS d) (hb : Below w.heap.size w w') (hu : OwnE w.heap.size w' u es) :
    Desk B (w'.setCell ⟨b, 2, none⟩ u) b r sN sE u sS { d with old := es } := by
  have hB := h.size
  have h' := h.below hb
  obtain ⟨u0, u1, u2, u3, u4, u5, ho⟩ := h'.out
  obtain ⟨q, hu⟩ := hu
  obtain ⟨_, _, _, _, nN, nE, nO, nS, hv, rN, rE, rO, rS, o1, o2, o3, o4, o5, o6⟩ := h.own
  simp only [Value.agg.injEq, Array.mk.injEq, List.cons.injEq] at hv
  obtain ⟨rfl, rfl, rfl, rfl, _⟩ := hv
  have hu' := own_base hu hB
  exact ⟨box_set h'.box (by simp), frozen_set h'.fz, ⟨u0, u1, u2, u3, u4, u5, box_far ho h.ne⟩, frozen_set h'.fr,
    disk_setOther ⟨_, _, _, _, nN, nE, q, nS, rfl, own_below rN hb, own_below rE hb, hu', own_below rS hb, o1, off_of rN hu (Nat.le_refl _), o3, off_of rE hu (Nat.le_refl _), o5, off_symm (off_of rS hu (Nat.le_refl _))⟩ h.hb, h.hb, h.hr, h.ne, by simpa using h'.size⟩
/-- No steps: a new list of none. -/
theorem Desk.setS0 {B : Nat} {w w' : World} {b r : Nat} {sN sE sO sS : Value} {d : D} {u : Value} (h : Desk B w b r sN sE sO sS d) (hb : Below w.heap.size w w') (hu : w'.ownsRow w.heap.size 9 1 u 0 []) :
    Desk B (w'.setCell ⟨b, 3, none⟩ u) b r sN sE sO u { d with steps := [] } := by
  have hB := h.size
  have h' := h.below hb
  obtain ⟨u0, u1, u2, u3, u4, u5, ho⟩ := h'.out
  obtain ⟨_, _, _, _, nN, nE, nO, nS, hv, rN, rE, rO, rS, o1, o2, o3, o4, o5, o6⟩ := h.own
  simp only [Value.agg.injEq, Array.mk.injEq, List.cons.injEq] at hv
  obtain ⟨rfl, rfl, rfl, rfl, _⟩ := hv
  have hu' := own_base hu hB
  exact ⟨box_set h'.box (by simp), frozen_set h'.fz, ⟨u0, u1, u2, u3, u4, u5, box_far ho h.ne⟩, frozen_set h'.fr,
    disk_setOther ⟨_, _, _, _, nN, nE, nO, 0, rfl, own_below rN hb, own_below rE hb, own_below rO hb, hu', o1, o2, off_of rN hu (Nat.le_refl _), o4, off_of rE hu (Nat.le_refl _), off_of rO hu (Nat.le_refl _)⟩ h.hb, h.hb, h.hr, h.ne, by simpa using h'.size⟩
/-- Nodes that an append has made out of the disk's own are put into the box. -/
theorem Desk.setN {B n : Nat} {w w' : World} {b r : Nat} {sN sE sO sS : Value} {d : D} {u : Value} {ns : List Nod} (h : Desk B w b r sN sE sO sS d) (hg : w.grownBy w' sN.ownBlock) (hu : w'.ownsRow B 41 3 u n (cellsN ns)) :
    Desk B (w'.setCell ⟨b, 0, none⟩ u) b r u sE sO sS { d with nodes := ns } := by
  obtain ⟨u0, u1, u2, u3, u4, u5, ho⟩ := h.out
  obtain ⟨_, _, _, _, nN, nE, nO, nS, hv, rN, rE, rO, rS, o1, o2, o3, o4, o5, o6⟩ := h.own
  simp only [Value.agg.injEq, Array.mk.injEq, List.cons.injEq] at hv
  obtain ⟨rfl, rfl, rfl, rfl, _⟩ := hv
  have rE' := own_grown rE hg (off_symm o1)
  have rO' := own_grown rO hg (off_symm o2)
  have rS' := own_grown rS hg (off_symm o3)
  have fb := own_not rN h.hb
  have gr := own_not rN h.hr
  exact ⟨box_set (box_grown h.box hg fb) (by simp), frozen_set (frozen_grown h.fz h.box.1 hg fb), ⟨u0, u1, u2, u3, u4, u5, box_far (box_grown ho hg gr) h.ne⟩, frozen_set (frozen_grown h.fr ho.1 hg gr),
    disk_setOther ⟨_, _, _, _, n, nE, nO, nS, rfl, hu, rE', rO', rS', off_type hu rE' (by decide), off_type hu rO' (by decide), off_type hu rS' (by decide), o4, o5, o6⟩ h.hb, h.hb, h.hr, h.ne, by simpa using Nat.le_trans h.size hg.size⟩
/-- Another number that the next node will have. -/
theorem Desk.setX {B : Nat} {w : World} {b r : Nat} {sN sE sO sS : Value} {d : D} {x : Int} (h : Desk B w b r sN sE sO sS d) :
    Desk B (w.setCell ⟨b, 5, none⟩ (.int .i64 x)) b r sN sE sO sS { d with next := x } := by
  obtain ⟨u0, u1, u2, u3, u4, u5, ho⟩ := h.out
  obtain ⟨_, _, _, _, nN, nE, nO, nS, hv, rN, rE, rO, rS, o⟩ := h.own
  simp only [Value.agg.injEq, Array.mk.injEq, List.cons.injEq] at hv
  obtain ⟨rfl, rfl, rfl, rfl, _⟩ := hv
  exact ⟨box_set h.box (by simp), frozen_set h.fz, ⟨u0, u1, u2, u3, u4, u5, box_far ho h.ne⟩, frozen_set h.fr,
    disk_setOther ⟨_, _, _, _, nN, nE, nO, nS, rfl, rN, rE, rO, rS, o⟩ h.hb, h.hb, h.hr, h.ne, by simpa using h.size⟩
theorem cellsN_text : ∀ (xs : List Nod) (k : Nat) (n : Nod) (t : ByteArray), xs[k]? = some n → (cellsN xs).set (k * 3 + 1) (.string t) = cellsN (xs.set k (n.1, t, n.2.2))
  | [], k, n, t, h => by simp at h
  | x :: r, 0, n, t, h => by
    obtain rfl : x = n := by simpa using h
    simp [cellsN]
  | x :: r, k + 1, n, t, h => by
    have ih := cellsN_text r k n t (by simpa using h)
    have e : cellsN (x :: r) = [.int .i64 x.1, .string x.2.1, .int .i64 x.2.2] ++ cellsN r := by simp [cellsN]
    have e2 : cellsN ((x :: r).set (k + 1) (n.1, t, n.2.2)) = [.int .i64 x.1, .string x.2.1, .int .i64 x.2.2] ++ cellsN (r.set k (n.1, t, n.2.2)) := by simp [cellsN]
    rw [e, e2, ← ih, List.set_append_right _ _ (by simp; omega)]
    congr 2
    simp
    omega
theorem cellsN_sure : ∀ (xs : List Nod) (k : Nat) (n : Nod) (j : Int), xs[k]? = some n → (cellsN xs).set (k * 3 + 2) (.int .i64 j) = cellsN (xs.set k (n.1, n.2.1, j))
  | [], k, n, t, h => by simp at h
  | x :: r, 0, n, t, h => by
    obtain rfl : x = n := by simpa using h
    simp [cellsN]
  | x :: r, k + 1, n, j, h => by
    have ih := cellsN_sure r k n j (by simpa using h)
    have e : cellsN (x :: r) = [.int .i64 x.1, .string x.2.1, .int .i64 x.2.2] ++ cellsN r := by simp [cellsN]
    have e2 : cellsN ((x :: r).set (k + 1) (n.1, n.2.1, j)) = [.int .i64 x.1, .string x.2.1, .int .i64 x.2.2] ++ cellsN (r.set k (n.1, n.2.1, j)) := by simp [cellsN]
    rw [e, e2, ← ih, List.set_append_right _ _ (by simp; omega)]
    congr 2
    simp
    omega
def DeedR (r : D × Int) (w : World) (e : Ending) (w' : World) : Prop := ∃ u, e = .returned (.tuple #[u, .int .i64 r.2]) ∧ OwnDisk w.heap.size w' u r.1 ∧ Below w.heap.size w w'

end Go.Proofs.YtkibddcjogfklaaGreatDoor.deed

namespace Go.Proofs.YtkibddcjogfklaaGreatDoor.deed
open Go.RowKit
open kit strs recs disk kd

/-- of a disk that is right: a name that is there has a node -/
theorem right_node {d : D} {s : ByteArray} (h : diskOk d = true) (hs : hasE d.ents s = true) : ∃ k nd, nodeIx d.nodes (idE d.ents s) = some k ∧ d.nodes[k]? = some nd := by
  have h1 := right_ents h
  unfold entsOk at h1
  rw [Bool.and_eq_true] at h1
  have : ∀ (l : List Ent) (p : Option ByteArray), entsFrom d p l = true → ∀ i, entAt l s = some i → (nodeIx d.nodes i).isSome = true := by
    intro l
    induction l with
    | nil => intro p _ i hi; cases hi
    | cons x r ih =>
      intro p h i hi
      unfold entsFrom at h
      simp only [Bool.and_eq_true] at h
      unfold entAt at hi
      split at hi
      · cases hi
        exact h.1.1.2
      · exact ih _ h.2 i hi
  unfold hasE at hs
  unfold idE
  cases he : entAt d.ents s with
  | none => rw [he] at hs; cases hs
  | some i =>
    have h2 := this d.ents none h1.1 i he
    cases hk : nodeIx d.nodes i with
    | none => rw [hk] at h2; cases h2
    | some k =>
      obtain ⟨nd, hx, _⟩ := nodeIx_lt _ _ _ hk
      exact ⟨k, nd, by simpa using hk, hx⟩
theorem nodeK_is {d : D} {s : ByteArray} {k : Nat} (h : nodeIx d.nodes (idE d.ents s) = some k) : nodeK d s = k := by unfold nodeK; rw [h]; rfl
theorem nodeN_is {d : D} {s : ByteArray} {k : Nat} {nd : Nod} (h : nodeIx d.nodes (idE d.ents s) = some k) (hx : d.nodes[k]? = some nd) : nodeN d s = nd := by unfold nodeN; rw [nodeK_is h, hx]; rfl
theorem Desk.atN {B : Nat} {w : World} {b r : Nat} {sE sO sS : Value} {a : Option Addr} {n c : Nat} {d : D} (h : Desk B w b r (.slice a n c) sE sO sS d) : AtN w a n d.nodes := by
  obtain ⟨aN, aE, aO, aS, nN, cN, nE, cE, nO, cO, nS, cS, hv, h1, h2, h3, h4⟩ := h.own.is
  simp only [Value.agg.injEq, Array.mk.injEq, List.cons.injEq, Value.slice.injEq] at hv
  obtain ⟨⟨rfl, rfl, rfl⟩, _⟩ := hv
  exact h1
/-- A cell of a node is written: the nodes that the cells then say are laid. -/
theorem Desk.node {B : Nat} {w : World} {b r g c : Nat} {sE sO sS u : Value} {d : D} {ns : List Nod} {j : Nat} (h : Desk B w b r (.slice (some ⟨g, 0, none⟩) d.nodes.length c) sE sO sS d) (hc : (cellsN d.nodes).set j u = cellsN ns) :
    Desk B (w.setCell ⟨g, j, none⟩ u) b r (.slice (some ⟨g, 0, none⟩) d.nodes.length c) sE sO sS { d with nodes := ns } := by
  obtain ⟨u0, u1, u2, u3, u4, u5, ho⟩ := h.out
  have rN0 := h.rowN
  obtain ⟨_, _, _, _, nN, nE, nO, nS, hv, rN, rE, rO, rS, o1, o2, o3, o4, o5, o6⟩ := h.own
  simp only [Value.agg.injEq, Array.mk.injEq, List.cons.injEq] at hv
  obtain ⟨rfl, rfl, rfl, rfl, _⟩ := hv
  have hgb : g ≠ b := fun e => own_not rN0 h.hb (by rw [e]; rfl)
  have hgr : g ≠ r := fun e => own_not rN0 h.hr (by rw [e]; rfl)
  have hs := (rN0.stored j u).1
  rw [hc] at hs
  exact ⟨box_far h.box hgb, frozen_set h.fz, ⟨u0, u1, u2, u3, u4, u5, box_far ho hgr⟩, frozen_set h.fr,
    ⟨_, _, _, _, d.nodes.length, nE, nO, nS, rfl, hs, own_setOther rE _ _ _ (o1 g rfl), own_setOther rO _ _ _ (o2 g rfl), own_setOther rS _ _ _ (o3 g rfl), o1, o2, o3, o4, o5, o6⟩, h.hb, h.hr, h.ne, by simpa using h.size⟩
theorem node_free {B : Nat} {w : World} {g n c : Nat} {xs : List Value} {e : TypeId} {size : Nat} (h : w.ownsRow B e size (.slice (some ⟨g, 0, none⟩) n c) n xs) (j : Nat) : w.frozen? ⟨g, j, none⟩ = false := h.frozenAt j

end Go.Proofs.YtkibddcjogfklaaGreatDoor.deed

namespace Go.Proofs.YtkibddcjogfklaaGreatDoor.deed
open Go.RowKit
open kit strs recs disk kd

theorem right_room {d : D} (h : diskOk d = true) : (usedOn d : Int) ≤ d.room ∧ 0 ≤ d.room ∧ d.room ≤ 1000000000 := by
  unfold diskOk okHead at h
  simp only [Bool.and_eq_true, decide_eq_true_eq] at h
  omega

end Go.Proofs.YtkibddcjogfklaaGreatDoor.deed

namespace Go.Proofs.YtkibddcjogfklaaGreatDoor.deed
open Go.RowKit
open kit strs recs disk kd

theorem step_copy {P : Program} {ops : Array Oper} {o : Oper} {a : Act} {K : Act → World → Prop} {Q : Exit → Act → World → Prop} {E : Prop} {w : World} (hgd : o.guard = none) (s x : Operand) (t : TypeId)
    (ho : o.op = .call { callee := .builtin .append, args := #[s, x], argTypes := #[t, t] })
    (B : Nat) (e : TypeId) (i : TypeInfo) (z : Value) (size bytes : Nat) (ht : P.underlying t = some (.slice e)) (hi : P.info? e = some i) (hz : i.zero = some z)
    (hsize : i.size = size) (hby : i.bytes = bytes) (hzs : z.cells.size = size) (hsz : 0 < size)
    (v : Value) (n : Nat) (xs : List Value) (hown : w.ownsRow B e size v n xs) (hB : B ≤ w.heap.size)
    (b : Option Addr) (m c : Nat) (news : List Value) (hc : Cells w b m size news) (hone : ∀ u ∈ news, u.oneCell' = true) (h63 : n + m ≤ maxLen) (hbytes : (n + m) * bytes ≤ 140737488355328)
    (hs : a.eval s = v) (hx : a.eval x = .slice b m c)
    (h : ∀ v' w', w'.ownsRow B e size v' (n + m) (xs ++ news) → w.grownBy w' v.ownBlock → K (a.put o.dst v') w') :
    if Region.wanted o (yielded ops a.tmps) = true then Oper.wp P o a w K Q else E := by
  have hwd : Region.wanted o (yielded ops a.tmps) = true := by simp [Region.wanted, hgd]
  rw [if_pos hwd]
  exact wp_copy s x t ho B e i z size bytes ht hi hz hsize hby hzs hsz v n xs hown hB b m c news hc hone h63 hbytes hs hx h
theorem itoa_small (n : Int) (h0 : 1 ≤ n) (h1 : n ≤ 1000000000) : (Lib.itoa n).length ≤ 20 := by
  have e : (10 : Nat) ^ (9 + 1) = 10000000000 := by decide
  have h := rd.digits_len 9 n.toNat (by omega)
  unfold Lib.itoa
  rw [if_neg (by omega)]
  show (Lib.decDigits n.toNat).length ≤ 20
  omega
theorem next_wf {x : Int} (h1 : 1 ≤ x) (h2 : x ≤ 1000000000) : (Lit.int .i64 x).wf = true := by
  obtain ⟨m, rfl⟩ := Int.eq_ofNat_of_zero_le (show 0 ≤ x by omega)
  exact rd.wf_small m (by omega)

end Go.Proofs.YtkibddcjogfklaaGreatDoor.deed

namespace Go.Proofs.YtkibddcjogfklaaGreatDoor.deed
open Go.RowKit
open kit strs recs disk kd

def SyncR (r : D) (w : World) (e : Ending) (w' : World) : Prop := ∃ u, e = .returned u ∧ OwnDisk w.heap.size w' u r ∧ Below w.heap.size w w'

end Go.Proofs.YtkibddcjogfklaaGreatDoor.deed

namespace Go.Proofs.YtkibddcjogfklaaGreatDoor.deed
open Go.RowKit
open kit strs recs disk kd

end Go.Proofs.YtkibddcjogfklaaGreatDoor.deed

namespace Go.Proofs.YtkibddcjogfklaaGreatDoor.deed
open Go.RowKit
open kit strs recs disk kd

end Go.Proofs.YtkibddcjogfklaaGreatDoor.deed
