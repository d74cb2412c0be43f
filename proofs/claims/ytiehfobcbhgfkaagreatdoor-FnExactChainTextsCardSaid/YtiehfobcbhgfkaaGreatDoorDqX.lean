/-
  Deeds on a disk, plain facts: how much they add, and that what comes of them is well-formed.
-/
import Derived.Test.YtiehfobcbhgfkaaGreatDoorDpX
import Derived.Test.YtiehfobcbhgfkaaGreatDoorRdX
import Derived.Deep.RegionLaw
namespace Go.Proofs.YtiehfobcbhgfkaaGreatDoor.deed
set_option maxRecDepth 20000
open Go
open kit strs recs disk kd

theorem tot_app (xs ys : List ByteArray) : tot (xs ++ ys) = tot xs + tot ys := by unfold tot; rw [List.map_append, List.sum_append]
theorem bulkE_app (xs ys : List Ent) : bulkE (xs ++ ys) = bulkE xs + bulkE ys := by
  unfold bulkE
  rw [List.map_append, List.length_append, tot_app]
  omega
theorem bulkE_one (e : Ent) : bulkE [e] = e.1.size + 1 := by
  unfold bulkE tot
  simp
  omega
theorem bulkE_cons (e : Ent) (xs : List Ent) : bulkE (e :: xs) = e.1.size + 1 + bulkE xs := by
  rw [show e :: xs = [e] ++ xs from rfl, bulkE_app, bulkE_one]
theorem bulkE_nil : bulkE [] = 0 := rfl
theorem bulkE_drop (s : ByteArray) : ∀ xs : List Ent, bulkE (dropE xs s) ≤ bulkE xs
  | [] => Nat.le_refl _
  | x :: r => by
    have ih := bulkE_drop s r
    unfold dropE at ih ⊢
    rw [List.filter_cons]
    split
    · rw [bulkE_cons, bulkE_cons]; omega
    · rw [bulkE_cons]; omega
theorem bulkE_len (xs : List Ent) : xs.length ≤ bulkE xs := by unfold bulkE; rw [List.length_map]; omega
theorem putStep_bulk (e : Ent) (st : List Ent × Bool) (x : Ent) : bulkE (putStep e st x).1 + (e.1.size + 1) * one st.2 ≤ bulkE st.1 + (x.1.size + 1) + (e.1.size + 1) * one (putStep e st x).2 := by
  unfold putStep
  by_cases h1 : st.2 = false ∧ lessB x.1 e.1 = false
  · rw [if_pos h1, h1.1]
    by_cases h2 : x.1 = e.1
    · rw [if_pos h2]; simp only [bulkE_app, bulkE_one, one]; simp
    · rw [if_neg h2]; simp only [bulkE_app, bulkE_one, one]; simp; omega
  · rw [if_neg h1]
    by_cases h2 : x.1 = e.1
    · rw [if_pos h2]; omega
    · rw [if_neg h2]; simp only [bulkE_app, bulkE_one]; omega
theorem putTo_bulk (e : Ent) (xs : List Ent) : bulkE (putTo e xs).1 ≤ bulkE xs + (e.1.size + 1) * one (putTo e xs).2 := by
  have : ∀ (xs : List Ent) (st : List Ent × Bool), bulkE (xs.foldl (putStep e) st).1 + (e.1.size + 1) * one st.2 ≤ bulkE st.1 + bulkE xs + (e.1.size + 1) * one (xs.foldl (putStep e) st).2 := by
    intro xs
    induction xs with
    | nil => intro st; simp [bulkE_nil]
    | cons x r ih =>
      intro st
      rw [List.foldl_cons, bulkE_cons]
      have h := ih (putStep e st x)
      have hs := putStep_bulk e st x
      omega
  have h := this xs ([], false)
  have e0 : one (([], false) : List Ent × Bool).2 = 0 := rfl
  have e1 : bulkE (([], false) : List Ent × Bool).1 = 0 := rfl
  rw [e0, e1] at h
  unfold putTo
  omega
theorem bulkE_put (xs : List Ent) (e : Ent) : bulkE (putE xs e) ≤ bulkE xs + (e.1.size + 1) := by
  have h := putTo_bulk e xs
  unfold putE
  cases h2 : (putTo e xs).2
  · rw [h2] at h
    simp only [one] at h
    simp only [Bool.false_eq_true, if_false, bulkE_app, bulkE_one] at h ⊢
    omega
  · rw [h2] at h
    simpa [one] using h
theorem wfE_put {xs : List Ent} {e : Ent} (h : wfE xs) (he : e.1.size ≤ maxLen ∧ wfI e.2) : wfE (putE xs e) := fun y hy => by
  rcases putE_mem hy with rfl | hy
  · exact he
  · exact h y hy
theorem wfE_drop {xs : List Ent} {s : ByteArray} (h : wfE xs) : wfE (dropE xs s) := fun y hy => h y (List.mem_filter.1 hy).1
theorem bulkN_app (d : D) (n : Nod) : bulkN { d with nodes := d.nodes ++ [n] } = bulkN d + (n.2.1.size + 1) := by
  unfold bulkN
  simp only [List.map_append, List.length_append, tot_app]
  simp [tot]
  omega
theorem bulkN_filter (d : D) (f : Nod → Bool) : bulkN { d with nodes := d.nodes.filter f } ≤ bulkN d := by
  unfold bulkN
  simp only [List.length_map]
  induction d.nodes with
  | nil => exact Nat.le_refl _
  | cons x r ih =>
    rw [List.filter_cons]
    split
    · simp [tot] at ih ⊢; omega
    · simp [tot] at ih ⊢; omega
theorem id_wf {xs : List Ent} {s : ByteArray} (h : wfE xs) : wfI (idE xs s) := by
  unfold idE
  induction xs with
  | nil => exact (show wfI 0 from ⟨by decide, by decide⟩)
  | cons x r ih =>
    unfold entAt
    split
    · exact (h x List.mem_cons_self).2
    · exact ih (fun y hy => h y (List.mem_cons_of_mem _ hy))

/-- how much there is of each list -/
structure Sm (K : Nat) (d : D) : Prop where
  wf : wfD d
  n : bulkN d ≤ K
  e : bulkE d.ents ≤ K
  o : bulkE d.old ≤ K
  s : d.steps.length + tot d.steps ≤ K
theorem Sm.ok {K : Nat} {d : D} (h : Sm K d) (hK : K ≤ 200000) : okD d := ⟨h.wf, by
  have h1 := h.n
  have h2 := h.e
  have h3 := h.o
  have h4 := h.s
  unfold bulk
  omega⟩
theorem Sm.mono {K L : Nat} {d : D} (h : Sm K d) (hK : K ≤ L) : Sm L d := ⟨h.wf, Nat.le_trans h.n hK, Nat.le_trans h.e hK, Nat.le_trans h.o hK, Nat.le_trans h.s hK⟩
theorem Sm.clean {K : Nat} {d : D} (h : Sm K d) : Sm K (clean d) := by
  obtain ⟨wN, wE, wO, wS, wR, wX, m1, m2, m3, m4⟩ := h.wf
  refine ⟨⟨fun n hn => wN n (List.mem_filter.1 hn).1, wE, wO, wS, wR, wX, Nat.le_trans (List.length_filter_le _ _) m1, m2, m3, m4⟩, Nat.le_trans (bulkN_filter d _) h.n, h.e, h.o, h.s⟩

/-! ### what stands in the box before the disk is cleaned -/
theorem nok_small {s : ByteArray} (h : nam.nok s = true) : s.size ≤ 20 := by
  unfold nam.nok at h
  rw [Bool.and_eq_true, decide_eq_true_eq] at h
  exact h.2.2
theorem ents_small {d : D} {l : List Ent} (h : entsOk d l = true) : l.length ≤ 16 ∧ ∀ e ∈ l, e.1.size ≤ 20 := by
  have : ∀ (l : List Ent) (p : Option ByteArray), entsFrom d p l = true → ∀ e ∈ l, e.1.size ≤ 20 := by
    intro l
    induction l with
    | nil => intro p _ e he; cases he
    | cons x r ih =>
      intro p h e he
      unfold entsFrom at h
      simp only [Bool.and_eq_true] at h
      rcases List.mem_cons.1 he with rfl | he
      · exact nok_small h.1.1.1
      · exact ih _ h.2 e he
  unfold entsOk at h
  rw [Bool.and_eq_true, decide_eq_true_eq] at h
  exact ⟨h.2, this l none h.1⟩
theorem bulkE_bound (n : Nat) : ∀ (xs : List Ent), (∀ e ∈ xs, e.1.size ≤ n) → bulkE xs ≤ (n + 1) * xs.length
  | [], _ => Nat.zero_le _
  | x :: r, h => by
    have ih := bulkE_bound n r fun e he => h e (List.mem_cons_of_mem _ he)
    have hx := h x List.mem_cons_self
    rw [bulkE_cons, List.length_cons, Nat.mul_add, Nat.mul_one]
    omega
/-- of a disk that is right -/
theorem right_ents {d : D} (h : diskOk d = true) : entsOk d d.ents = true := by
  unfold diskOk at h
  rw [Bool.and_eq_true] at h
  have h := (List.all_eq_true.1 h.2) d.steps.length (List.mem_range.2 (Nat.lt_succ_self _))
  unfold okAt at h
  cases hh : histAt d d.steps.length with
  | none => rw [hh] at h; cases h
  | some l =>
    rw [hh] at h
    simp only [Bool.and_eq_true, Bool.or_eq_true, decide_eq_true_eq] at h
    rcases h.2 with h2 | h2
    · exact absurd rfl h2
    · rw [h2] at h; exact h.1
theorem right_small {d : D} (h : diskOk d = true) : bulkE d.ents ≤ 400 := by
  obtain ⟨h1, h2⟩ := ents_small (right_ents h)
  have := bulkE_bound 20 d.ents h2
  omega
theorem right_next {d : D} (h : diskOk d = true) : 1 ≤ d.next ∧ d.next ≤ 1000000000 := by
  unfold diskOk okHead at h
  simp only [Bool.and_eq_true, decide_eq_true_eq] at h
  omega
theorem has_small {d : D} {s : ByteArray} (h : diskOk d = true) (hs : hasE d.ents s = true) : s.size ≤ 20 := by
  obtain ⟨h1, h2⟩ := ents_small (right_ents h)
  unfold hasE at hs
  have : ∀ (l : List Ent), (entAt l s).isSome = true → ∃ e ∈ l, e.1 = s := by
    intro l
    induction l with
    | nil => intro h; cases h
    | cons x r ih =>
      intro h
      unfold entAt at h
      split at h
      · rename_i e; exact ⟨x, List.mem_cons_self, e⟩
      · obtain ⟨y, hy, e⟩ := ih h; exact ⟨y, List.mem_cons_of_mem _ hy, e⟩
  obtain ⟨e, he, rfl⟩ := this d.ents hs
  exact h2 e he

/-- a disk with at most a little more -/
structure More (d x : D) : Prop where
  wf : wfD x
  n : bulkN x ≤ bulkN d + 100
  e : bulkE x.ents ≤ bulkE d.ents + 100
  o : bulkE x.old ≤ bulkE d.old + 400
  s : x.steps.length + tot x.steps ≤ d.steps.length + tot d.steps + 100
theorem More.ok {d x : D} (h : More d x) (hd : okD d) : okL x := ⟨h.wf, by
  have h1 := h.n
  have h2 := h.e
  have h3 := h.o
  have h4 := h.s
  have h5 := hd.2
  unfold bulk at h5 ⊢
  omega⟩
theorem More.sm {K : Nat} {d x : D} (h : More d x) (hd : Sm K d) : Sm (K + 400) x := ⟨h.wf, by have := h.n; have := hd.n; omega, by have := h.e; have := hd.e; omega, by have := h.o; have := hd.o; omega, by have := h.s; have := hd.s; omega⟩
def removeMid (d : D) (s : ByteArray) : D := { d with ents := dropE d.ents s, steps := d.steps ++ [minusStep s] }
theorem minus_size (s : ByteArray) : (minusStep s).size = s.size + 1 := by
  unfold minusStep
  rw [ByteArray.size_append]
  show 1 + s.size = _
  omega
theorem move_size (s t : ByteArray) : (moveStep s t).size = s.size + t.size + 2 := by
  unfold moveStep
  rw [ByteArray.size_append, ByteArray.size_append, ByteArray.size_append]
  show 1 + s.size + 1 + t.size = _
  omega
theorem plus_size (s : ByteArray) (n : Int) : (plusStep s n).size = s.size + 2 + (Lib.itoa n).length := by
  unfold plusStep
  rw [ByteArray.size_append, ByteArray.size_append, ByteArray.size_append]
  show 1 + s.size + 1 + (Lib.itoa n).toArray.size = _
  rw [List.size_toArray]
  omega
theorem steps_more (xs : List ByteArray) (s : ByteArray) : (xs ++ [s]).length + tot (xs ++ [s]) = xs.length + tot xs + (s.size + 1) := by
  rw [List.length_append, tot_app]
  simp [tot]
  omega
theorem wfS_more {xs : List ByteArray} {s : ByteArray} (h : ∀ x ∈ xs, x.size ≤ maxLen) (hs : s.size ≤ maxLen) : ∀ x ∈ xs ++ [s], x.size ≤ maxLen := fun x hx => by
  rcases List.mem_append.1 hx with hx | hx
  · exact h x hx
  · obtain rfl := List.mem_singleton.1 hx
    exact hs
theorem more_remove {d : D} {s : ByteArray} (hd : okD d) (h : s.size ≤ 20) : More d (removeMid d s) := by
  obtain ⟨wN, wE, wO, wS, wR, wX, m1, m2, m3, m4⟩ := hd.1
  have hm := minus_size s
  have hs := steps_more d.steps (minusStep s)
  have hl := (okL_lens (okD.loose hd)).2.2.2
  refine ⟨⟨wN, wfE_drop wE, wO, wfS_more wS (by unfold maxLen; omega), wR, wX, m1, Nat.le_trans (dropE_length _ _) m2, m3, ?_⟩, Nat.le_add_right _ _, ?_, Nat.le_add_right _ _, ?_⟩
  · show (d.steps ++ [minusStep s]).length ≤ maxLen
    rw [List.length_append]
    unfold maxLen
    simp
    omega
  · exact Nat.le_trans (bulkE_drop s d.ents) (Nat.le_add_right _ _)
  · show (d.steps ++ [minusStep s]).length + tot (d.steps ++ [minusStep s]) ≤ _
    omega
def renameMid (d : D) (s t : ByteArray) : D := { d with ents := putE (dropE d.ents s) (t, idE d.ents s), steps := d.steps ++ [moveStep s t] }
theorem more_rename {d : D} {s t : ByteArray} (hd : okD d) (h : s.size ≤ 20) (ht : t.size ≤ 20) : More d (renameMid d s t) := by
  obtain ⟨wN, wE, wO, wS, wR, wX, m1, m2, m3, m4⟩ := hd.1
  have hm := move_size s t
  have hs := steps_more d.steps (moveStep s t)
  have hl := okL_lens (okD.loose hd)
  have hp := putE_length (dropE d.ents s) (t, idE d.ents s)
  have hq := dropE_length d.ents s
  refine ⟨⟨wN, wfE_put (wfE_drop wE) ⟨by unfold maxLen; show t.size ≤ _; omega, id_wf wE⟩, wO, wfS_more wS (by unfold maxLen; omega), wR, wX, m1, ?_, m3, ?_⟩, Nat.le_add_right _ _, ?_, Nat.le_add_right _ _, ?_⟩
  · show (putE (dropE d.ents s) (t, idE d.ents s)).length ≤ maxLen
    unfold maxLen
    omega
  · show (d.steps ++ [moveStep s t]).length ≤ maxLen
    rw [List.length_append]
    unfold maxLen
    simp
    omega
  · have h1 := bulkE_put (dropE d.ents s) (t, idE d.ents s)
    have h2 := bulkE_drop s d.ents
    show bulkE (putE (dropE d.ents s) (t, idE d.ents s)) ≤ _
    simp only [] at h1
    omega
  · show (d.steps ++ [moveStep s t]).length + tot (d.steps ++ [moveStep s t]) ≤ _
    omega
def createMid (d : D) (s : ByteArray) : D := { d with nodes := d.nodes ++ [(d.next, { data := #[] }, 0)], ents := putE d.ents (s, d.next), steps := d.steps ++ [plusStep s d.next], next := d.next + 1 }
theorem more_create {d : D} {s : ByteArray} (hd : okD d) (h : s.size ≤ 20) (h1 : 1 ≤ d.next) (h2 : d.next ≤ 1000000000) (hi : (Lib.itoa d.next).length ≤ 20) : More d (createMid d s) := by
  obtain ⟨wN, wE, wO, wS, wR, wX, m1, m2, m3, m4⟩ := hd.1
  have hm := plus_size s d.next
  have hs := steps_more d.steps (plusStep s d.next)
  have hl := okL_lens (okD.loose hd)
  have hp := putE_length d.ents (s, d.next)
  refine ⟨⟨?_, wfE_put wE ⟨by unfold maxLen; show s.size ≤ _; omega, wX⟩, wO, wfS_more wS (by unfold maxLen; omega), wR, ⟨by show _ ≤ d.next + 1; omega, by show d.next + 1 ≤ _; omega⟩, ?_, ?_, m3, ?_⟩, ?_, ?_, Nat.le_add_right _ _, ?_⟩
  · intro n hn
    rcases List.mem_append.1 hn with hn | hn
    · exact wN n hn
    · obtain rfl := List.mem_singleton.1 hn
      exact ⟨wX, Nat.zero_le _, (show wfI 0 from ⟨by decide, by decide⟩)⟩
  · show (d.nodes ++ [_]).length ≤ maxLen
    rw [List.length_append]
    unfold maxLen
    simp
    omega
  · show (putE d.ents (s, d.next)).length ≤ maxLen
    unfold maxLen
    omega
  · show (d.steps ++ [plusStep s d.next]).length ≤ maxLen
    rw [List.length_append]
    unfold maxLen
    simp
    omega
  · have := bulkN_app d (d.next, { data := #[] }, 0)
    have e0 : ({ data := #[] } : ByteArray).size = 0 := rfl
    simp only [e0] at this
    show bulkN { d with nodes := d.nodes ++ [(d.next, { data := #[] }, 0)] } ≤ _
    omega
  · have h1 := bulkE_put d.ents (s, d.next)
    show bulkE (putE d.ents (s, d.next)) ≤ _
    simp only [] at h1
    omega
  · show (d.steps ++ [plusStep s d.next]).length + tot (d.steps ++ [plusStep s d.next]) ≤ _
    omega
def syncMid (d : D) : D := { d with old := d.ents, steps := [] }
theorem more_sync {d : D} (hd : okD d) (h : diskOk d = true) : More d (syncMid d) := by
  obtain ⟨wN, wE, wO, wS, wR, wX, m1, m2, m3, m4⟩ := hd.1
  have := right_small h
  refine ⟨⟨wN, wE, wE, (fun s hs => by cases hs), wR, wX, m1, m2, m2, Nat.zero_le _⟩, Nat.le_add_right _ _, Nat.le_add_right _ _, ?_, ?_⟩
  · show bulkE d.ents ≤ _
    omega
  · show 0 + tot [] ≤ _
    simp [tot]

end Go.Proofs.YtiehfobcbhgfkaaGreatDoor.deed

namespace Go.Proofs.YtiehfobcbhgfkaaGreatDoor.deed
set_option maxRecDepth 20000
open Go.RowKit
open kit strs recs disk kd

theorem cells_new (w : World) (v : Value) (t : TypeId) : Cells (w.alloc (.cells #[v] t)) (some ⟨w.heap.size, 0, none⟩) 1 1 [v] := by
  refine ⟨rfl, .inr ⟨w.heap.size, 0, rfl, by simp, fun j x hx => ?_⟩⟩
  rw [cell_of_row _ _ _ _ _ _ (heap_alloc_new w _)]
  simpa using hx
theorem cells_new3 (w : World) (v0 v1 v2 : Value) (t : TypeId) : Cells (w.alloc (.cells #[v0, v1, v2] t)) (some ⟨w.heap.size, 0, none⟩) 1 3 [v0, v1, v2] := by
  refine ⟨rfl, .inr ⟨w.heap.size, 0, rfl, by simp, fun j x hx => ?_⟩⟩
  rw [cell_of_row _ _ _ _ _ _ (heap_alloc_new w _)]
  simpa using hx
theorem box_six {w : World} {r : Nat} {u0 u1 u2 u3 u4 u5 : Value} (c0 c1 c2 c3 c4 c5 : Value) (h : Box w r [u0, u1, u2, u3, u4, u5]) :
    Box ((((((w.setCell ⟨r, 0, none⟩ c0).setCell ⟨r, 1, none⟩ c1).setCell ⟨r, 2, none⟩ c2).setCell ⟨r, 3, none⟩ c3).setCell ⟨r, 4, none⟩ c4).setCell ⟨r, 5, none⟩ c5) r [c0, c1, c2, c3, c4, c5] :=
  box_set (i := 5) (box_set (i := 4) (box_set (i := 3) (box_set (i := 2) (box_set (i := 1) (box_set (i := 0) h (by simp)) (by simp)) (by simp)) (by simp)) (by simp)) (by simp)
theorem below_six {B r : Nat} {w0 w : World} (c0 c1 c2 c3 c4 c5 : Value) (h : Below B w0 w) (hr : B ≤ r) :
    Below B w0 ((((((w.setCell ⟨r, 0, none⟩ c0).setCell ⟨r, 1, none⟩ c1).setCell ⟨r, 2, none⟩ c2).setCell ⟨r, 3, none⟩ c3).setCell ⟨r, 4, none⟩ c4).setCell ⟨r, 5, none⟩ c5) := by
  iterate 6 refine Below.setCell ?_ hr _
  exact h
theorem disk_six {B r : Nat} {w : World} {v : Value} {d : D} (c0 c1 c2 c3 c4 c5 : Value) (h : OwnDisk B w v d) (hr : r < B) :
    OwnDisk B ((((((w.setCell ⟨r, 0, none⟩ c0).setCell ⟨r, 1, none⟩ c1).setCell ⟨r, 2, none⟩ c2).setCell ⟨r, 3, none⟩ c3).setCell ⟨r, 4, none⟩ c4).setCell ⟨r, 5, none⟩ c5) v d := by
  iterate 6 refine disk_setOther ?_ hr
  exact h
/-- The opening: the copy lies in the box. -/
theorem desk_open {B : Nat} {w : World} {b r : Nat} {sN sE sO sS : Value} {d : D} {o0 o1 o2 o3 o4 o5 u0 u1 u2 u3 u4 u5 : Value}
    (hx : Box w b [o0, o1, o2, o3, o4, o5]) (fz : ∀ j, w.frozen? ⟨b, j, none⟩ = false) (ho : Box w r [u0, u1, u2, u3, u4, u5]) (fr : ∀ j, w.frozen? ⟨r, j, none⟩ = false)
    (hd : OwnDisk B w (.agg #[sN, sE, sO, sS, .int .i64 d.room, .int .i64 d.next]) d) (hb : b < B) (hr : r < B) (hne : b ≠ r) (hs : B ≤ w.heap.size) (B0 : Nat) (w0 : World) (h0 : Below B0 w0 w) (hb0 : B0 ≤ b) :
    ∃ X, ((((((w.setCell ⟨b, 0, none⟩ sN).setCell ⟨b, 1, none⟩ sE).setCell ⟨b, 2, none⟩ sO).setCell ⟨b, 3, none⟩ sS).setCell ⟨b, 4, none⟩ (.int .i64 d.room)).setCell ⟨b, 5, none⟩ (.int .i64 d.next)) = X ∧ Desk B X b r sN sE sO sS d ∧ Below B0 w0 X := by
  refine ⟨_, rfl, ⟨box_six _ _ _ _ _ _ hx, ?_, ⟨u0, u1, u2, u3, u4, u5, ?_⟩, ?_, disk_six _ _ _ _ _ _ hd hb, hb, hr, hne, by simpa using hs⟩, below_six _ _ _ _ _ _ h0 hb0⟩
  · iterate 6 refine frozen_set ?_
    exact fz
  · iterate 6 refine box_far ?_ hne
    exact ho
  · iterate 6 refine frozen_set ?_
    exact fr
/-- An end: what the box holds is laid into the result. -/
theorem six_ret {B r : Nat} {w : World} {d : D} {u0 u1 u2 u3 u4 u5 c0 c1 c2 c3 c4 c5 : Value} (ho : Box w r [u0, u1, u2, u3, u4, u5]) (hr : r < B)
    (hd : OwnDisk B w (.agg #[c0, c1, c2, c3, c4, c5]) d) (B0 : Nat) (w0 : World) (h0 : Below B0 w0 w) (hr0 : B0 ≤ r) :
    ∃ X, ((((((w.setCell ⟨r, 0, none⟩ c0).setCell ⟨r, 1, none⟩ c1).setCell ⟨r, 2, none⟩ c2).setCell ⟨r, 3, none⟩ c3).setCell ⟨r, 4, none⟩ c4).setCell ⟨r, 5, none⟩ c5) = X ∧ Box X r [c0, c1, c2, c3, c4, c5] ∧ OwnDisk B X (.agg #[c0, c1, c2, c3, c4, c5]) d ∧ Below B0 w0 X :=
  ⟨_, rfl, box_six _ _ _ _ _ _ ho, disk_six _ _ _ _ _ _ hd hr, below_six _ _ _ _ _ _ h0 hr0⟩
/-- the four lists of the box -/
theorem Desk.shapes {B : Nat} {w : World} {b r : Nat} {sN sE sO sS : Value} {d : D} (h : Desk B w b r sN sE sO sS d) :
    ∃ aN aE aO aS cN cE cO cS, sN = .slice aN d.nodes.length cN ∧ sE = .slice aE d.ents.length cE ∧ sO = .slice aO d.old.length cO ∧ sS = .slice aS d.steps.length cS ∧
      AtN w aN d.nodes.length d.nodes ∧ AtE w aE d.ents.length d.ents ∧ AtE w aO d.old.length d.old ∧ strs.At w aS d.steps.length d.steps := by
  obtain ⟨aN, aE, aO, aS, nN, cN, nE, cE, nO, cO, nS, cS, hv, h1, h2, h3, h4⟩ := h.own.is
  simp only [Value.agg.injEq, Array.mk.injEq, List.cons.injEq] at hv
  obtain ⟨rfl, rfl, rfl, rfl, _⟩ := hv
  obtain rfl := h1.len
  obtain rfl := h2.len
  obtain rfl := h3.len
  obtain rfl := h4.1
  exact ⟨aN, aE, aO, aS, cN, cE, cO, cS, rfl, rfl, rfl, rfl, h1, h2, h3, h4⟩
/-- while a list of the box's own grows, the boxes stay -/
theorem Desk.mid {B : Nat} {w w' : World} {b r : Nat} {sN sE sO sS u : Value} {d : D} (h : Desk B w b r sN sE sO sS d) (hu : u.ownBlock ≠ some b) (hg : w.grownBy w' u.ownBlock) :
    Box w' b [sN, sE, sO, sS, .int .i64 d.room, .int .i64 d.next] ∧ ∀ j, w'.frozen? ⟨b, j, none⟩ = false := ⟨box_grown h.box hg hu, frozen_grown h.fz h.box.1 hg hu⟩
theorem Desk.rowS {B : Nat} {w : World} {b r : Nat} {sN sE sO sS : Value} {d : D} (h : Desk B w b r sN sE sO sS d) : w.ownsRow B 9 1 sS d.steps.length (d.steps.map Value.string) := by
  obtain ⟨_, _, _, _, nN, nE, nO, nS, hv, rN, rE, rO, rS, _⟩ := h.own
  simp only [Value.agg.injEq, Array.mk.injEq, List.cons.injEq] at hv
  obtain ⟨rfl, rfl, rfl, rfl, _⟩ := hv
  have := rS.1
  rw [List.length_map, Nat.mul_one] at this
  rw [this]
  exact rS
theorem Desk.rowN {B : Nat} {w : World} {b r : Nat} {sN sE sO sS : Value} {d : D} (h : Desk B w b r sN sE sO sS d) : w.ownsRow B 87 3 sN d.nodes.length (cellsN d.nodes) := by
  obtain ⟨_, _, _, _, nN, nE, nO, nS, hv, rN, rE, rO, rS, _⟩ := h.own
  simp only [Value.agg.injEq, Array.mk.injEq, List.cons.injEq] at hv
  obtain ⟨rfl, rfl, rfl, rfl, _⟩ := hv
  have := rN.1
  rw [cellsN_len] at this
  have e : d.nodes.length = nN := by omega
  rw [e]
  exact rN
theorem one_str (s : ByteArray) : ∀ u ∈ ([.string s] : List Value), u.oneCell' = true := by simp [Value.oneCell']
theorem own_slices {B : Nat} {w : World} {u : Value} {d : D} (h : OwnDisk B w u d) : ∃ aN aE aO aS cN cE cO cS, u = .agg #[.slice aN d.nodes.length cN, .slice aE d.ents.length cE, .slice aO d.old.length cO, .slice aS d.steps.length cS, .int .i64 d.room, .int .i64 d.next] := by
  obtain ⟨aN, aE, aO, aS, nN, cN, nE, cE, nO, cO, nS, cS, rfl, h1, h2, h3, h4⟩ := h.is
  obtain rfl := h1.len
  obtain rfl := h2.len
  obtain rfl := h3.len
  obtain rfl := h4.1
  exact ⟨_, _, _, _, _, _, _, _, rfl⟩
theorem Desk.atE {B : Nat} {w : World} {b r : Nat} {sN sO sS : Value} {a : Option Addr} {n c : Nat} {d : D} (h : Desk B w b r sN (.slice a n c) sO sS d) : AtE w a n d.ents := by
  obtain ⟨aN, aE, aO, aS, nN, cN, nE, cE, nO, cO, nS, cS, hv, h1, h2, h3, h4⟩ := h.own.is
  simp only [Value.agg.injEq, Array.mk.injEq, List.cons.injEq, Value.slice.injEq] at hv
  obtain ⟨rfl, ⟨rfl, rfl, rfl⟩, _⟩ := hv
  exact h2
theorem Desk.setO {B : Nat} {w w' : World} {b r : Nat} {sN sE sO sS : Value} {d : D} {u : Value} {es : List Ent} (h : Desk B w b r sN sE sO sS d) (hb : Below w.heap.size w w') (hu : OwnE w.heap.size w' u es) :
    Desk B (w'.setCell ⟨b, 2, none⟩ u) b r sN sE u sS { d with old := es } := by
  have hB := h.size
  have h' := h.below hb
  obtain ⟨u0, u1, u2, u3, u4, u5, ho⟩ := h'.out
  obtain ⟨q, hu⟩ := hu
  obtain ⟨_, _, _, _, nN, nE, nO, nS, hv, rN, rE, rO, rS, o1, o2, o3, o4, o5, o6⟩ := h.own
  simp only [Value.agg.injEq, Array.mk.injEq, List.cons.injEq] at hv
  obtain ⟨rfl, rfl, rfl, rfl, _⟩ := hv
  have hu' := own_base hu hB
  exact ⟨box_set h'.box (by simp), frozen_set h'.fz, ⟨u0, u1, u2, u3, u4, u5, box_far ho h.ne⟩, frozen_set h'.fr,
    disk_setOther ⟨_, _, _, _, nN, nE, q, nS, rfl, own_below rN hb, own_below rE hb, hu', own_below rS hb, o1, off_of rN hu (Nat.le_refl _), o3, off_of rE hu (Nat.le_refl _), o5, off_symm (off_of rS hu (Nat.le_refl _))⟩ h.hb, h.hb, h.hr, h.ne, by simpa using h'.size⟩
/-- No steps: a new list of none. -/
theorem Desk.setS0 {B : Nat} {w w' : World} {b r : Nat} {sN sE sO sS : Value} {d : D} {u : Value} (h : Desk B w b r sN sE sO sS d) (hb : Below w.heap.size w w') (hu : w'.ownsRow w.heap.size 9 1 u 0 []) :
    Desk B (w'.setCell ⟨b, 3, none⟩ u) b r sN sE sO u { d with steps := [] } := by
  have hB := h.size
  have h' := h.below hb
  obtain ⟨u0, u1, u2, u3, u4, u5, ho⟩ := h'.out
  obtain ⟨_, _, _, _, nN, nE, nO, nS, hv, rN, rE, rO, rS, o1, o2, o3, o4, o5, o6⟩ := h.own
  simp only [Value.agg.injEq, Array.mk.injEq, List.cons.injEq] at hv
  obtain ⟨rfl, rfl, rfl, rfl, _⟩ := hv
  have hu' := own_base hu hB
  exact ⟨box_set h'.box (by simp), frozen_set h'.fz, ⟨u0, u1, u2, u3, u4, u5, box_far ho h.ne⟩, frozen_set h'.fr,
    disk_setOther ⟨_, _, _, _, nN, nE, nO, 0, rfl, own_below rN hb, own_below rE hb, own_below rO hb, hu', o1, o2, off_of rN hu (Nat.le_refl _), o4, off_of rE hu (Nat.le_refl _), off_of rO hu (Nat.le_refl _)⟩ h.hb, h.hb, h.hr, h.ne, by simpa using h'.size⟩
/-- Nodes that an append has made out of the disk's own are put into the box. -/
theorem Desk.setN {B n : Nat} {w w' : World} {b r : Nat} {sN sE sO sS : Value} {d : D} {u : Value} {ns : List Nod} (h : Desk B w b r sN sE sO sS d) (hg : w.grownBy w' sN.ownBlock) (hu : w'.ownsRow B 87 3 u n (cellsN ns)) :
    Desk B (w'.setCell ⟨b, 0, none⟩ u) b r u sE sO sS { d with nodes := ns } := by
  obtain ⟨u0, u1, u2, u3, u4, u5, ho⟩ := h.out
  obtain ⟨_, _, _, _, nN, nE, nO, nS, hv, rN, rE, rO, rS, o1, o2, o3, o4, o5, o6⟩ := h.own
  simp only [Value.agg.injEq, Array.mk.injEq, List.cons.injEq] at hv
  obtain ⟨rfl, rfl, rfl, rfl, _⟩ := hv
  have rE' := own_grown rE hg (off_symm o1)
  have rO' := own_grown rO hg (off_symm o2)
  have rS' := own_grown rS hg (off_symm o3)
  have fb := own_not rN h.hb
  have gr := own_not rN h.hr
  exact ⟨box_set (box_grown h.box hg fb) (by simp), frozen_set (frozen_grown h.fz h.box.1 hg fb), ⟨u0, u1, u2, u3, u4, u5, box_far (box_grown ho hg gr) h.ne⟩, frozen_set (frozen_grown h.fr ho.1 hg gr),
    disk_setOther ⟨_, _, _, _, n, nE, nO, nS, rfl, hu, rE', rO', rS', off_type hu rE' (by decide), off_type hu rO' (by decide), off_type hu rS' (by decide), o4, o5, o6⟩ h.hb, h.hb, h.hr, h.ne, by simpa using Nat.le_trans h.size hg.size⟩
/-- Another number that the next node will have. -/
theorem Desk.setX {B : Nat} {w : World} {b r : Nat} {sN sE sO sS : Value} {d : D} {x : Int} (h : Desk B w b r sN sE sO sS d) :
    Desk B (w.setCell ⟨b, 5, none⟩ (.int .i64 x)) b r sN sE sO sS { d with next := x } := by
  obtain ⟨u0, u1, u2, u3, u4, u5, ho⟩ := h.out
  obtain ⟨_, _, _, _, nN, nE, nO, nS, hv, rN, rE, rO, rS, o⟩ := h.own
  simp only [Value.agg.injEq, Array.mk.injEq, List.cons.injEq] at hv
  obtain ⟨rfl, rfl, rfl, rfl, _⟩ := hv
  exact ⟨box_set h.box (by simp), frozen_set h.fz, ⟨u0, u1, u2, u3, u4, u5, box_far ho h.ne⟩, frozen_set h.fr,
    disk_setOther ⟨_, _, _, _, nN, nE, nO, nS, rfl, rN, rE, rO, rS, o⟩ h.hb, h.hb, h.hr, h.ne, by simpa using h.size⟩
theorem cellsN_text : ∀ (xs : List Nod) (k : Nat) (n : Nod) (t : ByteArray), xs[k]? = some n → (cellsN xs).set (k * 3 + 1) (.string t) = cellsN (xs.set k (n.1, t, n.2.2))
  | [], k, n, t, h => by simp at h
  | x :: r, 0, n, t, h => by
    obtain rfl : x = n := by simpa using h
    simp [cellsN]
  | x :: r, k + 1, n, t, h => by
    have ih := cellsN_text r k n t (by simpa using h)
    have e : cellsN (x :: r) = [.int .i64 x.1, .string x.2.1, .int .i64 x.2.2] ++ cellsN r := by simp [cellsN]
    have e2 : cellsN ((x :: r).set (k + 1) (n.1, t, n.2.2)) = [.int .i64 x.1, .string x.2.1, .int .i64 x.2.2] ++ cellsN (r.set k (n.1, t, n.2.2)) := by simp [cellsN]
    rw [e, e2, ← ih, List.set_append_right _ _ (by simp; omega)]
    congr 2
    simp
    omega
theorem cellsN_sure : ∀ (xs : List Nod) (k : Nat) (n : Nod) (j : Int), xs[k]? = some n → (cellsN xs).set (k * 3 + 2) (.int .i64 j) = cellsN (xs.set k (n.1, n.2.1, j))
  | [], k, n, t, h => by simp at h
  | x :: r, 0, n, t, h => by
    obtain rfl : x = n := by simpa using h
    simp [cellsN]
  | x :: r, k + 1, n, j, h => by
    have ih := cellsN_sure r k n j (by simpa using h)
    have e : cellsN (x :: r) = [.int .i64 x.1, .string x.2.1, .int .i64 x.2.2] ++ cellsN r := by simp [cellsN]
    have e2 : cellsN ((x :: r).set (k + 1) (n.1, n.2.1, j)) = [.int .i64 x.1, .string x.2.1, .int .i64 x.2.2] ++ cellsN (r.set k (n.1, n.2.1, j)) := by simp [cellsN]
    rw [e, e2, ← ih, List.set_append_right _ _ (by simp; omega)]
    congr 2
    simp
    omega
def DeedR (r : D × Int) (w : World) (e : Ending) (w' : World) : Prop := ∃ u, e = .returned (.tuple #[u, .int .i64 r.2]) ∧ OwnDisk w.heap.size w' u r.1 ∧ Below w.heap.size w w'

end Go.Proofs.YtiehfobcbhgfkaaGreatDoor.deed

namespace Go.Proofs.YtiehfobcbhgfkaaGreatDoor.deed
set_option maxRecDepth 20000
open Go.RowKit
open kit strs recs disk kd

/-- of a disk that is right: a name that is there has a node -/
theorem right_node {d : D} {s : ByteArray} (h : diskOk d = true) (hs : hasE d.ents s = true) : ∃ k nd, nodeIx d.nodes (idE d.ents s) = some k ∧ d.nodes[k]? = some nd := by
  have h1 := right_ents h
  unfold entsOk at h1
  rw [Bool.and_eq_true] at h1
  have : ∀ (l : List Ent) (p : Option ByteArray), entsFrom d p l = true → ∀ i, entAt l s = some i → (nodeIx d.nodes i).isSome = true := by
    intro l
    induction l with
    | nil => intro p _ i hi; cases hi
    | cons x r ih =>
      intro p h i hi
      unfold entsFrom at h
      simp only [Bool.and_eq_true] at h
      unfold entAt at hi
      split at hi
      · cases hi
        exact h.1.1.2
      · exact ih _ h.2 i hi
  unfold hasE at hs
  unfold idE
  cases he : entAt d.ents s with
  | none => rw [he] at hs; cases hs
  | some i =>
    have h2 := this d.ents none h1.1 i he
    cases hk : nodeIx d.nodes i with
    | none => rw [hk] at h2; cases h2
    | some k =>
      obtain ⟨nd, hx, _⟩ := nodeIx_lt _ _ _ hk
      exact ⟨k, nd, by simpa using hk, hx⟩
theorem nodeK_is {d : D} {s : ByteArray} {k : Nat} (h : nodeIx d.nodes (idE d.ents s) = some k) : nodeK d s = k := by unfold nodeK; rw [h]; rfl
theorem nodeN_is {d : D} {s : ByteArray} {k : Nat} {nd : Nod} (h : nodeIx d.nodes (idE d.ents s) = some k) (hx : d.nodes[k]? = some nd) : nodeN d s = nd := by unfold nodeN; rw [nodeK_is h, hx]; rfl
theorem Desk.atN {B : Nat} {w : World} {b r : Nat} {sE sO sS : Value} {a : Option Addr} {n c : Nat} {d : D} (h : Desk B w b r (.slice a n c) sE sO sS d) : AtN w a n d.nodes := by
  obtain ⟨aN, aE, aO, aS, nN, cN, nE, cE, nO, cO, nS, cS, hv, h1, h2, h3, h4⟩ := h.own.is
  simp only [Value.agg.injEq, Array.mk.injEq, List.cons.injEq, Value.slice.injEq] at hv
  obtain ⟨⟨rfl, rfl, rfl⟩, _⟩ := hv
  exact h1
/-- A cell of a node is written: the nodes that the cells then say are laid. -/
theorem Desk.node {B : Nat} {w : World} {b r g c : Nat} {sE sO sS u : Value} {d : D} {ns : List Nod} {j : Nat} (h : Desk B w b r (.slice (some ⟨g, 0, none⟩) d.nodes.length c) sE sO sS d) (hc : (cellsN d.nodes).set j u = cellsN ns) :
    Desk B (w.setCell ⟨g, j, none⟩ u) b r (.slice (some ⟨g, 0, none⟩) d.nodes.length c) sE sO sS { d with nodes := ns } := by
  obtain ⟨u0, u1, u2, u3, u4, u5, ho⟩ := h.out
  have rN0 := h.rowN
  obtain ⟨_, _, _, _, nN, nE, nO, nS, hv, rN, rE, rO, rS, o1, o2, o3, o4, o5, o6⟩ := h.own
  simp only [Value.agg.injEq, Array.mk.injEq, List.cons.injEq] at hv
  obtain ⟨rfl, rfl, rfl, rfl, _⟩ := hv
  have hgb : g ≠ b := fun e => own_not rN0 h.hb (by rw [e]; rfl)
  have hgr : g ≠ r := fun e => own_not rN0 h.hr (by rw [e]; rfl)
  have hs := (rN0.stored j u).1
  rw [hc] at hs
  exact ⟨box_far h.box hgb, frozen_set h.fz, ⟨u0, u1, u2, u3, u4, u5, box_far ho hgr⟩, frozen_set h.fr,
    ⟨_, _, _, _, d.nodes.length, nE, nO, nS, rfl, hs, own_setOther rE _ _ _ (o1 g rfl), own_setOther rO _ _ _ (o2 g rfl), own_setOther rS _ _ _ (o3 g rfl), o1, o2, o3, o4, o5, o6⟩, h.hb, h.hr, h.ne, by simpa using h.size⟩
set_option maxHeartbeats 8000000 in
set_option maxRecDepth 100000 in
theorem specSync (v : Value) (d : D) (s : ByteArray) (w : World) (hk : okD d) (hv : IsDisk w v d) :
    Calls Tryz.prog 184 #[v, .string s] w (DeedR (syncFile d s) w) := by
  have hv0 := hv
  obtain ⟨aN, aE, aO, aS, nN, cN, nE, cE, nO, cO, nS, cS, rfl, _, _, _, _⟩ := hv0
  obtain ⟨W, hW⟩ : ∃ W, W = (w.alloc (.cells #[.slice aN nN cN, .slice aE nE cE, .slice aO nO cO, .slice aS nS cS, .int .i64 d.room, .int .i64 d.next] 28)).alloc (.cells #[.slice none 0 0, .slice none 0 0, .slice none 0 0, .slice none 0 0, .int .i64 0, .int .i64 0] 28) := ⟨_, rfl⟩
  have hWB : Below w.heap.size w W := by rw [hW]; exact ((Below.refl _ _).alloc (Nat.le_refl _) _).alloc (by simp) _
  have hWs : w.heap.size + 1 < W.heap.size ∧ W.heap.size = w.heap.size + 1 + 1 := by rw [hW]; simp
  have bx := show disk.Box W w.heap.size [.slice aN nN cN, .slice aE nE cE, .slice aO nO cO, .slice aS nS cS, .int .i64 d.room, .int .i64 d.next] from by rw [hW]; exact (Box.new _ #[.slice aN nN cN, .slice aE nE cE, .slice aO nO cO, .slice aS nS cS, .int .i64 d.room, .int .i64 d.next] _).below ((Below.refl _ _).alloc (Nat.le_refl _) _)
  have br := show disk.Box W (w.heap.size + 1) [.slice none 0 0, .slice none 0 0, .slice none 0 0, .slice none 0 0, .int .i64 0, .int .i64 0] from by
    have h := Box.new (w.alloc (.cells #[.slice aN nN cN, .slice aE nE cE, .slice aO nO cO, .slice aS nS cS, .int .i64 d.room, .int .i64 d.next] 28)) #[.slice none 0 0, .slice none 0 0, .slice none 0 0, .slice none 0 0, .int .i64 0, .int .i64 0] 28
    rw [hW]
    simpa using h
  have fz : ∀ j, W.frozen? ⟨w.heap.size, j, none⟩ = false := fun j => by rw [hW]; simp
  have fr : ∀ j, W.frozen? ⟨w.heap.size + 1, j, none⟩ = false := fun j => by rw [hW]; simp
  have x0 := bx.at 0 _ rfl
  have x1 := bx.at 1 _ rfl
  have x2 := bx.at 2 _ rfl
  have x3 := bx.at 3 _ rfl
  have x4 := bx.at 4 _ rfl
  have x5 := bx.at 5 _ rfl
  have CC := Lib.hid (specCopy _ d W (okD.loose hk) (hv.below hWB))
  have BX := Lib.hid bx
  have BR := Lib.hid br
  have FZ := Lib.hid fz
  have FR := Lib.hid fr
  have HB := Lib.hid hWB
  have HK := Lib.hid hk
  have HWs := Lib.hid hWs
  obtain ⟨R, hR⟩ : ∃ R, R = syncFile d s := ⟨_, rfl⟩
  rw [← hR]
  have HR := Lib.hid hR
  have hl := okL_lens (okD.loose hk)
  have LL := Lib.hid (show d.nodes.length ≤ 1500000 ∧ d.ents.length ≤ 1500000 ∧ d.old.length ≤ 1500000 ∧ d.steps.length ≤ 1500000 from hl)
  have ME := Lib.hid (show d.ents.length ≤ maxLen by unfold maxLen; omega)
  clear bx br fz fr hWB hk hv hR hl
  go_enter Tryz.func184, Tryz.ntmps184
  go_wp2_with (fail)
  rw [← hW]
  clear hW hWs
  refine CC.out.mono ?_
  rintro e w1 ⟨u, rfl, hd, hb1⟩
  obtain ⟨aN1, aE1, aO1, aS1, cN1, cE1, cO1, cS1, rfl⟩ := own_slices hd
  have bx1 := BX.out.below hb1
  have y0 := bx1.at 0 _ rfl
  have y1 := bx1.at 1 _ rfl
  have y2 := bx1.at 2 _ rfl
  have y3 := bx1.at 3 _ rfl
  have y4 := bx1.at 4 _ rfl
  have y5 := bx1.at 5 _ rfl
  have fz1 := frozen_below FZ.out BX.out.1 hb1
  obtain ⟨X, hX, DK, hBX⟩ := desk_open bx1 fz1 (BR.out.below hb1) (frozen_below FR.out BR.out.1 hb1) hd (by have := HWs.out; omega) HWs.out.1 (by omega) hb1.size w.heap.size w (HB.out.trans (hb1.mono HB.out.size)) (Nat.le_refl _)
  have CK := Lib.hid (specDiskOk _ d X (okD.loose HK.out) DK.own.is)
  have DKH := Lib.hid DK
  have HBX := Lib.hid hBX
  have HX := Lib.hid hX
  clear hd hb1 bx1 x0 x1 x2 x3 x4 x5 DK hBX hX
  go_wp2_with (fail)
  rw [HX.out]
  clear HX y0 y1 y2 y3 y4 y5 fz1
  refine CK.out.mono ?_
  rintro e w2 ⟨rfl, hb2⟩
  have D2 := Lib.hid (DKH.out.below hb2)
  have B2 := Lib.hid (HBX.out.trans (hb2.mono HBX.out.size))
  clear hb2
  have x0 := D2.out.box.at 0 _ rfl
  have x1 := D2.out.box.at 1 _ rfl
  have x2 := D2.out.box.at 2 _ rfl
  have x3 := D2.out.box.at 3 _ rfl
  have x4 := D2.out.box.at 4 _ rfl
  have x5 := D2.out.box.at 5 _ rfl
  cases hdk : diskOk d with
  | false =>
    have HZ := Lib.hid (show R = (d, 3) by rw [HR.out]; unfold syncFile; rw [if_pos (.inl hdk)])
    obtain ⟨u0, u1, u2, u3, u4, u5, ho⟩ := D2.out.out
    have q0 := ho.at 0 _ rfl
    have q1 := ho.at 1 _ rfl
    have q2 := ho.at 2 _ rfl
    have q3 := ho.at 3 _ rfl
    have q4 := ho.at 4 _ rfl
    have q5 := ho.at 5 _ rfl
    have fr2 := D2.out.fr
    obtain ⟨Z, hZ, hbz, hdz, hlz⟩ := six_ret ho D2.out.hr D2.out.own w.heap.size w B2.out (Nat.le_succ _)
    have z0 := hbz.at 0 _ rfl
    have z1 := hbz.at 1 _ rfl
    have z2 := hbz.at 2 _ rfl
    have z3 := hbz.at 3 _ rfl
    have z4 := hbz.at 4 _ rfl
    have z5 := hbz.at 5 _ rfl
    have HZ2 := Lib.hid hZ
    clear hbz ho hZ
    go_wp2
    rw [HZ2.out]
    refine bodyPost_ret (v := .tuple #[.agg #[.slice aN1 d.nodes.length cN1, .slice aE1 d.ents.length cE1, .slice aO1 d.old.length cO1, .slice aS1 d.steps.length cS1, .int .i64 d.room, .int .i64 d.next], .int .i64 3]) (by simp [results, Tryz.results184, go_sem, z0, z1, z2, z3, z4, z5]) rfl ⟨_, by rw [HZ.out], by rw [HZ.out]; exact hdz.base HB.out.size, by first | exact hlz | exact hlz.drew⟩
  | true =>
    go_wp2_with (fail)
    refine (specHas aE1 cE1 d.ents.length d.ents s w2 ME.out D2.out.atE).mono ?_
    rintro e w3 ⟨rfl, rfl⟩
    cases hh : hasE d.ents s with
    | false =>
      have HZ := Lib.hid (show R = (d, 3) by rw [HR.out]; unfold syncFile; rw [if_pos (.inr hh)])
      obtain ⟨u0, u1, u2, u3, u4, u5, ho⟩ := D2.out.out
      have q0 := ho.at 0 _ rfl
      have q1 := ho.at 1 _ rfl
      have q2 := ho.at 2 _ rfl
      have q3 := ho.at 3 _ rfl
      have q4 := ho.at 4 _ rfl
      have q5 := ho.at 5 _ rfl
      have fr2 := D2.out.fr
      obtain ⟨Z, hZ, hbz, hdz, hlz⟩ := six_ret ho D2.out.hr D2.out.own w.heap.size w B2.out (Nat.le_succ _)
      have z0 := hbz.at 0 _ rfl
      have z1 := hbz.at 1 _ rfl
      have z2 := hbz.at 2 _ rfl
      have z3 := hbz.at 3 _ rfl
      have z4 := hbz.at 4 _ rfl
      have z5 := hbz.at 5 _ rfl
      have HZ2 := Lib.hid hZ
      clear hbz ho hZ
      go_wp2
      rw [HZ2.out]
      refine bodyPost_ret (v := .tuple #[.agg #[.slice aN1 d.nodes.length cN1, .slice aE1 d.ents.length cE1, .slice aO1 d.old.length cO1, .slice aS1 d.steps.length cS1, .int .i64 d.room, .int .i64 d.next], .int .i64 3]) (by simp [results, Tryz.results184, go_sem, z0, z1, z2, z3, z4, z5]) rfl ⟨_, by rw [HZ.out], by rw [HZ.out]; exact hdz.base HB.out.size, by first | exact hlz | exact hlz.drew⟩
    | true =>
      obtain ⟨k, nd, hk, hx⟩ := right_node hdk hh
      have HG := Lib.hid (show R = (setNode d k (nd.1, nd.2.1, (nd.2.1.size : Int)), 0) by rw [HR.out]; unfold syncFile; rw [if_neg (by rw [hdk, hh]; simp), nodeK_is hk, nodeN_is hk hx])
      have HK2 := Lib.hid hk
      have HX := Lib.hid hx
      have zb := D2.out.box.1
      have M1 := Lib.hid HK.out.1.2.2.2.2.2.2.1
      clear hdk hh hk hx
      go_wp2
      go_region_held3 (fun w' => w'.cell? ⟨w.heap.size, 0, none⟩ = some (.slice aN1 d.nodes.length cN1) ∧ w'.cell? ⟨w.heap.size, 1, none⟩ = some (.slice aE1 d.ents.length cE1) ∧ w'.cell? ⟨w.heap.size, 2, none⟩ = some (.slice aO1 d.old.length cO1) ∧ w'.cell? ⟨w.heap.size, 3, none⟩ = some (.slice aS1 d.steps.length cS1) ∧ w'.cell? ⟨w.heap.size, 4, none⟩ = some (.int .i64 d.room) ∧ w'.cell? ⟨w.heap.size, 5, none⟩ = some (.int .i64 d.next)) (first | exact ⟨x0, x1, x2, x3, x4, x5⟩ | exact ⟨D3.out.box.at 0 _ rfl, D3.out.box.at 1 _ rfl, D3.out.box.at 2 _ rfl, D3.out.box.at 3 _ rfl, D3.out.box.at 4 _ rfl, D3.out.box.at 5 _ rfl⟩) (first | (go_at_call 75; refine (specEntryAt aE1 cE1 d.ents.length d.ents s _ ME.out ?_).mono ?_; exact D2.out.atE; rintro e w3 ⟨rfl, rfl⟩) | (go_at_call 74; refine (specNode _ d (idE d.ents s) _ M1.out ?_).mono ?_; exact D2.out.own.is; rintro e w3 ⟨rfl, hb3⟩; have hbW := (Below.refl w2.heap.size w2).drew.trans hb3; have D3 := Lib.hid (D2.out.below hbW); have B3 := Lib.hid (B2.out.trans (hbW.mono B2.out.size))))
      rw [HK2.out]
      rw [show ixI (some k) = (k : Int) from rfl]
      clear x0 x1 x2 x3 x4 x5 hb3 hbW
      have x0 := D3.out.box.at 0 _ rfl
      obtain ⟨gi, hgi, hge, hgl⟩ : ∃ g, aN1 = some ⟨g, 0, none⟩ ∧ W.heap.size ≤ g ∧ g < w3.heap.size := by
        obtain ⟨a, c, he, _, h0⟩ := own_shape D3.out.rowN
        simp only [Value.slice.injEq] at he
        obtain ⟨rfl, _⟩ := he
        exact h0.resolve_left (by have := (List.getElem?_eq_some_iff.1 HX.out).1; omega)
      subst hgi
      obtain ⟨gj, oj, hgj, _, hkl, c0, c1, c2⟩ := D3.out.atN.nth HX.out
      obtain ⟨rfl, rfl⟩ : gi = gj ∧ 0 = oj := by simpa using hgj
      rw [Nat.zero_add] at c0 c1 c2
      have f1 := D3.out.rowN.frozenAt (k * 3 + 1)
      have f2 := D3.out.rowN.frozenAt (k * 3 + 2)
      have i0 : (0 : Int) ≤ (k : Int) := by omega
      have i1 : (k : Int) < (d.nodes.length : Int) := by omega
      have hge2 : w.heap.size ≤ gi := Nat.le_trans HB.out.size hge
      obtain ⟨Y, hY, D5, B5⟩ : ∃ Y, w3.setCell ⟨gi, k * 3 + 2, none⟩ (.int .i64 (nd.2.1.size : Int)) = Y ∧ Desk W.heap.size Y w.heap.size (w.heap.size + 1) (.slice (some ⟨gi, 0, none⟩) d.nodes.length cN1) (.slice aE1 d.ents.length cE1) (.slice aO1 d.old.length cO1) (.slice aS1 d.steps.length cS1) { d with nodes := d.nodes.set k (nd.1, nd.2.1, (nd.2.1.size : Int)) } ∧ Below w.heap.size w Y := ⟨_, rfl, D3.out.node (cellsN_sure _ _ _ _ HX.out), B3.out.setCell hge2 _⟩
      have HY := Lib.hid hY
      have D5 := Lib.hid D5
      have B5 := Lib.hid B5
      clear hY
      go_wp2
      go_region
      rw [HY.out]
      clear x0 c0 c1 c2 f1 f2
      have x0 := D5.out.box.at 0 _ rfl
      have x1 := D5.out.box.at 1 _ rfl
      have x2 := D5.out.box.at 2 _ rfl
      have x3 := D5.out.box.at 3 _ rfl
      have x4 := D5.out.box.at 4 _ rfl
      have x5 := D5.out.box.at 5 _ rfl
      have HZ := Lib.hid (show R = (setNode d k (nd.1, nd.2.1, (nd.2.1.size : Int)), 0) by exact HG.out)
      obtain ⟨u0, u1, u2, u3, u4, u5, ho⟩ := D5.out.out
      have q0 := ho.at 0 _ rfl
      have q1 := ho.at 1 _ rfl
      have q2 := ho.at 2 _ rfl
      have q3 := ho.at 3 _ rfl
      have q4 := ho.at 4 _ rfl
      have q5 := ho.at 5 _ rfl
      have fr2 := D5.out.fr
      obtain ⟨Z, hZ, hbz, hdz, hlz⟩ := six_ret ho D5.out.hr D5.out.own w.heap.size w B5.out (Nat.le_succ _)
      have z0 := hbz.at 0 _ rfl
      have z1 := hbz.at 1 _ rfl
      have z2 := hbz.at 2 _ rfl
      have z3 := hbz.at 3 _ rfl
      have z4 := hbz.at 4 _ rfl
      have z5 := hbz.at 5 _ rfl
      have HZ2 := Lib.hid hZ
      clear hbz ho hZ
      go_wp2
      rw [HZ2.out]
      refine bodyPost_ret (v := .tuple #[.agg #[.slice (some ⟨gi, 0, none⟩) d.nodes.length cN1, .slice aE1 d.ents.length cE1, .slice aO1 d.old.length cO1, .slice aS1 d.steps.length cS1, .int .i64 d.room, .int .i64 d.next], .int .i64 0]) (by simp [results, Tryz.results184, go_sem, z0, z1, z2, z3, z4, z5]) rfl ⟨_, by rw [HZ.out], by rw [HZ.out]; exact hdz.base HB.out.size, by first | exact hlz | exact hlz.drew⟩

end Go.Proofs.YtiehfobcbhgfkaaGreatDoor.deed

namespace Go.Proofs.YtiehfobcbhgfkaaGreatDoor.deed
set_option maxRecDepth 20000
open Go.RowKit
open kit strs recs disk kd

theorem right_room {d : D} (h : diskOk d = true) : (usedOn d : Int) ≤ d.room ∧ 0 ≤ d.room ∧ d.room ≤ 1000000000 := by
  unfold diskOk okHead at h
  simp only [Bool.and_eq_true, decide_eq_true_eq] at h
  omega

set_option maxHeartbeats 8000000 in
set_option maxRecDepth 100000 in
theorem specAppend (v : Value) (d : D) (s t : ByteArray) (w : World) (hk : okD d) (ht : t.size ≤ 1000000000) (hv : IsDisk w v d) :
    Calls Tryz.prog 30 #[v, .string s, .string t] w (DeedR (appendFile d s t) w) := by
  have hv0 := hv
  obtain ⟨aN, aE, aO, aS, nN, cN, nE, cE, nO, cO, nS, cS, rfl, _, _, _, _⟩ := hv0
  obtain ⟨W, hW⟩ : ∃ W, W = (w.alloc (.cells #[.slice aN nN cN, .slice aE nE cE, .slice aO nO cO, .slice aS nS cS, .int .i64 d.room, .int .i64 d.next] 28)).alloc (.cells #[.slice none 0 0, .slice none 0 0, .slice none 0 0, .slice none 0 0, .int .i64 0, .int .i64 0] 28) := ⟨_, rfl⟩
  have hWB : Below w.heap.size w W := by rw [hW]; exact ((Below.refl _ _).alloc (Nat.le_refl _) _).alloc (by simp) _
  have hWs : w.heap.size + 1 < W.heap.size ∧ W.heap.size = w.heap.size + 1 + 1 := by rw [hW]; simp
  have bx := show disk.Box W w.heap.size [.slice aN nN cN, .slice aE nE cE, .slice aO nO cO, .slice aS nS cS, .int .i64 d.room, .int .i64 d.next] from by rw [hW]; exact (Box.new _ #[.slice aN nN cN, .slice aE nE cE, .slice aO nO cO, .slice aS nS cS, .int .i64 d.room, .int .i64 d.next] _).below ((Below.refl _ _).alloc (Nat.le_refl _) _)
  have br := show disk.Box W (w.heap.size + 1) [.slice none 0 0, .slice none 0 0, .slice none 0 0, .slice none 0 0, .int .i64 0, .int .i64 0] from by
    have h := Box.new (w.alloc (.cells #[.slice aN nN cN, .slice aE nE cE, .slice aO nO cO, .slice aS nS cS, .int .i64 d.room, .int .i64 d.next] 28)) #[.slice none 0 0, .slice none 0 0, .slice none 0 0, .slice none 0 0, .int .i64 0, .int .i64 0] 28
    rw [hW]
    simpa using h
  have fz : ∀ j, W.frozen? ⟨w.heap.size, j, none⟩ = false := fun j => by rw [hW]; simp
  have fr : ∀ j, W.frozen? ⟨w.heap.size + 1, j, none⟩ = false := fun j => by rw [hW]; simp
  have x0 := bx.at 0 _ rfl
  have x1 := bx.at 1 _ rfl
  have x2 := bx.at 2 _ rfl
  have x3 := bx.at 3 _ rfl
  have x4 := bx.at 4 _ rfl
  have x5 := bx.at 5 _ rfl
  have CC := Lib.hid (specCopy _ d W (okD.loose hk) (hv.below hWB))
  have BX := Lib.hid bx
  have BR := Lib.hid br
  have FZ := Lib.hid fz
  have FR := Lib.hid fr
  have HB := Lib.hid hWB
  have HK := Lib.hid hk
  have HWs := Lib.hid hWs
  obtain ⟨R, hR⟩ : ∃ R, R = appendFile d s t := ⟨_, rfl⟩
  rw [← hR]
  have HR := Lib.hid hR
  have hl := okL_lens (okD.loose hk)
  have LL := Lib.hid (show d.nodes.length ≤ 1500000 ∧ d.ents.length ≤ 1500000 ∧ d.old.length ≤ 1500000 ∧ d.steps.length ≤ 1500000 from hl)
  have ME := Lib.hid (show d.ents.length ≤ maxLen by unfold maxLen; omega)
  clear bx br fz fr hWB hk hv hR hl
  go_enter Tryz.func30, Tryz.ntmps30
  go_wp2_with (fail)
  rw [← hW]
  clear hW hWs
  refine CC.out.mono ?_
  rintro e w1 ⟨u, rfl, hd, hb1⟩
  obtain ⟨aN1, aE1, aO1, aS1, cN1, cE1, cO1, cS1, rfl⟩ := own_slices hd
  have bx1 := BX.out.below hb1
  have y0 := bx1.at 0 _ rfl
  have y1 := bx1.at 1 _ rfl
  have y2 := bx1.at 2 _ rfl
  have y3 := bx1.at 3 _ rfl
  have y4 := bx1.at 4 _ rfl
  have y5 := bx1.at 5 _ rfl
  have fz1 := frozen_below FZ.out BX.out.1 hb1
  obtain ⟨X, hX, DK, hBX⟩ := desk_open bx1 fz1 (BR.out.below hb1) (frozen_below FR.out BR.out.1 hb1) hd (by have := HWs.out; omega) HWs.out.1 (by omega) hb1.size w.heap.size w (HB.out.trans (hb1.mono HB.out.size)) (Nat.le_refl _)
  have CK := Lib.hid (specDiskOk _ d X (okD.loose HK.out) DK.own.is)
  have DKH := Lib.hid DK
  have HBX := Lib.hid hBX
  have HX := Lib.hid hX
  clear hd hb1 bx1 x0 x1 x2 x3 x4 x5 DK hBX hX
  go_wp2_with (fail)
  rw [HX.out]
  clear HX y0 y1 y2 y3 y4 y5 fz1
  refine CK.out.mono ?_
  rintro e w2 ⟨rfl, hb2⟩
  have D2 := Lib.hid (DKH.out.below hb2)
  have B2 := Lib.hid (HBX.out.trans (hb2.mono HBX.out.size))
  clear hb2
  have x0 := D2.out.box.at 0 _ rfl
  have x1 := D2.out.box.at 1 _ rfl
  have x2 := D2.out.box.at 2 _ rfl
  have x3 := D2.out.box.at 3 _ rfl
  have x4 := D2.out.box.at 4 _ rfl
  have x5 := D2.out.box.at 5 _ rfl
  cases hdk : diskOk d with
  | false =>
    have HZ := Lib.hid (show R = (d, 3) by rw [HR.out]; unfold appendFile; rw [if_pos (.inl hdk)])
    obtain ⟨u0, u1, u2, u3, u4, u5, ho⟩ := D2.out.out
    have q0 := ho.at 0 _ rfl
    have q1 := ho.at 1 _ rfl
    have q2 := ho.at 2 _ rfl
    have q3 := ho.at 3 _ rfl
    have q4 := ho.at 4 _ rfl
    have q5 := ho.at 5 _ rfl
    have fr2 := D2.out.fr
    obtain ⟨Z, hZ, hbz, hdz, hlz⟩ := six_ret ho D2.out.hr D2.out.own w.heap.size w B2.out (Nat.le_succ _)
    have z0 := hbz.at 0 _ rfl
    have z1 := hbz.at 1 _ rfl
    have z2 := hbz.at 2 _ rfl
    have z3 := hbz.at 3 _ rfl
    have z4 := hbz.at 4 _ rfl
    have z5 := hbz.at 5 _ rfl
    have HZ2 := Lib.hid hZ
    clear hbz ho hZ
    go_wp2
    rw [HZ2.out]
    refine bodyPost_ret (v := .tuple #[.agg #[.slice aN1 d.nodes.length cN1, .slice aE1 d.ents.length cE1, .slice aO1 d.old.length cO1, .slice aS1 d.steps.length cS1, .int .i64 d.room, .int .i64 d.next], .int .i64 3]) (by simp [results, Tryz.results30, go_sem, z0, z1, z2, z3, z4, z5]) rfl ⟨_, by rw [HZ.out], by rw [HZ.out]; exact hdz.base HB.out.size, by first | exact hlz | exact hlz.drew⟩
  | true =>
    go_wp2_with (fail)
    refine (specHas aE1 cE1 d.ents.length d.ents s w2 ME.out D2.out.atE).mono ?_
    rintro e w3 ⟨rfl, rfl⟩
    cases hh : hasE d.ents s with
    | false =>
      have HZ := Lib.hid (show R = (d, 3) by rw [HR.out]; unfold appendFile; rw [if_pos (.inr hh)])
      obtain ⟨u0, u1, u2, u3, u4, u5, ho⟩ := D2.out.out
      have q0 := ho.at 0 _ rfl
      have q1 := ho.at 1 _ rfl
      have q2 := ho.at 2 _ rfl
      have q3 := ho.at 3 _ rfl
      have q4 := ho.at 4 _ rfl
      have q5 := ho.at 5 _ rfl
      have fr2 := D2.out.fr
      obtain ⟨Z, hZ, hbz, hdz, hlz⟩ := six_ret ho D2.out.hr D2.out.own w.heap.size w B2.out (Nat.le_succ _)
      have z0 := hbz.at 0 _ rfl
      have z1 := hbz.at 1 _ rfl
      have z2 := hbz.at 2 _ rfl
      have z3 := hbz.at 3 _ rfl
      have z4 := hbz.at 4 _ rfl
      have z5 := hbz.at 5 _ rfl
      have HZ2 := Lib.hid hZ
      clear hbz ho hZ
      go_wp2
      rw [HZ2.out]
      refine bodyPost_ret (v := .tuple #[.agg #[.slice aN1 d.nodes.length cN1, .slice aE1 d.ents.length cE1, .slice aO1 d.old.length cO1, .slice aS1 d.steps.length cS1, .int .i64 d.room, .int .i64 d.next], .int .i64 3]) (by simp [results, Tryz.results30, go_sem, z0, z1, z2, z3, z4, z5]) rfl ⟨_, by rw [HZ.out], by rw [HZ.out]; exact hdz.base HB.out.size, by first | exact hlz | exact hlz.drew⟩
    | true =>
      obtain ⟨k, nd, hk, hx⟩ := right_node hdk hh
      have G1 := Lib.hid (show ¬ (diskOk d = false ∨ hasE d.ents s = false) by rw [hdk, hh]; simp)
      obtain ⟨r1, r2, r3⟩ := right_room hdk
      have HK2 := Lib.hid hk
      have HX := Lib.hid hx
      have zb := D2.out.box.1
      have M1 := Lib.hid HK.out.1.2.2.2.2.2.2.1
      have ndz : nd.2.1.size ≤ usedOn d := by
        unfold usedOn
        exact tot_each _ _ (List.mem_map.2 ⟨nd, List.mem_of_getElem? hx, rfl⟩)
      clear hdk hh hk hx
      go_wp2
      go_region_held3 (fun w' => w'.cell? ⟨w.heap.size, 0, none⟩ = some (.slice aN1 d.nodes.length cN1) ∧ w'.cell? ⟨w.heap.size, 1, none⟩ = some (.slice aE1 d.ents.length cE1) ∧ w'.cell? ⟨w.heap.size, 2, none⟩ = some (.slice aO1 d.old.length cO1) ∧ w'.cell? ⟨w.heap.size, 3, none⟩ = some (.slice aS1 d.steps.length cS1) ∧ w'.cell? ⟨w.heap.size, 4, none⟩ = some (.int .i64 d.room) ∧ w'.cell? ⟨w.heap.size, 5, none⟩ = some (.int .i64 d.next)) (first | exact ⟨x0, x1, x2, x3, x4, x5⟩ | exact ⟨D3.out.box.at 0 _ rfl, D3.out.box.at 1 _ rfl, D3.out.box.at 2 _ rfl, D3.out.box.at 3 _ rfl, D3.out.box.at 4 _ rfl, D3.out.box.at 5 _ rfl⟩) (first | (go_at_call 75; refine (specEntryAt aE1 cE1 d.ents.length d.ents s _ ME.out ?_).mono ?_; exact D2.out.atE; rintro e w3 ⟨rfl, rfl⟩) | (go_at_call 74; refine (specNode _ d (idE d.ents s) _ M1.out ?_).mono ?_; exact D2.out.own.is; rintro e w3 ⟨rfl, hb3⟩; have hbW := (Below.refl w2.heap.size w2).drew.trans hb3; have D3 := Lib.hid (D2.out.below hbW); have B3 := Lib.hid (B2.out.trans (hbW.mono B2.out.size))))
      rw [HK2.out]
      rw [show ixI (some k) = (k : Int) from rfl]
      clear x0 x1 x2 x3 x4 x5 hb3 hbW
      have x0 := D3.out.box.at 0 _ rfl
      have x1 := D3.out.box.at 1 _ rfl
      have x2 := D3.out.box.at 2 _ rfl
      have x3 := D3.out.box.at 3 _ rfl
      have x4 := D3.out.box.at 4 _ rfl
      have x5 := D3.out.box.at 5 _ rfl
      obtain ⟨U, hU⟩ : ∃ U, U = usedOn d := ⟨_, rfl⟩
      have CU := Lib.hid (fun (v : Value) (w' : World) (h : IsDisk w' v d) => specUsedOn v d w' (by have := used_le HK.out.2; omega) HK.out.1 h)
      rw [← hU] at CU r1 ndz
      have HU := Lib.hid hU
      clear hU
      have sw : IntKind.i64.wrap (d.room - (U : Int)) = d.room - (U : Int) := by rw [IntKind.wrap_i64]; omega
      go_wp2
      go_region_held3 (fun w' => w'.cell? ⟨w.heap.size, 0, none⟩ = some (.slice aN1 d.nodes.length cN1) ∧ w'.cell? ⟨w.heap.size, 1, none⟩ = some (.slice aE1 d.ents.length cE1) ∧ w'.cell? ⟨w.heap.size, 2, none⟩ = some (.slice aO1 d.old.length cO1) ∧ w'.cell? ⟨w.heap.size, 3, none⟩ = some (.slice aS1 d.steps.length cS1) ∧ w'.cell? ⟨w.heap.size, 4, none⟩ = some (.int .i64 d.room) ∧ w'.cell? ⟨w.heap.size, 5, none⟩ = some (.int .i64 d.next)) (first | exact ⟨x0, x1, x2, x3, x4, x5⟩ | exact ⟨D4.out.box.at 0 _ rfl, D4.out.box.at 1 _ rfl, D4.out.box.at 2 _ rfl, D4.out.box.at 3 _ rfl, D4.out.box.at 4 _ rfl, D4.out.box.at 5 _ rfl⟩) ((go_at_call 76; refine (CU.out _ _ ?_).mono ?_; exact D3.out.own.is; rintro e w4 ⟨rfl, hb4⟩; have hbW := (Below.refl w3.heap.size w3).drew.trans hb4; have D4 := Lib.hid (D3.out.below hbW); have B4 := Lib.hid (B3.out.trans (hbW.mono B3.out.size))))
      clear x0 x1 x2 x3 x4 x5 hb4 hbW
      have x0 := D4.out.box.at 0 _ rfl
      obtain ⟨gi, hgi, hge, hgl⟩ : ∃ g, aN1 = some ⟨g, 0, none⟩ ∧ W.heap.size ≤ g ∧ g < w4.heap.size := by
        obtain ⟨a, c, he, _, h0⟩ := own_shape D4.out.rowN
        simp only [Value.slice.injEq] at he
        obtain ⟨rfl, _⟩ := he
        exact h0.resolve_left (by have := (List.getElem?_eq_some_iff.1 HX.out).1; omega)
      subst hgi
      obtain ⟨gj, oj, hgj, _, hkl, c0, c1, c2⟩ := D4.out.atN.nth HX.out
      obtain ⟨rfl, rfl⟩ : gi = gj ∧ 0 = oj := by simpa using hgj
      rw [Nat.zero_add] at c0 c1 c2
      have f1 := D4.out.rowN.frozenAt (k * 3 + 1)
      have i0 : (0 : Int) ≤ (k : Int) := by omega
      have i1 : (k : Int) < (d.nodes.length : Int) := by omega
      have hge2 : w.heap.size ≤ gi := Nat.le_trans HB.out.size hge
      by_cases hfit : d.room - (U : Int) < (t.size : Int)
      · have e0 : (0 : Int) ≤ d.room - (U : Int) := by omega
        have e1 : d.room - (U : Int) ≤ (t.size : Int) := by omega
        obtain ⟨L, hL⟩ : ∃ L : Nat, d.room - (U : Int) = (L : Int) := Int.eq_ofNat_of_zero_le e0
        have HG := Lib.hid (show R = (setNode d k (nd.1, nd.2.1 ++ t.extract 0 L, nd.2.2), 5) by rw [HR.out]; unfold appendFile; rw [if_neg G1.out, ← HU.out, if_pos hfit, nodeK_is HK2.out, nodeN_is HK2.out HX.out, hL]; rfl)
        rw [hL] at hfit e0 e1 ⊢
        have esz : (t.extract 0 L).size ≤ t.size := by rw [ByteArray.size_extract]; omega
        have l1 : ¬ 9223372036854775807 < nd.2.1.size + (t.extract 0 L).size := by have := used_le HK.out.2; have := HU.out; omega
        clear sw hL
        obtain ⟨Y, hY, D5, B5⟩ : ∃ Y, w4.setCell ⟨gi, k * 3 + 1, none⟩ (.string (nd.2.1 ++ t.extract 0 L)) = Y ∧ Desk W.heap.size Y w.heap.size (w.heap.size + 1) (.slice (some ⟨gi, 0, none⟩) d.nodes.length cN1) (.slice aE1 d.ents.length cE1) (.slice aO1 d.old.length cO1) (.slice aS1 d.steps.length cS1) { d with nodes := d.nodes.set k (nd.1, nd.2.1 ++ t.extract 0 L, nd.2.2) } ∧ Below w.heap.size w Y := ⟨_, rfl, D4.out.node (cellsN_text _ _ _ _ HX.out), B4.out.setCell hge2 _⟩
        have HY := Lib.hid hY
        have D5 := Lib.hid D5
        have B5 := Lib.hid B5
        clear hY
        go_wp2
        go_region
        rw [HY.out]
        clear x0 c0 c1 c2 f1
        have x0 := D5.out.box.at 0 _ rfl
        have x1 := D5.out.box.at 1 _ rfl
        have x2 := D5.out.box.at 2 _ rfl
        have x3 := D5.out.box.at 3 _ rfl
        have x4 := D5.out.box.at 4 _ rfl
        have x5 := D5.out.box.at 5 _ rfl
        have HZ := Lib.hid (show R = (setNode d k (nd.1, nd.2.1 ++ t.extract 0 L, nd.2.2), 5) by exact HG.out)
        obtain ⟨u0, u1, u2, u3, u4, u5, ho⟩ := D5.out.out
        have q0 := ho.at 0 _ rfl
        have q1 := ho.at 1 _ rfl
        have q2 := ho.at 2 _ rfl
        have q3 := ho.at 3 _ rfl
        have q4 := ho.at 4 _ rfl
        have q5 := ho.at 5 _ rfl
        have fr2 := D5.out.fr
        obtain ⟨Z, hZ, hbz, hdz, hlz⟩ := six_ret ho D5.out.hr D5.out.own w.heap.size w B5.out (Nat.le_succ _)
        have z0 := hbz.at 0 _ rfl
        have z1 := hbz.at 1 _ rfl
        have z2 := hbz.at 2 _ rfl
        have z3 := hbz.at 3 _ rfl
        have z4 := hbz.at 4 _ rfl
        have z5 := hbz.at 5 _ rfl
        have HZ2 := Lib.hid hZ
        clear hbz ho hZ
        go_wp2
        rw [HZ2.out]
        refine bodyPost_ret (v := .tuple #[.agg #[.slice (some ⟨gi, 0, none⟩) d.nodes.length cN1, .slice aE1 d.ents.length cE1, .slice aO1 d.old.length cO1, .slice aS1 d.steps.length cS1, .int .i64 d.room, .int .i64 d.next], .int .i64 5]) (by simp [results, Tryz.results30, go_sem, z0, z1, z2, z3, z4, z5]) rfl ⟨_, by rw [HZ.out], by rw [HZ.out]; exact hdz.base HB.out.size, by first | exact hlz | exact hlz.drew⟩
      · have HG := Lib.hid (show R = (setNode d k (nd.1, nd.2.1 ++ t, nd.2.2), 0) by rw [HR.out]; unfold appendFile; rw [if_neg G1.out, ← HU.out, if_neg hfit, nodeK_is HK2.out, nodeN_is HK2.out HX.out])
        have l1 : ¬ 9223372036854775807 < nd.2.1.size + t.size := by have := used_le HK.out.2; have := HU.out; omega
        clear sw
        obtain ⟨Y, hY, D5, B5⟩ : ∃ Y, w4.setCell ⟨gi, k * 3 + 1, none⟩ (.string (nd.2.1 ++ t)) = Y ∧ Desk W.heap.size Y w.heap.size (w.heap.size + 1) (.slice (some ⟨gi, 0, none⟩) d.nodes.length cN1) (.slice aE1 d.ents.length cE1) (.slice aO1 d.old.length cO1) (.slice aS1 d.steps.length cS1) { d with nodes := d.nodes.set k (nd.1, nd.2.1 ++ t, nd.2.2) } ∧ Below w.heap.size w Y := ⟨_, rfl, D4.out.node (cellsN_text _ _ _ _ HX.out), B4.out.setCell hge2 _⟩
        have HY := Lib.hid hY
        have D5 := Lib.hid D5
        have B5 := Lib.hid B5
        clear hY
        go_wp2
        go_region
        rw [HY.out]
        clear x0 c0 c1 c2 f1
        have x0 := D5.out.box.at 0 _ rfl
        have x1 := D5.out.box.at 1 _ rfl
        have x2 := D5.out.box.at 2 _ rfl
        have x3 := D5.out.box.at 3 _ rfl
        have x4 := D5.out.box.at 4 _ rfl
        have x5 := D5.out.box.at 5 _ rfl
        have HZ := Lib.hid (show R = (setNode d k (nd.1, nd.2.1 ++ t, nd.2.2), 0) by exact HG.out)
        obtain ⟨u0, u1, u2, u3, u4, u5, ho⟩ := D5.out.out
        have q0 := ho.at 0 _ rfl
        have q1 := ho.at 1 _ rfl
        have q2 := ho.at 2 _ rfl
        have q3 := ho.at 3 _ rfl
        have q4 := ho.at 4 _ rfl
        have q5 := ho.at 5 _ rfl
        have fr2 := D5.out.fr
        obtain ⟨Z, hZ, hbz, hdz, hlz⟩ := six_ret ho D5.out.hr D5.out.own w.heap.size w B5.out (Nat.le_succ _)
        have z0 := hbz.at 0 _ rfl
        have z1 := hbz.at 1 _ rfl
        have z2 := hbz.at 2 _ rfl
        have z3 := hbz.at 3 _ rfl
        have z4 := hbz.at 4 _ rfl
        have z5 := hbz.at 5 _ rfl
        have HZ2 := Lib.hid hZ
        clear hbz ho hZ
        go_wp2
        rw [HZ2.out]
        refine bodyPost_ret (v := .tuple #[.agg #[.slice (some ⟨gi, 0, none⟩) d.nodes.length cN1, .slice aE1 d.ents.length cE1, .slice aO1 d.old.length cO1, .slice aS1 d.steps.length cS1, .int .i64 d.room, .int .i64 d.next], .int .i64 0]) (by simp [results, Tryz.results30, go_sem, z0, z1, z2, z3, z4, z5]) rfl ⟨_, by rw [HZ.out], by rw [HZ.out]; exact hdz.base HB.out.size, by first | exact hlz | exact hlz.drew⟩

end Go.Proofs.YtiehfobcbhgfkaaGreatDoor.deed

namespace Go.Proofs.YtiehfobcbhgfkaaGreatDoor.deed
set_option maxRecDepth 20000
open Go.RowKit
open kit strs recs disk kd

theorem step_copy {P : Program} {ops : Array Oper} {o : Oper} {a : Act} {K : Act → World → Prop} {Q : Exit → Act → World → Prop} {E : Prop} {w : World} (hgd : o.guard = none) (s x : Operand) (t : TypeId)
    (ho : o.op = .call { callee := .builtin .append, args := #[s, x], argTypes := #[t, t] })
    (B : Nat) (e : TypeId) (i : TypeInfo) (z : Value) (size bytes : Nat) (ht : P.underlying t = some (.slice e)) (hi : P.info? e = some i) (hz : i.zero = some z)
    (hsize : i.size = size) (hby : i.bytes = bytes) (hzs : z.cells.size = size) (hsz : 0 < size)
    (v : Value) (n : Nat) (xs : List Value) (hown : w.ownsRow B e size v n xs) (hB : B ≤ w.heap.size)
    (b : Option Addr) (m c : Nat) (news : List Value) (hc : Cells w b m size news) (hone : ∀ u ∈ news, u.oneCell' = true) (h63 : n + m ≤ maxLen) (hbytes : (n + m) * bytes ≤ 140737488355328)
    (hs : a.eval s = v) (hx : a.eval x = .slice b m c)
    (h : ∀ v' w', w'.ownsRow B e size v' (n + m) (xs ++ news) → w.grownBy w' v.ownBlock → K (a.put o.dst v') w') :
    if Region.wanted o (yielded ops a.tmps) = true then Oper.wp P o a w K Q else E := by
  have hwd : Region.wanted o (yielded ops a.tmps) = true := by simp [Region.wanted, hgd]
  rw [if_pos hwd]
  exact wp_copy s x t ho B e i z size bytes ht hi hz hsize hby hzs hsz v n xs hown hB b m c news hc hone h63 hbytes hs hx h
theorem itoa_small (n : Int) (h0 : 1 ≤ n) (h1 : n ≤ 1000000000) : (Lib.itoa n).length ≤ 20 := by
  have e : (10 : Nat) ^ (9 + 1) = 10000000000 := by decide
  have h := rd.digits_len 9 n.toNat (by omega)
  unfold Lib.itoa
  rw [if_neg (by omega)]
  show (Lib.decDigits n.toNat).length ≤ 20
  omega
theorem next_wf {x : Int} (h1 : 1 ≤ x) (h2 : x ≤ 1000000000) : (Lit.int .i64 x).wf = true := by
  obtain ⟨m, rfl⟩ := Int.eq_ofNat_of_zero_le (show 0 ≤ x by omega)
  exact rd.wf_small m (by omega)

set_option maxHeartbeats 8000000 in
set_option maxRecDepth 100000 in
theorem specCreate (v : Value) (d : D) (s : ByteArray) (w : World) (hk : okD d) (hs : s.size ≤ 9223372036854775807) (hv : IsDisk w v d) :
    Calls Tryz.prog 28 #[v, .string s] w (DeedR (createFile d s) w) := by
  have hv0 := hv
  obtain ⟨aN, aE, aO, aS, nN, cN, nE, cE, nO, cO, nS, cS, rfl, _, _, _, _⟩ := hv0
  obtain ⟨W, hW⟩ : ∃ W, W = (w.alloc (.cells #[.slice aN nN cN, .slice aE nE cE, .slice aO nO cO, .slice aS nS cS, .int .i64 d.room, .int .i64 d.next] 28)).alloc (.cells #[.slice none 0 0, .slice none 0 0, .slice none 0 0, .slice none 0 0, .int .i64 0, .int .i64 0] 28) := ⟨_, rfl⟩
  have hWB : Below w.heap.size w W := by rw [hW]; exact ((Below.refl _ _).alloc (Nat.le_refl _) _).alloc (by simp) _
  have hWs : w.heap.size + 1 < W.heap.size ∧ W.heap.size = w.heap.size + 1 + 1 := by rw [hW]; simp
  have bx := show disk.Box W w.heap.size [.slice aN nN cN, .slice aE nE cE, .slice aO nO cO, .slice aS nS cS, .int .i64 d.room, .int .i64 d.next] from by rw [hW]; exact (Box.new _ #[.slice aN nN cN, .slice aE nE cE, .slice aO nO cO, .slice aS nS cS, .int .i64 d.room, .int .i64 d.next] _).below ((Below.refl _ _).alloc (Nat.le_refl _) _)
  have br := show disk.Box W (w.heap.size + 1) [.slice none 0 0, .slice none 0 0, .slice none 0 0, .slice none 0 0, .int .i64 0, .int .i64 0] from by
    have h := Box.new (w.alloc (.cells #[.slice aN nN cN, .slice aE nE cE, .slice aO nO cO, .slice aS nS cS, .int .i64 d.room, .int .i64 d.next] 28)) #[.slice none 0 0, .slice none 0 0, .slice none 0 0, .slice none 0 0, .int .i64 0, .int .i64 0] 28
    rw [hW]
    simpa using h
  have fz : ∀ j, W.frozen? ⟨w.heap.size, j, none⟩ = false := fun j => by rw [hW]; simp
  have fr : ∀ j, W.frozen? ⟨w.heap.size + 1, j, none⟩ = false := fun j => by rw [hW]; simp
  have x0 := bx.at 0 _ rfl
  have x1 := bx.at 1 _ rfl
  have x2 := bx.at 2 _ rfl
  have x3 := bx.at 3 _ rfl
  have x4 := bx.at 4 _ rfl
  have x5 := bx.at 5 _ rfl
  have CC := Lib.hid (specCopy _ d W (okD.loose hk) (hv.below hWB))
  have BX := Lib.hid bx
  have BR := Lib.hid br
  have FZ := Lib.hid fz
  have FR := Lib.hid fr
  have HB := Lib.hid hWB
  have HK := Lib.hid hk
  have HWs := Lib.hid hWs
  obtain ⟨R, hR⟩ : ∃ R, R = createFile d s := ⟨_, rfl⟩
  rw [← hR]
  have HR := Lib.hid hR
  have hl := okL_lens (okD.loose hk)
  have LL := Lib.hid (show d.nodes.length ≤ 1500000 ∧ d.ents.length ≤ 1500000 ∧ d.old.length ≤ 1500000 ∧ d.steps.length ≤ 1500000 from hl)
  have ME := Lib.hid (show d.ents.length ≤ maxLen by unfold maxLen; omega)
  clear bx br fz fr hWB hk hv hR hl
  go_enter Tryz.func28, Tryz.ntmps28
  go_wp2_with (fail)
  rw [← hW]
  clear hW hWs
  refine CC.out.mono ?_
  rintro e w1 ⟨u, rfl, hd, hb1⟩
  obtain ⟨aN1, aE1, aO1, aS1, cN1, cE1, cO1, cS1, rfl⟩ := own_slices hd
  have bx1 := BX.out.below hb1
  have y0 := bx1.at 0 _ rfl
  have y1 := bx1.at 1 _ rfl
  have y2 := bx1.at 2 _ rfl
  have y3 := bx1.at 3 _ rfl
  have y4 := bx1.at 4 _ rfl
  have y5 := bx1.at 5 _ rfl
  have fz1 := frozen_below FZ.out BX.out.1 hb1
  obtain ⟨X, hX, DK, hBX⟩ := desk_open bx1 fz1 (BR.out.below hb1) (frozen_below FR.out BR.out.1 hb1) hd (by have := HWs.out; omega) HWs.out.1 (by omega) hb1.size w.heap.size w (HB.out.trans (hb1.mono HB.out.size)) (Nat.le_refl _)
  have CK := Lib.hid (specDiskOk _ d X (okD.loose HK.out) DK.own.is)
  have DKH := Lib.hid DK
  have HBX := Lib.hid hBX
  have HX := Lib.hid hX
  clear hd hb1 bx1 x0 x1 x2 x3 x4 x5 DK hBX hX
  go_wp2_with (fail)
  rw [HX.out]
  clear HX y0 y1 y2 y3 y4 y5 fz1
  refine CK.out.mono ?_
  rintro e w2 ⟨rfl, hb2⟩
  have D2 := Lib.hid (DKH.out.below hb2)
  have B2 := Lib.hid (HBX.out.trans (hb2.mono HBX.out.size))
  clear hb2
  have x0 := D2.out.box.at 0 _ rfl
  have x1 := D2.out.box.at 1 _ rfl
  have x2 := D2.out.box.at 2 _ rfl
  have x3 := D2.out.box.at 3 _ rfl
  have x4 := D2.out.box.at 4 _ rfl
  have x5 := D2.out.box.at 5 _ rfl
  cases hdk : diskOk d with
  | false =>
    have HZ := Lib.hid (show R = (d, 3) by rw [HR.out]; unfold createFile; rw [if_pos hdk])
    obtain ⟨u0, u1, u2, u3, u4, u5, ho⟩ := D2.out.out
    have q0 := ho.at 0 _ rfl
    have q1 := ho.at 1 _ rfl
    have q2 := ho.at 2 _ rfl
    have q3 := ho.at 3 _ rfl
    have q4 := ho.at 4 _ rfl
    have q5 := ho.at 5 _ rfl
    have fr2 := D2.out.fr
    obtain ⟨Z, hZ, hbz, hdz, hlz⟩ := six_ret ho D2.out.hr D2.out.own w.heap.size w B2.out (Nat.le_succ _)
    have z0 := hbz.at 0 _ rfl
    have z1 := hbz.at 1 _ rfl
    have z2 := hbz.at 2 _ rfl
    have z3 := hbz.at 3 _ rfl
    have z4 := hbz.at 4 _ rfl
    have z5 := hbz.at 5 _ rfl
    have HZ2 := Lib.hid hZ
    clear hbz ho hZ
    go_wp2
    rw [HZ2.out]
    refine bodyPost_ret (v := .tuple #[.agg #[.slice aN1 d.nodes.length cN1, .slice aE1 d.ents.length cE1, .slice aO1 d.old.length cO1, .slice aS1 d.steps.length cS1, .int .i64 d.room, .int .i64 d.next], .int .i64 3]) (by simp [results, Tryz.results28, go_sem, z0, z1, z2, z3, z4, z5]) rfl ⟨_, by rw [HZ.out], by rw [HZ.out]; exact hdz.base HB.out.size, hlz⟩
  | true =>
    have G1 := Lib.hid (show ¬ diskOk d = false by rw [hdk]; simp)
    have NX := right_next hdk
    clear hdk
    go_wp2_with (fail)
    refine (nam.specOk_any s w2 hs).mono ?_
    rintro e w3 ⟨rfl, rfl⟩
    cases ho2 : nam.nok s with
    | false =>
      have HZ := Lib.hid (show R = (d, 1) by rw [HR.out]; unfold createFile; rw [if_neg G1.out, if_pos ho2])
      obtain ⟨u0, u1, u2, u3, u4, u5, ho⟩ := D2.out.out
      have q0 := ho.at 0 _ rfl
      have q1 := ho.at 1 _ rfl
      have q2 := ho.at 2 _ rfl
      have q3 := ho.at 3 _ rfl
      have q4 := ho.at 4 _ rfl
      have q5 := ho.at 5 _ rfl
      have fr2 := D2.out.fr
      obtain ⟨Z, hZ, hbz, hdz, hlz⟩ := six_ret ho D2.out.hr D2.out.own w.heap.size w B2.out (Nat.le_succ _)
      have z0 := hbz.at 0 _ rfl
      have z1 := hbz.at 1 _ rfl
      have z2 := hbz.at 2 _ rfl
      have z3 := hbz.at 3 _ rfl
      have z4 := hbz.at 4 _ rfl
      have z5 := hbz.at 5 _ rfl
      have HZ2 := Lib.hid hZ
      clear hbz ho hZ
      go_wp2
      rw [HZ2.out]
      refine bodyPost_ret (v := .tuple #[.agg #[.slice aN1 d.nodes.length cN1, .slice aE1 d.ents.length cE1, .slice aO1 d.old.length cO1, .slice aS1 d.steps.length cS1, .int .i64 d.room, .int .i64 d.next], .int .i64 1]) (by simp [results, Tryz.results28, go_sem, z0, z1, z2, z3, z4, z5]) rfl ⟨_, by rw [HZ.out], by rw [HZ.out]; exact hdz.base HB.out.size, hlz⟩
    | true =>
      have hsz := nok_small ho2
      have G2 := Lib.hid (show ¬ nam.nok s = false by rw [ho2]; simp)
      clear ho2
      go_wp2_with (fail)
      refine (specHas aE1 cE1 d.ents.length d.ents s w2 ME.out D2.out.atE).mono ?_
      rintro e w3 ⟨rfl, rfl⟩
      cases hh : hasE d.ents s with
      | true =>
        have HZ := Lib.hid (show R = (d, 2) by rw [HR.out]; unfold createFile; rw [if_neg G1.out, if_neg G2.out, if_pos hh])
        obtain ⟨u0, u1, u2, u3, u4, u5, ho⟩ := D2.out.out
        have q0 := ho.at 0 _ rfl
        have q1 := ho.at 1 _ rfl
        have q2 := ho.at 2 _ rfl
        have q3 := ho.at 3 _ rfl
        have q4 := ho.at 4 _ rfl
        have q5 := ho.at 5 _ rfl
        have fr2 := D2.out.fr
        obtain ⟨Z, hZ, hbz, hdz, hlz⟩ := six_ret ho D2.out.hr D2.out.own w.heap.size w B2.out (Nat.le_succ _)
        have z0 := hbz.at 0 _ rfl
        have z1 := hbz.at 1 _ rfl
        have z2 := hbz.at 2 _ rfl
        have z3 := hbz.at 3 _ rfl
        have z4 := hbz.at 4 _ rfl
        have z5 := hbz.at 5 _ rfl
        have HZ2 := Lib.hid hZ
        clear hbz ho hZ
        go_wp2
        rw [HZ2.out]
        refine bodyPost_ret (v := .tuple #[.agg #[.slice aN1 d.nodes.length cN1, .slice aE1 d.ents.length cE1, .slice aO1 d.old.length cO1, .slice aS1 d.steps.length cS1, .int .i64 d.room, .int .i64 d.next], .int .i64 2]) (by simp [results, Tryz.results28, go_sem, z0, z1, z2, z3, z4, z5]) rfl ⟨_, by rw [HZ.out], by rw [HZ.out]; exact hdz.base HB.out.size, hlz⟩
      | false =>
        have G3 := Lib.hid (show ¬ hasE d.ents s = true by rw [hh]; simp)
        clear hh
        by_cases c1 : 16 ≤ d.ents.length
        · have i1 : (16 : Int) ≤ (d.ents.length : Int) := by omega
          have HZ := Lib.hid (show R = (d, 4) by rw [HR.out]; unfold createFile; rw [if_neg G1.out, if_neg G2.out, if_neg G3.out, if_pos (.inl c1)])
          obtain ⟨u0, u1, u2, u3, u4, u5, ho⟩ := D2.out.out
          have q0 := ho.at 0 _ rfl
          have q1 := ho.at 1 _ rfl
          have q2 := ho.at 2 _ rfl
          have q3 := ho.at 3 _ rfl
          have q4 := ho.at 4 _ rfl
          have q5 := ho.at 5 _ rfl
          have fr2 := D2.out.fr
          obtain ⟨Z, hZ, hbz, hdz, hlz⟩ := six_ret ho D2.out.hr D2.out.own w.heap.size w B2.out (Nat.le_succ _)
          have z0 := hbz.at 0 _ rfl
          have z1 := hbz.at 1 _ rfl
          have z2 := hbz.at 2 _ rfl
          have z3 := hbz.at 3 _ rfl
          have z4 := hbz.at 4 _ rfl
          have z5 := hbz.at 5 _ rfl
          have HZ2 := Lib.hid hZ
          clear hbz ho hZ
          go_wp2
          rw [HZ2.out]
          refine bodyPost_ret (v := .tuple #[.agg #[.slice aN1 d.nodes.length cN1, .slice aE1 d.ents.length cE1, .slice aO1 d.old.length cO1, .slice aS1 d.steps.length cS1, .int .i64 d.room, .int .i64 d.next], .int .i64 4]) (by simp [results, Tryz.results28, go_sem, z0, z1, z2, z3, z4, z5]) rfl ⟨_, by rw [HZ.out], by rw [HZ.out]; exact hdz.base HB.out.size, hlz⟩
        · have i1 : ¬ (16 : Int) ≤ (d.ents.length : Int) := by omega
          by_cases c2 : 64 ≤ d.nodes.length
          · have i2 : (64 : Int) ≤ (d.nodes.length : Int) := by omega
            have HZ := Lib.hid (show R = (d, 4) by rw [HR.out]; unfold createFile; rw [if_neg G1.out, if_neg G2.out, if_neg G3.out, if_pos (.inr (.inl c2))])
            obtain ⟨u0, u1, u2, u3, u4, u5, ho⟩ := D2.out.out
            have q0 := ho.at 0 _ rfl
            have q1 := ho.at 1 _ rfl
            have q2 := ho.at 2 _ rfl
            have q3 := ho.at 3 _ rfl
            have q4 := ho.at 4 _ rfl
            have q5 := ho.at 5 _ rfl
            have fr2 := D2.out.fr
            obtain ⟨Z, hZ, hbz, hdz, hlz⟩ := six_ret ho D2.out.hr D2.out.own w.heap.size w B2.out (Nat.le_succ _)
            have z0 := hbz.at 0 _ rfl
            have z1 := hbz.at 1 _ rfl
            have z2 := hbz.at 2 _ rfl
            have z3 := hbz.at 3 _ rfl
            have z4 := hbz.at 4 _ rfl
            have z5 := hbz.at 5 _ rfl
            have HZ2 := Lib.hid hZ
            clear hbz ho hZ
            go_wp2
            rw [HZ2.out]
            refine bodyPost_ret (v := .tuple #[.agg #[.slice aN1 d.nodes.length cN1, .slice aE1 d.ents.length cE1, .slice aO1 d.old.length cO1, .slice aS1 d.steps.length cS1, .int .i64 d.room, .int .i64 d.next], .int .i64 4]) (by simp [results, Tryz.results28, go_sem, z0, z1, z2, z3, z4, z5]) rfl ⟨_, by rw [HZ.out], by rw [HZ.out]; exact hdz.base HB.out.size, hlz⟩
          · have i2 : ¬ (64 : Int) ≤ (d.nodes.length : Int) := by omega
            by_cases c3 : 1000000000 ≤ d.next
            · have HZ := Lib.hid (show R = (d, 4) by rw [HR.out]; unfold createFile; rw [if_neg G1.out, if_neg G2.out, if_neg G3.out, if_pos (.inr (.inr c3))])
              obtain ⟨u0, u1, u2, u3, u4, u5, ho⟩ := D2.out.out
              have q0 := ho.at 0 _ rfl
              have q1 := ho.at 1 _ rfl
              have q2 := ho.at 2 _ rfl
              have q3 := ho.at 3 _ rfl
              have q4 := ho.at 4 _ rfl
              have q5 := ho.at 5 _ rfl
              have fr2 := D2.out.fr
              obtain ⟨Z, hZ, hbz, hdz, hlz⟩ := six_ret ho D2.out.hr D2.out.own w.heap.size w B2.out (Nat.le_succ _)
              have z0 := hbz.at 0 _ rfl
              have z1 := hbz.at 1 _ rfl
              have z2 := hbz.at 2 _ rfl
              have z3 := hbz.at 3 _ rfl
              have z4 := hbz.at 4 _ rfl
              have z5 := hbz.at 5 _ rfl
              have HZ2 := Lib.hid hZ
              clear hbz ho hZ
              go_wp2
              rw [HZ2.out]
              refine bodyPost_ret (v := .tuple #[.agg #[.slice aN1 d.nodes.length cN1, .slice aE1 d.ents.length cE1, .slice aO1 d.old.length cO1, .slice aS1 d.steps.length cS1, .int .i64 d.room, .int .i64 d.next], .int .i64 4]) (by simp [results, Tryz.results28, go_sem, z0, z1, z2, z3, z4, z5]) rfl ⟨_, by rw [HZ.out], by rw [HZ.out]; exact hdz.base HB.out.size, hlz⟩
            · have HZ := Lib.hid (show R = (clean (createMid d s), 0) by rw [HR.out]; unfold createFile; rw [if_neg G1.out, if_neg G2.out, if_neg G3.out, if_neg (by omega)]; rfl)
              have MO := Lib.hid (more_create HK.out hsz NX.1 NX.2 (itoa_small d.next NX.1 NX.2))
              obtain ⟨j0, ji0, jz0, jz1, jz2⟩ := info_parts Tryz.infoNod
              obtain ⟨i0, hi, hz0, hz1, hz2⟩ := info_parts strs.Tryz.infoStr
              have hwa : Below w2.heap.size w2 (w2.alloc (.cells #[.int .i64 d.next, .string { data := #[] }, .int .i64 0] 87)) := (Below.refl _ _).alloc (Nat.le_refl _) _
              have D2a := D2.out.below hwa
              have CN := Lib.hid (cells_new3 w2 (.int .i64 d.next) (.string { data := #[] }) (.int .i64 0) 87)
              have RN := Lib.hid D2a.rowN
              have ZN := Lib.hid D2a.size
              have bn3 : d.nodes.length + 1 ≤ maxLen := by have := LL.out; unfold maxLen; omega
              have bm3 : (d.nodes.length + 1) * 32 ≤ 140737488355328 := by have := LL.out; omega
              have nb3 := own_not D2a.rowN D2a.hb
              have zl2 := D2.out.box.1
              have DH2 := Lib.hid D2a
              have BH2 := Lib.hid (B2.out.trans (hwa.mono B2.out.size))
              clear hwa D2a
              go_wp2_with (first | (at_builtin; refine list_copy (by rfl) (.tmp 38) (.tmp 42) 24 (by rfl) W.heap.size 87 j0 (.agg #[.int .i64 0, .string { data := #[] }, .int .i64 0]) 3 32 Tryz.underlying24 ji0 jz0 jz1 jz2 (by rfl) (by decide) _ d.nodes.length (cellsN d.nodes) RN.out ZN.out (some ⟨w2.heap.size, 0, none⟩) 1 1 [.int .i64 d.next, .string { data := #[] }, .int .i64 0] CN.out (three_one _ _ _) bn3 bm3 (by rfl) (by rfl) ?_; intro v3 w3 hown3 hg3; obtain ⟨aN3, cN3, rfl, _, _⟩ := own_shape hown3; have m3 := DH2.out.mid nb3 hg3; have fz3 := m3.2; have e0 := m3.1.at 0 _ rfl; have e1 := m3.1.at 1 _ rfl; have e2 := m3.1.at 2 _ rfl; have e3 := m3.1.at 3 _ rfl; have e4 := m3.1.at 4 _ rfl; have e5 := m3.1.at 5 _ rfl; have D3 := Lib.hid (DH2.out.setN (ns := d.nodes ++ [(d.next, { data := #[] }, 0)]) hg3 (by rw [cellsN_app]; exact hown3)); have B3 := Lib.hid ((BH2.out.grown hg3 BH2.out.size (fun j hj => Nat.le_trans HB.out.size (own_block_ge RN.out j hj).1)).setCell (p := ⟨w.heap.size, 0, none⟩) (Nat.le_refl _) (.slice aN3 (d.nodes.length + 1) cN3)); clear m3 hown3 hg3 x0 x1 x2 x3 x4 x5) | fail)
              obtain ⟨Y3, hY3, D3, B3⟩ : ∃ Y, w3.setCell ⟨w.heap.size, 0, none⟩ (.slice aN3 (d.nodes.length + 1) cN3) = Y ∧ Desk W.heap.size Y w.heap.size (w.heap.size + 1) (.slice aN3 (d.nodes.length + 1) cN3) (.slice aE1 d.ents.length cE1) (.slice aO1 d.old.length cO1) (.slice aS1 d.steps.length cS1) { d with nodes := d.nodes ++ [(d.next, { data := #[] }, 0)] } ∧ Below w.heap.size w Y := ⟨_, rfl, D3.out, B3.out⟩
              rw [hY3]
              clear hY3 e0 e1 e2 e3 e4 e5 fz3
              have DH3 := Lib.hid D3
              have BH3 := Lib.hid B3
              clear D3 B3
              refine (specPut aE1 cE1 d.ents.length d.ents s d.next Y3 (by have := LL.out; omega) DH3.out.atE).mono ?_
              rintro e w4 ⟨u, rfl, ⟨m, hu⟩, hb4⟩
              obtain ⟨aU, cU, rfl, _, _⟩ := own_shape hu
              have b4 := DH3.out.below hb4
              have fz4 := b4.fz
              obtain ⟨Y4, hY4, D4, B4⟩ : ∃ Y, w4.setCell ⟨w.heap.size, 1, none⟩ (.slice aU m cU) = Y ∧ Desk W.heap.size Y w.heap.size (w.heap.size + 1) (.slice aN3 (d.nodes.length + 1) cN3) (.slice aU m cU) (.slice aO1 d.old.length cO1) (.slice aS1 d.steps.length cS1) { d with nodes := d.nodes ++ [(d.next, { data := #[] }, 0)], ents := putE d.ents (s, d.next) } ∧ Below w.heap.size w Y := ⟨_, rfl, DH3.out.setE hb4 ⟨m, hu⟩, (BH3.out.trans (hb4.mono BH3.out.size)).setCell (Nat.le_refl _) _⟩
              have y0 := b4.box.at 0 _ rfl
              have y1 := b4.box.at 1 _ rfl
              have y2 := b4.box.at 2 _ rfl
              have y3 := b4.box.at 3 _ rfl
              have y4 := b4.box.at 4 _ rfl
              have y5 := b4.box.at 5 _ rfl
              have DH4 := Lib.hid D4
              have BH4 := Lib.hid B4
              have HY4 := Lib.hid hY4
              clear b4 hu hb4 D4 B4 hY4
              go_wp2
              rw [HY4.out]
              clear HY4 y0 y1 y2 y3 y4 y5 fz4
              have y3 := DH4.out.box.at 3 _ rfl
              have y5 := DH4.out.box.at 5 _ rfl
              have zl4 := DH4.out.box.1
              obtain ⟨t, ht⟩ : ∃ t : ByteArray, t = ⟨(Lib.itoa d.next).toArray⟩ := ⟨_, rfl⟩
              have tsz : t.size ≤ 20 := by rw [ht]; show (Lib.itoa d.next).toArray.size ≤ 20; rw [List.size_toArray]; exact itoa_small d.next NX.1 NX.2
              have CD := Lib.hid (fun (w' : World) => dec.specDec_any d.next w' (next_wf NX.1 NX.2))
              rw [← ht] at CD
              have HPS := Lib.hid (show ((({ data := #[43] } : ByteArray) ++ s) ++ { data := #[58] }) ++ t = plusStep s d.next by rw [ht]; rfl)
              have l1 : ¬ 9223372036854775807 < 1 + s.size := by omega
              have l2 : ¬ 9223372036854775807 < 1 + s.size + 1 := by omega
              have l3 : ¬ 9223372036854775807 < 1 + s.size + 1 + t.size := by omega
              have bn : d.steps.length + 1 ≤ maxLen := by have := LL.out; unfold maxLen; omega
              have bm : (d.steps.length + 1) * 16 ≤ 140737488355328 := by have := LL.out; omega
              clear ht
              go_region_law (first | (go_simp; go_at_call 72; refine (CD.out _).mono ?_; rintro e w5 ⟨rfl, hb5⟩; have hbw := (Below.refl Y4.heap.size Y4).drew.trans hb5; have D5w := Lib.hid (DH4.out.below hbw); have v3 := D5w.out.box.at 3 _ rfl; have v5 := D5w.out.box.at 5 _ rfl; have zl5 := D5w.out.box.1; have B5w := Lib.hid (BH4.out.trans (hbw.mono BH4.out.size)); have hya := (Below.refl w5.heap.size w5).alloc (Nat.le_refl _) (.cells #[.string (((({ data := #[43] } : ByteArray) ++ s) ++ { data := #[58] }) ++ t)] 9); have D5a := Lib.hid (D5w.out.below hya); have B5a := Lib.hid (B5w.out.trans (hya.mono B5w.out.size)); have CS5 := Lib.hid (cells_new w5 (.string (((({ data := #[43] } : ByteArray) ++ s) ++ { data := #[58] }) ++ t)) 9); have RS := Lib.hid D5a.out.rowS; have ZS := Lib.hid D5a.out.size; have nb := own_not RS.out D5a.out.hb) | (refine step_copy (by rfl) (.tmp 54) (.tmp 62) 26 (by rfl) W.heap.size 9 i0 (.string { data := #[] }) 1 16 Tryz.underlying26 hi hz0 hz1 hz2 (by rfl) (by decide) _ d.steps.length (d.steps.map Value.string) RS.out ZS.out (some ⟨w5.heap.size, 0, none⟩) 1 1 [.string (((({ data := #[43] } : ByteArray) ++ s) ++ { data := #[58] }) ++ t)] CS5.out (one_str _) bn bm (by rfl) (by rfl) ?_; intro v6 w6 hown6 hg6; obtain ⟨aS6, cS6, rfl, _, _⟩ := own_shape hown6; have m6 := D5a.out.mid nb hg6; have fz6 := m6.2; have e0 := m6.1.at 0 _ rfl; have e1 := m6.1.at 1 _ rfl; have e2 := m6.1.at 2 _ rfl; have e3 := m6.1.at 3 _ rfl; have e4 := m6.1.at 4 _ rfl; have e5 := m6.1.at 5 _ rfl; have D6 := Lib.hid (D5a.out.setS (ss := d.steps ++ [(((({ data := #[43] } : ByteArray) ++ s) ++ { data := #[58] }) ++ t)]) hg6 (by rw [List.map_append]; exact hown6)); have B6 := Lib.hid ((B5a.out.grown hg6 B5a.out.size (fun j hj => Nat.le_trans HB.out.size (own_block_ge RS.out j hj).1)).setCell (p := ⟨w.heap.size, 3, none⟩) (Nat.le_refl _) (.slice aS6 (d.steps.length + 1) cS6)); have g3 := D6.out.box.at 3 _ rfl; have g5 := D6.out.box.at 5 _ rfl; clear m6 hown6 hg6))
              all_goals
                have D6s := D6.out
                rw [HPS.out] at D6s
                have D5 := Lib.hid (D6s.setX (x := d.next + 1))
                have B5 := Lib.hid (B6.out.setCell (p := ⟨w.heap.size, 5, none⟩) (Nat.le_refl _) (.int .i64 (d.next + 1)))
                have n0 : 1 ≤ d.next := NX.1
                have n1 : d.next ≤ 1000000000 := NX.2
                clear D6s g3 g5 y3 y5 v3 v5 l1 l2 l3
                go_wp2_with (fail)
                refine (specClean W.heap.size _ (createMid d s) _ D5.out.size (MO.out.ok HK.out) D5.out.own).mono ?_
                rintro e w7 ⟨u7, rfl, hd7, hb7⟩
                obtain ⟨aN7, aE7, aO7, aS7, cN7, cE7, cO7, cS7, rfl⟩ := own_slices hd7
                have D7 := D5.out.below hb7
                have B7 := B5.out.trans (hb7.mono B5.out.size)
                obtain ⟨u0, u1, u2, u3, u4, u5, ho⟩ := D7.out
                have q0 := ho.at 0 _ rfl
                have q1 := ho.at 1 _ rfl
                have q2 := ho.at 2 _ rfl
                have q3 := ho.at 3 _ rfl
                have q4 := ho.at 4 _ rfl
                have q5 := ho.at 5 _ rfl
                have fr2 := D7.fr
                obtain ⟨Z, hZ, hbz, hdz, hlz⟩ := six_ret ho D7.hr hd7 w.heap.size w B7 (Nat.le_succ _)
                have z0 := hbz.at 0 _ rfl
                have z1 := hbz.at 1 _ rfl
                have z2 := hbz.at 2 _ rfl
                have z3 := hbz.at 3 _ rfl
                have z4 := hbz.at 4 _ rfl
                have z5 := hbz.at 5 _ rfl
                have HZ2 := Lib.hid hZ
                clear hbz ho hZ e0 e1 e2 e3 e4 e5 hd7 hb7 D7 B7
                go_wp2
                rw [HZ2.out]
                refine bodyPost_ret (v := .tuple #[.agg #[.slice aN7 (clean (createMid d s)).nodes.length cN7, .slice aE7 (clean (createMid d s)).ents.length cE7, .slice aO7 (clean (createMid d s)).old.length cO7, .slice aS7 (clean (createMid d s)).steps.length cS7, .int .i64 (clean (createMid d s)).room, .int .i64 (clean (createMid d s)).next], .int .i64 0]) (by simp [results, Tryz.results28, go_sem, z0, z1, z2, z3, z4, z5]) rfl ⟨_, by rw [HZ.out], by rw [HZ.out]; exact hdz.base HB.out.size, hlz⟩


end Go.Proofs.YtiehfobcbhgfkaaGreatDoor.deed

namespace Go.Proofs.YtiehfobcbhgfkaaGreatDoor.deed
set_option maxRecDepth 20000
open Go.RowKit
open kit strs recs disk kd

def SyncR (r : D) (w : World) (e : Ending) (w' : World) : Prop := ∃ u, e = .returned u ∧ OwnDisk w.heap.size w' u r ∧ Below w.heap.size w w'

set_option maxHeartbeats 8000000 in
set_option maxRecDepth 100000 in
theorem specSyncNames (v : Value) (d : D) (w : World) (hk : okD d) (hv : IsDisk w v d) :
    Calls Tryz.prog 183 #[v] w (SyncR (syncNames d) w) := by
  have hv0 := hv
  obtain ⟨aN, aE, aO, aS, nN, cN, nE, cE, nO, cO, nS, cS, rfl, _, _, _, _⟩ := hv0
  obtain ⟨W, hW⟩ : ∃ W, W = (w.alloc (.cells #[.slice aN nN cN, .slice aE nE cE, .slice aO nO cO, .slice aS nS cS, .int .i64 d.room, .int .i64 d.next] 28)).alloc (.cells #[.slice none 0 0, .slice none 0 0, .slice none 0 0, .slice none 0 0, .int .i64 0, .int .i64 0] 28) := ⟨_, rfl⟩
  have hWB : Below w.heap.size w W := by rw [hW]; exact ((Below.refl _ _).alloc (Nat.le_refl _) _).alloc (by simp) _
  have hWs : w.heap.size + 1 < W.heap.size ∧ W.heap.size = w.heap.size + 1 + 1 := by rw [hW]; simp
  have bx := show disk.Box W w.heap.size [.slice aN nN cN, .slice aE nE cE, .slice aO nO cO, .slice aS nS cS, .int .i64 d.room, .int .i64 d.next] from by rw [hW]; exact (Box.new _ #[.slice aN nN cN, .slice aE nE cE, .slice aO nO cO, .slice aS nS cS, .int .i64 d.room, .int .i64 d.next] _).below ((Below.refl _ _).alloc (Nat.le_refl _) _)
  have br := show disk.Box W (w.heap.size + 1) [.slice none 0 0, .slice none 0 0, .slice none 0 0, .slice none 0 0, .int .i64 0, .int .i64 0] from by
    have h := Box.new (w.alloc (.cells #[.slice aN nN cN, .slice aE nE cE, .slice aO nO cO, .slice aS nS cS, .int .i64 d.room, .int .i64 d.next] 28)) #[.slice none 0 0, .slice none 0 0, .slice none 0 0, .slice none 0 0, .int .i64 0, .int .i64 0] 28
    rw [hW]
    simpa using h
  have fz : ∀ j, W.frozen? ⟨w.heap.size, j, none⟩ = false := fun j => by rw [hW]; simp
  have fr : ∀ j, W.frozen? ⟨w.heap.size + 1, j, none⟩ = false := fun j => by rw [hW]; simp
  have x0 := bx.at 0 _ rfl
  have x1 := bx.at 1 _ rfl
  have x2 := bx.at 2 _ rfl
  have x3 := bx.at 3 _ rfl
  have x4 := bx.at 4 _ rfl
  have x5 := bx.at 5 _ rfl
  have CC := Lib.hid (specCopy _ d W (okD.loose hk) (hv.below hWB))
  have BX := Lib.hid bx
  have BR := Lib.hid br
  have FZ := Lib.hid fz
  have FR := Lib.hid fr
  have HB := Lib.hid hWB
  have HK := Lib.hid hk
  have HWs := Lib.hid hWs
  obtain ⟨R, hR⟩ : ∃ R, R = syncNames d := ⟨_, rfl⟩
  rw [← hR]
  have HR := Lib.hid hR
  have hl := okL_lens (okD.loose hk)
  have LL := Lib.hid (show d.nodes.length ≤ 1500000 ∧ d.ents.length ≤ 1500000 ∧ d.old.length ≤ 1500000 ∧ d.steps.length ≤ 1500000 from hl)
  have ME := Lib.hid (show d.ents.length ≤ maxLen by unfold maxLen; omega)
  clear bx br fz fr hWB hk hv hR hl
  go_enter Tryz.func183, Tryz.ntmps183
  go_wp2_with (fail)
  rw [← hW]
  clear hW hWs
  refine CC.out.mono ?_
  rintro e w1 ⟨u, rfl, hd, hb1⟩
  obtain ⟨aN1, aE1, aO1, aS1, cN1, cE1, cO1, cS1, rfl⟩ := own_slices hd
  have bx1 := BX.out.below hb1
  have y0 := bx1.at 0 _ rfl
  have y1 := bx1.at 1 _ rfl
  have y2 := bx1.at 2 _ rfl
  have y3 := bx1.at 3 _ rfl
  have y4 := bx1.at 4 _ rfl
  have y5 := bx1.at 5 _ rfl
  have fz1 := frozen_below FZ.out BX.out.1 hb1
  obtain ⟨X, hX, DK, hBX⟩ := desk_open bx1 fz1 (BR.out.below hb1) (frozen_below FR.out BR.out.1 hb1) hd (by have := HWs.out; omega) HWs.out.1 (by omega) hb1.size w.heap.size w (HB.out.trans (hb1.mono HB.out.size)) (Nat.le_refl _)
  have CK := Lib.hid (specDiskOk _ d X (okD.loose HK.out) DK.own.is)
  have DKH := Lib.hid DK
  have HBX := Lib.hid hBX
  have HX := Lib.hid hX
  clear hd hb1 bx1 x0 x1 x2 x3 x4 x5 DK hBX hX
  go_wp2_with (fail)
  rw [HX.out]
  clear HX y0 y1 y2 y3 y4 y5 fz1
  refine CK.out.mono ?_
  rintro e w2 ⟨rfl, hb2⟩
  have D2 := Lib.hid (DKH.out.below hb2)
  have B2 := Lib.hid (HBX.out.trans (hb2.mono HBX.out.size))
  clear hb2
  have x0 := D2.out.box.at 0 _ rfl
  have x1 := D2.out.box.at 1 _ rfl
  have x2 := D2.out.box.at 2 _ rfl
  have x3 := D2.out.box.at 3 _ rfl
  have x4 := D2.out.box.at 4 _ rfl
  have x5 := D2.out.box.at 5 _ rfl
  cases hdk : diskOk d with
  | false =>
    have HZ := Lib.hid (show R = d by rw [HR.out]; unfold syncNames; rw [if_pos hdk])
    obtain ⟨u0, u1, u2, u3, u4, u5, ho⟩ := D2.out.out
    have q0 := ho.at 0 _ rfl
    have q1 := ho.at 1 _ rfl
    have q2 := ho.at 2 _ rfl
    have q3 := ho.at 3 _ rfl
    have q4 := ho.at 4 _ rfl
    have q5 := ho.at 5 _ rfl
    have fr2 := D2.out.fr
    obtain ⟨Z, hZ, hbz, hdz, hlz⟩ := six_ret ho D2.out.hr D2.out.own w.heap.size w B2.out (Nat.le_succ _)
    have z0 := hbz.at 0 _ rfl
    have z1 := hbz.at 1 _ rfl
    have z2 := hbz.at 2 _ rfl
    have z3 := hbz.at 3 _ rfl
    have z4 := hbz.at 4 _ rfl
    have z5 := hbz.at 5 _ rfl
    have HZ2 := Lib.hid hZ
    clear hbz ho hZ
    go_wp2
    rw [HZ2.out]
    refine bodyPost_ret (v := .agg #[.slice aN1 d.nodes.length cN1, .slice aE1 d.ents.length cE1, .slice aO1 d.old.length cO1, .slice aS1 d.steps.length cS1, .int .i64 d.room, .int .i64 d.next]) (by simp [results, Tryz.results183, go_sem, z0, z1, z2, z3, z4, z5]) rfl ⟨_, rfl, by rw [HZ.out]; exact hdz.base HB.out.size, hlz⟩
  | true =>
    obtain ⟨i0, hi, hz0, hz1, hz2⟩ := info_parts Tryz.infoEnt
    have HZ := Lib.hid (show R = clean (syncMid d) by rw [HR.out]; unfold syncNames; rw [if_neg (by rw [hdk]; simp)]; rfl)
    have MO := Lib.hid (more_sync HK.out hdk)
    clear hdk
    have own0 : (w2.alloc (.cells #[] 71)).ownsRow w2.heap.size 71 2 (.slice (some ⟨w2.heap.size, 0, none⟩) 0 0) 0 [] := World.ownsRow_made _ _ _ (Nat.le_refl _) (by decide) rfl
    have bo0 : w2.heap.size ≤ (w2.alloc (.cells #[] 71)).heap.size := by simp
    have C0 := Lib.hid (show Cells (w2.alloc (.cells #[] 71)) aE1 d.ents.length 2 (cellsE d.ents) from D2.out.atE.below ((Below.refl _ _).alloc (Nat.le_refl _) _))
    have zl2 := D2.out.box.1
    have bn0 : 0 + d.ents.length ≤ maxLen := by have := ME.out; omega
    have bm0 : (0 + d.ents.length) * 24 ≤ 140737488355328 := by have := LL.out; omega
    go_wp2_with (first | (at_builtin; refine list_copy (by rfl) (.tmp 9) (.tmp 11) 25 (by rfl) w2.heap.size 71 i0 (.agg #[.string { data := #[] }, .int .i64 0]) 2 24 Tryz.underlying25 hi hz0 hz1 hz2 (by rfl) (by decide) _ 0 [] own0 bo0 aE1 d.ents.length cE1 (cellsE d.ents) C0.out (oneE d.ents) bn0 bm0 (by rfl) (by rfl) ?_; intro v3 w3 hown3 hg3; have hb3 : Below w2.heap.size w2 w3 := ((Below.refl w2.heap.size w2).alloc (Nat.le_refl _) _).grown hg3 bo0 (fun k hk => by simp [Value.ownBlock] at hk; omega); rw [List.nil_append, Nat.zero_add] at hown3; obtain ⟨aU, cU, rfl, _, _⟩ := own_shape hown3; have b3 := D2.out.below hb3; have fz3 := b3.fz; have zl3 := b3.box.1; have y0 := b3.box.at 0 _ rfl; have y1 := b3.box.at 1 _ rfl; have y2 := b3.box.at 2 _ rfl; have y3 := b3.box.at 3 _ rfl; have y4 := b3.box.at 4 _ rfl; have y5 := b3.box.at 5 _ rfl; have D3 := Lib.hid (D2.out.setO (es := d.ents) hb3 ⟨_, hown3⟩); have B3 := Lib.hid ((B2.out.trans (hb3.mono B2.out.size)).setCell (p := ⟨w.heap.size, 2, none⟩) (Nat.le_refl _) (.slice aU d.ents.length cU)); clear b3 hown3 hg3 own0 bo0 C0 bn0 bm0 x0 x1 x2 x3 x4 x5) | fail)
    have e3 : (w3.setCell ⟨w.heap.size, 2, none⟩ (.slice aU d.ents.length cU)).heap.size = w3.heap.size := by simp
    have h4 := (Below.refl (w3.setCell ⟨w.heap.size, 2, none⟩ (.slice aU d.ents.length cU)).heap.size (w3.setCell ⟨w.heap.size, 2, none⟩ (.slice aU d.ents.length cU))).alloc (Nat.le_refl _) (.cells #[] 9)
    have D5 := D3.out.setS0 (u := .slice (some ⟨(w3.setCell ⟨w.heap.size, 2, none⟩ (.slice aU d.ents.length cU)).heap.size, 0, none⟩) 0 0) h4 (World.ownsRow_made _ _ _ (Nat.le_refl _) (by decide) rfl)
    have B5 := ((B3.out.trans (h4.mono B3.out.size)).setCell (p := ⟨w.heap.size, 3, none⟩) (Nat.le_refl _) (.slice (some ⟨w3.heap.size, 0, none⟩) 0 0))
    rw [e3] at D5
    have e6 : ((w3.setCell ⟨w.heap.size, 2, none⟩ (.slice aU d.ents.length cU)).alloc (.cells #[] 9)).setCell ⟨w.heap.size, 3, none⟩ (.slice (some ⟨w3.heap.size, 0, none⟩) 0 0) = ((w3.setCell ⟨w.heap.size, 2, none⟩ (.slice aU d.ents.length cU)).setCell ⟨w.heap.size, 3, none⟩ (.slice (some ⟨w3.heap.size, 0, none⟩) 0 0)).alloc (.cells #[] 9) := World.setCell_alloc_past _ _ _ _ (by rw [e3]; exact zl3)
    rw [e6] at D5 B5
    have D5 := Lib.hid D5
    have B5 := Lib.hid B5
    have e0 := y0
    have e1 := y1
    have e2 := y2
    have e3 := y3
    have e4 := y4
    have e5 := y5
    refine (specClean W.heap.size _ (syncMid d) _ D5.out.size (MO.out.ok HK.out) D5.out.own).mono ?_
    rintro e w7 ⟨u7, rfl, hd7, hb7⟩
    obtain ⟨aN7, aE7, aO7, aS7, cN7, cE7, cO7, cS7, rfl⟩ := own_slices hd7
    have D7 := D5.out.below hb7
    have B7 := B5.out.trans (hb7.mono B5.out.size)
    obtain ⟨u0, u1, u2, u3, u4, u5, ho⟩ := D7.out
    have q0 := ho.at 0 _ rfl
    have q1 := ho.at 1 _ rfl
    have q2 := ho.at 2 _ rfl
    have q3 := ho.at 3 _ rfl
    have q4 := ho.at 4 _ rfl
    have q5 := ho.at 5 _ rfl
    have fr2 := D7.fr
    obtain ⟨Z, hZ, hbz, hdz, hlz⟩ := six_ret ho D7.hr hd7 w.heap.size w B7 (Nat.le_succ _)
    have z0 := hbz.at 0 _ rfl
    have z1 := hbz.at 1 _ rfl
    have z2 := hbz.at 2 _ rfl
    have z3 := hbz.at 3 _ rfl
    have z4 := hbz.at 4 _ rfl
    have z5 := hbz.at 5 _ rfl
    have HZ2 := Lib.hid hZ
    clear hbz ho hZ e0 e1 e2 e3 e4 e5 hd7 hb7 D7 B7
    go_wp2
    rw [HZ2.out]
    refine bodyPost_ret (v := .agg #[.slice aN7 (clean (syncMid d)).nodes.length cN7, .slice aE7 (clean (syncMid d)).ents.length cE7, .slice aO7 (clean (syncMid d)).old.length cO7, .slice aS7 (clean (syncMid d)).steps.length cS7, .int .i64 (clean (syncMid d)).room, .int .i64 (clean (syncMid d)).next]) (by simp [results, Tryz.results183, go_sem, z0, z1, z2, z3, z4, z5]) rfl ⟨_, rfl, by rw [HZ.out]; exact hdz.base HB.out.size, hlz⟩

end Go.Proofs.YtiehfobcbhgfkaaGreatDoor.deed

namespace Go.Proofs.YtiehfobcbhgfkaaGreatDoor.deed
set_option maxRecDepth 20000
open Go.RowKit
open kit strs recs disk kd

set_option maxHeartbeats 8000000 in
set_option maxRecDepth 100000 in
theorem specRename (v : Value) (d : D) (s t : ByteArray) (w : World) (hk : okD d) (ht : t.size ≤ 9223372036854775807) (hv : IsDisk w v d) :
    Calls Tryz.prog 185 #[v, .string s, .string t] w (DeedR (renameFile d s t) w) := by
  have hv0 := hv
  obtain ⟨aN, aE, aO, aS, nN, cN, nE, cE, nO, cO, nS, cS, rfl, _, _, _, _⟩ := hv0
  obtain ⟨W, hW⟩ : ∃ W, W = (w.alloc (.cells #[.slice aN nN cN, .slice aE nE cE, .slice aO nO cO, .slice aS nS cS, .int .i64 d.room, .int .i64 d.next] 28)).alloc (.cells #[.slice none 0 0, .slice none 0 0, .slice none 0 0, .slice none 0 0, .int .i64 0, .int .i64 0] 28) := ⟨_, rfl⟩
  have hWB : Below w.heap.size w W := by rw [hW]; exact ((Below.refl _ _).alloc (Nat.le_refl _) _).alloc (by simp) _
  have hWs : w.heap.size + 1 < W.heap.size ∧ W.heap.size = w.heap.size + 1 + 1 := by rw [hW]; simp
  have bx := show disk.Box W w.heap.size [.slice aN nN cN, .slice aE nE cE, .slice aO nO cO, .slice aS nS cS, .int .i64 d.room, .int .i64 d.next] from by rw [hW]; exact (Box.new _ #[.slice aN nN cN, .slice aE nE cE, .slice aO nO cO, .slice aS nS cS, .int .i64 d.room, .int .i64 d.next] _).below ((Below.refl _ _).alloc (Nat.le_refl _) _)
  have br := show disk.Box W (w.heap.size + 1) [.slice none 0 0, .slice none 0 0, .slice none 0 0, .slice none 0 0, .int .i64 0, .int .i64 0] from by
    have h := Box.new (w.alloc (.cells #[.slice aN nN cN, .slice aE nE cE, .slice aO nO cO, .slice aS nS cS, .int .i64 d.room, .int .i64 d.next] 28)) #[.slice none 0 0, .slice none 0 0, .slice none 0 0, .slice none 0 0, .int .i64 0, .int .i64 0] 28
    rw [hW]
    simpa using h
  have fz : ∀ j, W.frozen? ⟨w.heap.size, j, none⟩ = false := fun j => by rw [hW]; simp
  have fr : ∀ j, W.frozen? ⟨w.heap.size + 1, j, none⟩ = false := fun j => by rw [hW]; simp
  have x0 := bx.at 0 _ rfl
  have x1 := bx.at 1 _ rfl
  have x2 := bx.at 2 _ rfl
  have x3 := bx.at 3 _ rfl
  have x4 := bx.at 4 _ rfl
  have x5 := bx.at 5 _ rfl
  have CC := Lib.hid (specCopy _ d W (okD.loose hk) (hv.below hWB))
  have BX := Lib.hid bx
  have BR := Lib.hid br
  have FZ := Lib.hid fz
  have FR := Lib.hid fr
  have HB := Lib.hid hWB
  have HK := Lib.hid hk
  have HWs := Lib.hid hWs
  obtain ⟨R, hR⟩ : ∃ R, R = renameFile d s t := ⟨_, rfl⟩
  rw [← hR]
  have HR := Lib.hid hR
  have hl := okL_lens (okD.loose hk)
  have LL := Lib.hid (show d.nodes.length ≤ 1500000 ∧ d.ents.length ≤ 1500000 ∧ d.old.length ≤ 1500000 ∧ d.steps.length ≤ 1500000 from hl)
  have ME := Lib.hid (show d.ents.length ≤ maxLen by unfold maxLen; omega)
  clear bx br fz fr hWB hk hv hR hl
  go_enter Tryz.func185, Tryz.ntmps185
  go_wp2_with (fail)
  rw [← hW]
  clear hW hWs
  refine CC.out.mono ?_
  rintro e w1 ⟨u, rfl, hd, hb1⟩
  obtain ⟨aN1, aE1, aO1, aS1, cN1, cE1, cO1, cS1, rfl⟩ := own_slices hd
  have bx1 := BX.out.below hb1
  have y0 := bx1.at 0 _ rfl
  have y1 := bx1.at 1 _ rfl
  have y2 := bx1.at 2 _ rfl
  have y3 := bx1.at 3 _ rfl
  have y4 := bx1.at 4 _ rfl
  have y5 := bx1.at 5 _ rfl
  have fz1 := frozen_below FZ.out BX.out.1 hb1
  obtain ⟨X, hX, DK, hBX⟩ := desk_open bx1 fz1 (BR.out.below hb1) (frozen_below FR.out BR.out.1 hb1) hd (by have := HWs.out; omega) HWs.out.1 (by omega) hb1.size w.heap.size w (HB.out.trans (hb1.mono HB.out.size)) (Nat.le_refl _)
  have CK := Lib.hid (specDiskOk _ d X (okD.loose HK.out) DK.own.is)
  have DKH := Lib.hid DK
  have HBX := Lib.hid hBX
  have HX := Lib.hid hX
  clear hd hb1 bx1 x0 x1 x2 x3 x4 x5 DK hBX hX
  go_wp2_with (fail)
  rw [HX.out]
  clear HX y0 y1 y2 y3 y4 y5 fz1
  refine CK.out.mono ?_
  rintro e w2 ⟨rfl, hb2⟩
  have D2 := Lib.hid (DKH.out.below hb2)
  have B2 := Lib.hid (HBX.out.trans (hb2.mono HBX.out.size))
  clear hb2
  have x0 := D2.out.box.at 0 _ rfl
  have x1 := D2.out.box.at 1 _ rfl
  have x2 := D2.out.box.at 2 _ rfl
  have x3 := D2.out.box.at 3 _ rfl
  have x4 := D2.out.box.at 4 _ rfl
  have x5 := D2.out.box.at 5 _ rfl
  cases hdk : diskOk d with
  | false =>
    have HZ := Lib.hid (show R = (d, 3) by rw [HR.out]; unfold renameFile; rw [if_pos (.inl hdk)])
    obtain ⟨u0, u1, u2, u3, u4, u5, ho⟩ := D2.out.out
    have q0 := ho.at 0 _ rfl
    have q1 := ho.at 1 _ rfl
    have q2 := ho.at 2 _ rfl
    have q3 := ho.at 3 _ rfl
    have q4 := ho.at 4 _ rfl
    have q5 := ho.at 5 _ rfl
    have fr2 := D2.out.fr
    obtain ⟨Z, hZ, hbz, hdz, hlz⟩ := six_ret ho D2.out.hr D2.out.own w.heap.size w B2.out (Nat.le_succ _)
    have z0 := hbz.at 0 _ rfl
    have z1 := hbz.at 1 _ rfl
    have z2 := hbz.at 2 _ rfl
    have z3 := hbz.at 3 _ rfl
    have z4 := hbz.at 4 _ rfl
    have z5 := hbz.at 5 _ rfl
    have HZ2 := Lib.hid hZ
    clear hbz ho hZ
    go_wp2
    rw [HZ2.out]
    refine bodyPost_ret (v := .tuple #[.agg #[.slice aN1 d.nodes.length cN1, .slice aE1 d.ents.length cE1, .slice aO1 d.old.length cO1, .slice aS1 d.steps.length cS1, .int .i64 d.room, .int .i64 d.next], .int .i64 3]) (by simp [results, Tryz.results185, go_sem, z0, z1, z2, z3, z4, z5]) rfl ⟨_, by rw [HZ.out], by rw [HZ.out]; exact hdz.base HB.out.size, hlz⟩
  | true =>
    go_wp2_with (fail)
    refine (specHas aE1 cE1 d.ents.length d.ents s w2 ME.out D2.out.atE).mono ?_
    rintro e w3 ⟨rfl, rfl⟩
    cases hh : hasE d.ents s with
    | false =>
      have HZ := Lib.hid (show R = (d, 3) by rw [HR.out]; unfold renameFile; rw [if_pos (.inr hh)])
      obtain ⟨u0, u1, u2, u3, u4, u5, ho⟩ := D2.out.out
      have q0 := ho.at 0 _ rfl
      have q1 := ho.at 1 _ rfl
      have q2 := ho.at 2 _ rfl
      have q3 := ho.at 3 _ rfl
      have q4 := ho.at 4 _ rfl
      have q5 := ho.at 5 _ rfl
      have fr2 := D2.out.fr
      obtain ⟨Z, hZ, hbz, hdz, hlz⟩ := six_ret ho D2.out.hr D2.out.own w.heap.size w B2.out (Nat.le_succ _)
      have z0 := hbz.at 0 _ rfl
      have z1 := hbz.at 1 _ rfl
      have z2 := hbz.at 2 _ rfl
      have z3 := hbz.at 3 _ rfl
      have z4 := hbz.at 4 _ rfl
      have z5 := hbz.at 5 _ rfl
      have HZ2 := Lib.hid hZ
      clear hbz ho hZ
      go_wp2
      rw [HZ2.out]
      refine bodyPost_ret (v := .tuple #[.agg #[.slice aN1 d.nodes.length cN1, .slice aE1 d.ents.length cE1, .slice aO1 d.old.length cO1, .slice aS1 d.steps.length cS1, .int .i64 d.room, .int .i64 d.next], .int .i64 3]) (by simp [results, Tryz.results185, go_sem, z0, z1, z2, z3, z4, z5]) rfl ⟨_, by rw [HZ.out], by rw [HZ.out]; exact hdz.base HB.out.size, hlz⟩
    | true =>
      have HG := Lib.hid (show ¬ (diskOk d = false ∨ hasE d.ents s = false) by rw [hdk, hh]; simp)
      have hsz := has_small hdk hh
      clear hdk hh
      go_wp2_with (fail)
      refine (nam.specOk_any t w2 ht).mono ?_
      rintro e w3 ⟨rfl, rfl⟩
      cases ho2 : nam.nok t with
      | false =>
        have HZ := Lib.hid (show R = (d, 1) by rw [HR.out]; unfold renameFile; rw [if_neg HG.out, if_pos (.inl ho2)])
        obtain ⟨u0, u1, u2, u3, u4, u5, ho⟩ := D2.out.out
        have q0 := ho.at 0 _ rfl
        have q1 := ho.at 1 _ rfl
        have q2 := ho.at 2 _ rfl
        have q3 := ho.at 3 _ rfl
        have q4 := ho.at 4 _ rfl
        have q5 := ho.at 5 _ rfl
        have fr2 := D2.out.fr
        obtain ⟨Z, hZ, hbz, hdz, hlz⟩ := six_ret ho D2.out.hr D2.out.own w.heap.size w B2.out (Nat.le_succ _)
        have z0 := hbz.at 0 _ rfl
        have z1 := hbz.at 1 _ rfl
        have z2 := hbz.at 2 _ rfl
        have z3 := hbz.at 3 _ rfl
        have z4 := hbz.at 4 _ rfl
        have z5 := hbz.at 5 _ rfl
        have HZ2 := Lib.hid hZ
        clear hbz ho hZ
        go_wp2
        rw [HZ2.out]
        refine bodyPost_ret (v := .tuple #[.agg #[.slice aN1 d.nodes.length cN1, .slice aE1 d.ents.length cE1, .slice aO1 d.old.length cO1, .slice aS1 d.steps.length cS1, .int .i64 d.room, .int .i64 d.next], .int .i64 1]) (by simp [results, Tryz.results185, go_sem, z0, z1, z2, z3, z4, z5]) rfl ⟨_, by rw [HZ.out], by rw [HZ.out]; exact hdz.base HB.out.size, hlz⟩
      | true =>
        by_cases he : s = t
        · have hb := bytes_eq he
          have HZ := Lib.hid (show R = (d, 1) by rw [HR.out]; unfold renameFile; rw [if_neg HG.out, if_pos (.inr he)])
          obtain ⟨u0, u1, u2, u3, u4, u5, ho⟩ := D2.out.out
          have q0 := ho.at 0 _ rfl
          have q1 := ho.at 1 _ rfl
          have q2 := ho.at 2 _ rfl
          have q3 := ho.at 3 _ rfl
          have q4 := ho.at 4 _ rfl
          have q5 := ho.at 5 _ rfl
          have fr2 := D2.out.fr
          obtain ⟨Z, hZ, hbz, hdz, hlz⟩ := six_ret ho D2.out.hr D2.out.own w.heap.size w B2.out (Nat.le_succ _)
          have z0 := hbz.at 0 _ rfl
          have z1 := hbz.at 1 _ rfl
          have z2 := hbz.at 2 _ rfl
          have z3 := hbz.at 3 _ rfl
          have z4 := hbz.at 4 _ rfl
          have z5 := hbz.at 5 _ rfl
          have HZ2 := Lib.hid hZ
          clear hbz ho hZ
          go_wp2
          rw [HZ2.out]
          refine bodyPost_ret (v := .tuple #[.agg #[.slice aN1 d.nodes.length cN1, .slice aE1 d.ents.length cE1, .slice aO1 d.old.length cO1, .slice aS1 d.steps.length cS1, .int .i64 d.room, .int .i64 d.next], .int .i64 1]) (by simp [results, Tryz.results185, go_sem, z0, z1, z2, z3, z4, z5]) rfl ⟨_, by rw [HZ.out], by rw [HZ.out]; exact hdz.base HB.out.size, hlz⟩
        · have hb := bytes_ne he
          have htz := nok_small ho2
          have HZ := Lib.hid (show R = (clean (renameMid d s t), 0) by rw [HR.out]; unfold renameFile; rw [if_neg HG.out, if_neg (by rw [ho2]; simp; exact he)]; rfl)
          have MO := Lib.hid (more_rename HK.out hsz htz)
          have l1 : 1 + s.size ≤ 9223372036854775807 := by omega
          have l2 : 1 + s.size + 1 ≤ 9223372036854775807 := by omega
          have l3 : 1 + s.size + 1 + t.size ≤ 9223372036854775807 := by omega
          clear ho2
          go_wp2_with (fail)
          refine (specEntryAt aE1 cE1 d.ents.length d.ents s w2 ME.out D2.out.atE).mono ?_
          rintro e w3 ⟨rfl, rfl⟩
          go_wp2_with (fail)
          refine (specDrop aE1 cE1 d.ents.length d.ents s w2 (by have := LL.out; omega) D2.out.atE).mono ?_
          rintro e w3 ⟨u, rfl, ⟨m, hu⟩, hb3⟩
          obtain ⟨aU, cU, rfl, _, _⟩ := own_shape hu
          have hm : m ≤ 10000000 := by
            have h1 : AtE w3 aU m (dropE d.ents s) := own_cells hu
            have h2 := dropE_length d.ents s
            have h3 := LL.out
            rw [h1.len] at h2
            omega
          have HU := Lib.hid (show AtE w3 aU m (dropE d.ents s) from own_cells hu)
          have B3 := Lib.hid hb3
          have x0 := (D2.out.below hb3).box.at 0 _ rfl
          have x1 := (D2.out.below hb3).box.at 1 _ rfl
          have x2 := (D2.out.below hb3).box.at 2 _ rfl
          have x3 := (D2.out.below hb3).box.at 3 _ rfl
          have x4 := (D2.out.below hb3).box.at 4 _ rfl
          have x5 := (D2.out.below hb3).box.at 5 _ rfl
          clear hu hb3
          go_wp2_with (fail)
          refine (specPut aU cU m (dropE d.ents s) t (idE d.ents s) w3 hm HU.out).mono ?_
          rintro e w4 ⟨u', rfl, ⟨m', hu'⟩, hb4⟩
          obtain ⟨aV, cV, rfl, _, _⟩ := own_shape hu'
          have hu : OwnE w2.heap.size w4 (.slice aV m' cV) (putE (dropE d.ents s) (t, idE d.ents s)) := ⟨m', own_base hu' B3.out.size⟩
          have hb24 := B3.out.trans (hb4.mono B3.out.size)
          clear hu' hb4
          have b3 := D2.out.below hb24
          have fz3 := b3.fz
          obtain ⟨Y, hY, D3, B3⟩ : ∃ Y, w4.setCell ⟨w.heap.size, 1, none⟩ (.slice aV m' cV) = Y ∧ Desk W.heap.size Y w.heap.size (w.heap.size + 1) (.slice aN1 d.nodes.length cN1) (.slice aV m' cV) (.slice aO1 d.old.length cO1) (.slice aS1 d.steps.length cS1) { d with ents := putE (dropE d.ents s) (t, idE d.ents s) } ∧ Below w.heap.size w Y := ⟨_, rfl, D2.out.setE hb24 hu, (B2.out.trans (hb24.mono B2.out.size)).setCell (Nat.le_refl _) _⟩
          have y0 := b3.box.at 0 _ rfl
          have y1 := b3.box.at 1 _ rfl
          have y2 := b3.box.at 2 _ rfl
          have y3 := b3.box.at 3 _ rfl
          have y4 := b3.box.at 4 _ rfl
          have y5 := b3.box.at 5 _ rfl
          have DH3 := Lib.hid D3
          have BH3 := Lib.hid B3
          have HY := Lib.hid hY
          clear b3 x0 x1 x2 x3 x4 x5 D3 B3 hY
          obtain ⟨i0, hi, hz0, hz1, hz2⟩ := info_parts strs.Tryz.infoStr
          have hya : Below Y.heap.size Y (Y.alloc (.cells #[.string (moveStep s t)] 9)) := (Below.refl _ _).alloc (Nat.le_refl _) _
          have D4 := DH3.out.below hya
          have hYs : Y.heap.size = w4.heap.size := by rw [← HY.out]; simp
          have C4 := Lib.hid (show Cells (Y.alloc (.cells #[.string (moveStep s t)] 9)) (some ⟨w4.heap.size, 0, none⟩) 1 1 [.string (moveStep s t)] by have h := cells_new Y (.string (moveStep s t)) 9; rw [hYs] at h; exact h)
          clear hYs
          have RS := Lib.hid D4.rowS
          have ZS := Lib.hid D4.size
          have bn : d.steps.length + 1 ≤ maxLen := by have := LL.out; unfold maxLen; omega
          have bm : (d.steps.length + 1) * 16 ≤ 140737488355328 := by have := LL.out; omega
          have nb := own_not D4.rowS D4.hb
          have DH4 := Lib.hid D4
          have BH4 := Lib.hid (BH3.out.trans (hya.mono BH3.out.size))
          clear hya D4
          go_wp2_with (first | (at_builtin; rw [HY.out]; refine list_copy (by rfl) (.tmp 45) (.tmp 51) 26 (by rfl) W.heap.size 9 i0 (.string { data := #[] }) 1 16 Tryz.underlying26 hi hz0 hz1 hz2 (by rfl) (by decide) _ d.steps.length (d.steps.map Value.string) RS.out ZS.out (some ⟨w4.heap.size, 0, none⟩) 1 1 [.string (moveStep s t)] C4.out (one_str _) bn bm (by rfl) (by rfl) ?_; intro v5 w5 hown5 hg5; obtain ⟨aS5, cS5, rfl, _, _⟩ := own_shape hown5; have m5 := DH4.out.mid nb hg5; have fz5 := m5.2; have e0 := m5.1.at 0 _ rfl; have e1 := m5.1.at 1 _ rfl; have e2 := m5.1.at 2 _ rfl; have e3 := m5.1.at 3 _ rfl; have e4 := m5.1.at 4 _ rfl; have e5 := m5.1.at 5 _ rfl; have D5 := Lib.hid (DH4.out.setS (ss := d.steps ++ [moveStep s t]) hg5 (by rw [List.map_append]; exact hown5)); have B5 := Lib.hid ((BH4.out.grown hg5 BH4.out.size (fun j hj => Nat.le_trans HB.out.size (own_block_ge RS.out j hj).1)).setCell (p := ⟨w.heap.size, 3, none⟩) (Nat.le_refl _) (.slice aS5 (d.steps.length + 1) cS5)); clear m5 hown5 hg5) | fail)
          refine (specClean W.heap.size _ (renameMid d s t) _ D5.out.size (MO.out.ok HK.out) D5.out.own).mono ?_
          rintro e w7 ⟨u7, rfl, hd7, hb7⟩
          obtain ⟨aN7, aE7, aO7, aS7, cN7, cE7, cO7, cS7, rfl⟩ := own_slices hd7
          have D7 := D5.out.below hb7
          have B7 := B5.out.trans (hb7.mono B5.out.size)
          obtain ⟨u0, u1, u2, u3, u4, u5, ho⟩ := D7.out
          have q0 := ho.at 0 _ rfl
          have q1 := ho.at 1 _ rfl
          have q2 := ho.at 2 _ rfl
          have q3 := ho.at 3 _ rfl
          have q4 := ho.at 4 _ rfl
          have q5 := ho.at 5 _ rfl
          have fr2 := D7.fr
          obtain ⟨Z, hZ, hbz, hdz, hlz⟩ := six_ret ho D7.hr hd7 w.heap.size w B7 (Nat.le_succ _)
          have z0 := hbz.at 0 _ rfl
          have z1 := hbz.at 1 _ rfl
          have z2 := hbz.at 2 _ rfl
          have z3 := hbz.at 3 _ rfl
          have z4 := hbz.at 4 _ rfl
          have z5 := hbz.at 5 _ rfl
          have HZ2 := Lib.hid hZ
          clear hbz ho hZ e0 e1 e2 e3 e4 e5 hd7 hb7 D7 B7
          go_wp2
          rw [HZ2.out]
          refine bodyPost_ret (v := .tuple #[.agg #[.slice aN7 (clean (renameMid d s t)).nodes.length cN7, .slice aE7 (clean (renameMid d s t)).ents.length cE7, .slice aO7 (clean (renameMid d s t)).old.length cO7, .slice aS7 (clean (renameMid d s t)).steps.length cS7, .int .i64 (clean (renameMid d s t)).room, .int .i64 (clean (renameMid d s t)).next], .int .i64 0]) (by simp [results, Tryz.results185, go_sem, z0, z1, z2, z3, z4, z5]) rfl ⟨_, by rw [HZ.out], by rw [HZ.out]; exact hdz.base HB.out.size, hlz⟩

end Go.Proofs.YtiehfobcbhgfkaaGreatDoor.deed

namespace Go.Proofs.YtiehfobcbhgfkaaGreatDoor.deed
set_option maxRecDepth 20000
open Go.RowKit
open kit strs recs disk kd

set_option maxHeartbeats 8000000 in
set_option maxRecDepth 100000 in
theorem specRemove (v : Value) (d : D) (s : ByteArray) (w : World) (hk : okD d) (hv : IsDisk w v d) :
    Calls Tryz.prog 182 #[v, .string s] w (DeedR (removeFile d s) w) := by
  have hv0 := hv
  obtain ⟨aN, aE, aO, aS, nN, cN, nE, cE, nO, cO, nS, cS, rfl, _, _, _, _⟩ := hv0
  obtain ⟨W, hW⟩ : ∃ W, W = (w.alloc (.cells #[.slice aN nN cN, .slice aE nE cE, .slice aO nO cO, .slice aS nS cS, .int .i64 d.room, .int .i64 d.next] 28)).alloc (.cells #[.slice none 0 0, .slice none 0 0, .slice none 0 0, .slice none 0 0, .int .i64 0, .int .i64 0] 28) := ⟨_, rfl⟩
  have hWB : Below w.heap.size w W := by rw [hW]; exact ((Below.refl _ _).alloc (Nat.le_refl _) _).alloc (by simp) _
  have hWs : w.heap.size + 1 < W.heap.size ∧ W.heap.size = w.heap.size + 1 + 1 := by rw [hW]; simp
  have bx := show disk.Box W w.heap.size [.slice aN nN cN, .slice aE nE cE, .slice aO nO cO, .slice aS nS cS, .int .i64 d.room, .int .i64 d.next] from by rw [hW]; exact (Box.new _ #[.slice aN nN cN, .slice aE nE cE, .slice aO nO cO, .slice aS nS cS, .int .i64 d.room, .int .i64 d.next] _).below ((Below.refl _ _).alloc (Nat.le_refl _) _)
  have br := show disk.Box W (w.heap.size + 1) [.slice none 0 0, .slice none 0 0, .slice none 0 0, .slice none 0 0, .int .i64 0, .int .i64 0] from by
    have h := Box.new (w.alloc (.cells #[.slice aN nN cN, .slice aE nE cE, .slice aO nO cO, .slice aS nS cS, .int .i64 d.room, .int .i64 d.next] 28)) #[.slice none 0 0, .slice none 0 0, .slice none 0 0, .slice none 0 0, .int .i64 0, .int .i64 0] 28
    rw [hW]
    simpa using h
  have fz : ∀ j, W.frozen? ⟨w.heap.size, j, none⟩ = false := fun j => by rw [hW]; simp
  have fr : ∀ j, W.frozen? ⟨w.heap.size + 1, j, none⟩ = false := fun j => by rw [hW]; simp
  have x0 := bx.at 0 _ rfl
  have x1 := bx.at 1 _ rfl
  have x2 := bx.at 2 _ rfl
  have x3 := bx.at 3 _ rfl
  have x4 := bx.at 4 _ rfl
  have x5 := bx.at 5 _ rfl
  have CC := Lib.hid (specCopy _ d W (okD.loose hk) (hv.below hWB))
  have BX := Lib.hid bx
  have BR := Lib.hid br
  have FZ := Lib.hid fz
  have FR := Lib.hid fr
  have HB := Lib.hid hWB
  have HK := Lib.hid hk
  have HWs := Lib.hid hWs
  obtain ⟨R, hR⟩ : ∃ R, R = removeFile d s := ⟨_, rfl⟩
  rw [← hR]
  have HR := Lib.hid hR
  have hl := okL_lens (okD.loose hk)
  have LL := Lib.hid (show d.nodes.length ≤ 1500000 ∧ d.ents.length ≤ 1500000 ∧ d.old.length ≤ 1500000 ∧ d.steps.length ≤ 1500000 from hl)
  have ME := Lib.hid (show d.ents.length ≤ maxLen by unfold maxLen; omega)
  clear bx br fz fr hWB hk hv hR hl
  go_enter Tryz.func182, Tryz.ntmps182
  go_wp2_with (fail)
  rw [← hW]
  clear hW hWs
  refine CC.out.mono ?_
  rintro e w1 ⟨u, rfl, hd, hb1⟩
  obtain ⟨aN1, aE1, aO1, aS1, cN1, cE1, cO1, cS1, rfl⟩ := own_slices hd
  have bx1 := BX.out.below hb1
  have y0 := bx1.at 0 _ rfl
  have y1 := bx1.at 1 _ rfl
  have y2 := bx1.at 2 _ rfl
  have y3 := bx1.at 3 _ rfl
  have y4 := bx1.at 4 _ rfl
  have y5 := bx1.at 5 _ rfl
  have fz1 := frozen_below FZ.out BX.out.1 hb1
  obtain ⟨X, hX, DK, hBX⟩ := desk_open bx1 fz1 (BR.out.below hb1) (frozen_below FR.out BR.out.1 hb1) hd (by have := HWs.out; omega) HWs.out.1 (by omega) hb1.size w.heap.size w (HB.out.trans (hb1.mono HB.out.size)) (Nat.le_refl _)
  have CK := Lib.hid (specDiskOk _ d X (okD.loose HK.out) DK.own.is)
  have DKH := Lib.hid DK
  have HBX := Lib.hid hBX
  have HX := Lib.hid hX
  clear hd hb1 bx1 x0 x1 x2 x3 x4 x5 DK hBX hX
  go_wp2_with (fail)
  rw [HX.out]
  clear HX y0 y1 y2 y3 y4 y5 fz1
  refine CK.out.mono ?_
  rintro e w2 ⟨rfl, hb2⟩
  have D2 := Lib.hid (DKH.out.below hb2)
  have B2 := Lib.hid (HBX.out.trans (hb2.mono HBX.out.size))
  clear hb2
  have x0 := D2.out.box.at 0 _ rfl
  have x1 := D2.out.box.at 1 _ rfl
  have x2 := D2.out.box.at 2 _ rfl
  have x3 := D2.out.box.at 3 _ rfl
  have x4 := D2.out.box.at 4 _ rfl
  have x5 := D2.out.box.at 5 _ rfl
  cases hdk : diskOk d with
  | false =>
    have HZ := Lib.hid (show R = (d, 3) by rw [HR.out]; unfold removeFile; rw [if_pos (.inl hdk)])
    obtain ⟨u0, u1, u2, u3, u4, u5, ho⟩ := D2.out.out
    have q0 := ho.at 0 _ rfl
    have q1 := ho.at 1 _ rfl
    have q2 := ho.at 2 _ rfl
    have q3 := ho.at 3 _ rfl
    have q4 := ho.at 4 _ rfl
    have q5 := ho.at 5 _ rfl
    have fr2 := D2.out.fr
    obtain ⟨Z, hZ, hbz, hdz, hlz⟩ := six_ret ho D2.out.hr D2.out.own w.heap.size w B2.out (Nat.le_succ _)
    have z0 := hbz.at 0 _ rfl
    have z1 := hbz.at 1 _ rfl
    have z2 := hbz.at 2 _ rfl
    have z3 := hbz.at 3 _ rfl
    have z4 := hbz.at 4 _ rfl
    have z5 := hbz.at 5 _ rfl
    have HZ2 := Lib.hid hZ
    clear hbz ho hZ
    go_wp2
    rw [HZ2.out]
    refine bodyPost_ret (v := .tuple #[.agg #[.slice aN1 d.nodes.length cN1, .slice aE1 d.ents.length cE1, .slice aO1 d.old.length cO1, .slice aS1 d.steps.length cS1, .int .i64 d.room, .int .i64 d.next], .int .i64 3]) (by simp [results, Tryz.results182, go_sem, z0, z1, z2, z3, z4, z5]) rfl ⟨_, by rw [HZ.out], by rw [HZ.out]; exact hdz.base HB.out.size, hlz⟩
  | true =>
    go_wp2_with (fail)
    refine (specHas aE1 cE1 d.ents.length d.ents s w2 ME.out D2.out.atE).mono ?_
    rintro e w3 ⟨rfl, rfl⟩
    cases hh : hasE d.ents s with
    | false =>
      have HZ := Lib.hid (show R = (d, 3) by rw [HR.out]; unfold removeFile; rw [if_pos (.inr hh)])
      obtain ⟨u0, u1, u2, u3, u4, u5, ho⟩ := D2.out.out
      have q0 := ho.at 0 _ rfl
      have q1 := ho.at 1 _ rfl
      have q2 := ho.at 2 _ rfl
      have q3 := ho.at 3 _ rfl
      have q4 := ho.at 4 _ rfl
      have q5 := ho.at 5 _ rfl
      have fr2 := D2.out.fr
      obtain ⟨Z, hZ, hbz, hdz, hlz⟩ := six_ret ho D2.out.hr D2.out.own w.heap.size w B2.out (Nat.le_succ _)
      have z0 := hbz.at 0 _ rfl
      have z1 := hbz.at 1 _ rfl
      have z2 := hbz.at 2 _ rfl
      have z3 := hbz.at 3 _ rfl
      have z4 := hbz.at 4 _ rfl
      have z5 := hbz.at 5 _ rfl
      have HZ2 := Lib.hid hZ
      clear hbz ho hZ
      go_wp2
      rw [HZ2.out]
      refine bodyPost_ret (v := .tuple #[.agg #[.slice aN1 d.nodes.length cN1, .slice aE1 d.ents.length cE1, .slice aO1 d.old.length cO1, .slice aS1 d.steps.length cS1, .int .i64 d.room, .int .i64 d.next], .int .i64 3]) (by simp [results, Tryz.results182, go_sem, z0, z1, z2, z3, z4, z5]) rfl ⟨_, by rw [HZ.out], by rw [HZ.out]; exact hdz.base HB.out.size, hlz⟩
    | true =>
      have HZ := Lib.hid (show R = (clean (removeMid d s), 0) by rw [HR.out]; unfold removeFile; rw [if_neg (by rw [hdk, hh]; simp)]; rfl)
      have MO := Lib.hid (more_remove HK.out (has_small hdk hh))
      have hsz : 1 + s.size ≤ 9223372036854775807 := by have := has_small hdk hh; omega
      clear hdk hh
      go_wp2_with (fail)
      refine (specDrop aE1 cE1 d.ents.length d.ents s w2 (by have := LL.out; omega) D2.out.atE).mono ?_
      rintro e w3 ⟨u, rfl, ⟨m, hu⟩, hb3⟩
      obtain ⟨aU, cU, rfl, _, _⟩ := own_shape hu
      have hu : OwnE w2.heap.size w3 (.slice aU m cU) (dropE d.ents s) := ⟨m, hu⟩
      have b3 := D2.out.below hb3
      have fz3 := b3.fz
      obtain ⟨Y, hY, D3, B3⟩ : ∃ Y, w3.setCell ⟨w.heap.size, 1, none⟩ (.slice aU m cU) = Y ∧ Desk W.heap.size Y w.heap.size (w.heap.size + 1) (.slice aN1 d.nodes.length cN1) (.slice aU m cU) (.slice aO1 d.old.length cO1) (.slice aS1 d.steps.length cS1) { d with ents := dropE d.ents s } ∧ Below w.heap.size w Y := ⟨_, rfl, D2.out.setE hb3 hu, (B2.out.trans (hb3.mono B2.out.size)).setCell (Nat.le_refl _) _⟩
      have y0 := b3.box.at 0 _ rfl
      have y1 := b3.box.at 1 _ rfl
      have y2 := b3.box.at 2 _ rfl
      have y3 := b3.box.at 3 _ rfl
      have y4 := b3.box.at 4 _ rfl
      have y5 := b3.box.at 5 _ rfl
      have DH3 := Lib.hid D3
      have BH3 := Lib.hid B3
      have HY := Lib.hid hY
      clear b3 x0 x1 x2 x3 x4 x5 D3 B3 hY
      obtain ⟨i0, hi, hz0, hz1, hz2⟩ := info_parts strs.Tryz.infoStr
      have hya : Below Y.heap.size Y (Y.alloc (.cells #[.string (minusStep s)] 9)) := (Below.refl _ _).alloc (Nat.le_refl _) _
      have D4 := DH3.out.below hya
      have hYs : Y.heap.size = w3.heap.size := by rw [← HY.out]; simp
      have C4 := Lib.hid (show Cells (Y.alloc (.cells #[.string (minusStep s)] 9)) (some ⟨w3.heap.size, 0, none⟩) 1 1 [.string (minusStep s)] by have h := cells_new Y (.string (minusStep s)) 9; rw [hYs] at h; exact h)
      clear hYs
      have RS := Lib.hid D4.rowS
      have ZS := Lib.hid D4.size
      have bn : d.steps.length + 1 ≤ maxLen := by have := LL.out; unfold maxLen; omega
      have bm : (d.steps.length + 1) * 16 ≤ 140737488355328 := by have := LL.out; omega
      have nb := own_not D4.rowS D4.hb
      have DH4 := Lib.hid D4
      have BH4 := Lib.hid (BH3.out.trans (hya.mono BH3.out.size))
      clear hya D4
      go_wp2_with (first | (at_builtin; rw [HY.out]; refine list_copy (by rfl) (.tmp 25) (.tmp 28) 26 (by rfl) W.heap.size 9 i0 (.string { data := #[] }) 1 16 Tryz.underlying26 hi hz0 hz1 hz2 (by rfl) (by decide) _ d.steps.length (d.steps.map Value.string) RS.out ZS.out (some ⟨w3.heap.size, 0, none⟩) 1 1 [.string (minusStep s)] C4.out (one_str _) bn bm (by rfl) (by rfl) ?_; intro v5 w5 hown5 hg5; obtain ⟨aS5, cS5, rfl, _, _⟩ := own_shape hown5; have m5 := DH4.out.mid nb hg5; have fz5 := m5.2; have e0 := m5.1.at 0 _ rfl; have e1 := m5.1.at 1 _ rfl; have e2 := m5.1.at 2 _ rfl; have e3 := m5.1.at 3 _ rfl; have e4 := m5.1.at 4 _ rfl; have e5 := m5.1.at 5 _ rfl; have D5 := Lib.hid (DH4.out.setS (ss := d.steps ++ [minusStep s]) hg5 (by rw [List.map_append]; exact hown5)); have B5 := Lib.hid ((BH4.out.grown hg5 BH4.out.size (fun j hj => Nat.le_trans HB.out.size (own_block_ge RS.out j hj).1)).setCell (p := ⟨w.heap.size, 3, none⟩) (Nat.le_refl _) (.slice aS5 (d.steps.length + 1) cS5)); clear m5 hown5 hg5) | fail)
      refine (specClean W.heap.size _ (removeMid d s) _ D5.out.size (MO.out.ok HK.out) D5.out.own).mono ?_
      rintro e w7 ⟨u7, rfl, hd7, hb7⟩
      obtain ⟨aN7, aE7, aO7, aS7, cN7, cE7, cO7, cS7, rfl⟩ := own_slices hd7
      have D7 := D5.out.below hb7
      have B7 := B5.out.trans (hb7.mono B5.out.size)
      obtain ⟨u0, u1, u2, u3, u4, u5, ho⟩ := D7.out
      have q0 := ho.at 0 _ rfl
      have q1 := ho.at 1 _ rfl
      have q2 := ho.at 2 _ rfl
      have q3 := ho.at 3 _ rfl
      have q4 := ho.at 4 _ rfl
      have q5 := ho.at 5 _ rfl
      have fr2 := D7.fr
      obtain ⟨Z, hZ, hbz, hdz, hlz⟩ := six_ret ho D7.hr hd7 w.heap.size w B7 (Nat.le_succ _)
      have z0 := hbz.at 0 _ rfl
      have z1 := hbz.at 1 _ rfl
      have z2 := hbz.at 2 _ rfl
      have z3 := hbz.at 3 _ rfl
      have z4 := hbz.at 4 _ rfl
      have z5 := hbz.at 5 _ rfl
      have HZ2 := Lib.hid hZ
      clear hbz ho hZ e0 e1 e2 e3 e4 e5 hd7 hb7 D7 B7
      go_wp2
      rw [HZ2.out]
      refine bodyPost_ret (v := .tuple #[.agg #[.slice aN7 (clean (removeMid d s)).nodes.length cN7, .slice aE7 (clean (removeMid d s)).ents.length cE7, .slice aO7 (clean (removeMid d s)).old.length cO7, .slice aS7 (clean (removeMid d s)).steps.length cS7, .int .i64 (clean (removeMid d s)).room, .int .i64 (clean (removeMid d s)).next], .int .i64 0]) (by simp [results, Tryz.results182, go_sem, z0, z1, z2, z3, z4, z5]) rfl ⟨_, by rw [HZ.out], by rw [HZ.out]; exact hdz.base HB.out.size, hlz⟩

end Go.Proofs.YtiehfobcbhgfkaaGreatDoor.deed
