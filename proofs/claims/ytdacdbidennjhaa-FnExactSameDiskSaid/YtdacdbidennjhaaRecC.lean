/-
  Slices of entries and of nodes: copies of what came in.
-/
import Derived.Test.YtdacdbidennjhaaRecB
namespace Go.Proofs.Ytdacdbidennjhaa.recs
open Go.RowKit
open kit strs

theorem made2 (x y : Value) (n : Nat) : (madeCells #[x, y] (n * 2)).toList = (List.replicate n [x, y]).flatten := by
  apply List.ext_getElem?
  intro j
  induction n generalizing j with
  | zero => simp [madeCells]
  | succ n ih =>
    rw [List.replicate_succ, List.flatten_cons]
    match j with
    | 0 => simp [madeCells, show 0 < (n + 1) * 2 by omega]
    | 1 => simp [madeCells, show 1 < (n + 1) * 2 by omega]
    | j + 2 =>
      have := ih j
      simp only [List.cons_append, List.nil_append, List.getElem?_cons_succ]
      rw [← this]
      by_cases hj : j < n * 2
      · simp [madeCells, hj, show j + 2 < (n + 1) * 2 by omega]
      · simp [madeCells, hj, show ¬ j + 2 < (n + 1) * 2 by omega]
theorem made3 (x y z : Value) (n : Nat) : (madeCells #[x, y, z] (n * 3)).toList = (List.replicate n [x, y, z]).flatten := by
  apply List.ext_getElem?
  intro j
  induction n generalizing j with
  | zero => simp [madeCells]
  | succ n ih =>
    rw [List.replicate_succ, List.flatten_cons]
    match j with
    | 0 => simp [madeCells, show 0 < (n + 1) * 3 by omega]
    | 1 => simp [madeCells, show 1 < (n + 1) * 3 by omega]
    | 2 => simp [madeCells, show 2 < (n + 1) * 3 by omega]
    | j + 3 =>
      have := ih j
      simp only [List.cons_append, List.nil_append, List.getElem?_cons_succ]
      rw [← this]
      by_cases hj : j < n * 3
      · simp [madeCells, hj, show j + 3 < (n + 1) * 3 by omega]
      · simp [madeCells, hj, show ¬ j + 3 < (n + 1) * 3 by omega]
theorem flatE_zero (n : Nat) : (List.replicate n [Value.string { data := #[] }, .int .i64 0]).flatten = cellsE (List.replicate n (({ data := #[] } : ByteArray), (0 : Int))) := by
  induction n with
  | zero => rfl
  | succ n ih => rw [List.replicate_succ, List.replicate_succ, List.flatten_cons, ih]; rfl
theorem flatN_zero (n : Nat) : (List.replicate n [Value.int .i64 0, .string { data := #[] }, .int .i64 0]).flatten = cellsN (List.replicate n ((0 : Int), ({ data := #[] } : ByteArray), (0 : Int))) := by
  induction n with
  | zero => rfl
  | succ n ih => rw [List.replicate_succ, List.replicate_succ, List.flatten_cons, ih]; rfl
theorem cellsE_set : ∀ (xs : List Ent) (k : Nat) (s : ByteArray) (i : Int), k < xs.length → ((cellsE xs).set (k * 2) (.string s)).set (k * 2 + 1) (.int .i64 i) = cellsE (xs.set k (s, i))
  | [], k, s, i, h => by simp at h
  | e :: r, 0, s, i, h => by simp [cellsE_cons]
  | e :: r, k + 1, s, i, h => by
    rw [List.set_cons_succ, cellsE_cons, cellsE_cons, ← cellsE_set r k s i (by simpa using h), show (k + 1) * 2 = k * 2 + 1 + 1 by omega]
    simp
theorem cellsN_set : ∀ (xs : List Nod) (k : Nat) (i : Int) (s : ByteArray) (j : Int), k < xs.length → (((cellsN xs).set (k * 3) (.int .i64 i)).set (k * 3 + 1) (.string s)).set (k * 3 + 2) (.int .i64 j) = cellsN (xs.set k (i, s, j))
  | [], k, i, s, j, h => by simp at h
  | e :: r, 0, i, s, j, h => by simp [cellsN_cons]
  | e :: r, k + 1, i, s, j, h => by
    rw [List.set_cons_succ, cellsN_cons, cellsN_cons, ← cellsN_set r k i s j (by simpa using h), show (k + 1) * 3 = k * 3 + 1 + 1 + 1 by omega]
    simp
theorem fill_set {α : Type} (xs : List α) (z x : α) (n k : Nat) (hl : xs.length = n) (h : k < n) (hx : xs[k]? = some x) : (xs.take k ++ List.replicate (n - k) z).set k x = xs.take (k + 1) ++ List.replicate (n - (k + 1)) z := by
  obtain ⟨m, hm⟩ : ∃ m, n - k = m + 1 := ⟨n - k - 1, by omega⟩
  have hm2 : n - (k + 1) = m := by omega
  rw [List.set_append_right _ _ (by rw [List.length_take]; omega), List.length_take, Nat.min_eq_left (by omega), Nat.sub_self, hm, hm2, List.replicate_succ, List.set_cons_zero, List.take_add_one, hx]
  simp
/-- one element stored whole into an owned row -/
theorem own_set2 {w : World} {B : Nat} {e : TypeId} {g n c k : Nat} {xs : List Ent} (h : w.ownsRow B e 2 (.slice (some ⟨g, 0, none⟩) n c) n (cellsE xs)) (hk : k < xs.length) (s : ByteArray) (i : Int) :
    ((w.setCell ⟨g, k * 2, none⟩ (.string s)).setCell ⟨g, k * 2 + 1, none⟩ (.int .i64 i)).ownsRow B e 2 (.slice (some ⟨g, 0, none⟩) n c) n (cellsE (xs.set k (s, i))) := by
  have h1 := ((h.stored (k * 2) (.string s)).1.stored (k * 2 + 1) (.int .i64 i)).1
  rwa [cellsE_set xs k s i hk] at h1
theorem own_set3 {w : World} {B : Nat} {e : TypeId} {g n c k : Nat} {xs : List Nod} (h : w.ownsRow B e 3 (.slice (some ⟨g, 0, none⟩) n c) n (cellsN xs)) (hk : k < xs.length) (i : Int) (s : ByteArray) (j : Int) :
    (((w.setCell ⟨g, k * 3, none⟩ (.int .i64 i)).setCell ⟨g, k * 3 + 1, none⟩ (.string s)).setCell ⟨g, k * 3 + 2, none⟩ (.int .i64 j)).ownsRow B e 3 (.slice (some ⟨g, 0, none⟩) n c) n (cellsN (xs.set k (i, s, j))) := by
  have h1 := (((h.stored (k * 3) (.int .i64 i)).1.stored (k * 3 + 1) (.string s)).1.stored (k * 3 + 2) (.int .i64 j)).1
  rwa [cellsN_set xs k i s j hk] at h1

theorem Try.infoEnt : (Try.prog.info? 46).map (fun i => (i.zero, i.size, i.bytes)) = some (some (.agg #[.string { data := #[] }, .int .i64 0]), 2, 24) := by kernel_rfl
theorem Try.infoNod : (Try.prog.info? 40).map (fun i => (i.zero, i.size, i.bytes)) = some (some (.agg #[.int .i64 0, .string { data := #[] }, .int .i64 0]), 3, 32) := by kernel_rfl

set_option maxHeartbeats 400000 in
theorem toEntryS_any (a : Option Addr) (c n : Nat) (xs : List Ent) (w : World) (hm : n ≤ 1048576) (ha : AtE w a n xs) :
    Calls Try.prog 14 #[.slice a n c] w fun e w' => e = .returned (.slice (some ⟨w.heap.size, 0, none⟩) n n) ∧ w'.ownsRow w.heap.size 46 2 (.slice (some ⟨w.heap.size, 0, none⟩) n n) n (cellsE xs) ∧ Below w.heap.size w w' := by
  obtain ⟨i0, hi, hz0, hz1, hz2⟩ := info_parts Try.infoEnt
  have HL := Lib.hid ha.len
  have HA := Lib.hid ha
  clear ha
  go_enter Try.func14, Try.ntmps14
  go_wp2_with (refine wpList_make_full _ (by rfl) _ _ 30 (by rfl) w.heap.size 46 i0 (.agg #[.string { data := #[] }, .int .i64 0]) 2 Try.underlying30 hi hz0 hz1 .i64 .i64 _ _ n (by rfl) (by rfl) ?_ ?_ ?_ ?_ ?_ ?_; omega; omega; (rw [hz2]; omega); (unfold maxLen; omega); exact Nat.le_refl _; intro w1 hown1 hg1)
  have hb1 : Below w.heap.size w w1 := (Below.refl _ _).grown hg1 (Nat.le_refl _) (fun k hk => by cases hk)
  have hown2 : w1.ownsRow w.heap.size 46 2 (.slice (some ⟨w.heap.size, 0, none⟩) n n) n (cellsE (xs.take 0 ++ List.replicate (n - 0) (({ data := #[] } : ByteArray), (0 : Int)))) := by
    rw [show (Value.agg #[.string { data := #[] }, .int .i64 0]).cells = #[.string { data := #[] }, .int .i64 0] from rfl, made2, flatE_zero] at hown1
    simpa using hown1
  clear hown1
  go_loopw [4] (fun i wr => ∃ (k : Nat), k ≤ n ∧ i = .int .i64 k ∧ wr.ownsRow w.heap.size 46 2 (.slice (some ⟨w.heap.size, 0, none⟩) n n) n (cellsE (xs.take k ++ List.replicate (n - k) (({ data := #[] } : ByteArray), (0 : Int)))) ∧ Below w.heap.size w wr) (fun i _ => n - (intOf i).toNat)
  case atStart => exact ⟨0, Nat.zero_le _, rfl, hown2, hb1⟩
  case round =>
    obtain ⟨k, hk, rfl, hown, hb⟩ := hrel
    clear hown2
    by_cases hlt : k < n
    · obtain ⟨s, i, g, o, hx, rfl, hg, c1, c2⟩ := (HA.out.below hb).get hlt
      have HS := Lib.hid (fill_set xs (({ data := #[] } : ByteArray), (0 : Int)) (s, i) n k HL.out hlt hx)
      have hkl : k < (xs.take k ++ List.replicate (n - k) (({ data := #[] } : ByteArray), (0 : Int))).length := by have := HL.out; simp; omega
      have i0 : (0 : Int) ≤ (k : Int) := by omega
      have i1 : (k : Int) < (n : Int) := by omega
      clear hx
      go_wp2_with ((go_at_call 25; refine (toEntry_any s i _).mono ?_; rintro e w1 ⟨rfl, hb1⟩; have hown1 := own_below hown hb1; obtain ⟨u, hc1⟩ : ∃ u, w1.cell? ⟨w.heap.size, k * 2, none⟩ = some u := ⟨_, (hown1.cellAt (k * 2) (by omega)).trans (List.getElem?_eq_getElem (by rw [cellsE_len]; omega))⟩; obtain ⟨u2, hc2⟩ : ∃ u, w1.cell? ⟨w.heap.size, k * 2 + 1, none⟩ = some u := ⟨_, (hown1.cellAt (k * 2 + 1) (by omega)).trans (List.getElem?_eq_getElem (by rw [cellsE_len]; omega))⟩; have hf1 := hown1.frozenAt (k * 2); have hf2 := hown1.frozenAt (k * 2 + 1)))
      go_roundw
      case rel =>
        refine ⟨k + 1, by omega, by go_num, ?_, ((hb.trans (hb1.mono hb.size)).setCell (Nat.le_refl _) _).setCell (Nat.le_refl _) _⟩
        rw [← HS.out]
        exact own_set2 hown1 hkl s i
      case measure => simp [intOf]; omega
    · obtain rfl : k = n := by omega
      have hend : xs.take k ++ List.replicate (k - k) (({ data := #[] } : ByteArray), (0 : Int)) = xs := by
        rw [Nat.sub_self, List.take_of_length_le (by rw [HL.out]; exact Nat.le_refl _)]
        simp
      rw [hend] at hown
      clear hend
      go_wp2
      go_ret
      exact ⟨rfl, hown, hb⟩

set_option maxHeartbeats 400000 in
theorem toNodeS_any (a : Option Addr) (c n : Nat) (xs : List Nod) (w : World) (hm : n ≤ 1048576) (ha : AtN w a n xs) :
    Calls Try.prog 13 #[.slice a n c] w fun e w' => e = .returned (.slice (some ⟨w.heap.size, 0, none⟩) n n) ∧ w'.ownsRow w.heap.size 40 3 (.slice (some ⟨w.heap.size, 0, none⟩) n n) n (cellsN xs) ∧ Below w.heap.size w w' := by
  obtain ⟨i0, hi, hz0, hz1, hz2⟩ := info_parts Try.infoNod
  have HL := Lib.hid ha.len
  have HA := Lib.hid ha
  clear ha
  go_enter Try.func13, Try.ntmps13
  go_wp2_with (refine wpList_make_full _ (by rfl) _ _ 29 (by rfl) w.heap.size 40 i0 (.agg #[.int .i64 0, .string { data := #[] }, .int .i64 0]) 3 Try.underlying29 hi hz0 hz1 .i64 .i64 _ _ n (by rfl) (by rfl) ?_ ?_ ?_ ?_ ?_ ?_; omega; omega; (rw [hz2]; omega); (unfold maxLen; omega); exact Nat.le_refl _; intro w1 hown1 hg1)
  have hb1 : Below w.heap.size w w1 := (Below.refl _ _).grown hg1 (Nat.le_refl _) (fun k hk => by cases hk)
  have hown2 : w1.ownsRow w.heap.size 40 3 (.slice (some ⟨w.heap.size, 0, none⟩) n n) n (cellsN (xs.take 0 ++ List.replicate (n - 0) ((0 : Int), ({ data := #[] } : ByteArray), (0 : Int)))) := by
    rw [show (Value.agg #[.int .i64 0, .string { data := #[] }, .int .i64 0]).cells = #[.int .i64 0, .string { data := #[] }, .int .i64 0] from rfl, made3, flatN_zero] at hown1
    simpa using hown1
  clear hown1
  go_loopw [4] (fun i wr => ∃ (k : Nat), k ≤ n ∧ i = .int .i64 k ∧ wr.ownsRow w.heap.size 40 3 (.slice (some ⟨w.heap.size, 0, none⟩) n n) n (cellsN (xs.take k ++ List.replicate (n - k) ((0 : Int), ({ data := #[] } : ByteArray), (0 : Int)))) ∧ Below w.heap.size w wr) (fun i _ => n - (intOf i).toNat)
  case atStart => exact ⟨0, Nat.zero_le _, rfl, hown2, hb1⟩
  case round =>
    obtain ⟨k, hk, rfl, hown, hb⟩ := hrel
    clear hown2
    by_cases hlt : k < n
    · obtain ⟨i, s, j, g, o, hx, rfl, hg, c1, c2, c3⟩ := (HA.out.below hb).get hlt
      have HS := Lib.hid (fill_set xs ((0 : Int), ({ data := #[] } : ByteArray), (0 : Int)) (i, s, j) n k HL.out hlt hx)
      have hkl : k < (xs.take k ++ List.replicate (n - k) ((0 : Int), ({ data := #[] } : ByteArray), (0 : Int))).length := by have := HL.out; simp; omega
      have i0 : (0 : Int) ≤ (k : Int) := by omega
      have i1 : (k : Int) < (n : Int) := by omega
      clear hx
      go_wp2_with ((go_at_call 24; refine (toNode_any i s j _).mono ?_; rintro e w1 ⟨rfl, hb1⟩; have hown1 := own_below hown hb1; obtain ⟨u, hc1⟩ : ∃ u, w1.cell? ⟨w.heap.size, k * 3, none⟩ = some u := ⟨_, (hown1.cellAt (k * 3) (by omega)).trans (List.getElem?_eq_getElem (by rw [cellsN_len]; omega))⟩; obtain ⟨u2, hc2⟩ : ∃ u, w1.cell? ⟨w.heap.size, k * 3 + 1, none⟩ = some u := ⟨_, (hown1.cellAt (k * 3 + 1) (by omega)).trans (List.getElem?_eq_getElem (by rw [cellsN_len]; omega))⟩; obtain ⟨u3, hc3⟩ : ∃ u, w1.cell? ⟨w.heap.size, k * 3 + 2, none⟩ = some u := ⟨_, (hown1.cellAt (k * 3 + 2) (by omega)).trans (List.getElem?_eq_getElem (by rw [cellsN_len]; omega))⟩; have hf1 := hown1.frozenAt (k * 3); have hf3 := hown1.frozenAt (k * 3 + 2); have hf2 := hown1.frozenAt (k * 3 + 1)))
      go_roundw
      case rel =>
        refine ⟨k + 1, by omega, by go_num, ?_, (((hb.trans (hb1.mono hb.size)).setCell (Nat.le_refl _) _).setCell (Nat.le_refl _) _).setCell (Nat.le_refl _) _⟩
        rw [← HS.out]
        exact own_set3 hown1 hkl i s j
      case measure => simp [intOf]; omega
    · obtain rfl : k = n := by omega
      have hend : xs.take k ++ List.replicate (k - k) ((0 : Int), ({ data := #[] } : ByteArray), (0 : Int)) = xs := by
        rw [Nat.sub_self, List.take_of_length_le (by rw [HL.out]; exact Nat.le_refl _)]
        simp
      rw [hend] at hown
      clear hend
      go_wp2
      go_ret
      exact ⟨rfl, hown, hb⟩

end Go.Proofs.Ytdacdbidennjhaa.recs
