/-
  Contracts of the laws' helpers on places: compared, made, marked, held, counted.
-/
import Derived.Test.YtpibemlganeacaaDoorPlP
import Derived.Test.YtpibemlganeacaaDoorRecQ
namespace Go.Proofs.YtpibemlganeacaaDoor.pl
set_option maxRecDepth 20000
open Go.RowKit
open kit sum num burst hd fr recs

theorem eqPlace_same (s i : Int) (w : World) :
    Calls Tryd.prog 19 #[.agg #[.int .i64 s, .int .i64 i], .agg #[.int .i64 s, .int .i64 i]] w fun e w' => e = .returned (.bool true) ∧ Below w.heap.size w w' := by
  go_enter Tryd.func19, Tryd.ntmps19
  go_wp2
  go_ret
  exact ⟨rfl, ((Below.refl _ _).alloc (Nat.le_refl _) _).alloc (by simp) _⟩
set_option maxHeartbeats 400000 in
theorem eqPlaceS_same (a b : Option Addr) (c d n : Nat) (xs : List Plc) (w : World) (hm : n ≤ maxLen) (ha : AtP w a n xs) (hb : AtP w b n xs) :
    Calls Tryd.prog 8 #[.slice a n c, .slice b n d] w fun e w' => e = .returned (.bool true) ∧ Below w.heap.size w w' := by
  unfold maxLen at hm
  have HA := Lib.hid ha
  have HB := Lib.hid hb
  clear ha hb
  go_enter Tryd.func8, Tryd.ntmps8
  go_wp2
  go_loopw [5] (fun i wr => ∃ k : Nat, k ≤ n ∧ i = .int .i64 k ∧ Below w.heap.size w wr) (fun i _ => n - (intOf i).toNat)
  case atStart => exact ⟨0, Nat.zero_le _, rfl, Below.refl _ _⟩
  case round =>
    obtain ⟨k, hk, rfl, hb⟩ := hrel
    by_cases hlt : k < n
    · obtain ⟨s, i, g, o, hx, rfl, hg, c1, c2⟩ := (HA.out.below hb).get hlt
      obtain ⟨s', i', h, p, hy, rfl, hh, c3, c4⟩ := (HB.out.below hb).get hlt
      obtain ⟨rfl, rfl⟩ : s = s' ∧ i = i' := by rw [hx] at hy; simpa using hy
      have i0 : (0 : Int) ≤ (k : Int) := by omega
      have i1 : (k : Int) < (n : Int) := by omega
      clear hx hy
      go_wp2
      go_region_held3 (fun w' => w'.cell? ⟨g, o + k * 2, none⟩ = some (.int .i64 s) ∧ w'.cell? ⟨g, o + k * 2 + 1, none⟩ = some (.int .i64 i) ∧ w'.cell? ⟨h, p + k * 2, none⟩ = some (.int .i64 s) ∧ w'.cell? ⟨h, p + k * 2 + 1, none⟩ = some (.int .i64 i)) (first | exact ⟨c1, c2, c3, c4⟩ | exact ⟨d1, d2, d3, d4⟩) ((go_at_call 19; refine (eqPlace_same s i _).mono ?_; rintro e w1 ⟨rfl, hb1⟩; have d1 := (hb1.cell (p := ⟨g, o + k * 2, none⟩) hg).trans c1; have d2 := (hb1.cell (p := ⟨g, o + k * 2 + 1, none⟩) hg).trans c2; have d3 := (hb1.cell (p := ⟨h, p + k * 2, none⟩) hh).trans c3; have d4 := (hb1.cell (p := ⟨h, p + k * 2 + 1, none⟩) hh).trans c4))
      all_goals
        go_wp2
        go_roundw
        case rel => exact ⟨k + 1, by omega, by go_num, hb.drew.trans (hb1.mono hb.size)⟩
        case measure => simp [intOf]; omega
    · go_wp2
      go_ret
      exact ⟨rfl, hb⟩

theorem cellsP_set : ∀ (xs : List Plc) (k : Nat) (s i : Int), k < xs.length → ((cellsP xs).set (k * 2) (.int .i64 s)).set (k * 2 + 1) (.int .i64 i) = cellsP (xs.set k (s, i))
  | [], k, s, i, h => by simp at h
  | e :: r, 0, s, i, h => by simp [cellsP_cons]
  | e :: r, k + 1, s, i, h => by
    rw [List.set_cons_succ, cellsP_cons, cellsP_cons, ← cellsP_set r k s i (by simpa using h), show (k + 1) * 2 = k * 2 + 1 + 1 by omega]
    simp
theorem own_setP {w : World} {B : Nat} {e : TypeId} {g n c k : Nat} {xs : List Plc} (h : w.ownsRow B e 2 (.slice (some ⟨g, 0, none⟩) n c) n (cellsP xs)) (hk : k < xs.length) (s i : Int) :
    ((w.setCell ⟨g, k * 2, none⟩ (.int .i64 s)).setCell ⟨g, k * 2 + 1, none⟩ (.int .i64 i)).ownsRow B e 2 (.slice (some ⟨g, 0, none⟩) n c) n (cellsP (xs.set k (s, i))) := by
  have h1 := ((h.stored (k * 2) (.int .i64 s)).1.stored (k * 2 + 1) (.int .i64 i)).1
  rwa [cellsP_set xs k s i hk] at h1
theorem flatP_zero (n : Nat) : (List.replicate n [Value.int .i64 0, .int .i64 0]).flatten = cellsP (List.replicate n ((0 : Int), (0 : Int))) := by
  induction n with
  | zero => rfl
  | succ n ih => rw [List.replicate_succ, List.replicate_succ, List.flatten_cons, ih]; rfl

/-! ### marks -/
def marksP (k n : Nat) : List Plc := (List.range n).map fun i => (((k + 2 * i : Nat) : Int), ((k + 2 * i + 1 : Nat) : Int))
theorem marksP_at (k n j : Nat) (h : j < n) : (marksP k n)[j]? = some (((k + 2 * j : Nat) : Int), ((k + 2 * j + 1 : Nat) : Int)) := by simp [marksP, h]
theorem marksP_len (k n : Nat) : (marksP k n).length = n := by simp [marksP]
theorem marksP_snoc (k j : Nat) : marksP k (j + 1) = marksP k j ++ [(((k + 2 * j : Nat) : Int), ((k + 2 * j + 1 : Nat) : Int))] := by simp [marksP, List.range_succ]

set_option maxHeartbeats 400000 in
theorem heldPlaceS_any (a : Option Addr) (c n k : Nat) (w : World) (hk1 : k + 2 * n ≤ 1000000000) (ha : AtP w a n (marksP k n)) :
    Calls Tryd.prog 10 #[.slice a n c, .int .i64 k] w fun e w' => e = .returned (.int .i64 ((k + 2 * n : Nat) : Int)) ∧ Below w.heap.size w w' := by
  have HA := Lib.hid ha
  clear ha
  go_enter Tryd.func10, Tryd.ntmps10
  go_wp2
  go_loopw [1, 5] (fun x i wr => ∃ j : Nat, j ≤ n ∧ x = .int .i64 ((k + 2 * j : Nat) : Int) ∧ i = .int .i64 j ∧ Below w.heap.size w wr) (fun _ i _ => n - (intOf i).toNat)
  case atStart => exact ⟨0, Nat.zero_le _, rfl, rfl, Below.refl _ _⟩
  case round =>
    obtain ⟨j, hj, rfl, rfl, hb⟩ := hrel
    by_cases hlt : j < n
    · obtain ⟨s, i, g, o, hx, rfl, hg, c1, c2⟩ := (HA.out.below hb).get hlt
      rw [marksP_at k n j hlt] at hx
      obtain ⟨rfl, rfl⟩ : ((k + 2 * j : Nat) : Int) = s ∧ ((k + 2 * j + 1 : Nat) : Int) = i := by simpa using hx
      obtain ⟨q, hq⟩ : ∃ q, q = k + 2 * j := ⟨_, rfl⟩
      have i0 : (0 : Int) ≤ (j : Int) := by omega
      have i1 : (j : Int) < (n : Int) := by omega
      have q1 : q ≤ 1000000000 := by omega
      have HQ := Lib.hid hq
      rw [← hq] at c1 c2 ⊢
      have c2 : wr.cell? ⟨g, o + j * 2 + 1, none⟩ = some (.int .i64 ((q : Int) + 1)) := c2
      clear hx hq
      go_wp2
      go_roundw
      case rel => exact ⟨j + 1, by omega, by rw [show k + 2 * (j + 1) = q + 1 + 1 by have := HQ.out; omega]; go_num, by go_num, hb⟩
      case measure => simp [intOf]; omega
    · obtain rfl : j = n := by omega
      go_wp2
      go_ret
      exact ⟨rfl, hb⟩

set_option maxHeartbeats 400000 in
theorem markPlaceS_some (B g c n k : Nat) (xs : List Plc) (w : World) (hk1 : k + 2 * n ≤ 1000000000) (hl : xs.length = n) (hg : g < w.heap.size)
    (hv : w.ownsRow B 44 2 (.slice (some ⟨g, 0, none⟩) n c) n (cellsP xs)) :
    Calls Tryd.prog 9 #[.slice (some ⟨g, 0, none⟩) n c, .int .i64 k] w fun e w' => e = .returned (.int .i64 ((k + 2 * n : Nat) : Int)) ∧
      w'.ownsRow B 44 2 (.slice (some ⟨g, 0, none⟩) n c) n (cellsP (marksP k n)) ∧ w.grownBy w' (some g) := by
  have HL := Lib.hid hl
  clear hl
  go_enter Tryd.func9, Tryd.ntmps9
  go_wp2
  go_loopw [1, 5] (fun x i wr => ∃ j : Nat, j ≤ n ∧ x = .int .i64 ((k + 2 * j : Nat) : Int) ∧ i = .int .i64 j ∧ Hid (wr.ownsRow B 44 2 (.slice (some ⟨g, 0, none⟩) n c) n (cellsP (marksP k j ++ xs.drop j))) ∧ w.grownBy wr (some g)) (fun _ i _ => n - (intOf i).toNat)
  case atStart => exact ⟨0, Nat.zero_le _, rfl, rfl, Lib.hid (by simpa [marksP] using hv), grown_refl _ _⟩
  case round =>
    obtain ⟨j, hj, rfl, rfl, hown, hgw⟩ := hrel
    by_cases hlt : j < n
    · have hjl : j < (marksP k j ++ xs.drop j).length := by have := HL.out; simp [marksP_len]; omega
      have hgr : g < wr.heap.size := Nat.lt_of_lt_of_le hg hgw.size
      have HP := Lib.hid (part_set2 (marksP k j) _ xs _ n j (marksP_len k j) (marksP_snoc k j) HL.out hlt)
      obtain ⟨q, hq⟩ : ∃ q, q = k + 2 * j := ⟨_, rfl⟩
      have q1 : q ≤ 1000000000 := by omega
      have HQ := Lib.hid hq
      rw [← hq]
      clear hq
      obtain ⟨u, hc1⟩ : ∃ u, wr.cell? ⟨g, j * 2, none⟩ = some u := ⟨_, (hown.out.cellAt (j * 2) (by omega)).trans (List.getElem?_eq_getElem (by rw [cellsP_len]; omega))⟩
      obtain ⟨u2, hc2⟩ : ∃ u, wr.cell? ⟨g, j * 2 + 1, none⟩ = some u := ⟨_, (hown.out.cellAt (j * 2 + 1) (by omega)).trans (List.getElem?_eq_getElem (by rw [cellsP_len]; omega))⟩
      have hf1 := hown.out.frozenAt (j * 2)
      have hf2 := hown.out.frozenAt (j * 2 + 1)
      have hst := Lib.hid (own_setP hown.out hjl (q : Int) ((q + 1 : Nat) : Int))
      have hs1 := Lib.hid (hown.out.stored (j * 2) (.int .i64 (q : Int)))
      have hs2 := Lib.hid (hs1.out.1.stored (j * 2 + 1) (.int .i64 ((q + 1 : Nat) : Int)))
      have i0 : (0 : Int) ≤ (j : Int) := by omega
      have i1 : (j : Int) < (n : Int) := by omega
      clear hjl
      go_wp2
      go_roundw
      case rel =>
        refine ⟨j + 1, by omega, by rw [show k + 2 * (j + 1) = q + 1 + 1 by have := HQ.out; omega]; go_num, by go_num, Lib.hid ?_, grown_trans (grown_trans hgw hs1.out.2) hs2.out.2⟩
        rw [← HP.out, ← HQ.out]
        exact hst.out
      case measure => simp [intOf]; omega
    · obtain rfl : j = n := by omega
      have hend : marksP k j ++ xs.drop j = marksP k j := by rw [List.drop_of_length_le (by rw [HL.out]; exact Nat.le_refl _), List.append_nil]
      rw [hend] at hown
      clear hend
      go_wp2
      go_ret
      exact ⟨rfl, hown.out, hgw⟩
end Go.Proofs.YtpibemlganeacaaDoor.pl
