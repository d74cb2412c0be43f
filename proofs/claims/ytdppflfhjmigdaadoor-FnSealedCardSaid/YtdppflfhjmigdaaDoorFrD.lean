/-
  Contracts of the draws of frames: what a text may hold, and which version and place come.
-/
import Derived.Test.YtdppflfhjmigdaaDoorFrP
import Derived.Test.YtdppflfhjmigdaaDoorHdP
import Derived.Test.YtdppflfhjmigdaaDoorTbQ
namespace Go.Proofs.YtdppflfhjmigdaaDoor.draw
set_option maxRecDepth 20000
open Go.RowKit
open kit fr

theorem grown_ofB {w w' : World} (h : Below w.heap.size w w') (row : Option Nat) : w.grownBy w' row := ⟨h.os, h.tape, h.output, h.size, fun i hi _ => h.block i hi⟩

set_option maxHeartbeats 1000000 in
theorem long_any (n : Nat) (x : Int) (w : World) (hn : n ≤ 5000) :
    Calls Tryd.prog 71 #[.int .i64 (n : Int), .int .u8 x] w fun e w' => (∃ s : ByteArray, s.size = n ∧ e = .returned (.string s)) ∧ Below w.heap.size w w' := by
  obtain ⟨i0, hi, hz0, hz1, hz2⟩ := info_parts Tryd.infoU8
  go_enter Tryd.func71, Tryd.ntmps71
  go_wp2_with (refine wpList_make_full _ (by rfl) _ _ 22 (by rfl) w.heap.size 5 i0 (.int .u8 0) 1 Tryd.underlying22 hi hz0 hz1 .i64 .i64 _ _ n (by rfl) (by rfl) rfl rfl ?_ ?_ ?_ ?_; (rw [hz2]; omega); (unfold maxLen; omega); exact Nat.le_refl _; intro w1 hown1 hg1)
  have hown1 : w1.ownsRow w.heap.size 5 1 (.slice (some ⟨w.heap.size, 0, none⟩) n n) n ((List.replicate n (0 : Int)).map (Value.int .u8)) := by
    have e : (madeCells (Value.cells (.int .u8 0)) (n * 1)).toList = (List.replicate n (0 : Int)).map (Value.int .u8) := by
      rw [Nat.mul_one, List.map_replicate]
      exact toList_madeCells_one _ _
    rw [← e]
    exact hown1
  have hb1 : Below w.heap.size w w1 := (Below.refl _ _).grown hg1 (Nat.le_refl _) (fun k hk => by cases hk)
  go_wp2
  go_loopw [6] (fun i wr => ∃ (k : Nat) (xs : List Int), k ≤ n ∧ i = .int .i64 k ∧ wr.ownsRow w.heap.size 5 1 (.slice (some ⟨w.heap.size, 0, none⟩) n n) n (xs.map (Value.int .u8)) ∧ Below w.heap.size w wr) (fun i _ => n - (intOf i).toNat)
  case atStart => exact ⟨0, _, Nat.zero_le _, rfl, hown1, hb1⟩
  case round =>
    obtain ⟨k, xs, hk, rfl, hown, hb⟩ := hrel
    by_cases hlt : k < n
    · have hs := hown.stored k (.int .u8 x)
      have hfz := hown.frozenAt k
      have HO := Lib.hid (show (wr.setCell ⟨w.heap.size, k, none⟩ (.int .u8 x)).ownsRow w.heap.size 5 1 (.slice (some ⟨w.heap.size, 0, none⟩) n n) n ((xs.set k x).map (Value.int .u8)) by rw [List.map_set]; exact hs.1)
      have hl : (xs.map (Value.int .u8)).length = n := by have := hown.1; omega
      have hcell : wr.cell? ⟨w.heap.size, k, none⟩ = (xs.map (Value.int .u8))[k]? := hown.cellAt k (by omega)
      rw [List.getElem?_eq_getElem (by omega)] at hcell
      have HB := Lib.hid (hb.setCell (p := ⟨w.heap.size, k, none⟩) (Nat.le_refl _) (.int .u8 x))
      clear hs
      go_wp2
      go_roundw
      case rel => exact ⟨k + 1, xs.set k x, by omega, by go_num, HO.out, HB.out⟩
      case measure => simp [intOf]; omega
    · obtain rfl : k = n := by omega
      have hcv := conv_own Tryd.underlying22 Tryd.underlying5 hown
      have hl : (strOfNums xs).size = k := by rw [strOfNums_size]; have := hown.1; simpa using this
      have HL := Lib.hid hl
      clear hl
      go_wp2
      go_ret
      exact ⟨⟨_, HL.out, rfl⟩, hb⟩

/-- a version; only the cursor is written -/
def PostN (c : Nat) (a : Option Addr) (len cap : Nat) (lo hi : Int) (w : World) (e : Ending) (w' : World) : Prop :=
  (∃ q : Int, lo ≤ q ∧ q ≤ hi ∧ e = .returned (.int .i64 q)) ∧ Cur w' c a len cap ∧ w.grownBy w' (some c)

/-- a version, a place and a record; nothing that was there turns -/
def PostFT (w : World) (e : Ending) (w' : World) : Prop := (∃ (v p : Int) (r : ByteArray), 0 ≤ v ∧ v ≤ 3 ∧ -1 ≤ p ∧ p ≤ 1000000001 ∧ r.size ≤ 61 ∧ e = .returned (.tuple #[.int .i64 v, .int .i64 p, .string r])) ∧ Below w.heap.size w w'

end Go.Proofs.YtdppflfhjmigdaaDoor.draw
