/-
  Contracts of spec.VarText and spec.VarSize.
-/
import Derived.Test.YtbgkdngeingmnaaIn
import Derived.Test.YtbgkdngeingmnaaNumMath
namespace Go.Proofs.Ytbgkdngeingmnaa.num
set_option maxRecDepth 20000
open Go.RowKit
open kit

theorem Try.infoU8 : (Try.prog.info? 5).map (fun i => (i.zero, i.size, i.bytes)) = some (some (.int .u8 0), 1, 1) := by kernel_rfl

theorem and127 (z : Nat) (h : z ≤ 1000000000) : bits BinOp.and IntKind.i64 (z : Int) 127 = ((z % 128 : Nat) : Int) := by
  unfold bits
  simp only [BitVec.toNat_and, BitVec.toNat_ofInt]
  rw [show ((z : Int) % ((2 ^ IntKind.i64.bits : Nat) : Int)).toNat = z by show ((z : Int) % 18446744073709551616).toNat = z; omega, show ((127 : Int) % ((2 ^ IntKind.i64.bits : Nat) : Int)).toNat = 2 ^ 7 - 1 by decide, Nat.and_two_pow_sub_one_eq_mod, IntKind.wrap_i64]
  omega
theorem or128' : ∀ a : Fin 128, bits BinOp.or IntKind.i64 (a.val : Int) 128 = ((a.val + 128 : Nat) : Int) := by decide +kernel
theorem or128 (a : Nat) (h : a < 128) : bits BinOp.or IntKind.i64 (a : Int) 128 = ((a + 128 : Nat) : Int) := or128' ⟨a, h⟩
theorem wrap8 (c : Nat) (h : c < 256) : IntKind.u8.wrap (c : Int) = (c : Int) := by rw [IntKind.wrap_u8]; omega

/-- a text is answered, and nothing of what was there turns -/
def PostT (t : ByteArray) (w : World) (e : Ending) (w' : World) : Prop := e = .returned (.string t) ∧ Below w.heap.size w w'

set_option maxHeartbeats 400000 in
theorem specVar_in (n : Nat) (w : World) (hn : n ≤ 1000000000) :
    Calls Try.prog 53 #[.int .i64 n] w (PostT (vt n) w) := by
  obtain ⟨i0, hi, hz0, hz1, hz2⟩ := info_parts Try.infoU8
  go_enter Try.func53, Try.ntmps53
  go_wp2_with (go_at_call 52; refine (in_yes _ _ _ _ (by omega) (by omega)).mono ?_; rintro e w' ⟨rfl, rfl⟩)
  go_loopw [0, 3] (fun x v wr => ∃ (k z m : Nat) (xs : List Nat), x = .int .i64 z ∧ m + k ≤ 4 ∧ z ≤ 1000000000 ∧ z < 128 ^ (k + 1) ∧ xs ++ vb k z = vb 4 n ∧ wr.ownsRow w.heap.size 5 1 v m ((xs.map fun (c : Nat) => (c : Int)).map (Value.int .u8)) ∧ Below w.heap.size w wr) (fun x _ _ => (intOf x).toNat)
  case atStart => exact ⟨4, n, 0, [], rfl, by omega, hn, lt128 hn, rfl, World.ownsRow_made _ _ _ (Nat.le_refl _) (by decide) rfl, (Below.refl _ _).alloc (Nat.le_refl _) _⟩
  case round =>
    obtain ⟨k, z, m, xs, rfl, hm, hz, hk, hx, hown, hb⟩ := hrel
    by_cases hlt : 127 < z
    · obtain ⟨j, rfl⟩ : ∃ j, k = j + 1 := by
        cases k with
        | zero => simp at hk; omega
        | succ j => exact ⟨j, rfl⟩
      have hj : z / 128 < 128 ^ (j + 1) := by rw [Nat.pow_succ] at hk; omega
      have HJ := Lib.hid hj
      have HX := Lib.hid (show (xs ++ [z % 128 + 128]) ++ vb j (z / 128) = vb 4 n by rw [← hx, vb_high j z (by omega), List.append_assoc]; rfl)
      have h1 := and127 z hz
      have h2 := or128 (z % 128) (by omega)
      have h3 := wrap8 (z % 128 + 128) (by omega)
      obtain ⟨a, ha⟩ : ∃ a, z % 128 = a := ⟨_, rfl⟩
      obtain ⟨c, hc⟩ : ∃ c, a + 128 = c := ⟨_, rfl⟩
      rw [ha] at h1 h2 h3
      rw [hc] at h2 h3
      have HC := Lib.hid (show z % 128 + 128 = c by omega)
      clear ha hc hk hj hx
      go_wp2_with (at_builtin; refine list_app (by rfl) (.tmp 10) (.tmp 15) 22 (by rfl) w wr 5 i0 (.int .u8 0) 1 Try.underlying22 hi hz0 hz1 hz2 (by rfl) _ m _ hown hb [.int .u8 (c : Int)] 1 ?_ ?_ ?_ ?_ (by rfl) (by rfl) (by rfl) ?_ ?_; rfl; simp [Value.oneCell']; unfold maxLen; omega; omega; exact ⟨rfl, rfl, rfl⟩; intro v' w' hown' hb')
      go_roundw
      case rel => exact ⟨j, z / 128, m + 1, xs ++ [c], by go_num, by omega, by omega, HJ.out, by rw [← HC.out]; exact HX.out, by simpa using hown', hb'⟩
      case measure => simp [intOf]; omega
    · have h3 := wrap8 z (by omega)
      have HX := Lib.hid (show txt (xs ++ [z]) = vt n by rw [vb_low k z (by omega)] at hx; rw [hx]; rfl)
      clear hk hx
      go_wp2_with (at_builtin; refine list_app (by rfl) (.tmp 19) (.tmp 22) 22 (by rfl) w wr 5 i0 (.int .u8 0) 1 Try.underlying22 hi hz0 hz1 hz2 (by rfl) _ m _ hown hb [.int .u8 (z : Int)] 1 ?_ ?_ ?_ ?_ (by rfl) (by rfl) (by rfl) ?_ ?_; rfl; simp [Value.oneCell']; unfold maxLen; omega; omega; exact ⟨rfl, rfl, rfl⟩; intro v' w' hown' hb'; have hcv := conv_own (xs := (xs ++ [z]).map fun (c : Nat) => (c : Int)) Try.underlying22 Try.underlying5 (by simpa using hown'); rw [txt_nums, HX.out] at hcv)
      go_ret
      exact ⟨rfl, hb'⟩
theorem specVar_out (n : Int) (w : World) (h : ¬ (0 ≤ n ∧ n ≤ 1000000000)) :
    Calls Try.prog 53 #[.int .i64 n] w (PostT { data := #[] } w) := by
  have h1 : n < 0 ∨ 1000000000 < n := by omega
  clear h
  go_enter Try.func53, Try.ntmps53
  go_wp2_with (go_at_call 52; refine (in_no _ _ _ _ h1).mono ?_; rintro e w' ⟨rfl, rfl⟩)
  go_ret
  exact ⟨rfl, Below.refl _ _⟩
theorem specVar_any (n : Int) (w : World) : Calls Try.prog 53 #[.int .i64 n] w (PostT (vtI n) w) := by
  by_cases h : 0 ≤ n ∧ n ≤ 1000000000
  · obtain ⟨m, rfl⟩ := Int.eq_ofNat_of_zero_le h.1
    rw [vtI_in m (by omega)]
    exact specVar_in m w (by omega)
  · rw [vtI_out n h]
    exact specVar_out n w h
end Go.Proofs.Ytbgkdngeingmnaa.num
