/-
  Plain facts on decimal digits, and the contract of spec.Decimal.
-/
import Derived.Test.YtkibddcjogfklaaGreatDoorKit
import Derived.Lib.ItoaNum
namespace Go.Proofs.YtkibddcjogfklaaGreatDoor.dec
open Go.RowKit
open kit

/-- the decimal digits of n ahead of acc -/
def digs : Nat → Nat → List UInt8 → List UInt8
  | 0, _, acc => acc
  | f + 1, n, acc => if n = 0 then acc else digs f (n / 10) (UInt8.ofNat (48 + n % 10) :: acc)
theorem digs_fuel : ∀ (f g n : Nat) (acc : List UInt8), n ≤ f → n ≤ g → digs f n acc = digs g n acc
  | 0, 0, n, acc, _, _ => rfl
  | 0, g + 1, n, acc, h, _ => by obtain rfl : n = 0 := by omega
                                 simp [digs]
  | f + 1, 0, n, acc, _, h => by obtain rfl : n = 0 := by omega
                                 simp [digs]
  | f + 1, g + 1, n, acc, h1, h2 => by
    unfold digs
    by_cases h : n = 0
    · simp [h]
    · rw [if_neg h, if_neg h]
      exact digs_fuel f g _ _ (by omega) (by omega)
theorem digs_step (n : Nat) (acc : List UInt8) (h : 0 < n) : digs n n acc = digs (n / 10) (n / 10) (UInt8.ofNat (48 + n % 10) :: acc) := by
  obtain ⟨f, rfl⟩ : ∃ f, n = f + 1 := ⟨n - 1, by omega⟩
  conv => lhs; unfold digs
  rw [if_neg (by omega)]
  exact digs_fuel _ _ _ _ (by omega) (Nat.le_refl _)
theorem digs_dec : ∀ (f n : Nat), n ≤ f → 0 < n → ∀ acc, digs n n acc = Lib.decDigits n ++ acc
  | 0, n, h, h0, _ => by omega
  | f + 1, n, h, h0, acc => by
    rw [digs_step n acc h0, Lib.decDigits]
    by_cases h10 : n < 10
    · rw [dif_pos h10]
      have e0 : n / 10 = 0 := by omega
      have e1 : n % 10 = n := by omega
      rw [e0, e1]
      rfl
    · rw [dif_neg h10, digs_dec f (n / 10) (by omega) (by omega)]
      simp

def Fits (m len : Nat) : Prop := len ≤ 19 ∧ m < 10 ^ (19 - len)
theorem fits_step {m len : Nat} (h : Fits m len) (h0 : 0 < m) : Fits (m / 10) (len + 1) := by
  obtain ⟨h1, h2⟩ := h
  by_cases hl : len = 19
  · subst hl
    simp at h2
    omega
  · refine ⟨by omega, ?_⟩
    rw [show 19 - len = (19 - (len + 1)) + 1 by omega, Nat.pow_succ] at h2
    exact Nat.div_lt_of_lt_mul (by rw [Nat.mul_comm]; exact h2)

/-- what stands at a round's head: x is what is left of n, acc the digits so far -/
structure R (n x : Int) (acc : List UInt8) : Prop where
  pos : 0 ≤ n → 0 ≤ x
  neg : n ≤ 0 → x ≤ 0
  digits : digs x.natAbs x.natAbs acc = digs n.natAbs n.natAbs []
  fits : Fits x.natAbs acc.length

theorem ba_app (a b : List UInt8) : (⟨a.toArray⟩ : ByteArray) ++ ⟨b.toArray⟩ = ⟨(a ++ b).toArray⟩ := ByteArray.ext (by rw [ByteArray.data_append]; simp)
theorem conv_one (W : World) (x : Int) : ∀ dst, Tryz.prog.underlying dst = some .string →
    (convert 119 dst (.slice (some ⟨W.heap.size, 0, none⟩) 1 1)).run Tryz.prog (W.alloc (.cells #[.int .u8 x] 5)) = .ok (.string (strOfNums [x])) (W.alloc (.cells #[.int .u8 x] 5)) :=
  run_convert_bytes_arg _ 119 5 Tryz.underlying119 Tryz.underlying5 W.heap.size 0 1 1 [x] rfl (fun i hi => by
    obtain rfl : i = 0 := by omega
    rw [cell_of_row _ W.heap.size _ _ 5 (0, 0) (heap_alloc_new W _)]
    rfl)
theorem one_app (x : Nat) (acc : List UInt8) : strOfNums [48 + (x : Int)] ++ ⟨acc.toArray⟩ = ⟨(UInt8.ofNat (48 + x) :: acc).toArray⟩ := by
  have : strOfNums [48 + (x : Int)] = ⟨[UInt8.ofNat (48 + x)].toArray⟩ := by
    unfold strOfNums
    rw [show (48 + (x : Int)) = ((48 + x : Nat) : Int) by omega]
    rfl
  rw [this, ba_app]
  rfl

theorem figure_any (x : Int) (w : World) (h0 : 0 ≤ x) (h1 : x ≤ 9) :
    Calls Tryz.prog 92 #[.int .i64 x] w fun e w' => e = .returned (.int .u8 (48 + x)) ∧ w = w' := by
  go_enter Tryz.func92, Tryz.ntmps92
  go_wp2
  go_ret
  exact ⟨rfl, rfl⟩

theorem specDec_zero (w : World) : Calls Tryz.prog 82 #[.int .i64 0] w fun e w' => e = .returned (.string ⟨(Lib.itoa 0).toArray⟩) ∧ Below w.heap.size w w' := by
  have h : Lib.itoa 0 = [48] := by
    show Lib.decDigits 0 = [48]
    rw [Lib.decDigits]
    rfl
  have H := Lib.hid h
  clear h
  go_enter Tryz.func82, Tryz.ntmps82
  go_wp2
  go_ret
  rw [H.out]
  exact ⟨rfl, Below.refl _ _⟩

theorem tmod_abs {y : Int} (h : y ≤ 0) : -(y.tmod 10) = ((y.natAbs % 10 : Nat) : Int) := by
  have h1 : y = -((y.natAbs : Nat) : Int) := by omega
  rw [h1, Int.neg_tmod, Int.tmod_eq_emod_of_nonneg (by omega), Int.natAbs_neg, Int.natAbs_natCast]
  omega
theorem tmod_le {y : Int} (h : y ≤ 0) : y.tmod 10 ≤ 0 := by have := tmod_abs h; omega
theorem tmod_ge (y : Int) : -9 ≤ y.tmod 10 := by
  by_cases h : y ≤ 0
  · have := tmod_abs h
    omega
  · rw [Int.tmod_eq_emod_of_nonneg (by omega)]
    omega
theorem r_step {n y : Int} {acc : List UInt8} (h : R n y acc) (h0 : y ≠ 0) : R n (y.tdiv 10) (UInt8.ofNat (48 + y.natAbs % 10) :: acc) := by
  have ha : (y.tdiv 10).natAbs = y.natAbs / 10 := by rw [Int.natAbs_tdiv]; rfl
  refine ⟨fun hn => Int.tdiv_nonneg (h.pos hn) (by omega), fun hn => ?_, ?_, ?_⟩
  · have := h.neg hn
    have h1 : y = -((y.natAbs : Nat) : Int) := by omega
    rw [h1, Int.neg_tdiv]
    have := Int.tdiv_nonneg (a := ((y.natAbs : Nat) : Int)) (b := 10) (by omega) (by omega)
    omega
  · rw [ha, ← digs_step y.natAbs acc (by omega)]
    exact h.digits
  · rw [ha]
    exact fits_step h.fits (by omega)
theorem wrap_step {y : Int} {len : Nat} (h : Fits y.natAbs len) : wrap64 (y.tdiv 10) = y.tdiv 10 := by
  have ha : (y.tdiv 10).natAbs = y.natAbs / 10 := by rw [Int.natAbs_tdiv]; rfl
  have hb : y.natAbs < 10 ^ 19 := Nat.lt_of_lt_of_le h.2 (Nat.pow_le_pow_right (by omega) (by omega))
  have hc : (10 : Nat) ^ 19 = 10000000000000000000 := by decide
  refine IntWalk.wrap64_in _ ⟨?_, ?_⟩
  · omega
  · omega

set_option maxHeartbeats 400000 in
theorem specDec_pos (n : Int) (w : World) (h0 : 0 < n) (h1 : Fits n.natAbs 0) :
    Calls Tryz.prog 82 #[.int .i64 n] w fun e w' => e = .returned (.string ⟨(Lib.itoa n).toArray⟩) ∧ Below w.heap.size w w' := by
  have hd : Lib.itoa n = digs n.natAbs n.natAbs [] := by
    rw [digs_dec n.natAbs n.natAbs (Nat.le_refl _) (by omega), List.append_nil, Lib.itoa, if_neg (by omega), show n.toNat = n.natAbs by omega]
  have HD := Lib.hid hd
  have H1 := Lib.hid h1
  clear hd h1
  have hz0 : (n == 0) = false := by rw [beq_eq_false_iff_ne]; omega
  go_enter Tryz.func82, Tryz.ntmps82
  go_wp2
  go_loopw [0, 4, 5] (fun x o _ wr => ∃ (y : Int) (acc : List UInt8), x = .int .i64 y ∧ o = .string ⟨acc.toArray⟩ ∧ R n y acc ∧ Below w.heap.size w wr) (fun x _ _ _ => (intOf x).natAbs)
  case atStart => exact ⟨n, [], rfl, rfl, ⟨id, id, rfl, H1.out⟩, Below.refl _ _⟩
  case round =>
    obtain ⟨y, acc, rfl, rfl, hr, hb⟩ := hrel
    have hy := hr.pos (by omega)
    have hl := hr.fits.1
    by_cases hz : 0 < y
    · have HW := Lib.hid (wrap_step hr.fits)
      have HR := Lib.hid (r_step hr (by omega))
      have HM := Lib.hid (show (y.tdiv 10).natAbs < y.natAbs by have ha : (y.tdiv 10).natAbs = y.natAbs / 10 := (by rw [Int.natAbs_tdiv]; rfl); omega)
      have HE := Lib.hid (show (48 : Int) + y % 10 = 48 + ((y.natAbs % 10 : Nat) : Int) by omega)
      have hcv := conv_one wr (48 + y % 10)
      have hsz : (strOfNums [48 + y % 10]).size ≤ 1 := by rw [strOfNums_size]; exact Nat.le_refl _
      have t0 : 0 ≤ y % 10 := by omega
      have t1 : y % 10 ≤ 9 := by omega
      go_wp2_with (go_at_call 92; refine (figure_any _ _ (by omega) (by omega)).mono ?_; rintro e w' ⟨rfl, rfl⟩)
      go_roundw
      case rel => exact ⟨y.tdiv 10, _, by rw [HW.out], by rw [HE.out, one_app], HR.out, hb.alloc hb.size _⟩
      case measure => rw [HW.out]; exact HM.out
    · obtain rfl : y = 0 := by omega
      have hacc := hr.digits
      have HA := Lib.hid (show acc = digs n.natAbs n.natAbs [] from hacc)
      clear hacc hr
      go_wp2
      go_ret
      exact ⟨by rw [HD.out, ← HA.out]; rfl, hb⟩

set_option maxHeartbeats 400000 in
theorem specDec_neg (n : Int) (w : World) (h0 : n < 0) (h1 : Fits n.natAbs 0) :
    Calls Tryz.prog 82 #[.int .i64 n] w fun e w' => e = .returned (.string ⟨(Lib.itoa n).toArray⟩) ∧ Below w.heap.size w w' := by
  have hd : Lib.itoa n = 45 :: digs n.natAbs n.natAbs [] := by
    rw [digs_dec n.natAbs n.natAbs (Nat.le_refl _) (by omega), List.append_nil, Lib.itoa, if_pos h0]
  have HD := Lib.hid hd
  have H1 := Lib.hid h1
  clear hd h1
  have hz0 : (n == 0) = false := by rw [beq_eq_false_iff_ne]; omega
  go_enter Tryz.func82, Tryz.ntmps82
  go_wp2
  go_loopw [0, 4, 5] (fun x o _ wr => ∃ (y : Int) (acc : List UInt8), x = .int .i64 y ∧ o = .string ⟨acc.toArray⟩ ∧ R n y acc ∧ Below w.heap.size w wr) (fun x _ _ _ => (intOf x).natAbs)
  case atStart => exact ⟨n, [], rfl, rfl, ⟨id, id, rfl, H1.out⟩, Below.refl _ _⟩
  case round =>
    obtain ⟨y, acc, rfl, rfl, hr, hb⟩ := hrel
    have hy := hr.neg (by omega)
    have hl := hr.fits.1
    by_cases hz : y < 0
    · have HW := Lib.hid (wrap_step hr.fits)
      have HR := Lib.hid (r_step hr (by omega))
      have HM := Lib.hid (show (y.tdiv 10).natAbs < y.natAbs by have ha : (y.tdiv 10).natAbs = y.natAbs / 10 := (by rw [Int.natAbs_tdiv]; rfl); omega)
      have t0 : y.tmod 10 ≤ 0 := tmod_le (by omega)
      have t1 : -9 ≤ y.tmod 10 := tmod_ge y
      have HE := Lib.hid (show (48 : Int) + -(y.tmod 10) = 48 + ((y.natAbs % 10 : Nat) : Int) by have := tmod_abs (y := y) (by omega); omega)
      by_cases t2 : y.tmod 10 < 0
      · have hcv := conv_one wr (48 + -(y.tmod 10))
        have hsz : (strOfNums [48 + -(y.tmod 10)]).size ≤ 1 := by rw [strOfNums_size]; exact Nat.le_refl _
        go_wp2_with (go_at_call 92; refine (figure_any _ _ (by omega) (by omega)).mono ?_; rintro e w' ⟨rfl, rfl⟩)
        go_roundw
        case rel => exact ⟨y.tdiv 10, _, by rw [HW.out], by rw [HE.out, one_app], HR.out, hb.alloc hb.size _⟩
        case measure => rw [HW.out]; exact HM.out
      · have HE2 := Lib.hid (show (48 : Int) + y.tmod 10 = 48 + ((y.natAbs % 10 : Nat) : Int) by have := tmod_abs (y := y) (by omega); omega)
        have hcv := conv_one wr (48 + y.tmod 10)
        have hsz : (strOfNums [48 + y.tmod 10]).size ≤ 1 := by rw [strOfNums_size]; exact Nat.le_refl _
        go_wp2_with (go_at_call 92; refine (figure_any _ _ (by omega) (by omega)).mono ?_; rintro e w' ⟨rfl, rfl⟩)
        go_roundw
        case rel => exact ⟨y.tdiv 10, _, by rw [HW.out], by rw [HE2.out, one_app], HR.out, hb.alloc hb.size _⟩
        case measure => rw [HW.out]; exact HM.out
    · obtain rfl : y = 0 := by omega
      have hacc := hr.digits
      have HA := Lib.hid (show acc = digs n.natAbs n.natAbs [] from hacc)
      clear hacc hr
      go_wp2
      go_ret
      exact ⟨by rw [HD.out, ← HA.out, show (⟨(45 :: acc).toArray⟩ : ByteArray) = ⟨[45].toArray⟩ ++ ⟨acc.toArray⟩ by rw [ba_app]; rfl]; rfl, hb⟩

theorem fits_int (n : Int) (h : (Lit.int .i64 n).wf = true) : Fits n.natAbs 0 := by
  have e1 : IntKind.i64.min = -9223372036854775808 := rfl
  have e2 : IntKind.i64.max = 9223372036854775807 := rfl
  have hb : -9223372036854775808 ≤ n ∧ n ≤ 9223372036854775807 := by simpa [Lit.wf, e1, e2] using h
  refine ⟨by omega, ?_⟩
  have hc : (10 : Nat) ^ (19 - 0) = 10000000000000000000 := by decide
  omega

theorem specDec_any (n : Int) (w : World) (h : (Lit.int .i64 n).wf = true) :
    Calls Tryz.prog 82 #[.int .i64 n] w fun e w' => e = .returned (.string ⟨(Lib.itoa n).toArray⟩) ∧ Below w.heap.size w w' := by
  rcases Int.lt_trichotomy n 0 with h0 | rfl | h0
  · exact specDec_neg n w h0 (fits_int n h)
  · exact specDec_zero w
  · exact specDec_pos n w h0 (fits_int n h)

end Go.Proofs.YtkibddcjogfklaaGreatDoor.dec
