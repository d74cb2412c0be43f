/-
  Contracts of spec's sums of 32 bits.
-/
import Derived.Test.YtbgkdngeingmnaaKit
import Derived.Test.YtbgkdngeingmnaaSumMath
namespace Go.Proofs.Ytbgkdngeingmnaa.sum
set_option maxRecDepth 20000
open Go.RowKit
open kit

/-- the lowest 32 bits -/
def low (s : Int) : Nat := (s % 4294967296).toNat
theorem low_lt (s : Int) : low s < 4294967296 := by unfold low; omega
theorem low_eq (s : Int) : s % 4294967296 = ((low s : Nat) : Int) := by unfold low; omega
theorem low_of (x : Nat) (h : x < 4294967296) : low (x : Int) = x := by unfold low; omega
def low8 (b : Int) : Nat := (b % 256).toNat
theorem low8_lt (b : Int) : low8 b < 256 := by unfold low8; omega
theorem low8_eq (b : Int) : b % 256 = ((low8 b : Nat) : Int) := by unfold low8; omega
theorem low8_of (x : Nat) (h : x < 256) : low8 (x : Int) = x := by unfold low8; omega

theorem st_odd {x : Nat} (h : x % 2 = 1) : st x = (x / 2) ^^^ 2197175160 := if_pos h
theorem st_evn {x : Nat} (h : ¬ x % 2 = 1) : st x = x / 2 := if_neg h
theorem stN_succ (k x : Nat) : stN (k + 1) x = st (stN k x) := rfl

def sumByte (s b : Int) : Nat := stN 8 (low s ^^^ low8 b)
theorem sumByte_lt (s b : Int) : sumByte s b < 4294967296 := stN_lt (xor_lt (low_lt s) (by have := low8_lt b; omega)) 8

set_option maxHeartbeats 400000 in
theorem specByte_any (s b : Int) (w : World) :
    Calls Try.prog 74 #[.int .i64 s, .int .i64 b] w fun e w' => e = .returned (.int .i64 ((sumByte s b : Nat) : Int)) ∧ w = w' := by
  have hs := (and32 s).trans (low_eq s)
  have hb := (and8 b).trans (low8_eq b)
  have l1 := low_lt s
  have l2 := low8_lt b
  have hx := xor_nat (low s) (low8 b) l1 (by omega)
  obtain ⟨y, hy⟩ : ∃ y, low s ^^^ low8 b = y := ⟨_, rfl⟩
  have hy32 : y < 4294967296 := by rw [← hy]; exact xor_lt l1 (by omega)
  rw [hy] at hx
  have HY := Lib.hid hy
  clear hy l1 l2
  go_enter Try.func74, Try.ntmps74
  go_wp2
  clear hs hb hx
  go_loop [5, 6, 7] (fun x i _ => ∃ k z : Nat, k ≤ 8 ∧ i = .int .i64 k ∧ x = .int .i64 z ∧ stN k y = z) (fun _ i _ => 8 - (intOf i).toNat)
  case atStart => exact ⟨0, y, by omega, rfl, rfl, rfl⟩
  case round =>
    obtain ⟨k, z, hk, rfl, rfl, hz⟩ := hrel
    have hz32 : z < 4294967296 := by rw [← hz]; exact stN_lt hy32 k
    have HZ := Lib.hid hz
    clear hz
    by_cases hlt : k < 8
    · have h1 := and1 (z : Int)
      by_cases hodd : z % 2 = 1
      · have ho : ((z : Int) % 2 == 1) = true := by rw [beq_iff_eq]; omega
        have HO := Lib.hid (st_odd hodd)
        have hxx := xor_nat (z / 2) 2197175160 (by omega) (by decide)
        have hdv : ((z / 2 : Nat) : Int) = (z : Int) / 2 := by omega
        rw [hdv] at hxx
        have HX := Lib.hid hxx
        clear hodd hxx hdv
        go_wp2
        go_round
        case rel => exact ⟨k + 1, (z / 2) ^^^ 2197175160, by omega, by go_num, by rw [← HX.out]; rfl, by rw [stN_succ, HZ.out, HO.out]⟩
        case measure => simp [intOf]; omega
      · have ho : ((z : Int) % 2 == 1) = false := by rw [beq_eq_false_iff_ne]; omega
        have HO := Lib.hid (st_evn hodd)
        clear hodd
        go_wp2
        go_round
        case rel => exact ⟨k + 1, z / 2, by omega, by go_num, by go_num, by rw [stN_succ, HZ.out, HO.out]⟩
        case measure => simp [intOf]; omega
    · obtain rfl : k = 8 := by omega
      have HE := Lib.hid (show sumByte s b = z by unfold sumByte; rw [HY.out]; exact HZ.out)
      go_wp2
      go_ret
      exact ⟨by rw [HE.out]; rfl, rfl⟩

end Go.Proofs.Ytbgkdngeingmnaa.sum
