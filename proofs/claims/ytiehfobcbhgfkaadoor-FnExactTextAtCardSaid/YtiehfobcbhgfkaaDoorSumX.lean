/-
  Contracts of spec's sums of 32 bits.
-/
import Derived.Test.YtiehfobcbhgfkaaDoorKit
import Derived.Test.YtiehfobcbhgfkaaDoorMathX
namespace Go.Proofs.YtiehfobcbhgfkaaDoor.sum
set_option maxRecDepth 20000
open Go.RowKit
open kit

/-- the lowest 32 bits -/
def low (s : Int) : Nat := (s % 4294967296).toNat
theorem low_lt (s : Int) : low s < 4294967296 := by unfold low; omega
theorem low_eq (s : Int) : s % 4294967296 = ((low s : Nat) : Int) := by unfold low; omega
theorem low_of (x : Nat) (h : x < 4294967296) : low (x : Int) = x := by unfold low; omega
def low8 (b : Int) : Nat := (b % 256).toNat
theorem low8_lt (b : Int) : low8 b < 256 := by unfold low8; omega
theorem low8_eq (b : Int) : b % 256 = ((low8 b : Nat) : Int) := by unfold low8; omega
theorem low8_of (x : Nat) (h : x < 256) : low8 (x : Int) = x := by unfold low8; omega

theorem st_odd {x : Nat} (h : x % 2 = 1) : st x = (x / 2) ^^^ 2197175160 := if_pos h
theorem st_evn {x : Nat} (h : ¬ x % 2 = 1) : st x = x / 2 := if_neg h
theorem stN_succ (k x : Nat) : stN (k + 1) x = st (stN k x) := rfl

def sumByte (s b : Int) : Nat := stN 8 (low s ^^^ low8 b)
theorem sumByte_lt (s b : Int) : sumByte s b < 4294967296 := stN_lt (xor_lt (low_lt s) (by have := low8_lt b; omega)) 8

end Go.Proofs.YtiehfobcbhgfkaaDoor.sum

namespace Go.Proofs.YtiehfobcbhgfkaaDoor.sum
set_option maxRecDepth 20000
open Go.RowKit
open kit

theorem sumByte_nat (z c : Nat) (hz : z < 4294967296) (hc : c < 256) : sumByte (z : Int) (c : Int) = stN 8 (z ^^^ c) := by
  unfold sumByte
  rw [low_of z hz, low8_of c hc]
theorem take_step (s : ByteArray) (k : Nat) (h : k < s.size) : s.data.toList.take (k + 1) = s.data.toList.take k ++ [s[k]] := by
  rw [List.take_succ_eq_append_getElem (show k < s.data.toList.length by simpa using h)]
  rfl

/-- the sum of a text from s on -/
def more (s : Int) (t : ByteArray) : Nat := sumMore (low s) t.data.toList
theorem more_lt (s : Int) (t : ByteArray) : more s t < 4294967296 := sumMore_lt (low_lt s) _

def tabAt (i : Int) : Nat := if 0 ≤ i ∧ i ≤ 255 then stN 8 i.toNat else 0
theorem specIn_yes (x least most : Int) (w : World) (h1 : least ≤ x) (h2 : x ≤ most) :
    Calls Tryd.prog 25 #[.int .i64 x, .int .i64 least, .int .i64 most] w fun e w' => e = .returned (.bool true) ∧ w = w' := by
  go_enter Tryd.func25, Tryd.ntmps25
  go_wp2
  go_ret
  exact ⟨rfl, rfl⟩
theorem specIn_no (x least most : Int) (w : World) (h : x < least ∨ most < x) :
    Calls Tryd.prog 25 #[.int .i64 x, .int .i64 least, .int .i64 most] w fun e w' => e = .returned (.bool false) ∧ w = w' := by
  by_cases h1 : x < least
  · clear h
    go_enter Tryd.func25, Tryd.ntmps25
    go_wp2
    go_ret
    exact ⟨rfl, rfl⟩
  · have h2 : most < x := by omega
    have hd : decide (x ≤ most) = false := by simp; omega
    clear h
    go_enter Tryd.func25, Tryd.ntmps25
    go_wp2
    go_ret
    exact ⟨rfl, rfl⟩
/-! ### shifts -/
def br (n least most : Int) : Int := if n < least ∨ most < least then least else if most < n then most else n
def times (n : Int) : Nat := (br n 0 10000).toNat
theorem br_times (n : Int) : br n 0 10000 = ((times n : Nat) : Int) ∧ times n ≤ 10000 := by
  unfold times br
  split <;> (try split) <;> omega
def shift (s n : Int) : Nat := stN (8 * times n) (low s)
theorem shift_lt (s n : Int) : shift s n < 4294967296 := stN_lt (low_lt s) _
theorem sumByte_zero (z : Nat) (hz : z < 4294967296) : sumByte (z : Int) 0 = stN 8 z := by
  have := sumByte_nat z 0 hz (by decide)
  rwa [Nat.xor_zero] at this

end Go.Proofs.YtiehfobcbhgfkaaDoor.sum
