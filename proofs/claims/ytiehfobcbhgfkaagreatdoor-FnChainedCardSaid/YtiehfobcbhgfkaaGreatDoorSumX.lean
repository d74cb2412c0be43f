/-
  Contracts of spec's sums of 32 bits.
-/
import Derived.Test.YtiehfobcbhgfkaaGreatDoorKit
import Derived.Test.YtiehfobcbhgfkaaGreatDoorMathX
namespace Go.Proofs.YtiehfobcbhgfkaaGreatDoor.sum
set_option maxRecDepth 20000
open Go.RowKit
open kit

/-- the lowest 32 bits -/
def low (s : Int) : Nat := (s % 4294967296).toNat
theorem low_lt (s : Int) : low s < 4294967296 := by unfold low; omega
theorem low_eq (s : Int) : s % 4294967296 = ((low s : Nat) : Int) := by unfold low; omega
theorem low_of (x : Nat) (h : x < 4294967296) : low (x : Int) = x := by unfold low; omega
def low8 (b : Int) : Nat := (b % 256).toNat
theorem low8_lt (b : Int) : low8 b < 256 := by unfold low8; omega
theorem low8_eq (b : Int) : b % 256 = ((low8 b : Nat) : Int) := by unfold low8; omega
theorem low8_of (x : Nat) (h : x < 256) : low8 (x : Int) = x := by unfold low8; omega

theorem st_odd {x : Nat} (h : x % 2 = 1) : st x = (x / 2) ^^^ 2197175160 := if_pos h
theorem st_evn {x : Nat} (h : ¬ x % 2 = 1) : st x = x / 2 := if_neg h
theorem stN_succ (k x : Nat) : stN (k + 1) x = st (stN k x) := rfl

def sumByte (s b : Int) : Nat := stN 8 (low s ^^^ low8 b)
set_option maxHeartbeats 400000 in
theorem specByte_any (s b : Int) (w : World) :
    Calls Tryz.prog 173 #[.int .i64 s, .int .i64 b] w fun e w' => e = .returned (.int .i64 ((sumByte s b : Nat) : Int)) ∧ w = w' := by
  have hs := (and32 s).trans (low_eq s)
  have hb := (and8 b).trans (low8_eq b)
  have l1 := low_lt s
  have l2 := low8_lt b
  have hx := xor_nat (low s) (low8 b) l1 (by omega)
  obtain ⟨y, hy⟩ : ∃ y, low s ^^^ low8 b = y := ⟨_, rfl⟩
  have hy32 : y < 4294967296 := by rw [← hy]; exact xor_lt l1 (by omega)
  rw [hy] at hx
  have HY := Lib.hid hy
  clear hy l1 l2
  go_enter Tryz.func173, Tryz.ntmps173
  go_wp2
  clear hs hb hx
  go_loop [5, 6, 7] (fun x i _ => ∃ k z : Nat, k ≤ 8 ∧ i = .int .i64 k ∧ x = .int .i64 z ∧ stN k y = z) (fun _ i _ => 8 - (intOf i).toNat)
  case atStart => exact ⟨0, y, by omega, rfl, rfl, rfl⟩
  case round =>
    obtain ⟨k, z, hk, rfl, rfl, hz⟩ := hrel
    have hz32 : z < 4294967296 := by rw [← hz]; exact stN_lt hy32 k
    have HZ := Lib.hid hz
    clear hz
    by_cases hlt : k < 8
    · have h1 := and1 (z : Int)
      by_cases hodd : z % 2 = 1
      · have ho : ((z : Int) % 2 == 1) = true := by rw [beq_iff_eq]; omega
        have HO := Lib.hid (st_odd hodd)
        have hxx := xor_nat (z / 2) 2197175160 (by omega) (by decide)
        have hdv : ((z / 2 : Nat) : Int) = (z : Int) / 2 := by omega
        rw [hdv] at hxx
        have HX := Lib.hid hxx
        clear hodd hxx hdv
        go_wp2
        go_round
        case rel => exact ⟨k + 1, (z / 2) ^^^ 2197175160, by omega, by go_num, by rw [← HX.out]; rfl, by rw [stN_succ, HZ.out, HO.out]⟩
        case measure => simp [intOf]; omega
      · have ho : ((z : Int) % 2 == 1) = false := by rw [beq_eq_false_iff_ne]; omega
        have HO := Lib.hid (st_evn hodd)
        clear hodd
        go_wp2
        go_round
        case rel => exact ⟨k + 1, z / 2, by omega, by go_num, by go_num, by rw [stN_succ, HZ.out, HO.out]⟩
        case measure => simp [intOf]; omega
    · obtain rfl : k = 8 := by omega
      have HE := Lib.hid (show sumByte s b = z by unfold sumByte; rw [HY.out]; exact HZ.out)
      go_wp2
      go_ret
      exact ⟨by rw [HE.out]; rfl, rfl⟩

end Go.Proofs.YtiehfobcbhgfkaaGreatDoor.sum

namespace Go.Proofs.YtiehfobcbhgfkaaGreatDoor.sum
set_option maxRecDepth 20000
open Go.RowKit
open kit

theorem sumByte_nat (z c : Nat) (hz : z < 4294967296) (hc : c < 256) : sumByte (z : Int) (c : Int) = stN 8 (z ^^^ c) := by
  unfold sumByte
  rw [low_of z hz, low8_of c hc]
theorem take_step (s : ByteArray) (k : Nat) (h : k < s.size) : s.data.toList.take (k + 1) = s.data.toList.take k ++ [s[k]] := by
  rw [List.take_succ_eq_append_getElem (show k < s.data.toList.length by simpa using h)]
  rfl

/-- the sum of a text from s on -/
def more (s : Int) (t : ByteArray) : Nat := sumMore (low s) t.data.toList
set_option maxHeartbeats 400000 in
theorem specMore_any (s : Int) (t : ByteArray) (w : World) (hm : t.size ≤ 9223372036854775807) :
    Calls Tryz.prog 116 #[.int .i64 s, .string t] w fun e w' => e = .returned (.int .i64 ((more s t : Nat) : Int)) ∧ w = w' := by
  have hs := (and32 s).trans (low_eq s)
  have l1 := low_lt s
  have hx := xor_nat (low s) 4294967295 l1 (by decide)
  obtain ⟨y, hy⟩ : ∃ y, low s ^^^ 4294967295 = y := ⟨_, rfl⟩
  have hy32 : y < 4294967296 := by rw [← hy]; exact xor_lt l1 (by decide)
  rw [hy] at hx
  have HY := Lib.hid hy
  have HX := Lib.hid hx
  have hx2 : bits BinOp.xor IntKind.i64 (low s : Int) 4294967295 = (y : Int) := HX.out
  clear hy l1 hx
  go_enter Tryz.func116, Tryz.ntmps116
  go_wp2
  clear hs hx2
  go_loopw [5, 6] (fun x i wr => ∃ k z : Nat, k ≤ t.size ∧ i = .int .i64 k ∧ x = .int .i64 z ∧ F y (t.data.toList.take k) = z ∧ Below w.heap.size w wr ∧ w = wr) (fun _ i _ => t.size - (intOf i).toNat)
  case atStart => exact ⟨0, y, Nat.zero_le _, rfl, rfl, rfl, Below.refl _ _, rfl⟩
  case round =>
    obtain ⟨k, z, hk, rfl, rfl, hz, hb, rfl⟩ := hrel
    have hz32 : z < 4294967296 := by rw [← hz]; exact F_lt _ _ hy32
    have HZ := Lib.hid hz
    clear hz hb
    by_cases hlt : k < t.size
    · have hc : t[k].toNat < 256 := t[k].toNat_lt
      have HT := Lib.hid (take_step t k hlt)
      go_wp2_with (go_at_call 173; refine (specByte_any _ _ _).mono ?_; rintro e w' ⟨rfl, rfl⟩)
      go_roundw
      case rel => exact ⟨k + 1, stN 8 (z ^^^ t[k].toNat), by omega, by go_num, by rw [sumByte_nat z _ hz32 hc], by rw [HT.out, F_snoc, HZ.out], Below.refl _ _, trivial⟩
      case measure => simp [intOf]; omega
    · obtain rfl : k = t.size := by omega
      have HT := Lib.hid (show t.data.toList.take t.size = t.data.toList from List.take_of_length_le (Nat.le_refl _))
      have hx3 := xor_nat z 4294967295 hz32 (by decide)
      have HE := Lib.hid (show more s t = z ^^^ 4294967295 by
        unfold more sumMore
        rw [HY.out, ← HZ.out, HT.out])
      have HX3 := Lib.hid hx3
      have hx4 : bits BinOp.xor IntKind.i64 (z : Int) 4294967295 = ((z ^^^ 4294967295 : Nat) : Int) := HX3.out
      clear hx3
      go_wp2
      go_ret
      exact ⟨by rw [HE.out]; rfl, rfl⟩

theorem specOf_any (t : ByteArray) (w : World) (hm : t.size ≤ 9223372036854775807) :
    Calls Tryz.prog 124 #[.string t] w fun e w' => e = .returned (.int .i64 ((more 0 t : Nat) : Int)) ∧ w = w' := by
  go_enter Tryz.func124, Tryz.ntmps124
  go_wp2_with (go_at_call 116; refine (specMore_any _ _ _ hm).mono ?_; rintro e w' ⟨rfl, rfl⟩)
  go_ret
  exact ⟨rfl, rfl⟩

/-! ### shifts -/
def br (n least most : Int) : Int := if n < least ∨ most < least then least else if most < n then most else n
end Go.Proofs.YtiehfobcbhgfkaaGreatDoor.sum
