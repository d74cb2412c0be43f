/-
  Contracts of spec's sums of texts, shifts and joins.
-/
import Derived.Test.YtkhkohbgiipbbaaSumA
namespace Go.Proofs.Ytkhkohbgiipbbaa.sum
open Go.RowKit
open kit

theorem sumByte_nat (z c : Nat) (hz : z < 4294967296) (hc : c < 256) : sumByte (z : Int) (c : Int) = stN 8 (z ^^^ c) := by
  unfold sumByte
  rw [low_of z hz, low8_of c hc]
theorem take_step (s : ByteArray) (k : Nat) (h : k < s.size) : s.data.toList.take (k + 1) = s.data.toList.take k ++ [s[k]] := by
  rw [List.take_succ_eq_append_getElem (show k < s.data.toList.length by simpa using h)]
  rfl

/-- the sum of a text from s on -/
def more (s : Int) (t : ByteArray) : Nat := sumMore (low s) t.data.toList
theorem more_lt (s : Int) (t : ByteArray) : more s t < 4294967296 := sumMore_lt (low_lt s) _

set_option maxHeartbeats 400000 in
theorem specMore_any (s : Int) (t : ByteArray) (w : World) (hm : t.size ≤ 9223372036854775807) :
    Calls Try.prog 26 #[.int .i64 s, .string t] w fun e w' => e = .returned (.int .i64 ((more s t : Nat) : Int)) ∧ w = w' := by
  have hs := (and32 s).trans (low_eq s)
  have l1 := low_lt s
  have hx := xor_nat (low s) 4294967295 l1 (by decide)
  obtain ⟨y, hy⟩ : ∃ y, low s ^^^ 4294967295 = y := ⟨_, rfl⟩
  have hy32 : y < 4294967296 := by rw [← hy]; exact xor_lt l1 (by decide)
  rw [hy] at hx
  have HY := Lib.hid hy
  have HX := Lib.hid hx
  have hx2 : bits BinOp.xor IntKind.i64 (low s : Int) 4294967295 = (y : Int) := HX.out
  clear hy l1 hx
  go_enter Try.func26, Try.ntmps26
  go_wp2
  clear hs hx2
  go_loopw [5, 6] (fun x i wr => ∃ k z : Nat, k ≤ t.size ∧ i = .int .i64 k ∧ x = .int .i64 z ∧ F y (t.data.toList.take k) = z ∧ Below w.heap.size w wr ∧ w = wr) (fun _ i _ => t.size - (intOf i).toNat)
  case atStart => exact ⟨0, y, Nat.zero_le _, rfl, rfl, rfl, Below.refl _ _, rfl⟩
  case round =>
    obtain ⟨k, z, hk, rfl, rfl, hz, hb, rfl⟩ := hrel
    have hz32 : z < 4294967296 := by rw [← hz]; exact F_lt _ _ hy32
    have HZ := Lib.hid hz
    clear hz hb
    by_cases hlt : k < t.size
    · have hc : t[k].toNat < 256 := t[k].toNat_lt
      have HT := Lib.hid (take_step t k hlt)
      go_wp2_with (go_at_call 25; refine (specByte_any _ _ _).mono ?_; rintro e w' ⟨rfl, rfl⟩)
      go_roundw
      case rel => exact ⟨k + 1, stN 8 (z ^^^ t[k].toNat), by omega, by go_num, by rw [sumByte_nat z _ hz32 hc], by rw [HT.out, F_snoc, HZ.out], Below.refl _ _, trivial⟩
      case measure => simp [intOf]; omega
    · obtain rfl : k = t.size := by omega
      have HT := Lib.hid (show t.data.toList.take t.size = t.data.toList from List.take_of_length_le (Nat.le_refl _))
      have hx3 := xor_nat z 4294967295 hz32 (by decide)
      have HE := Lib.hid (show more s t = z ^^^ 4294967295 by
        unfold more sumMore
        rw [HY.out, ← HZ.out, HT.out])
      have HX3 := Lib.hid hx3
      have hx4 : bits BinOp.xor IntKind.i64 (z : Int) 4294967295 = ((z ^^^ 4294967295 : Nat) : Int) := HX3.out
      clear hx3
      go_wp2
      go_ret
      exact ⟨by rw [HE.out]; rfl, rfl⟩

theorem specOf_any (t : ByteArray) (w : World) (hm : t.size ≤ 9223372036854775807) :
    Calls Try.prog 22 #[.string t] w fun e w' => e = .returned (.int .i64 ((more 0 t : Nat) : Int)) ∧ w = w' := by
  go_enter Try.func22, Try.ntmps22
  go_wp2_with (go_at_call 26; refine (specMore_any _ _ _ hm).mono ?_; rintro e w' ⟨rfl, rfl⟩)
  go_ret
  exact ⟨rfl, rfl⟩

theorem specTable_any (s : Int) (t : ByteArray) (w : World) (hm : t.size ≤ 9223372036854775807) :
    Calls Try.prog 28 #[.int .i64 s, .string t] w fun e w' => e = .returned (.int .i64 ((more s t : Nat) : Int)) ∧ w = w' := by
  go_enter Try.func28, Try.ntmps28
  go_wp2_with (go_at_call 26; refine (specMore_any _ _ _ hm).mono ?_; rintro e w' ⟨rfl, rfl⟩)
  go_ret
  exact ⟨rfl, rfl⟩

def tabAt (i : Int) : Nat := if 0 ≤ i ∧ i ≤ 255 then stN 8 i.toNat else 0
theorem specIn_yes (x least most : Int) (w : World) (h1 : least ≤ x) (h2 : x ≤ most) :
    Calls Try.prog 37 #[.int .i64 x, .int .i64 least, .int .i64 most] w fun e w' => e = .returned (.bool true) ∧ w = w' := by
  go_enter Try.func37, Try.ntmps37
  go_wp2
  go_ret
  exact ⟨rfl, rfl⟩
theorem specIn_no (x least most : Int) (w : World) (h : x < least ∨ most < x) :
    Calls Try.prog 37 #[.int .i64 x, .int .i64 least, .int .i64 most] w fun e w' => e = .returned (.bool false) ∧ w = w' := by
  by_cases h1 : x < least
  · clear h
    go_enter Try.func37, Try.ntmps37
    go_wp2
    go_ret
    exact ⟨rfl, rfl⟩
  · have h2 : most < x := by omega
    have hd : decide (x ≤ most) = false := by simp; omega
    clear h
    go_enter Try.func37, Try.ntmps37
    go_wp2
    go_ret
    exact ⟨rfl, rfl⟩
theorem specAt_any (i : Int) (w : World) :
    Calls Try.prog 27 #[.int .i64 i] w fun e w' => e = .returned (.int .i64 ((tabAt i : Nat) : Int)) ∧ w = w' := by
  by_cases h : 0 ≤ i ∧ i ≤ 255
  · have HE := Lib.hid (show tabAt i = sumByte 0 i by
      unfold tabAt sumByte low low8
      rw [if_pos h, show (0 : Int) % 4294967296 = 0 by rfl, show i % 256 = i by omega]
      simp)
    obtain ⟨h1, h2⟩ := h
    go_enter Try.func27, Try.ntmps27
    go_wp2_with (first | (go_at_call 37; refine (specIn_yes _ _ _ _ h1 h2).mono ?_; rintro e w' ⟨rfl, rfl⟩) | (go_at_call 25; refine (specByte_any _ _ _).mono ?_; rintro e w' ⟨rfl, rfl⟩))
    go_ret
    exact ⟨by rw [HE.out]; rfl, rfl⟩
  · have HE := Lib.hid (show tabAt i = 0 from if_neg h)
    have h' := Lib.hid (show i < 0 ∨ 255 < i by omega)
    clear h
    go_enter Try.func27, Try.ntmps27
    go_wp2_with (go_at_call 37; refine (specIn_no _ _ _ _ h'.out).mono ?_; rintro e w' ⟨rfl, rfl⟩)
    go_ret
    exact ⟨by rw [HE.out]; rfl, rfl⟩

/-! ### shifts -/
def br (n least most : Int) : Int := if n < least ∨ most < least then least else if most < n then most else n
theorem specBr_any (n least most : Int) (w : World) :
    Calls Try.prog 36 #[.int .i64 n, .int .i64 least, .int .i64 most] w fun e w' => e = .returned (.int .i64 (br n least most)) ∧ w = w' := by
  have hh : most < least ∨ (least ≤ most ∧ n < least) ∨ (least ≤ most ∧ least ≤ n ∧ most < n) ∨ (least ≤ most ∧ least ≤ n ∧ n ≤ most) := by omega
  rcases hh with h1 | ⟨h1, h2⟩ | ⟨h1, h2, h3⟩ | ⟨h1, h2, h3⟩
  · have H := Lib.hid (show br n least most = least by unfold br; rw [if_pos (.inr h1)])
    go_enter Try.func36, Try.ntmps36
    go_wp2
    go_ret
    exact ⟨by rw [H.out]; rfl, rfl⟩
  · have H := Lib.hid (show br n least most = least by unfold br; rw [if_pos (.inl h2)])
    have h4 : ¬ most < least := by omega
    go_enter Try.func36, Try.ntmps36
    go_wp2
    go_ret
    exact ⟨by rw [H.out]; rfl, rfl⟩
  · have H := Lib.hid (show br n least most = most by unfold br; rw [if_neg (by omega), if_pos h3])
    have h4 : ¬ most < least := by omega
    go_enter Try.func36, Try.ntmps36
    go_wp2
    go_ret
    exact ⟨by rw [H.out]; rfl, rfl⟩
  · have H := Lib.hid (show br n least most = n by unfold br; rw [if_neg (by omega), if_neg (by omega)])
    have h4 : ¬ most < least := by omega
    go_enter Try.func36, Try.ntmps36
    go_wp2
    go_ret
    exact ⟨by rw [H.out]; rfl, rfl⟩

def times (n : Int) : Nat := (br n 0 10000).toNat
theorem br_times (n : Int) : br n 0 10000 = ((times n : Nat) : Int) ∧ times n ≤ 10000 := by
  unfold times br
  split <;> (try split) <;> omega
def shift (s n : Int) : Nat := stN (8 * times n) (low s)
theorem shift_lt (s n : Int) : shift s n < 4294967296 := stN_lt (low_lt s) _
theorem sumByte_zero (z : Nat) (hz : z < 4294967296) : sumByte (z : Int) 0 = stN 8 z := by
  have := sumByte_nat z 0 hz (by decide)
  rwa [Nat.xor_zero] at this

set_option maxHeartbeats 400000 in
theorem specShift_any (s n : Int) (w : World) :
    Calls Try.prog 24 #[.int .i64 s, .int .i64 n] w fun e w' => e = .returned (.int .i64 ((shift s n : Nat) : Int)) ∧ w = w' := by
  have hs := (and32 s).trans (low_eq s)
  have HB := Lib.hid (br_times n).1
  have hle := (br_times n).2
  obtain ⟨m, hm⟩ : ∃ m, times n = m := ⟨_, rfl⟩
  rw [hm] at hle
  have HM := Lib.hid hm
  clear hm
  go_enter Try.func24, Try.ntmps24
  go_wp2_with (go_at_call 36; refine (specBr_any _ _ _ _).mono ?_; rw [HB.out, HM.out]; rintro e w' ⟨rfl, rfl⟩)
  clear hs
  go_loopw [5, 6] (fun x i wr => ∃ k z : Nat, k ≤ m ∧ i = .int .i64 k ∧ x = .int .i64 z ∧ stN (8 * (m - k)) (low s) = z ∧ w = wr) (fun _ i _ => (intOf i).toNat)
  case atStart => exact ⟨m, low s, Nat.le_refl _, rfl, rfl, by rw [Nat.sub_self]; rfl, rfl⟩
  case round =>
    obtain ⟨k, z, hk, rfl, rfl, hz, rfl⟩ := hrel
    have hz32 : z < 4294967296 := by rw [← hz]; exact stN_lt (low_lt s) _
    have HZ := Lib.hid hz
    clear hz
    by_cases hlt : 0 < k
    · go_wp2_with (go_at_call 25; refine (specByte_any _ _ _).mono ?_; rintro e w' ⟨rfl, rfl⟩)
      go_roundw
      case rel => exact ⟨k - 1, stN 8 z, by omega, by congr 1; omega, by rw [sumByte_zero z hz32], by rw [show 8 * (m - (k - 1)) = 8 * (m - k) + 8 by omega, stN_add, HZ.out], trivial⟩
      case measure => simp [intOf]; omega
    · obtain rfl : k = 0 := by omega
      have HE := Lib.hid (show shift s n = z by unfold shift; rw [HM.out]; exact HZ.out)
      go_wp2
      go_ret
      exact ⟨by rw [HE.out]; rfl, rfl⟩

theorem specJoined_any (a b n : Int) (w : World) :
    Calls Try.prog 29 #[.int .i64 a, .int .i64 b, .int .i64 n] w fun e w' => e = .returned (.int .i64 ((shift a n ^^^ low b : Nat) : Int)) ∧ w = w' := by
  have hb := (and32 b).trans (low_eq b)
  have hx := xor_nat (shift a n) (low b) (shift_lt a n) (low_lt b)
  go_enter Try.func29, Try.ntmps29
  go_wp2_with (go_at_call 24; refine (specShift_any _ _ _).mono ?_; rintro e w' ⟨rfl, rfl⟩)
  go_ret
  exact ⟨rfl, rfl⟩

end Go.Proofs.Ytkhkohbgiipbbaa.sum
