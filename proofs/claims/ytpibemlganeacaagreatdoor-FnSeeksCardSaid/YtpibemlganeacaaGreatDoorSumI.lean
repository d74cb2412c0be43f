/-
  Contracts of impl's sums of 32 bits (a form with ranges over numbers).
-/
import Derived.Test.YtpibemlganeacaaGreatDoorSumX
namespace Go.Proofs.YtpibemlganeacaaGreatDoor.sum
set_option maxRecDepth 20000
open Go.RowKit
open kit

set_option maxHeartbeats 400000 in
theorem implByte_any (s b : Int) (w : World) :
    Calls Tryz.prog 98 #[.int .i64 s, .int .i64 b] w fun e w' => e = .returned (.int .i64 ((sumByte s b : Nat) : Int)) ∧ w = w' := by
  have hs := low_eq s
  have hb := low8_eq b
  have l1 := low_lt s
  have l2 := low8_lt b
  have ws := (IntKind.wrap_u32 s).trans hs
  have wb := (IntKind.wrap_u8 b).trans hb
  have wb2 : IntKind.u32.wrap ((low8 b : Nat) : Int) = ((low8 b : Nat) : Int) := by rw [IntKind.wrap_u32]; omega
  have hx := xor_u32 (low s) (low8 b) l1 (by omega)
  obtain ⟨y, hy⟩ : ∃ y, low s ^^^ low8 b = y := ⟨_, rfl⟩
  have hy32 : y < 4294967296 := by rw [← hy]; exact xor_lt l1 (by omega)
  rw [hy] at hx
  have HY := Lib.hid hy
  clear hy l1 l2 hs hb
  go_enter Tryz.func98, Tryz.ntmps98
  go_wp2
  clear ws wb wb2 hx
  go_loop [5, 6, 13] (fun x _ i => ∃ k z : Nat, k ≤ 8 ∧ i = .int .i64 k ∧ x = .int .u32 z ∧ stN k y = z) (fun _ _ i => 8 - (intOf i).toNat)
  case atStart => exact ⟨0, y, by omega, rfl, rfl, rfl⟩
  case round =>
    obtain ⟨k, z, hk, rfl, rfl, hz⟩ := hrel
    have hz32 : z < 4294967296 := by rw [← hz]; exact stN_lt hy32 k
    have HZ := Lib.hid hz
    clear hz
    by_cases hlt : k < 8
    · have h1 := and1_u32 z hz32
      by_cases hodd : z % 2 = 1
      · have ho : ((z : Int) % 2 == 1) = true := by rw [beq_iff_eq]; omega
        have HO := Lib.hid (st_odd hodd)
        have hxx := xor_u32 (z / 2) 2197175160 (by omega) (by decide)
        have hdv : ((z / 2 : Nat) : Int) = (z : Int) / 2 := by omega
        rw [hdv] at hxx
        have HX := Lib.hid hxx
        clear hodd hxx hdv
        go_wp2
        go_round
        case rel => exact ⟨k + 1, (z / 2) ^^^ 2197175160, by omega, by go_num, by rw [← HX.out]; rfl, by rw [stN_succ, HZ.out, HO.out]⟩
        case measure => simp [intOf]; omega
      · have ho : ((z : Int) % 2 == 1) = false := by rw [beq_eq_false_iff_ne]; omega
        have HO := Lib.hid (st_evn hodd)
        clear hodd
        go_wp2
        go_round
        case rel => exact ⟨k + 1, z / 2, by omega, by go_num, by go_num, by rw [stN_succ, HZ.out, HO.out]⟩
        case measure => simp [intOf]; omega
    · obtain rfl : k = 8 := by omega
      have HE := Lib.hid (show sumByte s b = z by unfold sumByte; rw [HY.out]; exact HZ.out)
      have hw : IntKind.i64.wrap (z : Int) = (z : Int) := wrap_in z (by omega)
      go_wp2
      go_ret
      exact ⟨by rw [HE.out]; rfl, rfl⟩

theorem xor_low (s : Int) : low (bits BinOp.xor IntKind.i64 s 4294967295) = low s ^^^ 4294967295 := by
  unfold bits low
  simp only [BitVec.toNat_xor]
  rw [ofInt_toNat, ofInt_toNat, IntKind.wrap_i64]
  obtain ⟨a, ha⟩ : ∃ a, (s % 18446744073709551616).toNat = a := ⟨_, rfl⟩
  have ha2 : (s % 4294967296).toNat = a % 4294967296 := by omega
  rw [ha, ha2, show ((4294967295 : Int) % 18446744073709551616).toNat = 4294967295 by decide]
  have h2 := Nat.xor_mod_two_pow (a := a) (b := 4294967295) (n := 32)
  rw [show (2 : Nat) ^ 32 = 4294967296 by rfl, show 4294967295 % 4294967296 = 4294967295 by rfl] at h2
  rw [← h2]
  omega
theorem sumByte_low (v : Int) (c : Nat) (h : c < 256) : sumByte v (c : Int) = stN 8 (low v ^^^ c) := by
  unfold sumByte
  rw [low8_of c h]

set_option maxHeartbeats 400000 in
theorem implMore_any (s : Int) (t : ByteArray) (w : World) (hm : t.size ≤ 9223372036854775807) :
    Calls Tryz.prog 94 #[.int .i64 s, .string t] w fun e w' => e = .returned (.int .i64 ((more s t : Nat) : Int)) ∧ w = w' := by
  obtain ⟨v, hv⟩ : ∃ v, bits BinOp.xor IntKind.i64 s 4294967295 = v := ⟨_, rfl⟩
  have hlv : low v = low s ^^^ 4294967295 := by rw [← hv]; exact xor_low s
  obtain ⟨y, hy⟩ : ∃ y, low s ^^^ 4294967295 = y := ⟨_, rfl⟩
  rw [hy] at hlv
  have HL := Lib.hid hlv
  have HY := Lib.hid hy
  clear hlv hy
  go_enter Tryz.func94, Tryz.ntmps94
  go_wp2
  clear hv
  go_loopw [5, 11] (fun x i wr => ∃ (k : Nat) (z : Int), k ≤ t.size ∧ i = .int .i64 k ∧ x = .int .i64 z ∧ F y (t.data.toList.take k) = low z ∧ w = wr) (fun _ i _ => t.size - (intOf i).toNat)
  case atStart => exact ⟨0, v, Nat.zero_le _, rfl, rfl, HL.out.symm, rfl⟩
  case round =>
    obtain ⟨k, z, hk, rfl, rfl, hz, rfl⟩ := hrel
    have HZ := Lib.hid hz
    clear hz
    by_cases hlt : k < t.size
    · have hc : t[k].toNat < 256 := t[k].toNat_lt
      have HT := Lib.hid (take_step t k hlt)
      go_wp2_with (go_at_call 98; refine (implByte_any _ _ _).mono ?_; rintro e w' ⟨rfl, rfl⟩)
      go_roundw
      case rel => exact ⟨k + 1, _, by omega, by go_num, rfl, by rw [HT.out, F_snoc, HZ.out, sumByte_low z _ hc, low_of _ (stN_lt (xor_lt (low_lt z) (byte_lt _)) 8)], trivial⟩
      case measure => simp [intOf]; omega
    · obtain rfl : k = t.size := by omega
      have HT := Lib.hid (show t.data.toList.take t.size = t.data.toList from List.take_of_length_le (Nat.le_refl _))
      have HE := Lib.hid (show more s t = low z ^^^ 4294967295 by
        unfold more sumMore
        rw [HY.out, ← HZ.out, HT.out])
      have hx : bits BinOp.and IntKind.i64 (bits BinOp.xor IntKind.i64 z 4294967295) 4294967295 = ((low z ^^^ 4294967295 : Nat) : Int) := by
        rw [and32, low_eq, xor_low]
      go_wp2
      go_ret
      exact ⟨by rw [HE.out]; rfl, rfl⟩

theorem implOf_any (t : ByteArray) (w : World) (hm : t.size ≤ 9223372036854775807) :
    Calls Tryz.prog 86 #[.string t] w fun e w' => e = .returned (.int .i64 ((more 0 t : Nat) : Int)) ∧ w = w' := by
  go_enter Tryz.func86, Tryz.ntmps86
  go_wp2_with (go_at_call 94; refine (implMore_any _ _ _ hm).mono ?_; rintro e w' ⟨rfl, rfl⟩)
  go_ret
  exact ⟨rfl, rfl⟩

theorem implBr_any (n least most : Int) (w : World) :
    Calls Tryz.prog 99 #[.int .i64 n, .int .i64 least, .int .i64 most] w fun e w' => e = .returned (.int .i64 (br n least most)) ∧ w = w' := by
  by_cases h1 : n < least
  · have H := Lib.hid (show br n least most = least by unfold br; rw [if_pos (.inl h1)])
    go_enter Tryz.func99, Tryz.ntmps99
    go_wp2
    go_ret
    exact ⟨by rw [H.out]; rfl, rfl⟩
  · by_cases h2 : most < least
    · have H := Lib.hid (show br n least most = least by unfold br; rw [if_pos (.inr h2)])
      go_enter Tryz.func99, Tryz.ntmps99
      go_wp2
      go_ret
      exact ⟨by rw [H.out]; rfl, rfl⟩
    · by_cases h3 : most < n
      · have H := Lib.hid (show br n least most = most by unfold br; rw [if_neg (by omega), if_pos h3])
        go_enter Tryz.func99, Tryz.ntmps99
        go_wp2
        go_ret
        exact ⟨by rw [H.out]; rfl, rfl⟩
      · have H := Lib.hid (show br n least most = n by unfold br; rw [if_neg (by omega), if_neg h3])
        go_enter Tryz.func99, Tryz.ntmps99
        go_wp2
        go_ret
        exact ⟨by rw [H.out]; rfl, rfl⟩

end Go.Proofs.YtpibemlganeacaaGreatDoor.sum
