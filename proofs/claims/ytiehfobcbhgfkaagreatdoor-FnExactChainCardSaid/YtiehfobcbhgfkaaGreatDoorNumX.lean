/-
  Contracts of spec.VarText and spec.VarSize.
-/
import Derived.Test.YtiehfobcbhgfkaaGreatDoorStrQ
import Derived.Test.YtiehfobcbhgfkaaGreatDoorMathX
namespace Go.Proofs.YtiehfobcbhgfkaaGreatDoor.num
set_option maxRecDepth 20000
open Go.RowKit
open kit

theorem Tryz.infoU8 : (Tryz.prog.info? 5).map (fun i => (i.zero, i.size, i.bytes)) = some (some (.int .u8 0), 1, 1) := by kernel_rfl

theorem and127 (z : Nat) (h : z ≤ 1000000000) : bits BinOp.and IntKind.i64 (z : Int) 127 = ((z % 128 : Nat) : Int) := by
  unfold bits
  simp only [BitVec.toNat_and, BitVec.toNat_ofInt]
  rw [show ((z : Int) % ((2 ^ IntKind.i64.bits : Nat) : Int)).toNat = z by show ((z : Int) % 18446744073709551616).toNat = z; omega, show ((127 : Int) % ((2 ^ IntKind.i64.bits : Nat) : Int)).toNat = 2 ^ 7 - 1 by decide, Nat.and_two_pow_sub_one_eq_mod, IntKind.wrap_i64]
  omega
theorem or128' : ∀ a : Fin 128, bits BinOp.or IntKind.i64 (a.val : Int) 128 = ((a.val + 128 : Nat) : Int) := by decide +kernel
theorem or128 (a : Nat) (h : a < 128) : bits BinOp.or IntKind.i64 (a : Int) 128 = ((a + 128 : Nat) : Int) := or128' ⟨a, h⟩
theorem wrap8 (c : Nat) (h : c < 256) : IntKind.u8.wrap (c : Int) = (c : Int) := by rw [IntKind.wrap_u8]; omega

/-- a text is answered, and nothing of what was there turns -/
def PostT (t : ByteArray) (w : World) (e : Ending) (w' : World) : Prop := e = .returned (.string t) ∧ Below w.heap.size w w'

set_option maxHeartbeats 400000 in
theorem specVar_in (n : Nat) (w : World) (hn : n ≤ 1000000000) :
    Calls Tryz.prog 125 #[.int .i64 n] w (PostT (vt n) w) := by
  obtain ⟨i0, hi, hz0, hz1, hz2⟩ := info_parts Tryz.infoU8
  go_enter Tryz.func125, Tryz.ntmps125
  go_wp2_with (go_at_call 109; refine (in_yes _ _ _ _ (by omega) (by omega)).mono ?_; rintro e w' ⟨rfl, rfl⟩)
  go_loopw [0, 3] (fun x v wr => ∃ (k z m : Nat) (xs : List Nat), x = .int .i64 z ∧ m + k ≤ 4 ∧ z ≤ 1000000000 ∧ z < 128 ^ (k + 1) ∧ xs ++ vb k z = vb 4 n ∧ wr.ownsRow w.heap.size 5 1 v m ((xs.map fun (c : Nat) => (c : Int)).map (Value.int .u8)) ∧ Below w.heap.size w wr) (fun x _ _ => (intOf x).toNat)
  case atStart => exact ⟨4, n, 0, [], rfl, by omega, hn, lt128 hn, rfl, World.ownsRow_made _ _ _ (Nat.le_refl _) (by decide) rfl, (Below.refl _ _).alloc (Nat.le_refl _) _⟩
  case round =>
    obtain ⟨k, z, m, xs, rfl, hm, hz, hk, hx, hown, hb⟩ := hrel
    by_cases hlt : 127 < z
    · obtain ⟨j, rfl⟩ : ∃ j, k = j + 1 := by
        cases k with
        | zero => simp at hk; omega
        | succ j => exact ⟨j, rfl⟩
      have hj : z / 128 < 128 ^ (j + 1) := by rw [Nat.pow_succ] at hk; omega
      have HJ := Lib.hid hj
      have HX := Lib.hid (show (xs ++ [z % 128 + 128]) ++ vb j (z / 128) = vb 4 n by rw [← hx, vb_high j z (by omega), List.append_assoc]; rfl)
      have h1 := and127 z hz
      have h2 := or128 (z % 128) (by omega)
      have h3 := wrap8 (z % 128 + 128) (by omega)
      obtain ⟨a, ha⟩ : ∃ a, z % 128 = a := ⟨_, rfl⟩
      obtain ⟨c, hc⟩ : ∃ c, a + 128 = c := ⟨_, rfl⟩
      rw [ha] at h1 h2 h3
      rw [hc] at h2 h3
      have HC := Lib.hid (show z % 128 + 128 = c by omega)
      clear ha hc hk hj hx
      go_wp2_with (at_builtin; refine list_app (by rfl) (.tmp 10) (.tmp 15) 22 (by rfl) w wr 5 i0 (.int .u8 0) 1 Tryz.underlying22 hi hz0 hz1 hz2 (by rfl) _ m _ hown hb [.int .u8 (c : Int)] 1 ?_ ?_ ?_ ?_ (by rfl) (by rfl) (by rfl) ?_ ?_; rfl; simp [Value.oneCell']; unfold maxLen; omega; omega; exact ⟨rfl, rfl, rfl⟩; intro v' w' hown' hb')
      go_roundw
      case rel => exact ⟨j, z / 128, m + 1, xs ++ [c], by go_num, by omega, by omega, HJ.out, by rw [← HC.out]; exact HX.out, by simpa using hown', hb'⟩
      case measure => simp [intOf]; omega
    · have h3 := wrap8 z (by omega)
      have HX := Lib.hid (show txt (xs ++ [z]) = vt n by rw [vb_low k z (by omega)] at hx; rw [hx]; rfl)
      clear hk hx
      go_wp2_with (at_builtin; refine list_app (by rfl) (.tmp 19) (.tmp 22) 22 (by rfl) w wr 5 i0 (.int .u8 0) 1 Tryz.underlying22 hi hz0 hz1 hz2 (by rfl) _ m _ hown hb [.int .u8 (z : Int)] 1 ?_ ?_ ?_ ?_ (by rfl) (by rfl) (by rfl) ?_ ?_; rfl; simp [Value.oneCell']; unfold maxLen; omega; omega; exact ⟨rfl, rfl, rfl⟩; intro v' w' hown' hb'; have hcv := conv_own (xs := (xs ++ [z]).map fun (c : Nat) => (c : Int)) Tryz.underlying22 Tryz.underlying5 (by simpa using hown'); rw [txt_nums, HX.out] at hcv)
      go_ret
      exact ⟨rfl, hb'⟩
theorem specVar_out (n : Int) (w : World) (h : ¬ (0 ≤ n ∧ n ≤ 1000000000)) :
    Calls Tryz.prog 125 #[.int .i64 n] w (PostT { data := #[] } w) := by
  have h1 : n < 0 ∨ 1000000000 < n := by omega
  clear h
  go_enter Tryz.func125, Tryz.ntmps125
  go_wp2_with (go_at_call 109; refine (in_no _ _ _ _ h1).mono ?_; rintro e w' ⟨rfl, rfl⟩)
  go_ret
  exact ⟨rfl, Below.refl _ _⟩
theorem specVar_any (n : Int) (w : World) : Calls Tryz.prog 125 #[.int .i64 n] w (PostT (vtI n) w) := by
  by_cases h : 0 ≤ n ∧ n ≤ 1000000000
  · obtain ⟨m, rfl⟩ := Int.eq_ofNat_of_zero_le h.1
    rw [vtI_in m (by omega)]
    exact specVar_in m w (by omega)
  · rw [vtI_out n h]
    exact specVar_out n w h
end Go.Proofs.YtiehfobcbhgfkaaGreatDoor.num

namespace Go.Proofs.YtiehfobcbhgfkaaGreatDoor.num
set_option maxRecDepth 20000
open Go.RowKit
open kit

/-- an answer, and nothing of what was there turns -/
def PostR (v : Value) (w : World) (e : Ending) (w' : World) : Prop := e = .returned v ∧ Below w.heap.size w w'

theorem pow7 (i : Nat) : 2 ^ (7 * i) = 128 ^ i := by rw [Nat.pow_mul]
theorem pow_le5 {i : Nat} (h : i < 5) : 128 ^ i ≤ 268435456 := by
  have := Nat.pow_le_pow_right (show 0 < 128 by omega) (show i ≤ 4 by omega)
  have h4 : (128 : Nat) ^ 4 = 268435456 := by decide
  omega
theorem wrap64 (n : Nat) (h : n < 9223372036854775808) : IntKind.i64.wrap (n : Int) = n := by
  rw [IntKind.wrap_i64]
  omega
theorem shl7 (s i : Nat) (hs : s < 128) (hi : i < 5) : Op.shift .shl .i64 (s : Int) .u64 ((7 * i : Nat) : Int) = pure (.int .i64 ((128 ^ i * s : Nat) : Int)) := by
  rw [shift_shl .i64 .u64 (s : Int) ((7 * i : Nat) : Int) (by omega) (by show _ ≤ (64 : Int); omega), Int.toNat_natCast]
  have hp := pow_le5 hi
  have e : (s : Int) * 2 ^ (7 * i) = ((128 ^ i * s : Nat) : Int) := by
    rw [← pow7]
    push_cast
    exact Int.mul_comm _ _
  have hl : 128 ^ i * s ≤ 268435456 * 127 := Nat.mul_le_mul hp (by omega)
  rw [e, wrap64 _ (by omega)]
theorem or_add (j z s : Nat) (hz : z < 2 ^ j) (hb : z + 2 ^ j * s < 9223372036854775808) : bits BinOp.or IntKind.i64 (z : Int) ((2 ^ j * s : Nat) : Int) = ((z + 2 ^ j * s : Nat) : Int) := by
  have h := Nat.two_pow_add_eq_or_of_lt hz s
  obtain ⟨r, hr⟩ : ∃ r, 2 ^ j * s = r := ⟨_, rfl⟩
  rw [hr] at h hb ⊢
  unfold bits
  simp only [BitVec.toNat_or, BitVec.toNat_ofInt]
  rw [show ((z : Int) % ((2 ^ IntKind.i64.bits : Nat) : Int)).toNat = z by show ((z : Int) % 18446744073709551616).toNat = z; omega, show ((r : Int) % ((2 ^ IntKind.i64.bits : Nat) : Int)).toNat = r by show ((r : Int) % 18446744073709551616).toNat = r; omega, Nat.or_comm, ← h, Nat.add_comm r z]
  exact wrap64 _ hb
theorem or7 (i z s : Nat) (hz : z < 128 ^ i) (hs : s < 128) (hi : i < 5) : bits BinOp.or IntKind.i64 (z : Int) ((128 ^ i * s : Nat) : Int) = ((z + 128 ^ i * s : Nat) : Int) := by
  have hp := pow_le5 hi
  have hl : 128 ^ i * s ≤ 268435456 * 127 := Nat.mul_le_mul hp (by omega)
  rw [← pow7] at hz hl ⊢
  exact or_add (7 * i) z s hz (by rw [pow7] at hz; omega)

theorem str_ne {t s : ByteArray} (h : ¬ t = s) : (t.toList == s.toList) = false := by
  rw [beq_eq_false_iff_ne, ByteArray.toList_eq, ByteArray.toList_eq]
  intro e
  exact h (ByteArray.ext (Array.toList_inj.1 e))
theorem str_yes {t s : ByteArray} (h : t = s) : (t.toList == s.toList) = true := by rw [h, beq_self_eq_true]
theorem str_full {t : ByteArray} (h : 0 < t.size) : t.toList.isEmpty = false := by
  rw [ByteArray.toList_eq, List.isEmpty_eq_false_iff]
  intro e
  have : t.data.toList.length = t.size := rfl
  rw [e] at this
  simp at this
  omega

set_option maxHeartbeats 400000 in
set_option maxRecDepth 20000 in
theorem specRead_in (b : ByteArray) (a : Nat) (w : World) (hm : b.size ≤ 1048576) (ha : a ≤ b.size) :
    Calls Tryz.prog 174 #[.string b, .int .i64 a] w (PostR (rvAt b a) w) := by
  go_enter Tryz.func174, Tryz.ntmps174
  go_wp2_with (go_at_call 109; refine (in_yes _ _ _ _ (by omega) (by omega)).mono ?_; rintro e w' ⟨rfl, rfl⟩)
  go_loopw [7, 8] (fun x v wr => ∃ (i z : Nat), x = .int .i64 z ∧ v = .int .i64 i ∧ i ≤ 5 ∧ Gone (nats b a) i z ∧ Below w.heap.size w wr) (fun _ v _ => 5 - (intOf v).toNat)
  case atStart => exact ⟨0, 0, rfl, rfl, by omega, gone_zero _, Below.refl _ _⟩
  case round =>
    obtain ⟨i, z, rfl, rfl, hi, hg, hb0⟩ := hrel
    by_cases hlt : i < 5 ∧ a + i < b.size
    · obtain ⟨h5, hin⟩ := hlt
      have hc : b[a + i].toNat < 256 := b[a + i].toNat_lt
      have hget := nats_get b a i hin
      have hzi := hg.1
      have h1 := and127 b[a + i].toNat (by omega)
      obtain ⟨c, hcc⟩ : ∃ c, b[a + i].toNat = c := ⟨_, rfl⟩
      rw [hcc] at h1 hc hget
      have hsh := shl7 (c % 128) i (by omega) h5
      have hor := or7 i z (c % 128) hzi (by omega) h5
      have HN := Lib.hid (gone_next hg h5 hget)
      have HS := Lib.hid (gone_stop hg h5 hget)
      have hy64 : z + 128 ^ i * (c % 128) < 9223372036854775808 := by
        have hp := pow_le5 h5
        have hl : 128 ^ i * (c % 128) ≤ 268435456 * 127 := Nat.mul_le_mul hp (by omega)
        omega
      obtain ⟨s, hs⟩ : ∃ s, c % 128 = s := ⟨_, rfl⟩
      have h7 : IntKind.u64.wrap (7 * (i : Int)) = ((7 * i : Nat) : Int) := by rw [IntKind.wrap_u64]; omega
      obtain ⟨q, hq⟩ : ∃ q, 7 * i = q := ⟨_, rfl⟩
      obtain ⟨r, hr⟩ : ∃ r, 128 ^ i * s = r := ⟨_, rfl⟩
      obtain ⟨y, hy⟩ : ∃ y, z + r = y := ⟨_, rfl⟩
      have HY := Lib.hid (show z + 128 ^ i * (c % 128) = y by rw [hs, hr, hy])
      rw [hs] at h1 hsh hor hy64
      rw [hq] at hsh h7
      rw [hr] at hsh hor hy64
      rw [hy] at hor hy64
      clear hs hq hr hy hg hget hzi
      by_cases hstop : c < 128
      · have hrd : rd 5 (nats b a) = some (y, i + 1) := by rw [← HY.out, Nat.mod_eq_of_lt hstop]; exact HS.out hstop
        by_cases hbig : y ≤ 1000000000
        · have hv := vtI_in y hbig
          have hci := cut_iff hrd
          obtain ⟨T, hT⟩ : ∃ T, vt y = T := ⟨_, rfl⟩
          have hemp : T.toList.isEmpty = false := str_full (by rw [← hT, vt_size]; exact vb_length_pos 4 y)
          rw [hT] at hv hci
          have HV := Lib.hid hv
          by_cases heq : (vb 4 y).length = i + 1
          · have HE := Lib.hid (rvAt_some b a y (i + 1) (rv_yes hrd hbig heq))
            have hcut : (T.toList == (b.extract a (a + i + 1)).toList) = true := str_yes (hci.2 heq)
            clear hrd hci hT hv heq
            go_wp2_with (go_at_call 125; refine (specVar_any _ _).mono ?_; rw [HV.out]; rintro e w' ⟨rfl, hb⟩)
            go_ret3
            exact ⟨by rw [HE.out]; rfl, hb0.trans (hb.mono hb0.size)⟩
          · have HE := Lib.hid (rvAt_none b a (rv_no hrd fun e => heq e.2))
            have hcut : (T.toList == (b.extract a (a + i + 1)).toList) = false := str_ne fun e => heq (hci.1 e)
            clear hrd hci hT hv heq
            go_wp2_with (go_at_call 125; refine (specVar_any _ _).mono ?_; rw [HV.out]; rintro e w' ⟨rfl, hb⟩)
            go_ret3
            exact ⟨by rw [HE.out]; rfl, hb0.trans (hb.mono hb0.size)⟩
        · have HV := Lib.hid (vtI_out (y : Int) (by omega))
          have HE := Lib.hid (rvAt_none b a (rv_no hrd fun e => hbig e.1))
          clear hrd
          go_wp2_with (go_at_call 125; refine (specVar_any _ _).mono ?_; rw [HV.out]; rintro e w' ⟨rfl, hb⟩)
          go_ret3
          exact ⟨by rw [HE.out]; rfl, hb0.trans (hb.mono hb0.size)⟩
      · have HG := Lib.hid (show Gone (nats b a) (i + 1) y by rw [← HY.out]; exact HN.out (by omega))
        go_wp2
        go_roundw
        case rel => exact ⟨i + 1, y, rfl, by go_num, by omega, HG.out, hb0⟩
        case measure => simp [intOf]; omega
    · have HE := Lib.hid (rvAt_none b a (rv_none (gone_end hg (by rw [nats_length]; omega))))
      clear hg
      by_cases h5 : i < 5
      · have hin : ¬ (a : Int) + (i : Int) < (b.size : Int) := by omega
        clear hlt
        go_wp2
        go_ret3
        exact ⟨by rw [HE.out]; rfl, hb0⟩
      · have h5' : ¬ (i : Int) < 5 := by omega
        clear hlt
        go_wp2
        go_ret3
        exact ⟨by rw [HE.out]; rfl, hb0⟩
theorem specRead_out (b : ByteArray) (a : Int) (w : World) (h : a < 0 ∨ (b.size : Int) < a) :
    Calls Tryz.prog 174 #[.string b, .int .i64 a] w (PostR no2 w) := by
  go_enter Tryz.func174, Tryz.ntmps174
  go_wp2_with (go_at_call 109; refine (in_no _ _ _ _ h).mono ?_; rintro e w' ⟨rfl, rfl⟩)
  go_ret3
  exact ⟨rfl, Below.refl _ _⟩
theorem specRead_any (b : ByteArray) (a : Int) (w : World) (hm : b.size ≤ 1048576) :
    Calls Tryz.prog 174 #[.string b, .int .i64 a] w (PostR (rvAt b a) w) := by
  by_cases h : 0 ≤ a ∧ a ≤ b.size
  · obtain ⟨n, rfl⟩ := Int.eq_ofNat_of_zero_le h.1
    exact specRead_in b n w hm (by omega)
  · have e : rvAt b a = no2 := by
      by_cases h0 : a < 0
      · exact rvAt_neg b a h0
      · exact rvAt_over b a (by omega)
    rw [e]
    exact specRead_out b a w (by omega)

end Go.Proofs.YtiehfobcbhgfkaaGreatDoor.num

namespace Go.Proofs.YtiehfobcbhgfkaaGreatDoor.num
set_option maxRecDepth 20000
open Go.RowKit
open kit

set_option maxHeartbeats 400000 in
theorem specFix_in (n k : Nat) (w : World) (h1 : 1 ≤ k) (h2 : k ≤ 8) :
    Calls Tryz.prog 117 #[.int .i64 n, .int .i64 k] w (PostT (fxI n k) w) := by
  obtain ⟨i0, hi, hz0, hz1, hz2⟩ := info_parts Tryz.infoU8
  go_enter Tryz.func117, Tryz.ntmps117
  go_wp2_with (go_at_call 109; refine (in_yes _ _ _ _ (by omega) (by omega)).mono ?_; rintro e w' ⟨rfl, rfl⟩)
  go_loopw [0, 5, 6] (fun x v i wr => ∃ (j z : Nat), x = .int .i64 z ∧ i = .int .i64 j ∧ j ≤ k ∧ n / 256 ^ j = z ∧ wr.ownsRow w.heap.size 5 1 v j (((fb j n).map fun (c : Nat) => (c : Int)).map (Value.int .u8)) ∧ Below w.heap.size w wr) (fun _ _ i _ => k - (intOf i).toNat)
  case atStart => exact ⟨0, n, rfl, rfl, Nat.zero_le _, by simp, World.ownsRow_made _ _ _ (Nat.le_refl _) (by decide) rfl, (Below.refl _ _).alloc (Nat.le_refl _) _⟩
  case round =>
    obtain ⟨j, z, rfl, rfl, hj, hz, hown, hb⟩ := hrel
    by_cases hlt : j < k
    · have h3 : IntKind.u8.wrap (z : Int) = ((z % 256 : Nat) : Int) := by rw [IntKind.wrap_u8]; omega
      have HX := Lib.hid (show fb (j + 1) n = fb j n ++ [z % 256] by rw [fb_snoc, hz])
      have HZ := Lib.hid (show n / 256 ^ (j + 1) = z / 256 by rw [Nat.pow_succ, ← Nat.div_div_eq_div_mul, hz])
      obtain ⟨c, hc⟩ : ∃ c, z % 256 = c := ⟨_, rfl⟩
      have HC := Lib.hid hc
      rw [hc] at h3
      clear hc hz
      go_wp2_with (at_builtin; refine list_app (by rfl) (.tmp 20) (.tmp 23) 22 (by rfl) w wr 5 i0 (.int .u8 0) 1 Tryz.underlying22 hi hz0 hz1 hz2 (by rfl) _ j _ hown hb [.int .u8 (c : Int)] 1 ?_ ?_ ?_ ?_ (by rfl) (by rfl) (by rfl) ?_ ?_; rfl; simp [Value.oneCell']; unfold maxLen; omega; omega; exact ⟨rfl, rfl, rfl⟩; intro v' w' hown' hb')
      go_roundw
      case rel => exact ⟨j + 1, z / 256, by go_num, by go_num, by omega, HZ.out, by rw [HX.out, HC.out]; simpa using hown', hb'⟩
      case measure => simp [intOf]; omega
    · obtain rfl : j = k := by omega
      have hcv := conv_own (xs := (fb j n).map fun (c : Nat) => (c : Int)) Tryz.underlying22 Tryz.underlying5 hown
      rw [txt_nums] at hcv
      by_cases h0 : 0 < z
      · have HE := Lib.hid (fxI_big n j (by intro h; rw [Nat.div_eq_of_lt h] at hz; omega))
        clear hz
        go_wp2
        go_ret
        exact ⟨by rw [HE.out]; rfl, hb⟩
      · have HE := Lib.hid (fxI_in n j h1 h2 (by
          rcases Nat.lt_or_ge n (256 ^ j) with h | h
          · exact h
          · have := Nat.div_pos h (Nat.pow_pos (by omega : 0 < 256)); omega))
        clear hz
        go_wp2
        go_ret
        exact ⟨by rw [HE.out]; rfl, hb⟩
theorem specFix_out (n k : Int) (w : World) (h : n < 0 ∨ k < 1 ∨ 8 < k) :
    Calls Tryz.prog 117 #[.int .i64 n, .int .i64 k] w (PostT { data := #[] } w) := by
  by_cases h0 : n < 0
  · clear h
    go_enter Tryz.func117, Tryz.ntmps117
    go_wp2
    go_ret
    exact ⟨rfl, Below.refl _ _⟩
  · have h1 : k < 1 ∨ 8 < k := by omega
    clear h
    go_enter Tryz.func117, Tryz.ntmps117
    go_wp2_with (go_at_call 109; refine (in_no _ _ _ _ h1).mono ?_; rintro e w' ⟨rfl, rfl⟩)
    go_ret
    exact ⟨rfl, Below.refl _ _⟩
theorem specFix_any (n k : Int) (w : World) : Calls Tryz.prog 117 #[.int .i64 n, .int .i64 k] w (PostT (fxI n k) w) := by
  by_cases h : n < 0 ∨ k < 1 ∨ 8 < k
  · rw [fxI_out n k h]
    exact specFix_out n k w h
  · obtain ⟨m, rfl⟩ := Int.eq_ofNat_of_zero_le (show 0 ≤ n by omega)
    obtain ⟨j, rfl⟩ := Int.eq_ofNat_of_zero_le (show 0 ≤ k by omega)
    exact specFix_in m j w (by omega) (by omega)

/-! ### reading -/
theorem val_drop_le (l : List Nat) : ∀ j, val (l.drop j) ≤ val l := by
  induction l with
  | nil => intro j; simp [val]
  | cons c r ih =>
    intro j
    cases j with
    | zero => exact Nat.le_refl _
    | succ j => have := ih j; simp only [List.drop_succ_cons, val]; omega
theorem shl8 (z : Nat) (h : 256 * z < 9223372036854775808) : Op.shift .shl .i64 (z : Int) .u64 8 = pure (.int .i64 ((256 * z : Nat) : Int)) := by
  rw [shift_shl .i64 .u64 (z : Int) 8 (by omega) (by show _ ≤ (64 : Int); omega)]
  have e : (z : Int) * 2 ^ (8 : Int).toNat = ((256 * z : Nat) : Int) := by
    show (z : Int) * 256 = _
    omega
  rw [e, wrap64 _ h]
theorem or8 (z c : Nat) (hc : c < 256) (h : 256 * z + c < 9223372036854775808) : bits BinOp.or IntKind.i64 ((256 * z : Nat) : Int) (c : Int) = ((c + 256 * z : Nat) : Int) := by
  have h2 := or_add 8 c z hc (by show c + 256 * z < _; omega)
  rw [← h2]
  show IntKind.i64.wrap ((BitVec.ofInt IntKind.i64.bits ((256 * z : Nat) : Int) ||| BitVec.ofInt IntKind.i64.bits (c : Int)).toNat) = IntKind.i64.wrap ((BitVec.ofInt IntKind.i64.bits (c : Int) ||| BitVec.ofInt IntKind.i64.bits ((2 ^ 8 * z : Nat) : Int)).toNat)
  rw [BitVec.or_comm]
theorem nats_take (b : ByteArray) (a k i : Nat) (h : i < k) (h2 : a + k ≤ b.size) : ((nats b a).take k)[i]? = some (b[a + i].toNat) := by
  rw [List.getElem?_take_of_lt h]
  exact nats_get b a i (by omega)

/-- whether the last one of 8 bytes is too large -/
theorem top8 (b : ByteArray) (a : Nat) (h : a + 8 ≤ b.size) : val ((nats b a).take 8) < 9223372036854775808 ↔ b[a + 7].toNat ≤ 127 := by
  have hl : ((nats b a).take 8).length = 8 := by rw [List.length_take, nats_length]; omega
  have hs : (nats b a).take 8 = (nats b a).take 7 ++ [b[a + 7].toNat] := by
    have e := List.take_add_one (l := nats b a) (i := 7)
    rw [nats_get b a 7 (by omega)] at e
    simpa using e
  have h7 : ((nats b a).take 7).length = 7 := by rw [List.length_take, nats_length]; omega
  have hlt := val_lt ((nats b a).take 7) fun c hc => nats_byte b a c (List.mem_of_mem_take hc)
  rw [h7] at hlt
  rw [hs, val_append, h7]
  have e7 : (256 : Nat) ^ 7 = 72057594037927936 := by decide
  rw [e7] at hlt ⊢
  simp only [val, Nat.mul_zero, Nat.add_zero]
  omega
theorem below8 (b : ByteArray) (a k : Nat) (h : k < 8) : val ((nats b a).take k) < 9223372036854775808 := by
  have hlt := val_lt ((nats b a).take k) fun c hc => nats_byte b a c (List.mem_of_mem_take hc)
  have hl : ((nats b a).take k).length ≤ 7 := by rw [List.length_take]; omega
  have := Nat.pow_le_pow_right (show 0 < 256 by omega) hl
  have e7 : (256 : Nat) ^ 7 = 72057594037927936 := by decide
  omega

set_option maxHeartbeats 400000 in
theorem specRf_walk (b : ByteArray) (a k : Nat) (w : World) (hm : b.size ≤ 1048576) (h1 : 1 ≤ k) (h2 : k ≤ 8) (h3 : a + k ≤ b.size) (hv : val ((nats b a).take k) < 9223372036854775808)
    (h8 : k < 8 ∨ k = 8 ∧ ∃ h : a + 7 < b.size, (b[a + 7]'h).toNat ≤ 127) :
    Calls Tryz.prog 115 #[.string b, .int .i64 a, .int .i64 k] w fun e w' => e = .returned (rfAt b a k) ∧ w = w' := by
  have HE := Lib.hid (rfAt_in b a k h1 h2 h3 hv)
  have HL := Lib.hid (fun j => val_drop_le ((nats b a).take k) j)
  have HD := Lib.hid (fun j h => val_drop _ j _ (nats_take b a k j h h3))
  obtain ⟨L, hL⟩ : ∃ L, (nats b a).take k = L := ⟨_, rfl⟩
  have hlen : L.length = k := by rw [← hL, List.length_take, nats_length]; omega
  rw [hL] at hv
  have HLL := Lib.hid hL
  clear hL
  rcases h8 with h8 | ⟨hk8, h7, h8⟩
  all_goals
    go_enter Tryz.func115, Tryz.ntmps115
    go_wp2_with (go_at_call 109; refine (in_yes _ _ _ _ (by omega) (by omega)).mono ?_; rintro e w' ⟨rfl, rfl⟩)
    go_loopw [8, 9] (fun x i wr => ∃ (j z : Nat), x = .int .i64 z ∧ i = .int .i64 ((j : Int) - 1) ∧ j ≤ k ∧ val (L.drop j) = z ∧ wr = w) (fun _ i _ => ((intOf i) + 1).toNat)
    case atStart => exact ⟨k, 0, rfl, by first | rfl | (subst hk8; rfl), Nat.le_refl _, by rw [List.drop_of_length_le (by omega)]; rfl, rfl⟩
    case round =>
      obtain ⟨j, z, rfl, rfl, hj, hz, rfl⟩ := hrel
      cases j with
      | zero =>
        have HF := Lib.hid (show rfAt b a k = .tuple #[.int .i64 (z : Int), .bool true] by rw [HE.out, HLL.out, ← hz]; rfl)
        clear hz
        go_wp2
        go_ret2
        exact ⟨by rw [HF.out]; rfl, rfl⟩
      | succ j =>
        have hd := HD.out j (by omega)
        have hle := HL.out j
        rw [HLL.out] at hd hle
        rw [hz] at hd
        have hin : a + j < b.size := by omega
        have hc : b[a + j].toNat < 256 := b[a + j].toNat_lt
        obtain ⟨c, hcc⟩ : ∃ c, b[a + j].toNat = c := ⟨_, rfl⟩
        rw [hcc] at hd hc
        have hlt : 256 * z + c < 9223372036854775808 := by omega
        have hsh := shl8 z (by omega)
        have hor := or8 z c hc hlt
        have HD2 := Lib.hid (hd)
        obtain ⟨q, hq⟩ : ∃ q, 256 * z = q := ⟨_, rfl⟩
        obtain ⟨y, hy⟩ : ∃ y, c + q = y := ⟨_, rfl⟩
        have HY := Lib.hid (show c + 256 * z = y by omega)
        rw [hq] at hsh hor
        rw [hy] at hor
        have hj2 : ((j + 1 : Nat) : Int) - 1 = j := by omega
        clear hd hle hz hq hy hlt
        rw [hj2]
        go_wp2
        go_roundw
        case rel => exact ⟨j, y, rfl, by go_num, by omega, by rw [HD2.out, HY.out], trivial⟩
        case measure => simp [intOf]; try omega
theorem specRf_any (b : ByteArray) (a k : Int) (w : World) (hm : b.size ≤ 1048576) :
    Calls Tryz.prog 115 #[.string b, .int .i64 a, .int .i64 k] w fun e w' => e = .returned (rfAt b a k) ∧ w = w' := by
  by_cases h : 1 ≤ k ∧ k ≤ 8 ∧ 0 ≤ a ∧ a + k ≤ b.size
  · obtain ⟨n, rfl⟩ := Int.eq_ofNat_of_zero_le h.2.2.1
    obtain ⟨j, rfl⟩ := Int.eq_ofNat_of_zero_le (show 0 ≤ k by omega)
    by_cases h8 : j < 8
    · exact specRf_walk b n j w hm (by omega) (by omega) (by omega) (below8 b n j h8) (.inl h8)
    · obtain rfl : j = 8 := by omega
      have hs : n + 8 ≤ b.size := by omega
      by_cases ht : b[n + 7].toNat ≤ 127
      · exact specRf_walk b n 8 w hm (by omega) (by omega) hs ((top8 b n hs).2 ht) (.inr ⟨rfl, by omega, ht⟩)
      · have HE := Lib.hid (rfAt_big b n 8 fun e => ht ((top8 b n hs).1 e))
        have hin : n + 7 < b.size := by omega
        clear h h8
        rw [show ((8 : Nat) : Int) = 8 from rfl] at HE ⊢
        go_enter Tryz.func115, Tryz.ntmps115
        go_wp2_with (go_at_call 109; refine (in_yes _ _ _ _ (by omega) (by omega)).mono ?_; rintro e w' ⟨rfl, rfl⟩)
        go_ret2
        exact ⟨by rw [HE.out]; rfl, rfl⟩
  · have HE := Lib.hid (rfAt_out b a k (by omega))
    by_cases hk : k < 1 ∨ 8 < k
    · clear h
      go_enter Tryz.func115, Tryz.ntmps115
      go_wp2_with (go_at_call 109; refine (in_no _ _ _ _ hk).mono ?_; rintro e w' ⟨rfl, rfl⟩)
      go_ret2
      exact ⟨by rw [HE.out]; rfl, rfl⟩
    · have ha : a < 0 ∨ (b.size : Int) - k < a := by omega
      have hk1 : 1 ≤ k := by omega
      have hk2 : k ≤ 8 := by omega
      clear h hk
      go_enter Tryz.func115, Tryz.ntmps115
      go_wp2_with fail
      refine (in_yes k 1 8 _ hk1 hk2).mono ?_
      rintro e w' ⟨rfl, rfl⟩
      go_wp2_with fail
      refine (in_no a 0 ((b.size : Int) - k) _ ha).mono ?_
      rintro e w' ⟨rfl, rfl⟩
      go_wp2
      go_ret2
      exact ⟨by rw [HE.out]; rfl, rfl⟩

end Go.Proofs.YtiehfobcbhgfkaaGreatDoor.num
