/-
  Contract of spec.ReadVar.
-/
import Derived.Test.YtbgkdngeingmnaaNumA
namespace Go.Proofs.Ytbgkdngeingmnaa.num
set_option maxRecDepth 20000
open Go.RowKit
open kit

/-- an answer, and nothing of what was there turns -/
def PostR (v : Value) (w : World) (e : Ending) (w' : World) : Prop := e = .returned v ∧ Below w.heap.size w w'

theorem pow7 (i : Nat) : 2 ^ (7 * i) = 128 ^ i := by rw [Nat.pow_mul]
theorem pow_le5 {i : Nat} (h : i < 5) : 128 ^ i ≤ 268435456 := by
  have := Nat.pow_le_pow_right (show 0 < 128 by omega) (show i ≤ 4 by omega)
  have h4 : (128 : Nat) ^ 4 = 268435456 := by decide
  omega
theorem wrap64 (n : Nat) (h : n < 9223372036854775808) : IntKind.i64.wrap (n : Int) = n := by
  rw [IntKind.wrap_i64]
  omega
theorem shl7 (s i : Nat) (hs : s < 128) (hi : i < 5) : Op.shift .shl .i64 (s : Int) .u64 ((7 * i : Nat) : Int) = pure (.int .i64 ((128 ^ i * s : Nat) : Int)) := by
  rw [shift_shl .i64 .u64 (s : Int) ((7 * i : Nat) : Int) (by omega) (by show _ ≤ (64 : Int); omega), Int.toNat_natCast]
  have hp := pow_le5 hi
  have e : (s : Int) * 2 ^ (7 * i) = ((128 ^ i * s : Nat) : Int) := by
    rw [← pow7]
    push_cast
    exact Int.mul_comm _ _
  have hl : 128 ^ i * s ≤ 268435456 * 127 := Nat.mul_le_mul hp (by omega)
  rw [e, wrap64 _ (by omega)]
theorem or_add (j z s : Nat) (hz : z < 2 ^ j) (hb : z + 2 ^ j * s < 9223372036854775808) : bits BinOp.or IntKind.i64 (z : Int) ((2 ^ j * s : Nat) : Int) = ((z + 2 ^ j * s : Nat) : Int) := by
  have h := Nat.two_pow_add_eq_or_of_lt hz s
  obtain ⟨r, hr⟩ : ∃ r, 2 ^ j * s = r := ⟨_, rfl⟩
  rw [hr] at h hb ⊢
  unfold bits
  simp only [BitVec.toNat_or, BitVec.toNat_ofInt]
  rw [show ((z : Int) % ((2 ^ IntKind.i64.bits : Nat) : Int)).toNat = z by show ((z : Int) % 18446744073709551616).toNat = z; omega, show ((r : Int) % ((2 ^ IntKind.i64.bits : Nat) : Int)).toNat = r by show ((r : Int) % 18446744073709551616).toNat = r; omega, Nat.or_comm, ← h, Nat.add_comm r z]
  exact wrap64 _ hb
theorem or7 (i z s : Nat) (hz : z < 128 ^ i) (hs : s < 128) (hi : i < 5) : bits BinOp.or IntKind.i64 (z : Int) ((128 ^ i * s : Nat) : Int) = ((z + 128 ^ i * s : Nat) : Int) := by
  have hp := pow_le5 hi
  have hl : 128 ^ i * s ≤ 268435456 * 127 := Nat.mul_le_mul hp (by omega)
  rw [← pow7] at hz hl ⊢
  exact or_add (7 * i) z s hz (by rw [pow7] at hz; omega)

theorem str_ne {t s : ByteArray} (h : ¬ t = s) : (t.toList == s.toList) = false := by
  rw [beq_eq_false_iff_ne, ByteArray.toList_eq, ByteArray.toList_eq]
  intro e
  exact h (ByteArray.ext (Array.toList_inj.1 e))
theorem str_yes {t s : ByteArray} (h : t = s) : (t.toList == s.toList) = true := by rw [h, beq_self_eq_true]
theorem str_full {t : ByteArray} (h : 0 < t.size) : t.toList.isEmpty = false := by
  rw [ByteArray.toList_eq, List.isEmpty_eq_false_iff]
  intro e
  have : t.data.toList.length = t.size := rfl
  rw [e] at this
  simp at this
  omega

set_option maxHeartbeats 400000 in
set_option maxRecDepth 20000 in
theorem specRead_in (b : ByteArray) (a : Nat) (w : World) (hm : b.size ≤ 1048576) (ha : a ≤ b.size) :
    Calls Try.prog 73 #[.string b, .int .i64 a] w (PostR (rvAt b a) w) := by
  go_enter Try.func73, Try.ntmps73
  go_wp2_with (go_at_call 52; refine (in_yes _ _ _ _ (by omega) (by omega)).mono ?_; rintro e w' ⟨rfl, rfl⟩)
  go_loopw [7, 8] (fun x v wr => ∃ (i z : Nat), x = .int .i64 z ∧ v = .int .i64 i ∧ i ≤ 5 ∧ Gone (nats b a) i z ∧ Below w.heap.size w wr) (fun _ v _ => 5 - (intOf v).toNat)
  case atStart => exact ⟨0, 0, rfl, rfl, by omega, gone_zero _, Below.refl _ _⟩
  case round =>
    obtain ⟨i, z, rfl, rfl, hi, hg, hb0⟩ := hrel
    by_cases hlt : i < 5 ∧ a + i < b.size
    · obtain ⟨h5, hin⟩ := hlt
      have hc : b[a + i].toNat < 256 := b[a + i].toNat_lt
      have hget := nats_get b a i hin
      have hzi := hg.1
      have h1 := and127 b[a + i].toNat (by omega)
      obtain ⟨c, hcc⟩ : ∃ c, b[a + i].toNat = c := ⟨_, rfl⟩
      rw [hcc] at h1 hc hget
      have hsh := shl7 (c % 128) i (by omega) h5
      have hor := or7 i z (c % 128) hzi (by omega) h5
      have HN := Lib.hid (gone_next hg h5 hget)
      have HS := Lib.hid (gone_stop hg h5 hget)
      have hy64 : z + 128 ^ i * (c % 128) < 9223372036854775808 := by
        have hp := pow_le5 h5
        have hl : 128 ^ i * (c % 128) ≤ 268435456 * 127 := Nat.mul_le_mul hp (by omega)
        omega
      obtain ⟨s, hs⟩ : ∃ s, c % 128 = s := ⟨_, rfl⟩
      have h7 : IntKind.u64.wrap (7 * (i : Int)) = ((7 * i : Nat) : Int) := by rw [IntKind.wrap_u64]; omega
      obtain ⟨q, hq⟩ : ∃ q, 7 * i = q := ⟨_, rfl⟩
      obtain ⟨r, hr⟩ : ∃ r, 128 ^ i * s = r := ⟨_, rfl⟩
      obtain ⟨y, hy⟩ : ∃ y, z + r = y := ⟨_, rfl⟩
      have HY := Lib.hid (show z + 128 ^ i * (c % 128) = y by rw [hs, hr, hy])
      rw [hs] at h1 hsh hor hy64
      rw [hq] at hsh h7
      rw [hr] at hsh hor hy64
      rw [hy] at hor hy64
      clear hs hq hr hy hg hget hzi
      by_cases hstop : c < 128
      · have hrd : rd 5 (nats b a) = some (y, i + 1) := by rw [← HY.out, Nat.mod_eq_of_lt hstop]; exact HS.out hstop
        by_cases hbig : y ≤ 1000000000
        · have hv := vtI_in y hbig
          have hci := cut_iff hrd
          obtain ⟨T, hT⟩ : ∃ T, vt y = T := ⟨_, rfl⟩
          have hemp : T.toList.isEmpty = false := str_full (by rw [← hT, vt_size]; exact vb_length_pos 4 y)
          rw [hT] at hv hci
          have HV := Lib.hid hv
          by_cases heq : (vb 4 y).length = i + 1
          · have HE := Lib.hid (rvAt_some b a y (i + 1) (rv_yes hrd hbig heq))
            have hcut : (T.toList == (b.extract a (a + i + 1)).toList) = true := str_yes (hci.2 heq)
            clear hrd hci hT hv heq
            go_wp2_with (go_at_call 53; refine (specVar_any _ _).mono ?_; rw [HV.out]; rintro e w' ⟨rfl, hb⟩)
            go_ret3
            exact ⟨by rw [HE.out]; rfl, hb0.trans (hb.mono hb0.size)⟩
          · have HE := Lib.hid (rvAt_none b a (rv_no hrd fun e => heq e.2))
            have hcut : (T.toList == (b.extract a (a + i + 1)).toList) = false := str_ne fun e => heq (hci.1 e)
            clear hrd hci hT hv heq
            go_wp2_with (go_at_call 53; refine (specVar_any _ _).mono ?_; rw [HV.out]; rintro e w' ⟨rfl, hb⟩)
            go_ret3
            exact ⟨by rw [HE.out]; rfl, hb0.trans (hb.mono hb0.size)⟩
        · have HV := Lib.hid (vtI_out (y : Int) (by omega))
          have HE := Lib.hid (rvAt_none b a (rv_no hrd fun e => hbig e.1))
          clear hrd
          go_wp2_with (go_at_call 53; refine (specVar_any _ _).mono ?_; rw [HV.out]; rintro e w' ⟨rfl, hb⟩)
          go_ret3
          exact ⟨by rw [HE.out]; rfl, hb0.trans (hb.mono hb0.size)⟩
      · have HG := Lib.hid (show Gone (nats b a) (i + 1) y by rw [← HY.out]; exact HN.out (by omega))
        go_wp2
        go_roundw
        case rel => exact ⟨i + 1, y, rfl, by go_num, by omega, HG.out, hb0⟩
        case measure => simp [intOf]; omega
    · have HE := Lib.hid (rvAt_none b a (rv_none (gone_end hg (by rw [nats_length]; omega))))
      clear hg
      by_cases h5 : i < 5
      · have hin : ¬ (a : Int) + (i : Int) < (b.size : Int) := by omega
        clear hlt
        go_wp2
        go_ret3
        exact ⟨by rw [HE.out]; rfl, hb0⟩
      · have h5' : ¬ (i : Int) < 5 := by omega
        clear hlt
        go_wp2
        go_ret3
        exact ⟨by rw [HE.out]; rfl, hb0⟩
theorem specRead_out (b : ByteArray) (a : Int) (w : World) (h : a < 0 ∨ (b.size : Int) < a) :
    Calls Try.prog 73 #[.string b, .int .i64 a] w (PostR no2 w) := by
  go_enter Try.func73, Try.ntmps73
  go_wp2_with (go_at_call 52; refine (in_no _ _ _ _ h).mono ?_; rintro e w' ⟨rfl, rfl⟩)
  go_ret3
  exact ⟨rfl, Below.refl _ _⟩
theorem specRead_any (b : ByteArray) (a : Int) (w : World) (hm : b.size ≤ 1048576) :
    Calls Try.prog 73 #[.string b, .int .i64 a] w (PostR (rvAt b a) w) := by
  by_cases h : 0 ≤ a ∧ a ≤ b.size
  · obtain ⟨n, rfl⟩ := Int.eq_ofNat_of_zero_le h.1
    exact specRead_in b n w hm (by omega)
  · have e : rvAt b a = no2 := by
      by_cases h0 : a < 0
      · exact rvAt_neg b a h0
      · exact rvAt_over b a (by omega)
    rw [e]
    exact specRead_out b a w (by omega)

end Go.Proofs.Ytbgkdngeingmnaa.num
