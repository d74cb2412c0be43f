/-
  Contract of impl.ReadFix (the landed code's).
-/
import Derived.Test.YtbgkdngeingmnaaNumJ
namespace Go.Proofs.Ytbgkdngeingmnaa.num
set_option maxRecDepth 20000
open Go.RowKit
open kit

theorem wrap64u (n : Nat) (h : n < 18446744073709551616) : IntKind.u64.wrap (n : Int) = n := by
  rw [IntKind.wrap_u64]
  omega
theorem pow_le8 {i : Nat} (h : i < 8) : 256 ^ i ≤ 72057594037927936 := by
  have := Nat.pow_le_pow_right (show 0 < 256 by omega) (show i ≤ 7 by omega)
  have h4 : (256 : Nat) ^ 7 = 72057594037927936 := by decide
  omega
theorem or_addu (j z s : Nat) (hz : z < 2 ^ j) (hb : z + 2 ^ j * s < 18446744073709551616) : bits BinOp.or IntKind.u64 (z : Int) ((2 ^ j * s : Nat) : Int) = ((z + 2 ^ j * s : Nat) : Int) := by
  have h := Nat.two_pow_add_eq_or_of_lt hz s
  obtain ⟨r, hr⟩ : ∃ r, 2 ^ j * s = r := ⟨_, rfl⟩
  rw [hr] at h hb ⊢
  unfold bits
  simp only [BitVec.toNat_or, BitVec.toNat_ofInt]
  rw [show ((z : Int) % ((2 ^ IntKind.u64.bits : Nat) : Int)).toNat = z by show ((z : Int) % 18446744073709551616).toNat = z; omega, show ((r : Int) % ((2 ^ IntKind.u64.bits : Nat) : Int)).toNat = r by show ((r : Int) % 18446744073709551616).toNat = r; omega, Nat.or_comm, ← h, Nat.add_comm]
  exact wrap64u _ hb
theorem or8w (i z c : Nat) (hz : z < 256 ^ i) (hc : c < 256) (hi : i < 8) : bits BinOp.or IntKind.u64 (z : Int) ((256 ^ i * c : Nat) : Int) = ((z + 256 ^ i * c : Nat) : Int) := by
  have hp := pow_le8 hi
  have hl : 256 ^ i * c ≤ 72057594037927936 * 255 := Nat.mul_le_mul hp (by omega)
  rw [← pow8] at hz hl hp ⊢
  exact or_addu (8 * i) z c hz (by omega)
theorem shl8w (c i : Nat) (hc : c < 256) (hi : i < 8) : (c : Int) * 2 ^ (8 * i) = ((256 ^ i * c : Nat) : Int) ∧ IntKind.u64.wrap ((256 ^ i * c : Nat) : Int) = ((256 ^ i * c : Nat) : Int) := by
  have hp := pow_le8 hi
  have hl : 256 ^ i * c ≤ 72057594037927936 * 255 := Nat.mul_le_mul hp (by omega)
  refine ⟨?_, wrap64u _ (by omega)⟩
  rw [← pow8]
  push_cast
  exact Int.mul_comm _ _
theorem val_next (l : List Nat) (j c : Nat) (h : l[j]? = some c) : val (l.take (j + 1)) = val (l.take j) + 256 ^ j * c := by
  have hl : j < l.length := (List.getElem?_eq_some_iff.1 h).1
  rw [List.take_add_one, h, val_append, List.length_take, Nat.min_eq_left (by omega)]
  rfl
theorem val_next_lt {z c j : Nat} (hz : z < 256 ^ j) (hc : c < 256) : z + 256 ^ j * c < 256 ^ (j + 1) := by
  rw [Nat.pow_succ]
  have : 256 ^ j * c ≤ 256 ^ j * 255 := Nat.mul_le_mul (Nat.le_refl _) (by omega)
  omega

set_option maxHeartbeats 400000 in
theorem implRf_in (b : ByteArray) (a k : Nat) (w : World) (hm : b.size ≤ 1048576) (h1 : 1 ≤ k) (h2 : k ≤ 8) (h3 : a + k ≤ b.size) :
    Calls Try.prog 81 #[.string b, .int .i64 a, .int .i64 k] w fun e w' => e = .returned (rfAt b a k) ∧ w = w' := by
  have HE := Lib.hid (rfAt_in b a k h1 h2 h3)
  have HB := Lib.hid (rfAt_big b a k)
  have HD := Lib.hid (fun j h => val_next _ j _ (nats_take b a k j h h3))
  obtain ⟨L, hL⟩ : ∃ L, (nats b a).take k = L := ⟨_, rfl⟩
  have hlen : L.length = k := by rw [← hL, List.length_take, nats_length]; omega
  rw [hL] at HE HB
  have HLL := Lib.hid hL
  have HLEN := Lib.hid hlen
  clear hL hlen
  have HY := Lib.hid (fixSize_yes (k : Int) w (by omega) (by omega))
  have hn0 : ¬ (a : Int) < 0 := by omega
  have hn1 : ¬ ((b.size : Int) - (k : Int)) < (a : Int) := by omega
  go_enter Try.func81, Try.ntmps81
  go_wp2_with (go_at_call 89; refine (HY.out).mono ?_; rintro e w' ⟨rfl, rfl⟩)
  go_loopw [8, 26] (fun x i wr => ∃ (j z : Nat), x = .int .u64 z ∧ i = .int .i64 j ∧ j ≤ k ∧ val (L.take j) = z ∧ z < 256 ^ j ∧ wr = w) (fun _ i _ => k - (intOf i).toNat)
  case atStart => exact ⟨0, 0, rfl, rfl, Nat.zero_le _, rfl, by decide, rfl⟩
  case round =>
    obtain ⟨j, z, rfl, rfl, hj, hz, hz2, rfl⟩ := hrel
    by_cases hlt : j < k
    · have hd := HD.out j hlt
      rw [HLL.out, hz] at hd
      have hin : a + j < b.size := by omega
      have hc : b[a + j].toNat < 256 := b[a + j].toNat_lt
      obtain ⟨c, hcc⟩ : ∃ c, b[a + j].toNat = c := ⟨_, rfl⟩
      rw [hcc] at hd hc
      have hor := or8w j z c hz2 hc (by omega)
      obtain ⟨hs1, hs2⟩ := shl8w c j hc (by omega)
      have HZ := Lib.hid (val_next_lt hz2 hc)
      have hcw : IntKind.u64.wrap (c : Int) = (c : Int) := wrap64u c (by omega)
      obtain ⟨q, hq⟩ : ∃ q, 8 * j = q := ⟨_, rfl⟩
      have h8 : (8 * (j : Int)) = (q : Int) := by omega
      have hq64 : q ≤ 64 := by omega
      obtain ⟨r, hr⟩ : ∃ r, 256 ^ j * c = r := ⟨_, rfl⟩
      obtain ⟨y, hy⟩ : ∃ y, z + r = y := ⟨_, rfl⟩
      rw [hr] at hs1 hs2 hor hd HZ
      rw [hy] at hor hd HZ
      rw [hq] at hs1
      have HDD := Lib.hid hd
      clear hd hz hz2 hq hr hy
      go_wp2
      go_roundw
      case rel => exact ⟨j + 1, y, rfl, by go_num, by omega, HDD.out, HZ.out, trivial⟩
      case measure => simp [intOf]; omega
    · obtain rfl : j = k := by omega
      have hall : L.take j = L := List.take_of_length_le (by rw [HLEN.out]; exact Nat.le_refl _)
      rw [hall] at hz
      have hz3 : z < 18446744073709551616 := by
        have := Nat.pow_le_pow_right (show 0 < 256 by omega) h2
        have e8 : (256 : Nat) ^ 8 = 18446744073709551616 := by decide
        omega
      rw [hz] at HE HB
      clear hz hz2 hall HLL
      by_cases hbig : z < 9223372036854775808
      · have HF := Lib.hid (HE.out hbig)
        have hwz : IntKind.i64.wrap (z : Int) = (z : Int) := wrap64 z hbig
        clear HE HB hz3
        go_wp2
        go_ret2
        exact ⟨by rw [HF.out]; rfl, rfl⟩
      · have HF := Lib.hid (HB.out hbig)
        clear HE HB
        go_wp2
        go_ret2
        exact ⟨by rw [HF.out]; rfl, rfl⟩
theorem implRf_any (b : ByteArray) (a k : Int) (w : World) (hm : b.size ≤ 1048576) :
    Calls Try.prog 81 #[.string b, .int .i64 a, .int .i64 k] w fun e w' => e = .returned (rfAt b a k) ∧ w = w' := by
  by_cases h : 1 ≤ k ∧ k ≤ 8 ∧ 0 ≤ a ∧ a + k ≤ b.size
  · obtain ⟨n, rfl⟩ := Int.eq_ofNat_of_zero_le h.2.2.1
    obtain ⟨j, rfl⟩ := Int.eq_ofNat_of_zero_le (show 0 ≤ k by omega)
    exact implRf_in b n j w hm (by omega) (by omega) (by omega)
  · have HE := Lib.hid (rfAt_out b a k (by omega))
    by_cases hk : k < 1 ∨ 8 < k
    · have HN := Lib.hid (fixSize_no k w hk)
      clear h hk
      go_enter Try.func81, Try.ntmps81
      go_wp2_with (go_at_call 89; refine (HN.out).mono ?_; rintro e w' ⟨rfl, rfl⟩)
      go_ret2
      exact ⟨by rw [HE.out]; rfl, rfl⟩
    · have HY := Lib.hid (fixSize_yes k w (by omega) (by omega))
      have hk1 : 1 ≤ k := by omega
      have hk2 : k ≤ 8 := by omega
      by_cases ha : a < 0
      · clear h hk
        go_enter Try.func81, Try.ntmps81
        go_wp2_with (go_at_call 89; refine (HY.out).mono ?_; rintro e w' ⟨rfl, rfl⟩)
        go_ret2
        exact ⟨by rw [HE.out]; rfl, rfl⟩
      · have ha2 : (b.size : Int) - k < a := by omega
        clear h hk
        go_enter Try.func81, Try.ntmps81
        go_wp2_with (go_at_call 89; refine (HY.out).mono ?_; rintro e w' ⟨rfl, rfl⟩)
        go_ret2
        exact ⟨by rw [HE.out]; rfl, rfl⟩

end Go.Proofs.Ytbgkdngeingmnaa.num
