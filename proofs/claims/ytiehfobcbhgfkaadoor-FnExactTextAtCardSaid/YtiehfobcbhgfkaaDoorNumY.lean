/-
  Contracts of impl.VarSize, impl.VarText, impl.ReadVar (the landed code's).
-/
import Derived.Test.YtiehfobcbhgfkaaDoorNumX
import Derived.Test.YtiehfobcbhgfkaaDoorSumX
namespace Go.Proofs.YtiehfobcbhgfkaaDoor.num
set_option maxRecDepth 20000
open Go.RowKit
open kit

/-! ### plain facts -/
theorem vb_front (k n : Nat) (h : n < 128 ^ (k + 1)) : (∀ i, i + 1 < (vb k n).length → (vb k n)[i]? = some (n / 128 ^ i % 128 + 128)) ∧ (vb k n)[(vb k n).length - 1]? = some (n / 128 ^ ((vb k n).length - 1)) ∧ n / 128 ^ ((vb k n).length - 1) < 128 := by
  induction k generalizing n with
  | zero =>
    rw [vb_low 0 n (by simpa using h)]
    exact ⟨fun i hi => by simp at hi, by simp, by simpa using h⟩
  | succ k ih =>
    by_cases hn : n < 128
    · rw [vb_low _ n hn]
      exact ⟨fun i hi => by simp at hi, by simp, by simpa using hn⟩
    · obtain ⟨h1, h2, h3⟩ := ih (n / 128) (by rw [Nat.pow_succ] at h; omega)
      have hp := vb_length_pos k (n / 128)
      have e : ∀ i, n / 128 / 128 ^ i = n / 128 ^ (i + 1) := fun i => by rw [Nat.div_div_eq_div_mul, Nat.mul_comm, ← Nat.pow_succ]
      rw [vb_high k n hn, List.length_cons]
      obtain ⟨L, hL⟩ : ∃ L, (vb k (n / 128)).length = L + 1 := ⟨(vb k (n / 128)).length - 1, by omega⟩
      rw [hL] at h1 h2 h3 ⊢
      rw [show L + 1 + 1 - 1 = L + 1 by omega]
      rw [show L + 1 - 1 = L by omega] at h2 h3
      rw [e] at h2 h3
      refine ⟨fun i hi => ?_, by simpa using h2, h3⟩
      cases i with
      | zero => simp
      | succ i => rw [← e]; simpa using h1 i (by omega)
theorem vb_made (n L : Nat) (h : n ≤ 1000000000) (hL : (vb 4 n).length = L) (ys : List Int) (hy : ys.length = L) (hg : ∀ i, i < L → ys[i]? = some ((n / 128 ^ i % 128 + 128 : Nat) : Int)) :
    strOfNums (ys.set (L - 1) ((n / 128 ^ (L - 1) % 128 : Nat) : Int)) = vt n := by
  obtain ⟨h1, h2, h3⟩ := vb_front 4 n (lt128 h)
  have hp := vb_length_pos 4 n
  rw [hL] at h1 h2 h3 hp
  have e : ys.set (L - 1) ((n / 128 ^ (L - 1) % 128 : Nat) : Int) = (vb 4 n).map fun (c : Nat) => (c : Int) := by
    apply List.ext_getElem?
    intro i
    rw [List.getElem?_map, List.getElem?_set]
    by_cases hi : i + 1 < L
    · rw [if_neg (by omega), hg i (by omega), h1 i hi]
      rfl
    · by_cases hi2 : i = L - 1
      · rw [if_pos hi2.symm, if_pos (by omega), hi2, h2, Nat.mod_eq_of_lt h3]
        rfl
      · rw [if_neg (fun e => hi2 e.symm), List.getElem?_eq_none (by omega), List.getElem?_eq_none (by omega)]
        rfl
  rw [e, txt_nums]
  rfl
theorem set_pre (g : Nat → Int) (ys : List Int) (k L : Nat) (hl : ys.length = L) (hk : k < L) (h : ∀ i, i < k → ys[i]? = some (g i)) : ∀ i, i < k + 1 → (ys.set k (g k))[i]? = some (g i) := by
  intro i hi
  rw [List.getElem?_set]
  by_cases hik : k = i
  · rw [if_pos hik, if_pos (by omega), hik]
  · rw [if_neg hik]
    exact h i (by omega)
theorem or8u' : ∀ a : Fin 256, bits BinOp.or IntKind.u8 (a.val : Int) 128 = ((a.val % 128 + 128 : Nat) : Int) := by decide +kernel
theorem or8u (a : Nat) (h : a < 256) : bits BinOp.or IntKind.u8 (a : Int) 128 = ((a % 128 + 128 : Nat) : Int) := or8u' ⟨a, h⟩
theorem shr7 (n i : Nat) (hi : i < 5) : Op.shift .shr .i64 (n : Int) .i64 ((7 * i : Nat) : Int) = pure (.int .i64 ((n / 128 ^ i : Nat) : Int)) := by
  rw [shift_shr .i64 .i64 (n : Int) ((7 * i : Nat) : Int) (by omega) (by show _ ≤ (64 : Int); omega), Int.toNat_natCast, ← pow7]
  push_cast
  rfl
theorem shl7i (s i : Nat) (hs : s < 128) (hi : i < 5) : Op.shift .shl .i64 (s : Int) .i64 ((7 * i : Nat) : Int) = pure (.int .i64 ((128 ^ i * s : Nat) : Int)) := by
  rw [shift_shl .i64 .i64 (s : Int) ((7 * i : Nat) : Int) (by omega) (by show _ ≤ (64 : Int); omega), Int.toNat_natCast]
  have hp := pow_le5 hi
  have e : (s : Int) * 2 ^ (7 * i) = ((128 ^ i * s : Nat) : Int) := by
    rw [← pow7]
    push_cast
    exact Int.mul_comm _ _
  have hl : 128 ^ i * s ≤ 268435456 * 127 := Nat.mul_le_mul hp (by omega)
  rw [e, wrap64 _ (by omega)]

/-! ### impl.VarSize -/
/-! ### impl.VarText -/
end Go.Proofs.YtiehfobcbhgfkaaDoor.num

namespace Go.Proofs.YtiehfobcbhgfkaaDoor.num
set_option maxRecDepth 20000
open Go.RowKit
open kit

/-! ### impl.ReadVar -/
/-! ### impl.FixText -/
theorem pow8 (i : Nat) : 2 ^ (8 * i) = 256 ^ i := by rw [Nat.pow_mul]
theorem shr8 (n i : Nat) (hi : i ≤ 8) : Op.shift .shr .i64 (n : Int) .i64 ((8 * i : Nat) : Int) = pure (.int .i64 ((n / 256 ^ i : Nat) : Int)) := by
  rw [shift_shr .i64 .i64 (n : Int) ((8 * i : Nat) : Int) (by omega) (by show _ ≤ (64 : Int); omega), Int.toNat_natCast, ← pow8]
  push_cast
  rfl
theorem div8 (n i q : Nat) (hq : 8 * i = q) : (n : Int) / 2 ^ q = ((n / 256 ^ i : Nat) : Int) := by
  rw [← hq, ← pow8]
  push_cast
  rfl
theorem fb_get (k n i : Nat) (h : i < k) : (fb k n)[i]? = some (n / 256 ^ i % 256) := by
  induction k with
  | zero => omega
  | succ k ih =>
    rw [fb_snoc]
    by_cases hi : i < k
    · rw [List.getElem?_append_left (by rw [fb_length]; exact hi), ih hi]
    · obtain rfl : i = k := by omega
      rw [List.getElem?_append_right (by rw [fb_length]; exact Nat.le_refl _), fb_length, Nat.sub_self]
      rfl
theorem fb_made (k n : Nat) (ys : List Int) (hy : ys.length = k) (hg : ∀ i, i < k → ys[i]? = some ((n / 256 ^ i % 256 : Nat) : Int)) : strOfNums ys = txt (fb k n) := by
  have e : ys = (fb k n).map fun (c : Nat) => (c : Int) := by
    apply List.ext_getElem?
    intro i
    rw [List.getElem?_map]
    by_cases hi : i < k
    · rw [hg i hi, fb_get k n i hi]
      rfl
    · rw [List.getElem?_eq_none (by omega), List.getElem?_eq_none (by rw [fb_length]; omega)]
      rfl
  rw [e, txt_nums]

end Go.Proofs.YtiehfobcbhgfkaaDoor.num

namespace Go.Proofs.YtiehfobcbhgfkaaDoor.num
set_option maxRecDepth 20000
open Go.RowKit
open kit

theorem wrap64u (n : Nat) (h : n < 18446744073709551616) : IntKind.u64.wrap (n : Int) = n := by
  rw [IntKind.wrap_u64]
  omega
theorem pow_le8 {i : Nat} (h : i < 8) : 256 ^ i ≤ 72057594037927936 := by
  have := Nat.pow_le_pow_right (show 0 < 256 by omega) (show i ≤ 7 by omega)
  have h4 : (256 : Nat) ^ 7 = 72057594037927936 := by decide
  omega
theorem or_addu (j z s : Nat) (hz : z < 2 ^ j) (hb : z + 2 ^ j * s < 18446744073709551616) : bits BinOp.or IntKind.u64 (z : Int) ((2 ^ j * s : Nat) : Int) = ((z + 2 ^ j * s : Nat) : Int) := by
  have h := Nat.two_pow_add_eq_or_of_lt hz s
  obtain ⟨r, hr⟩ : ∃ r, 2 ^ j * s = r := ⟨_, rfl⟩
  rw [hr] at h hb ⊢
  unfold bits
  simp only [BitVec.toNat_or, BitVec.toNat_ofInt]
  rw [show ((z : Int) % ((2 ^ IntKind.u64.bits : Nat) : Int)).toNat = z by show ((z : Int) % 18446744073709551616).toNat = z; omega, show ((r : Int) % ((2 ^ IntKind.u64.bits : Nat) : Int)).toNat = r by show ((r : Int) % 18446744073709551616).toNat = r; omega, Nat.or_comm, ← h, Nat.add_comm]
  exact wrap64u _ hb
theorem or8w (i z c : Nat) (hz : z < 256 ^ i) (hc : c < 256) (hi : i < 8) : bits BinOp.or IntKind.u64 (z : Int) ((256 ^ i * c : Nat) : Int) = ((z + 256 ^ i * c : Nat) : Int) := by
  have hp := pow_le8 hi
  have hl : 256 ^ i * c ≤ 72057594037927936 * 255 := Nat.mul_le_mul hp (by omega)
  rw [← pow8] at hz hl hp ⊢
  exact or_addu (8 * i) z c hz (by omega)
theorem shl8w (c i : Nat) (hc : c < 256) (hi : i < 8) : (c : Int) * 2 ^ (8 * i) = ((256 ^ i * c : Nat) : Int) ∧ IntKind.u64.wrap ((256 ^ i * c : Nat) : Int) = ((256 ^ i * c : Nat) : Int) := by
  have hp := pow_le8 hi
  have hl : 256 ^ i * c ≤ 72057594037927936 * 255 := Nat.mul_le_mul hp (by omega)
  refine ⟨?_, wrap64u _ (by omega)⟩
  rw [← pow8]
  push_cast
  exact Int.mul_comm _ _
theorem val_next (l : List Nat) (j c : Nat) (h : l[j]? = some c) : val (l.take (j + 1)) = val (l.take j) + 256 ^ j * c := by
  have hl : j < l.length := (List.getElem?_eq_some_iff.1 h).1
  rw [List.take_add_one, h, val_append, List.length_take, Nat.min_eq_left (by omega)]
  rfl
theorem val_next_lt {z c j : Nat} (hz : z < 256 ^ j) (hc : c < 256) : z + 256 ^ j * c < 256 ^ (j + 1) := by
  rw [Nat.pow_succ]
  have : 256 ^ j * c ≤ 256 ^ j * 255 := Nat.mul_le_mul (Nat.le_refl _) (by omega)
  omega

end Go.Proofs.YtiehfobcbhgfkaaDoor.num

namespace Go.Proofs.YtiehfobcbhgfkaaDoor.sum
set_option maxRecDepth 20000
open Go.RowKit
open kit

theorem xor_low (s : Int) : low (bits BinOp.xor IntKind.i64 s 4294967295) = low s ^^^ 4294967295 := by
  unfold bits low
  simp only [BitVec.toNat_xor]
  rw [ofInt_toNat, ofInt_toNat, IntKind.wrap_i64]
  obtain ⟨a, ha⟩ : ∃ a, (s % 18446744073709551616).toNat = a := ⟨_, rfl⟩
  have ha2 : (s % 4294967296).toNat = a % 4294967296 := by omega
  rw [ha, ha2, show ((4294967295 : Int) % 18446744073709551616).toNat = 4294967295 by decide]
  have h2 := Nat.xor_mod_two_pow (a := a) (b := 4294967295) (n := 32)
  rw [show (2 : Nat) ^ 32 = 4294967296 by rfl, show 4294967295 % 4294967296 = 4294967295 by rfl] at h2
  rw [← h2]
  omega
theorem sumByte_low (v : Int) (c : Nat) (h : c < 256) : sumByte v (c : Int) = stN 8 (low v ^^^ c) := by
  unfold sumByte
  rw [low8_of c h]

end Go.Proofs.YtiehfobcbhgfkaaDoor.sum
