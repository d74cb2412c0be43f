/-
  Contracts of spec.VarText and spec.VarSize.
-/
import Derived.Test.YtiehfobcbhgfkaaDoorStrQ
import Derived.Test.YtiehfobcbhgfkaaDoorMathX
namespace Go.Proofs.YtiehfobcbhgfkaaDoor.num
set_option maxRecDepth 20000
open Go.RowKit
open kit

theorem Tryd.infoU8 : (Tryd.prog.info? 5).map (fun i => (i.zero, i.size, i.bytes)) = some (some (.int .u8 0), 1, 1) := by kernel_rfl

theorem and127 (z : Nat) (h : z ≤ 1000000000) : bits BinOp.and IntKind.i64 (z : Int) 127 = ((z % 128 : Nat) : Int) := by
  unfold bits
  simp only [BitVec.toNat_and, BitVec.toNat_ofInt]
  rw [show ((z : Int) % ((2 ^ IntKind.i64.bits : Nat) : Int)).toNat = z by show ((z : Int) % 18446744073709551616).toNat = z; omega, show ((127 : Int) % ((2 ^ IntKind.i64.bits : Nat) : Int)).toNat = 2 ^ 7 - 1 by decide, Nat.and_two_pow_sub_one_eq_mod, IntKind.wrap_i64]
  omega
theorem or128' : ∀ a : Fin 128, bits BinOp.or IntKind.i64 (a.val : Int) 128 = ((a.val + 128 : Nat) : Int) := by decide +kernel
theorem or128 (a : Nat) (h : a < 128) : bits BinOp.or IntKind.i64 (a : Int) 128 = ((a + 128 : Nat) : Int) := or128' ⟨a, h⟩
theorem wrap8 (c : Nat) (h : c < 256) : IntKind.u8.wrap (c : Int) = (c : Int) := by rw [IntKind.wrap_u8]; omega

/-- a text is answered, and nothing of what was there turns -/
def PostT (t : ByteArray) (w : World) (e : Ending) (w' : World) : Prop := e = .returned (.string t) ∧ Below w.heap.size w w'

end Go.Proofs.YtiehfobcbhgfkaaDoor.num

namespace Go.Proofs.YtiehfobcbhgfkaaDoor.num
set_option maxRecDepth 20000
open Go.RowKit
open kit

/-- an answer, and nothing of what was there turns -/
def PostR (v : Value) (w : World) (e : Ending) (w' : World) : Prop := e = .returned v ∧ Below w.heap.size w w'

theorem pow7 (i : Nat) : 2 ^ (7 * i) = 128 ^ i := by rw [Nat.pow_mul]
theorem pow_le5 {i : Nat} (h : i < 5) : 128 ^ i ≤ 268435456 := by
  have := Nat.pow_le_pow_right (show 0 < 128 by omega) (show i ≤ 4 by omega)
  have h4 : (128 : Nat) ^ 4 = 268435456 := by decide
  omega
theorem wrap64 (n : Nat) (h : n < 9223372036854775808) : IntKind.i64.wrap (n : Int) = n := by
  rw [IntKind.wrap_i64]
  omega
theorem shl7 (s i : Nat) (hs : s < 128) (hi : i < 5) : Op.shift .shl .i64 (s : Int) .u64 ((7 * i : Nat) : Int) = pure (.int .i64 ((128 ^ i * s : Nat) : Int)) := by
  rw [shift_shl .i64 .u64 (s : Int) ((7 * i : Nat) : Int) (by omega) (by show _ ≤ (64 : Int); omega), Int.toNat_natCast]
  have hp := pow_le5 hi
  have e : (s : Int) * 2 ^ (7 * i) = ((128 ^ i * s : Nat) : Int) := by
    rw [← pow7]
    push_cast
    exact Int.mul_comm _ _
  have hl : 128 ^ i * s ≤ 268435456 * 127 := Nat.mul_le_mul hp (by omega)
  rw [e, wrap64 _ (by omega)]
theorem or_add (j z s : Nat) (hz : z < 2 ^ j) (hb : z + 2 ^ j * s < 9223372036854775808) : bits BinOp.or IntKind.i64 (z : Int) ((2 ^ j * s : Nat) : Int) = ((z + 2 ^ j * s : Nat) : Int) := by
  have h := Nat.two_pow_add_eq_or_of_lt hz s
  obtain ⟨r, hr⟩ : ∃ r, 2 ^ j * s = r := ⟨_, rfl⟩
  rw [hr] at h hb ⊢
  unfold bits
  simp only [BitVec.toNat_or, BitVec.toNat_ofInt]
  rw [show ((z : Int) % ((2 ^ IntKind.i64.bits : Nat) : Int)).toNat = z by show ((z : Int) % 18446744073709551616).toNat = z; omega, show ((r : Int) % ((2 ^ IntKind.i64.bits : Nat) : Int)).toNat = r by show ((r : Int) % 18446744073709551616).toNat = r; omega, Nat.or_comm, ← h, Nat.add_comm r z]
  exact wrap64 _ hb
theorem or7 (i z s : Nat) (hz : z < 128 ^ i) (hs : s < 128) (hi : i < 5) : bits BinOp.or IntKind.i64 (z : Int) ((128 ^ i * s : Nat) : Int) = ((z + 128 ^ i * s : Nat) : Int) := by
  have hp := pow_le5 hi
  have hl : 128 ^ i * s ≤ 268435456 * 127 := Nat.mul_le_mul hp (by omega)
  rw [← pow7] at hz hl ⊢
  exact or_add (7 * i) z s hz (by rw [pow7] at hz; omega)

theorem str_ne {t s : ByteArray} (h : ¬ t = s) : (t.toList == s.toList) = false := by
  rw [beq_eq_false_iff_ne, ByteArray.toList_eq, ByteArray.toList_eq]
  intro e
  exact h (ByteArray.ext (Array.toList_inj.1 e))
theorem str_yes {t s : ByteArray} (h : t = s) : (t.toList == s.toList) = true := by rw [h, beq_self_eq_true]
theorem str_full {t : ByteArray} (h : 0 < t.size) : t.toList.isEmpty = false := by
  rw [ByteArray.toList_eq, List.isEmpty_eq_false_iff]
  intro e
  have : t.data.toList.length = t.size := rfl
  rw [e] at this
  simp at this
  omega

end Go.Proofs.YtiehfobcbhgfkaaDoor.num

namespace Go.Proofs.YtiehfobcbhgfkaaDoor.num
set_option maxRecDepth 20000
open Go.RowKit
open kit

/-! ### reading -/
theorem val_drop_le (l : List Nat) : ∀ j, val (l.drop j) ≤ val l := by
  induction l with
  | nil => intro j; simp [val]
  | cons c r ih =>
    intro j
    cases j with
    | zero => exact Nat.le_refl _
    | succ j => have := ih j; simp only [List.drop_succ_cons, val]; omega
theorem shl8 (z : Nat) (h : 256 * z < 9223372036854775808) : Op.shift .shl .i64 (z : Int) .u64 8 = pure (.int .i64 ((256 * z : Nat) : Int)) := by
  rw [shift_shl .i64 .u64 (z : Int) 8 (by omega) (by show _ ≤ (64 : Int); omega)]
  have e : (z : Int) * 2 ^ (8 : Int).toNat = ((256 * z : Nat) : Int) := by
    show (z : Int) * 256 = _
    omega
  rw [e, wrap64 _ h]
theorem or8 (z c : Nat) (hc : c < 256) (h : 256 * z + c < 9223372036854775808) : bits BinOp.or IntKind.i64 ((256 * z : Nat) : Int) (c : Int) = ((c + 256 * z : Nat) : Int) := by
  have h2 := or_add 8 c z hc (by show c + 256 * z < _; omega)
  rw [← h2]
  show IntKind.i64.wrap ((BitVec.ofInt IntKind.i64.bits ((256 * z : Nat) : Int) ||| BitVec.ofInt IntKind.i64.bits (c : Int)).toNat) = IntKind.i64.wrap ((BitVec.ofInt IntKind.i64.bits (c : Int) ||| BitVec.ofInt IntKind.i64.bits ((2 ^ 8 * z : Nat) : Int)).toNat)
  rw [BitVec.or_comm]
theorem nats_take (b : ByteArray) (a k i : Nat) (h : i < k) (h2 : a + k ≤ b.size) : ((nats b a).take k)[i]? = some (b[a + i].toNat) := by
  rw [List.getElem?_take_of_lt h]
  exact nats_get b a i (by omega)

/-- whether the last one of 8 bytes is too large -/
theorem top8 (b : ByteArray) (a : Nat) (h : a + 8 ≤ b.size) : val ((nats b a).take 8) < 9223372036854775808 ↔ b[a + 7].toNat ≤ 127 := by
  have hl : ((nats b a).take 8).length = 8 := by rw [List.length_take, nats_length]; omega
  have hs : (nats b a).take 8 = (nats b a).take 7 ++ [b[a + 7].toNat] := by
    have e := List.take_add_one (l := nats b a) (i := 7)
    rw [nats_get b a 7 (by omega)] at e
    simpa using e
  have h7 : ((nats b a).take 7).length = 7 := by rw [List.length_take, nats_length]; omega
  have hlt := val_lt ((nats b a).take 7) fun c hc => nats_byte b a c (List.mem_of_mem_take hc)
  rw [h7] at hlt
  rw [hs, val_append, h7]
  have e7 : (256 : Nat) ^ 7 = 72057594037927936 := by decide
  rw [e7] at hlt ⊢
  simp only [val, Nat.mul_zero, Nat.add_zero]
  omega
theorem below8 (b : ByteArray) (a k : Nat) (h : k < 8) : val ((nats b a).take k) < 9223372036854775808 := by
  have hlt := val_lt ((nats b a).take k) fun c hc => nats_byte b a c (List.mem_of_mem_take hc)
  have hl : ((nats b a).take k).length ≤ 7 := by rw [List.length_take]; omega
  have := Nat.pow_le_pow_right (show 0 < 256 by omega) hl
  have e7 : (256 : Nat) ^ 7 = 72057594037927936 := by decide
  omega

end Go.Proofs.YtiehfobcbhgfkaaDoor.num
