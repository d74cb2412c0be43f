/-
  Contract of spec.ReadVar.
-/
import Derived.Test.YtkibddcjogfklaaNumA
namespace Go.Proofs.Ytkibddcjogfklaa.num
open Go.RowKit
open kit

/-- an answer, and nothing of what was there turns -/
def PostR (v : Value) (w : World) (e : Ending) (w' : World) : Prop := e = .returned v ∧ Below w.heap.size w w'

theorem pow7 (i : Nat) : 2 ^ (7 * i) = 128 ^ i := by rw [Nat.pow_mul]
theorem pow_le5 {i : Nat} (h : i < 5) : 128 ^ i ≤ 268435456 := by
  have := Nat.pow_le_pow_right (show 0 < 128 by omega) (show i ≤ 4 by omega)
  have h4 : (128 : Nat) ^ 4 = 268435456 := by decide
  omega
theorem wrap64 (n : Nat) (h : n < 9223372036854775808) : IntKind.i64.wrap (n : Int) = n := by
  rw [IntKind.wrap_i64]
  omega
theorem shl7 (s i : Nat) (hs : s < 128) (hi : i < 5) : Op.shift .shl .i64 (s : Int) .u64 ((7 * i : Nat) : Int) = pure (.int .i64 ((128 ^ i * s : Nat) : Int)) := by
  rw [shift_shl .i64 .u64 (s : Int) ((7 * i : Nat) : Int) (by omega) (by show _ ≤ (64 : Int); omega), Int.toNat_natCast]
  have hp := pow_le5 hi
  have e : (s : Int) * 2 ^ (7 * i) = ((128 ^ i * s : Nat) : Int) := by
    rw [← pow7]
    push_cast
    exact Int.mul_comm _ _
  have hl : 128 ^ i * s ≤ 268435456 * 127 := Nat.mul_le_mul hp (by omega)
  rw [e, wrap64 _ (by omega)]
theorem or_add (j z s : Nat) (hz : z < 2 ^ j) (hb : z + 2 ^ j * s < 9223372036854775808) : bits BinOp.or IntKind.i64 (z : Int) ((2 ^ j * s : Nat) : Int) = ((z + 2 ^ j * s : Nat) : Int) := by
  have h := Nat.two_pow_add_eq_or_of_lt hz s
  obtain ⟨r, hr⟩ : ∃ r, 2 ^ j * s = r := ⟨_, rfl⟩
  rw [hr] at h hb ⊢
  unfold bits
  simp only [BitVec.toNat_or, BitVec.toNat_ofInt]
  rw [show ((z : Int) % ((2 ^ IntKind.i64.bits : Nat) : Int)).toNat = z by show ((z : Int) % 18446744073709551616).toNat = z; omega, show ((r : Int) % ((2 ^ IntKind.i64.bits : Nat) : Int)).toNat = r by show ((r : Int) % 18446744073709551616).toNat = r; omega, Nat.or_comm, ← h, Nat.add_comm r z]
  exact wrap64 _ hb
theorem or7 (i z s : Nat) (hz : z < 128 ^ i) (hs : s < 128) (hi : i < 5) : bits BinOp.or IntKind.i64 (z : Int) ((128 ^ i * s : Nat) : Int) = ((z + 128 ^ i * s : Nat) : Int) := by
  have hp := pow_le5 hi
  have hl : 128 ^ i * s ≤ 268435456 * 127 := Nat.mul_le_mul hp (by omega)
  rw [← pow7] at hz hl ⊢
  exact or_add (7 * i) z s hz (by rw [pow7] at hz; omega)

theorem str_ne {t s : ByteArray} (h : ¬ t = s) : (t.toList == s.toList) = false := by
  rw [beq_eq_false_iff_ne, ByteArray.toList_eq, ByteArray.toList_eq]
  intro e
  exact h (ByteArray.ext (Array.toList_inj.1 e))
theorem str_yes {t s : ByteArray} (h : t = s) : (t.toList == s.toList) = true := by rw [h, beq_self_eq_true]
theorem str_full {t : ByteArray} (h : 0 < t.size) : t.toList.isEmpty = false := by
  rw [ByteArray.toList_eq, List.isEmpty_eq_false_iff]
  intro e
  have : t.data.toList.length = t.size := rfl
  rw [e] at this
  simp at this
  omega

end Go.Proofs.Ytkibddcjogfklaa.num
