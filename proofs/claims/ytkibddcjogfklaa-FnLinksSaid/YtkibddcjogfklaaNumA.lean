/-
  Contracts of spec.VarText and spec.VarSize.
-/
import Derived.Test.YtkibddcjogfklaaIn
import Derived.Test.YtkibddcjogfklaaNumMath
namespace Go.Proofs.Ytkibddcjogfklaa.num
open Go.RowKit
open kit

theorem Try.infoU8 : (Try.prog.info? 5).map (fun i => (i.zero, i.size, i.bytes)) = some (some (.int .u8 0), 1, 1) := by kernel_rfl

theorem and127 (z : Nat) (h : z ≤ 1000000000) : bits BinOp.and IntKind.i64 (z : Int) 127 = ((z % 128 : Nat) : Int) := by
  unfold bits
  simp only [BitVec.toNat_and, BitVec.toNat_ofInt]
  rw [show ((z : Int) % ((2 ^ IntKind.i64.bits : Nat) : Int)).toNat = z by show ((z : Int) % 18446744073709551616).toNat = z; omega, show ((127 : Int) % ((2 ^ IntKind.i64.bits : Nat) : Int)).toNat = 2 ^ 7 - 1 by decide, Nat.and_two_pow_sub_one_eq_mod, IntKind.wrap_i64]
  omega
theorem or128' : ∀ a : Fin 128, bits BinOp.or IntKind.i64 (a.val : Int) 128 = ((a.val + 128 : Nat) : Int) := by decide +kernel
theorem or128 (a : Nat) (h : a < 128) : bits BinOp.or IntKind.i64 (a : Int) 128 = ((a + 128 : Nat) : Int) := or128' ⟨a, h⟩
theorem wrap8 (c : Nat) (h : c < 256) : IntKind.u8.wrap (c : Int) = (c : Int) := by rw [IntKind.wrap_u8]; omega

/-- a text is answered, and nothing of what was there turns -/
def PostT (t : ByteArray) (w : World) (e : Ending) (w' : World) : Prop := e = .returned (.string t) ∧ Below w.heap.size w w'

end Go.Proofs.Ytkibddcjogfklaa.num
