/-
  Contracts of spec.SegmentName, TempName, NextName.
-/
import Derived.Test.YtgcpgoehnjkpbaaGreatDoorIn
import Derived.Test.YtgcpgoehnjkpbaaGreatDoorNameMath
import Derived.Test.YtgcpgoehnjkpbaaGreatDoorNumB
namespace Go.Proofs.YtgcpgoehnjkpbaaGreatDoor.nam
open Go.RowKit
open kit
open num

theorem shr4 (n i : Nat) (hi : i ≤ 7) : Op.shift .shr .i64 (n : Int) .u64 ((4 * i : Nat) : Int) = pure (.int .i64 ((n / 16 ^ i : Nat) : Int)) := by
  rw [shift_shr .i64 .u64 (n : Int) ((4 * i : Nat) : Int) (by omega) (by show _ ≤ (64 : Int); omega), Int.toNat_natCast]
  have e : (2 : Int) ^ (4 * i) = ((16 ^ i : Nat) : Int) := by
    rw [Int.pow_mul]
    push_cast
    rfl
  rw [e]
  rfl
theorem and15 (x : Nat) (h : x < 9223372036854775808) : bits BinOp.and IntKind.i64 (x : Int) 15 = ((x % 16 : Nat) : Int) := by
  unfold bits
  simp only [BitVec.toNat_and, BitVec.toNat_ofInt]
  rw [show ((x : Int) % ((2 ^ IntKind.i64.bits : Nat) : Int)).toNat = x by show ((x : Int) % 18446744073709551616).toNat = x; omega, show ((15 : Int) % ((2 ^ IntKind.i64.bits : Nat) : Int)).toNat = 2 ^ 4 - 1 by decide, Nat.and_two_pow_sub_one_eq_mod, IntKind.wrap_i64]
  omega
def figs : ByteArray := { data := #[48, 49, 50, 51, 52, 53, 54, 55, 56, 57, 97, 98, 99, 100, 101, 102] }
theorem figs_at' : ∀ q : Fin 16, (figs[q.val]'(by have := q.isLt; exact this)).toNat = figN q.val := by decide +kernel
theorem figs_at (q : Nat) (h : q < figs.size) : (figs[q]'h).toNat = figN q := figs_at' ⟨q, h⟩

def nxI (b m : Int) : ByteArray := if b < 0 ∨ m < 0 ∨ 1000000000 < b + m then { data := #[] } else segI (b + m)
end Go.Proofs.YtgcpgoehnjkpbaaGreatDoor.nam
