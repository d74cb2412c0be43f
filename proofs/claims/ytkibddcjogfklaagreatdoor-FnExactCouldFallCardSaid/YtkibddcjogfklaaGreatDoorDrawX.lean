/-
  Contracts of the draws' own helpers: l01New, l01Byte, l01Below (what they give lies within bounds; only the cursor is written).
-/
import Derived.Test.YtkibddcjogfklaaGreatDoorKit
import Derived.Deep.QuietTactic
import Derived.BigQuiet
import Derived.Laws.OwnMore
import Derived.WalkSmall
namespace Go.Proofs.YtkibddcjogfklaaGreatDoor.draw
open Go.RowKit
open kit

theorem and255 (x : Int) : 0 ≤ bits BinOp.and IntKind.i64 x 255 ∧ bits BinOp.and IntKind.i64 x 255 ≤ 255 := by
  simp only [bits, BitVec.toNat_and]
  have h : (BitVec.ofInt IntKind.i64.bits x).toNat &&& (BitVec.ofInt IntKind.i64.bits 255).toNat ≤ 255 := Nat.and_le_right
  rw [IntKind.wrap_i64]
  omega

/-- the drawn bytes: nil, or a row below block B -/
def CodeAt (w : World) (B : Nat) (a : Option Addr) (len : Nat) : Prop :=
  len ≤ 1048576 ∧ (len = 0 ∨ ∃ b off, a = some ⟨b, off, none⟩ ∧ b < B ∧ ∀ j, j < len → ∃ z : Int, w.cell? ⟨b, off + j, none⟩ = some (.int .u8 z) ∧ 0 ≤ z ∧ z ≤ 255)
theorem CodeAt.below {w w' : World} {B : Nat} {a : Option Addr} {len : Nat} (h : CodeAt w B a len) (hb : Below B w w') : CodeAt w' B a len := by
  refine ⟨h.1, h.2.imp id fun ⟨b, off, h1, h2, h3⟩ => ⟨b, off, h1, h2, fun j hj => ?_⟩⟩
  obtain ⟨z, hz, h4⟩ := h3 j hj
  exact ⟨z, (hb.cell (p := ⟨b, off + j, none⟩) h2).trans hz, h4⟩

theorem CodeAt.raise {w : World} {B B' : Nat} {a : Option Addr} {len : Nat} (h : CodeAt w B a len) (hB : B ≤ B') : CodeAt w B' a len :=
  ⟨h.1, h.2.imp id fun ⟨b, off, h1, h2, h3⟩ => ⟨b, off, h1, Nat.lt_of_lt_of_le h2 hB, h3⟩⟩

theorem setCell_grown (w : World) (c o : Nat) (v : Value) : w.grownBy (w.setCell ⟨c, o, none⟩ v) (some c) :=
  have h := (Below.refl c w).setCell (p := ⟨c, o, none⟩) (Nat.le_refl c) v
  ⟨h.os, h.tape, h.output, h.size, fun k _ hne => Below.heap_setCell w ⟨c, o, none⟩ v k (fun e => hne (by rw [e]))⟩
theorem drewN_grown (w : World) (n : Nat) (row : Option Nat) : w.grownBy (w.drewN n) row := ⟨rfl, rfl, rfl, Nat.le_refl _, fun _ _ _ => rfl⟩

theorem own_ne {w : World} {c : Nat} {e : TypeId} {v : Value} {n : Nat} {xs : List Value} (h : w.ownsRow (c + 1) e 1 v n xs) : v.ownBlock = none ∨ v.ownBlock ≠ some c := by
  refine .inr fun he => ?_
  have := (h.lt c he).1
  omega

theorem CodeAt.grown {w w' : World} {B c : Nat} {a : Option Addr} {len : Nat} (h : CodeAt w B a len) (hBc : B ≤ c) (hB : B ≤ w.heap.size) (hg : w.grownBy w' (some c)) : CodeAt w' B a len :=
  h.below ((Below.refl B w).grown hg hB (fun k hk => by injection hk with hk; omega))

end Go.Proofs.YtkibddcjogfklaaGreatDoor.draw

namespace Go.Proofs.YtkibddcjogfklaaGreatDoor.draw
open Go.RowKit
open kit

end Go.Proofs.YtkibddcjogfklaaGreatDoor.draw

namespace Go.Proofs.YtkibddcjogfklaaGreatDoor.draw
open Go.RowKit
open kit

theorem grown_below {a b c : World} {row : Option Nat} (h : a.grownBy b row) (k : Below a.heap.size b c) : a.grownBy c row :=
  ⟨k.os.trans h.os, k.tape.trans h.tape, k.output.trans h.output, Nat.le_trans h.size k.size, fun i hi hr => (k.block i hi).trans (h.block i hi hr)⟩

theorem Tryz.infoU8 : (Tryz.prog.info? 5).map (fun i => (i.zero, i.size, i.bytes)) = some (some (.int .u8 0), 1, 1) := by kernel_rfl

end Go.Proofs.YtkibddcjogfklaaGreatDoor.draw
