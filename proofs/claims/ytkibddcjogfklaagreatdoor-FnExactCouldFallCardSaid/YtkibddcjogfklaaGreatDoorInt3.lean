/-
  Contract of the draw of any number, spec.l03Int.
-/
import Derived.Test.YtkibddcjogfklaaGreatDoorDrawX
namespace Go.Proofs.YtkibddcjogfklaaGreatDoor.draw
open Go.RowKit
open kit

theorem below_of (w w1 w2 : World) (b1 : Below w.heap.size w w1) (g : w1.grownBy w2 (some w.heap.size)) : Below w.heap.size w w2 :=
  b1.grown g b1.size (fun k hk => by injection hk with hk; omega)
theorem grown_of {w w' : World} (h : Below w.heap.size w w') (row : Option Nat) : w.grownBy w' row := ⟨h.os, h.tape, h.output, h.size, fun i hi _ => h.block i hi⟩
theorem app_size {a b : ByteArray} {x y : Nat} (ha : a.size ≤ x) (hb : b.size ≤ y) : (a ++ b).size ≤ x + y := by rw [ByteArray.size_append]; omega

end Go.Proofs.YtkibddcjogfklaaGreatDoor.draw
