/-
  Contracts of the draws of names (bounds only): l04Name, DrawSegmentName, DrawReadName.
-/
import Derived.Test.YtkibddcjogfklaaGreatDoorNameX
import Derived.Test.YtkibddcjogfklaaGreatDoorDrawX
import Derived.Test.YtkibddcjogfklaaGreatDoorInt3
namespace Go.Proofs.YtkibddcjogfklaaGreatDoor.draw
open Go.RowKit
open kit
open num

/-- a number; nothing of what was there turns -/
def PostNI (w : World) (e : Ending) (w' : World) : Prop := (∃ x : Int, e = .returned (.int .i64 x)) ∧ Below w.heap.size w w'
/-- a text of at most 21 bytes; nothing of what was there turns -/
def PostNW (w : World) (e : Ending) (w' : World) : Prop := (∃ s : ByteArray, s.size ≤ 21 ∧ e = .returned (.string s)) ∧ Below w.heap.size w w'
end Go.Proofs.YtkibddcjogfklaaGreatDoor.draw
