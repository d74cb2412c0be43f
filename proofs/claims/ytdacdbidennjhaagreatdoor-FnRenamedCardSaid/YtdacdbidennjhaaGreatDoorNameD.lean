/-
  Contracts of the draws of names (bounds only): l04Name, DrawSegmentName, DrawReadName.
-/
import Derived.Test.YtdacdbidennjhaaGreatDoorNameX
import Derived.Test.YtdacdbidennjhaaGreatDoorDrawX
import Derived.Test.YtdacdbidennjhaaGreatDoorInt3
namespace Go.Proofs.YtdacdbidennjhaaGreatDoor.draw
open Go.RowKit
open kit
open num

/-- a text of at most 21 bytes -/
def PostW (c : Nat) (a : Option Addr) (len cap : Nat) (w : World) (e : Ending) (w' : World) : Prop :=
  (∃ s : ByteArray, s.size ≤ 21 ∧ e = .returned (.string s)) ∧ Cur w' c a len cap ∧ w.grownBy w' (some c)

/-- a number; nothing of what was there turns -/
def PostNI (w : World) (e : Ending) (w' : World) : Prop := (∃ x : Int, e = .returned (.int .i64 x)) ∧ Below w.heap.size w w'
/-- a text of at most 21 bytes; nothing of what was there turns -/
def PostNW (w : World) (e : Ending) (w' : World) : Prop := (∃ s : ByteArray, s.size ≤ 21 ∧ e = .returned (.string s)) ∧ Below w.heap.size w w'
end Go.Proofs.YtdacdbidennjhaaGreatDoor.draw
