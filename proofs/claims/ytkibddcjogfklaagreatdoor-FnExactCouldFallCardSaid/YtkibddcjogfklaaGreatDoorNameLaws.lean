/-
  What is asked of impl's names; the walk of laws.FnNames and of the exact laws of names, given that.
-/
import Derived.Test.YtkibddcjogfklaaGreatDoorNameD
import Derived.Test.YtkibddcjogfklaaGreatDoorBig
namespace Go.Proofs.YtkibddcjogfklaaGreatDoor.nam
open Go.RowKit
open kit
open num

def wfI (x : Int) : Prop := -9223372036854775808 ≤ x ∧ x ≤ 9223372036854775807
theorem seg10 : segI 10 = { data := #[115, 48, 48, 48, 48, 48, 48, 48, 97, 46, 115, 101, 103] } := by decide +kernel

/-! ### exact laws -/
end Go.Proofs.YtkibddcjogfklaaGreatDoor.nam
