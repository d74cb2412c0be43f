/-
  What the claims' closed facts say of the whole program.
-/
import Derived.Test.YtdacdbidennjhaaGreatDoorRows
import Derived.ProofKit
import Derived.OpenShut
namespace Go.Proofs.YtdacdbidennjhaaGreatDoor.facts
open Go.ChangeShapes Go.WideShapes Go.ChangeAt Go.RowKit

theorem mayEnter : Tryz.pinned.checked.prog.mayEnter = true := by kernel_rfl
theorem lifts : Tryz.pinned.checked.prog.liftsFinal = Rows.fnDeedsRow.lifted := eq_of_beq (show (Tryz.pinned.checked.prog.liftsFinal == Rows.fnDeedsRow.lifted) = true by kernel_rfl)
theorem make : Tryz.pinned.checked.prog.make = some Rows.fnDeedsRow.make := eq_of_beq (show (Tryz.pinned.checked.prog.make == some Rows.fnDeedsRow.make) = true by kernel_rfl)

end Go.Proofs.YtdacdbidennjhaaGreatDoor.facts
