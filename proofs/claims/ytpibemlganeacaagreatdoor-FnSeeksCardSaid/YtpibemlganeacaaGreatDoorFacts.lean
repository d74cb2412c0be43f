/-
  What the claims' closed facts say of the whole program.
-/
import Derived.Test.YtpibemlganeacaaGreatDoorRows
import Derived.ProofKit
import Derived.OpenShut
namespace Go.Proofs.YtpibemlganeacaaGreatDoor.facts
open Go.ChangeShapes Go.WideShapes Go.ChangeAt Go.RowKit

theorem mayEnter : Tryz.pinned.checked.prog.mayEnter = true := by kernel_rfl
theorem lifts : Tryz.pinned.checked.prog.liftsFinal = Rows.fnSeeksRow.lifted := eq_of_beq (show (Tryz.pinned.checked.prog.liftsFinal == Rows.fnSeeksRow.lifted) = true by kernel_rfl)
theorem make : Tryz.pinned.checked.prog.make = some Rows.fnSeeksRow.make := eq_of_beq (show (Tryz.pinned.checked.prog.make == some Rows.fnSeeksRow.make) = true by kernel_rfl)

end Go.Proofs.YtpibemlganeacaaGreatDoor.facts
