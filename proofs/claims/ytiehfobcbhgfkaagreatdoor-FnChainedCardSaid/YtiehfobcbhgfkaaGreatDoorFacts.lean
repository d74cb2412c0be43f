/-
  What the claims' closed facts say of the whole program.
-/
import Derived.Test.YtiehfobcbhgfkaaGreatDoorRows
import Derived.ProofKit
import Derived.OpenShut
namespace Go.Proofs.YtiehfobcbhgfkaaGreatDoor.facts
open Go.ChangeShapes Go.WideShapes Go.ChangeAt Go.RowKit

theorem mayEnter : Tryz.pinned.checked.prog.mayEnter = true := by kernel_rfl
theorem lifts : Tryz.pinned.checked.prog.liftsFinal = Rows.fnRowsRow.lifted := eq_of_beq (show (Tryz.pinned.checked.prog.liftsFinal == Rows.fnRowsRow.lifted) = true by kernel_rfl)
theorem make : Tryz.pinned.checked.prog.make = some Rows.fnRowsRow.make := eq_of_beq (show (Tryz.pinned.checked.prog.make == some Rows.fnRowsRow.make) = true by kernel_rfl)

end Go.Proofs.YtiehfobcbhgfkaaGreatDoor.facts
