/-
  What the claims' closed facts say of the whole program.
-/
import Derived.Test.YtdppflfhjmigdaaDoorRows
import Derived.ProofKit
import Derived.OpenShut
namespace Go.Proofs.YtdppflfhjmigdaaDoor.facts
open Go.ChangeShapes Go.WideShapes Go.ChangeAt Go.RowKit

theorem mayEnter : Tryd.pinned.checked.prog.mayEnter = true := by kernel_rfl
theorem lifts : Tryd.pinned.checked.prog.liftsFinal = Rows.fnSealedRow.lifted := eq_of_beq (show (Tryd.pinned.checked.prog.liftsFinal == Rows.fnSealedRow.lifted) = true by kernel_rfl)
theorem make : Tryd.pinned.checked.prog.make = some Rows.fnSealedRow.make := eq_of_beq (show (Tryd.pinned.checked.prog.make == some Rows.fnSealedRow.make) = true by kernel_rfl)

end Go.Proofs.YtdppflfhjmigdaaDoor.facts
