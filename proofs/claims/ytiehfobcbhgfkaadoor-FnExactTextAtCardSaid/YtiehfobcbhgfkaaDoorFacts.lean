/-
  What the claims' closed facts say of the whole program.
-/
import Derived.Test.YtiehfobcbhgfkaaDoorRows
import Derived.ProofKit
import Derived.OpenShut
namespace Go.Proofs.YtiehfobcbhgfkaaDoor.facts
open Go.ChangeShapes Go.WideShapes Go.ChangeAt Go.RowKit

theorem mayEnter : Tryd.pinned.checked.prog.mayEnter = true := by kernel_rfl
theorem lifts : Tryd.pinned.checked.prog.liftsFinal = Rows.fnExactTextAtRow.lifted := eq_of_beq (show (Tryd.pinned.checked.prog.liftsFinal == Rows.fnExactTextAtRow.lifted) = true by kernel_rfl)
theorem make : Tryd.pinned.checked.prog.make = some Rows.fnExactTextAtRow.make := eq_of_beq (show (Tryd.pinned.checked.prog.make == some Rows.fnExactTextAtRow.make) = true by kernel_rfl)

end Go.Proofs.YtiehfobcbhgfkaaDoor.facts
