/-
  Arguments, as what they are: numbers.
-/
import Derived.Test.YtiehfobcbhgfkaaDoorKit
namespace Go.Proofs.YtiehfobcbhgfkaaDoor.argv
set_option maxRecDepth 20000

def wfI (x : Int) : Prop := -9223372036854775808 ≤ x ∧ x ≤ 9223372036854775807
theorem wfI_of {x : Int} (h : (Lit.int .i64 x).wf = true) : wfI x := by
  have e1 : IntKind.i64.min = -9223372036854775808 := rfl
  have e2 : IntKind.i64.max = 9223372036854775807 := rfl
  simpa [Lit.wf, e1, e2, wfI] using h

end Go.Proofs.YtiehfobcbhgfkaaDoor.argv
