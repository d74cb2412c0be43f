/-
  Contracts of LinkMore and LinkOf, spec's and impl's.
-/
import Derived.Test.YtiehfobcbhgfkaaDoorHdQ
import Derived.Test.YtiehfobcbhgfkaaDoorStrQ
namespace Go.Proofs.YtiehfobcbhgfkaaDoor.hd
set_option maxRecDepth 20000
open Go.RowKit
open kit sum num burst

end Go.Proofs.YtiehfobcbhgfkaaDoor.hd
