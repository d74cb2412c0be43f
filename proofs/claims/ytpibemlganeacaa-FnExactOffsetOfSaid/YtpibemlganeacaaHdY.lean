/-
  Contracts of LinkMore and LinkOf, spec's and impl's.
-/
import Derived.Test.YtpibemlganeacaaHdQ
import Derived.Test.YtpibemlganeacaaStrQ
namespace Go.Proofs.Ytpibemlganeacaa.hd
set_option maxRecDepth 20000
open Go.RowKit
open kit sum num burst

end Go.Proofs.Ytpibemlganeacaa.hd
