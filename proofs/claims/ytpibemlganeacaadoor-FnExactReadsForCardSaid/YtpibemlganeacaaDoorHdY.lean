/-
  Contracts of LinkMore and LinkOf, spec's and impl's.
-/
import Derived.Test.YtpibemlganeacaaDoorHdQ
import Derived.Test.YtpibemlganeacaaDoorStrQ
namespace Go.Proofs.YtpibemlganeacaaDoor.hd
set_option maxRecDepth 20000
open Go.RowKit
open kit sum num burst

end Go.Proofs.YtpibemlganeacaaDoor.hd
