/-
  Contracts of LinkMore and LinkOf, spec's and impl's.
-/
import Derived.Test.YtpibemlganeacaaGreatDoorHdQ
import Derived.Test.YtpibemlganeacaaGreatDoorStrQ
namespace Go.Proofs.YtpibemlganeacaaGreatDoor.hd
set_option maxRecDepth 20000
open Go.RowKit
open kit sum num burst

end Go.Proofs.YtpibemlganeacaaGreatDoor.hd
