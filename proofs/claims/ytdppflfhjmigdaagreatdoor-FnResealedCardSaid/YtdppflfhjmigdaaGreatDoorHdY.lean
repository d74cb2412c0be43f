/-
  Contracts of LinkMore and LinkOf, spec's and impl's.
-/
import Derived.Test.YtdppflfhjmigdaaGreatDoorHdQ
import Derived.Test.YtdppflfhjmigdaaGreatDoorStrQ
namespace Go.Proofs.YtdppflfhjmigdaaGreatDoor.hd
set_option maxRecDepth 20000
open Go.RowKit
open kit sum num burst

end Go.Proofs.YtdppflfhjmigdaaGreatDoor.hd
