/-
  Contract of spec.l10Frames: how long its text may be.
-/
import Derived.Test.YtideejpopneplaaScP
import Derived.Test.YtideejpopneplaaLater
import Derived.BigQuiet
namespace Go.Proofs.Ytideejpopneplaa.sc
set_option maxRecDepth 20000
open Go.RowKit
open kit sum num burst hd fr

end Go.Proofs.Ytideejpopneplaa.sc
