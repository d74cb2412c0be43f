/-
  Contract of spec.l01In.
-/
import Derived.Test.YtnhcianahmfdhaaKit
namespace Go.Proofs.Ytnhcianahmfdhaa.kit
open Go.RowKit

end Go.Proofs.Ytnhcianahmfdhaa.kit
