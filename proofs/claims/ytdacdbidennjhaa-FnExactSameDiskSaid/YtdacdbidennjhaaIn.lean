/-
  Contract of spec.l01In.
-/
import Derived.Test.YtdacdbidennjhaaKit
namespace Go.Proofs.Ytdacdbidennjhaa.kit
open Go.RowKit

end Go.Proofs.Ytdacdbidennjhaa.kit
