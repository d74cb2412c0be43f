/-
  Contract of laws.big (whether a drawn slice is too long).
-/
import Derived.Test.YtiehfobcbhgfkaaDoorKit
namespace Go.Proofs.YtiehfobcbhgfkaaDoor.kit
set_option maxRecDepth 20000
open Go.RowKit

theorem chain {w1 W w4 : World} (h : Below w1.heap.size w1 W) (h4 : Below W.heap.size W w4) : Below w1.heap.size w1 w4 := h.trans (h4.mono h.size)

end Go.Proofs.YtiehfobcbhgfkaaDoor.kit
