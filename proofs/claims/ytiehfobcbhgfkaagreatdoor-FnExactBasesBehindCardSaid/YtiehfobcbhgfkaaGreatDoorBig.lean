/-
  Contract of laws.big (whether a drawn slice is too long).
-/
import Derived.Test.YtiehfobcbhgfkaaGreatDoorKit
namespace Go.Proofs.YtiehfobcbhgfkaaGreatDoor.kit
set_option maxRecDepth 20000
open Go.RowKit

theorem big_no (a : Option Addr) (len cap : Nat) (w : World) (h : len ≤ 1048576) :
    Calls Tryz.prog 12 #[.slice a len cap] w fun e w' => e = .returned (.bool false) ∧ w = w' := by
  have hd : decide (1048576 < (len : Int)) = false := by simp; omega
  go_enter Tryz.func12, Tryz.ntmps12
  go_wp2
  go_ret
  exact ⟨rfl, rfl⟩
theorem big_yes (a : Option Addr) (len cap : Nat) (w : World) (h : 1048576 < len) :
    Calls Tryz.prog 12 #[.slice a len cap] w fun e w' => e = .returned (.bool true) ∧ w = w' := by
  have hd : decide (1048576 < (len : Int)) = true := by simp; omega
  go_enter Tryz.func12, Tryz.ntmps12
  go_wp2
  go_ret
  exact ⟨rfl, rfl⟩
theorem chain {w1 W w4 : World} (h : Below w1.heap.size w1 W) (h4 : Below W.heap.size W w4) : Below w1.heap.size w1 w4 := h.trans (h4.mono h.size)

end Go.Proofs.YtiehfobcbhgfkaaGreatDoor.kit
