/-
  Contract of spec.l01In.
-/
import Derived.Test.YtideejpopneplaaKit
namespace Go.Proofs.Ytideejpopneplaa.kit
set_option maxRecDepth 20000
open Go.RowKit

theorem in_yes (x least most : Int) (w : World) (h1 : least ≤ x) (h2 : x ≤ most) :
    Calls Try.prog 71 #[.int .i64 x, .int .i64 least, .int .i64 most] w fun e w' => e = .returned (.bool true) ∧ w = w' := by
  go_enter Try.func71, Try.ntmps71
  go_wp2
  go_ret
  exact ⟨rfl, rfl⟩
theorem in_no (x least most : Int) (w : World) (h : x < least ∨ most < x) :
    Calls Try.prog 71 #[.int .i64 x, .int .i64 least, .int .i64 most] w fun e w' => e = .returned (.bool false) ∧ w = w' := by
  by_cases h1 : x < least
  · clear h
    go_enter Try.func71, Try.ntmps71
    go_wp2
    go_ret
    exact ⟨rfl, rfl⟩
  · have h2 : most < x := by omega
    have hd : decide (x ≤ most) = false := by simp; omega
    clear h
    go_enter Try.func71, Try.ntmps71
    go_wp2
    go_ret
    exact ⟨rfl, rfl⟩

end Go.Proofs.Ytideejpopneplaa.kit
