/-
  Contract of spec.l01In.
-/
import Derived.Test.YtbgkdngeingmnaaKit
namespace Go.Proofs.Ytbgkdngeingmnaa.kit
set_option maxRecDepth 20000
open Go.RowKit

theorem in_yes (x least most : Int) (w : World) (h1 : least ≤ x) (h2 : x ≤ most) :
    Calls Try.prog 52 #[.int .i64 x, .int .i64 least, .int .i64 most] w fun e w' => e = .returned (.bool true) ∧ w = w' := by
  go_enter Try.func52, Try.ntmps52
  go_wp2
  go_ret
  exact ⟨rfl, rfl⟩
theorem in_no (x least most : Int) (w : World) (h : x < least ∨ most < x) :
    Calls Try.prog 52 #[.int .i64 x, .int .i64 least, .int .i64 most] w fun e w' => e = .returned (.bool false) ∧ w = w' := by
  by_cases h1 : x < least
  · clear h
    go_enter Try.func52, Try.ntmps52
    go_wp2
    go_ret
    exact ⟨rfl, rfl⟩
  · have h2 : most < x := by omega
    have hd : decide (x ≤ most) = false := by simp; omega
    clear h
    go_enter Try.func52, Try.ntmps52
    go_wp2
    go_ret
    exact ⟨rfl, rfl⟩

end Go.Proofs.Ytbgkdngeingmnaa.kit
