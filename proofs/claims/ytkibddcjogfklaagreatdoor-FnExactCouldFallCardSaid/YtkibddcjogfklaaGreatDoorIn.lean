/-
  Contract of spec.l01In.
-/
import Derived.Test.YtkibddcjogfklaaGreatDoorKit
namespace Go.Proofs.YtkibddcjogfklaaGreatDoor.kit
open Go.RowKit

theorem in_yes (x least most : Int) (w : World) (h1 : least ≤ x) (h2 : x ≤ most) :
    Calls Tryz.prog 30 #[.int .i64 x, .int .i64 least, .int .i64 most] w fun e w' => e = .returned (.bool true) ∧ w = w' := by
  go_enter Tryz.func30, Tryz.ntmps30
  go_wp2
  go_ret
  exact ⟨rfl, rfl⟩
theorem in_no (x least most : Int) (w : World) (h : x < least ∨ most < x) :
    Calls Tryz.prog 30 #[.int .i64 x, .int .i64 least, .int .i64 most] w fun e w' => e = .returned (.bool false) ∧ w = w' := by
  by_cases h1 : x < least
  · clear h
    go_enter Tryz.func30, Tryz.ntmps30
    go_wp2
    go_ret
    exact ⟨rfl, rfl⟩
  · have h2 : most < x := by omega
    have hd : decide (x ≤ most) = false := by simp; omega
    clear h
    go_enter Tryz.func30, Tryz.ntmps30
    go_wp2
    go_ret
    exact ⟨rfl, rfl⟩

end Go.Proofs.YtkibddcjogfklaaGreatDoor.kit
