/-
  All of impl's sums together, in any world: nothing lies at the package's level.
-/
import Derived.Test.YtkhkohbgiipbbaaSumJoin
import Derived.Test.YtkhkohbgiipbbaaSumU
namespace Go.Proofs.Ytkhkohbgiipbbaa.sum
open Go.RowKit
open kit

theorem ret_of {n : Nat} {w : World} {e : Ending} {w' : World} (h : e = .returned (.int .i64 (n : Int)) ∧ w = w') : Ret n w e w' := by
  obtain ⟨rfl, rfl⟩ := h
  exact ⟨rfl, Below.refl _ _⟩

theorem impl : Impl (fun _ => True) where
  keep := fun _ _ _ _ => trivial
  byte := fun s b w _ => (implByte_any s b w).mono fun _ _ h => ret_of h
  more := fun s t w hm _ => (implMore_any s t w hm).mono fun _ _ h => ret_of h
  all := fun t w hm _ => (implOf_any t w hm).mono fun _ _ h => ret_of h
  tab := fun i w _ => (implAt_any i w).mono fun _ _ h => ret_of h
  tabSum := fun s t w hm _ => implTSum_any s t w hm
  shift := fun s n w _ => (implShift_any s n w).mono fun _ _ h => ret_of h
  joined := fun a b n w _ => (implJoined_any a b n w).mono fun _ _ h => ret_of h

end Go.Proofs.Ytkhkohbgiipbbaa.sum
