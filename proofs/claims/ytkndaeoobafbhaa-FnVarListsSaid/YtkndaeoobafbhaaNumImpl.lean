/-
  What impl answers (the landed code), as the laws' walks ask for it.
-/
import Derived.Test.YtkndaeoobafbhaaNumL
import Derived.Test.YtkndaeoobafbhaaNumS
namespace Go.Proofs.Ytkndaeoobafbhaa.num
open Go.RowKit
open kit

theorem postR_of {v : Value} {w : World} {e : Ending} {w' : World} (h : e = .returned v ∧ w = w') : PostR v w e w' := by
  obtain ⟨rfl, rfl⟩ := h
  exact ⟨rfl, Below.refl _ _⟩
theorem impl : Impl (fun _ => True) where
  keep := fun _ _ _ _ => trivial
  text := fun n w _ => implVar_any n w
  read := fun b a w hm _ => (implRead_any b a w hm).mono fun _ _ h => postR_of h
  fix := fun n k w _ => implFix_any n k w
  rfix := fun b a k w hm _ => (implRf_any b a k w hm).mono fun _ _ h => postR_of h
  size := fun n w _ => (implSize_any n w).mono fun _ _ h => postR_of h
  list := fun a c n xs w hm ha _ => implList_any a c n xs w hm ha
  vars := fun b a w hm _ => implVars_any b a w hm

end Go.Proofs.Ytkndaeoobafbhaa.num
