/-
  The laws' helpers on places that a call handed back.
-/
import Derived.Test.YtpibemlganeacaaGreatDoorPlH
import Derived.Test.YtpibemlganeacaaGreatDoorBox
import Derived.Test.YtpibemlganeacaaGreatDoorPlL
import Derived.Test.YtpibemlganeacaaGreatDoorInts
import Derived.Test.YtpibemlganeacaaGreatDoorBig
namespace Go.Proofs.YtpibemlganeacaaGreatDoor.pl
set_option maxRecDepth 20000
open Go.RowKit
open kit sum num burst hd fr recs sc

theorem OwnP.formP {B : Nat} {w : World} {v : Value} {xs : List Plc} (h : OwnP B w v xs) :
    ∃ a c, v = .slice a xs.length c ∧ xs.length ≤ maxLen ∧ AtP w a xs.length xs ∧ ((xs = [] ∧ a = none) ∨ ∃ g, a = some ⟨g, 0, none⟩ ∧ g < w.heap.size) := by
  have h' : w.ownsRow B 36 2 v xs.length (cellsP xs) := h
  have h2 := h'.2
  rcases h2 with ⟨rfl, h0⟩ | ⟨g, cap, cur, rfl, hB, hg, hn, hcm, _⟩
  · have e : xs = [] := List.length_eq_zero_iff.1 h0
    subst e
    exact ⟨none, 0, rfl, by decide, AtP.of_own h', .inl ⟨rfl, rfl⟩⟩
  · exact ⟨_, cap, rfl, Nat.le_trans hn hcm, AtP.of_own h', .inr ⟨g, rfl, (Array.getElem?_eq_some_iff.1 hg).1⟩⟩
theorem OwnP.lt {B : Nat} {w : World} {v : Value} {xs : List Plc} (h : OwnP B w v xs) : ∀ g, v.ownBlock = some g → B ≤ g ∧ g < w.heap.size := fun g hg => own_block_ge h g hg
theorem OwnP.apart {w w' : World} {B B' : Nat} {u v : Value} {xs ys : List Plc} (hu : OwnP B w u xs) (hv : OwnP B' w' v ys) (h : w.heap.size ≤ B') : u.ownBlock = none ∨ u.ownBlock ≠ v.ownBlock := by
  cases h1 : u.ownBlock with
  | none => exact .inl rfl
  | some g =>
    refine .inr fun h2 => ?_
    have a := (hu.lt g h1).2
    have b := (hv.lt g h2.symm).1
    omega

end Go.Proofs.YtpibemlganeacaaGreatDoor.pl
