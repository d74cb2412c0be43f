/-
  Contracts of the laws' own helpers over lists of numbers: toIntS, eqIntS, markIntS, heldIntS.
-/
import Derived.Test.YtpibemlganeacaaGreatDoorKit
import Derived.Deep.QuietTactic
import Derived.BigQuiet
import Derived.Laws.OwnMore
import Derived.WalkSmall
namespace Go.Proofs.YtpibemlganeacaaGreatDoor.ints
set_option maxRecDepth 20000
open Go.RowKit
open kit

/-- a slice that holds these numbers -/
def At (w : World) (a : Option Addr) (n : Nat) (xs : List Int) : Prop :=
  xs.length = n ∧ (n = 0 ∨ ∃ b off, a = some ⟨b, off, none⟩ ∧ b < w.heap.size ∧ ∀ j x, xs[j]? = some x → w.cell? ⟨b, off + j, none⟩ = some (.int .i64 x))
theorem At.below {w w' : World} {a : Option Addr} {n : Nat} {xs : List Int} (h : At w a n xs) (hb : Below w.heap.size w w') : At w' a n xs :=
  ⟨h.1, h.2.imp id fun ⟨b, off, h1, h2, h3⟩ => ⟨b, off, h1, Nat.lt_of_lt_of_le h2 hb.size, fun j x hx => (hb.cell (p := ⟨b, off + j, none⟩) h2).trans (h3 j x hx)⟩⟩
theorem At.of_own {w : World} {B : Nat} {a : Option Addr} {n c : Nat} {xs : List Int} (h : w.ownsRow B 3 1 (.slice a n c) n (xs.map (Value.int .i64))) : At w a n xs := by
  obtain ⟨a', c', e, hl, _, h1⟩ := own_form h
  injection e with e1 e2 e3
  subst e1
  refine ⟨by simpa using hl, h1.imp id fun ⟨g, h1, _, h3, h4, _⟩ => ⟨g, 0, h1, h3, fun j x hx => ?_⟩⟩
  have hj : j < n := by have := (List.getElem?_eq_some_iff.1 hx).1; simp at hl; omega
  rw [Nat.zero_add, h4 j hj, List.getElem?_map, hx]
  rfl

theorem Tryz.infoInt : (Tryz.prog.info? 3).map (fun i => (i.zero, i.size, i.bytes)) = some (some (.int .i64 0), 1, 8) := by kernel_rfl

/-! ### equal lists -/
theorem decide_ne {a b : Nat} (h : a ≠ b) : decide (a = b) = false := by simp [h]

/-! ### a copy -/
/-! ### marks -/
def marks (k n : Nat) : List Int := (List.range n).map fun i => ((k + i : Nat) : Int)
theorem marks_length (k n : Nat) : (marks k n).length = n := by simp [marks]
theorem marks_at (k n i : Nat) (h : i < n) : (marks k n)[i]? = some (((k + i : Nat) : Int)) := by simp [marks, h]
def rowM (k : Nat) (xs : List Int) (j : Nat) : List Int := marks k j ++ xs.drop j
theorem rowM_length (k n : Nat) (xs : List Int) (j : Nat) (hl : xs.length = n) (h : j ≤ n) : (rowM k xs j).length = n := by simp [rowM, marks_length]; omega
theorem rowM_set (k n : Nat) (xs : List Int) (j : Nat) (hl : xs.length = n) (h : j < n) :
    ((rowM k xs j).map (Value.int .i64)).set j (.int .i64 ((k + j : Nat) : Int)) = (rowM k xs (j + 1)).map (Value.int .i64) := by
  have e : marks k (j + 1) = marks k j ++ [((k + j : Nat) : Int)] := by simp [marks, List.range_succ]
  unfold rowM
  rw [e, ← List.map_set, List.set_append_right _ _ (by rw [marks_length]; exact Nat.le_refl _), marks_length, Nat.sub_self]
  obtain ⟨x, r, hx⟩ : ∃ x r, xs.drop j = x :: r := by
    cases hd : xs.drop j with
    | nil => have := congrArg List.length hd; simp at this; omega
    | cons x r => exact ⟨x, r, rfl⟩
  have hr : xs.drop (j + 1) = r := by rw [← List.drop_drop, hx]; rfl
  rw [hx, hr, List.set_cons_zero]
  simp

end Go.Proofs.YtpibemlganeacaaGreatDoor.ints
