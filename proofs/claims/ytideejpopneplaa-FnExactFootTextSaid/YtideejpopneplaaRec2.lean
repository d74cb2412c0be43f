/-
  Plain facts on rows of structs of two cells.
-/
import Derived.Test.YtideejpopneplaaRec
namespace Go.Proofs.Ytideejpopneplaa.recs
set_option maxRecDepth 20000
open Go.RowKit
open kit strs

theorem made2p (x y : Value) (n : Nat) : (madeCells #[x, y] (n * 2)).toList = (List.replicate n [x, y]).flatten := by
  apply List.ext_getElem?
  intro j
  induction n generalizing j with
  | zero => simp [madeCells]
  | succ n ih =>
    rw [List.replicate_succ, List.flatten_cons]
    match j with
    | 0 => simp [madeCells, show 0 < (n + 1) * 2 by omega]
    | 1 => simp [madeCells, show 1 < (n + 1) * 2 by omega]
    | j + 2 =>
      have := ih j
      simp only [List.cons_append, List.nil_append, List.getElem?_cons_succ]
      rw [← this]
      by_cases hj : j < n * 2
      · simp [madeCells, hj, show j + 2 < (n + 1) * 2 by omega]
      · simp [madeCells, hj, show ¬ j + 2 < (n + 1) * 2 by omega]
theorem fill_set2 {α : Type} (xs : List α) (z x : α) (n k : Nat) (hl : xs.length = n) (h : k < n) (hx : xs[k]? = some x) : (xs.take k ++ List.replicate (n - k) z).set k x = xs.take (k + 1) ++ List.replicate (n - (k + 1)) z := by
  obtain ⟨m, hm⟩ : ∃ m, n - k = m + 1 := ⟨n - k - 1, by omega⟩
  have hm2 : n - (k + 1) = m := by omega
  rw [List.set_append_right _ _ (by rw [List.length_take]; omega), List.length_take, Nat.min_eq_left (by omega), Nat.sub_self, hm, hm2, List.replicate_succ, List.set_cons_zero, List.take_add_one, hx]
  simp
theorem part_set2 {α : Type} (ms ms' xs : List α) (x : α) (n j : Nat) (hm : ms.length = j) (hm' : ms' = ms ++ [x]) (hl : xs.length = n) (h : j < n) : (ms ++ xs.drop j).set j x = ms' ++ xs.drop (j + 1) := by
  subst hm'
  rw [List.set_append_right _ _ (by omega), hm, Nat.sub_self, List.drop_eq_getElem_cons (by omega), List.set_cons_zero]
  simp

end Go.Proofs.Ytideejpopneplaa.recs
