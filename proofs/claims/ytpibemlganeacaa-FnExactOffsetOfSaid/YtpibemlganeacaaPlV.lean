/-
  Contracts of spec.TrailerText and ReadTrailer.
-/
import Derived.Test.YtpibemlganeacaaPlP
import Derived.Test.YtpibemlganeacaaFrP
import Derived.Test.YtpibemlganeacaaHdA
namespace Go.Proofs.Ytpibemlganeacaa.pl
set_option maxRecDepth 20000
open Go.RowKit
open kit sum num burst hd fr recs sc

def trGo (s : ByteArray) : List Int → ByteArray
  | [] => s ++ idx
  | x :: xs => if fxI x 4 = nul then nul else trGo (s ++ fxI x 4) xs
theorem trGo_bad {s : ByteArray} {x : Int} {xs : List Int} (h : fxI x 4 = nul) : trGo s (x :: xs) = nul := if_pos h
theorem trGo_next {s : ByteArray} {x : Int} {xs : List Int} (h : ¬ fxI x 4 = nul) : trGo s (x :: xs) = trGo (s ++ fxI x 4) xs := if_neg h
theorem trGo_all (a b c d : Int) : trGo nul [a, b, c, d] = trT a b c d := by
  by_cases h1 : fxI a 4 = nul
  · rw [trGo_bad h1, trT_no (.inl h1)]
  · by_cases h2 : fxI b 4 = nul
    · rw [trGo_next h1, trGo_bad h2, trT_no (.inr (.inl h2))]
    · by_cases h3 : fxI c 4 = nul
      · rw [trGo_next h1, trGo_next h2, trGo_bad h3, trT_no (.inr (.inr (.inl h3)))]
      · by_cases h4 : fxI d 4 = nul
        · rw [trGo_next h1, trGo_next h2, trGo_next h3, trGo_bad h4, trT_no (.inr (.inr (.inr h4)))]
        · rw [trGo_next h1, trGo_next h2, trGo_next h3, trGo_next h4, trT_yes (fun h => h.elim h1 fun h => h.elim h2 fun h => h.elim h3 h4)]
          show nul ++ _ ++ _ ++ _ ++ _ ++ idx = _
          rw [show nul ++ fxI a 4 = fxI a 4 from ByteArray.empty_append]
theorem drop_at {xs : List Int} {k : Nat} {x : Int} (h : xs[k]? = some x) : xs.drop k = x :: xs.drop (k + 1) := by
  rw [List.drop_eq_getElem_cons (List.getElem?_eq_some_iff.1 h).1, (List.getElem?_eq_some_iff.1 h).2]
theorem specFixL (n : Int) (w : World) : Calls Try.prog 38 #[.int .i64 n, .int .i64 4] w fun e w' => e = .returned (.string (fxI n 4)) ∧ Below w.heap.size w w' := specFix_any n 4 w

/-- what is answered of a trailer -/
def rtR : Option (Nat × Nat × Nat × Nat) → Value
  | none => .tuple #[.int .i64 0, .int .i64 0, .int .i64 0, .int .i64 0, .bool false]
  | some x => .tuple #[.int .i64 (x.1 : Int), .int .i64 (x.2.1 : Int), .int .i64 (x.2.2.1 : Int), .int .i64 (x.2.2.2 : Int), .bool true]
theorem rf4 (b : ByteArray) (a : Nat) (h : a + 4 ≤ b.size) : rfAt b (a : Int) 4 = .tuple #[.int .i64 ((valF b a 4 : Nat) : Int), .bool true] := rfAt_in b a 4 (by omega) (by omega) h (below8 b a 4 (by omega))

theorem results_tmp5 {fn : Func} {t u v x y : Tmp} (h : fn.results = #[.tmp t, .tmp u, .tmp v, .tmp x, .tmp y]) (tmps : Array Value) (P : Program) (w : World) :
    (results fn tmps).run P w = .ok (.tuple #[tmps.getD t undef, tmps.getD u undef, tmps.getD v undef, tmps.getD x undef, tmps.getD y undef]) w := by
  simp [results, h]
theorem idx_list : idx.toList = [73, 68, 88, 33] := by rw [ByteArray.toList_eq]; rfl

end Go.Proofs.Ytpibemlganeacaa.pl

namespace Go.Proofs.Ytpibemlganeacaa.pl
set_option maxRecDepth 20000
open Go.RowKit
open kit sum num burst hd fr recs sc

theorem plFrom_wf (s : Nat) (os : List Int) : ∀ i, i + os.length ≤ 1000000000 → (∀ o ∈ os, i64 o) → wfP (plFrom s i os) := by
  induction os with
  | nil => intro i _ _ e he; cases he
  | cons o os ih =>
    intro i hi hw
    rw [List.length_cons] at hi
    have h2 := ih (i + 1) (by omega) fun x hx => hw x (List.mem_cons_of_mem _ hx)
    by_cases hm : i % s = 0
    · rw [show plFrom s i (o :: os) = ((i : Int), o) :: plFrom s (i + 1) os from if_pos hm]
      intro e he
      rcases List.mem_cons.1 he with rfl | he
      · exact ⟨by unfold i64; show -9223372036854775808 ≤ (i : Int) ∧ (i : Int) ≤ 9223372036854775807; omega, hw o (List.mem_cons_self ..)⟩
      · exact h2 e he
    · rw [show plFrom s i (o :: os) = plFrom s (i + 1) os from if_neg hm]
      exact h2
theorem plN_wf {s : Int} {os : List Int} (hl : os.length ≤ 1000000000) (hw : ∀ o ∈ os, i64 o) : wfP (plN s os) := by
  unfold plN
  split
  · exact plFrom_wf _ _ 0 (by omega) hw
  · intro e he; cases he
theorem OwnP.form {B : Nat} {w : World} {v : Value} {xs : List Plc} (h : OwnP B w v xs) : ∃ a c, v = .slice a xs.length c ∧ AtP w a xs.length xs := by
  obtain ⟨a, c, rfl, _, _⟩ := own_shape h
  exact ⟨a, c, rfl, AtP.of_own h⟩

end Go.Proofs.Ytpibemlganeacaa.pl
