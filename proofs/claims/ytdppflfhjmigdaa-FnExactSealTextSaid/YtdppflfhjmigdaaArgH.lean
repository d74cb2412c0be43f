/-
  Arguments, as what they are: heads (four numbers).
-/
import Derived.Test.YtdppflfhjmigdaaArg
import Derived.OpenShut
import Derived.ShutString
import Derived.SliceStrings
import Derived.ChangeOld
import Derived.Deep.Slices
import Derived.Deep.Strs
namespace Go.Proofs.Ytdppflfhjmigdaa.argv
set_option maxRecDepth 20000
open Go.ChangeShapes Go.WideShapes Go.RowKit

section
variable {H : Type} {enc : TypeId × Value → H} {w : World} {spare : Nat → Bool} {held : Bool}
theorem fieldOne {P : Program} {fs : Array Field} {n : Nat} {cs : List Value} {xs : List (DataW H × List MemPlace)} (hg : ∀ (i : Nat) (f : Field), fs[i]? = some f → DataW.trod enc P w 0 spare held n f.type ((cs.drop f.offset).take (P.cellsOf f.type)) = xs[i]?)
    (i : Nat) (f : Field) (hf : fs[i]? = some f) (ho : f.offset = i) (hc : P.cellsOf f.type = 1) (c : Value) (hcs : cs[i]? = some c) : DataW.trod enc P w 0 spare held n f.type [c] = xs[i]? := by
  have h := hg i f hf
  obtain ⟨h1, h2⟩ := List.getElem?_eq_some_iff.1 hcs
  rw [ho, hc, List.drop_eq_getElem_cons h1, h2] at h
  exact h
set_option maxRecDepth 1000000 in
theorem rd_H {r : Reach} {b0 : Nat} {v : Value} {d : DataW H} {p : List MemPlace} (hv : Value.okWide Try.prog w r b0 23 v) (h : DataW.Trod enc Try.prog w 0 spare held 23 v d p) :
    ∃ x0 x1 x2 x3 : Int, v = .agg #[.int .i64 x0, .int .i64 x1, .int .i64 x2, .int .i64 x3] ∧ wfI x0 ∧ wfI x1 ∧ wfI x2 ∧ wfI x3 := by
  obtain ⟨cs, rfl, hsz⟩ := okWide_struct Try.underlying23 hv
  have h4 : Try.prog.cellsOf 23 = 4 := by kernel_rfl
  rw [h4] at hsz
  obtain ⟨l⟩ := cs
  match l, hsz with
  | [c0, c1, c2, c3], _ =>
    obtain ⟨fuel, hf⟩ := h
    obtain ⟨xs, n, _, _, _, hlen, hg⟩ := DataW.trod_struct Try.underlying23 hf
    match xs, hlen with
    | [y0, y1, y2, y3], _ =>
      have e3 : Try.prog.cellsOf 3 = 1 := by kernel_rfl
      have g0 : DataW.trod enc Try.prog w 0 spare held n 3 [c0] = some y0 := fieldOne hg 0 _ rfl rfl e3 c0 rfl
      have g1 : DataW.trod enc Try.prog w 0 spare held n 3 [c1] = some y1 := fieldOne hg 1 _ rfl rfl e3 c1 rfl
      have g2 : DataW.trod enc Try.prog w 0 spare held n 3 [c2] = some y2 := fieldOne hg 2 _ rfl rfl e3 c2 rfl
      have g3 : DataW.trod enc Try.prog w 0 spare held n 3 [c3] = some y3 := fieldOne hg 3 _ rfl rfl e3 c3 rfl
      obtain ⟨r0, q0, _, w0⟩ := DataW.trod_int Try.underlying3 g0
      obtain ⟨r1, q1, _, w1⟩ := DataW.trod_int Try.underlying3 g1
      obtain ⟨r2, q2, _, w2⟩ := DataW.trod_int Try.underlying3 g2
      obtain ⟨r3, q3, _, w3⟩ := DataW.trod_int Try.underlying3 g3
      simp only [List.cons.injEq, and_true] at q0 q1 q2 q3
      subst q0 q1 q2 q3
      exact ⟨r0, r1, r2, r3, rfl, wfI_of w0, wfI_of w1, wfI_of w2, wfI_of w3⟩
end

end Go.Proofs.Ytdppflfhjmigdaa.argv
