/-
  A slice of places among the arguments, as data.
-/
import Derived.Test.YtpibemlganeacaaGreatDoorPlP
import Derived.Test.YtpibemlganeacaaGreatDoorRecW
namespace Go.Proofs.YtpibemlganeacaaGreatDoor.pl
set_option maxRecDepth 20000
open Go.ChangeShapes Go.WideShapes Go.RowKit Go.Deep
open kit sum num burst hd fr recs

theorem cellsP_inv : ∀ (xs : List Plc) (j : Nat) (x : Value), (cellsP xs)[j]? = some x → ∃ e, xs[j / 2]? = some e ∧ ([.int .i64 e.1, .int .i64 e.2] : List Value)[j % 2]? = some x
  | [], j, x, h => by simp [cellsP] at h
  | e :: r, 0, x, h => ⟨e, rfl, by rw [cellsP_cons] at h; simpa using h⟩
  | e :: r, 1, x, h => ⟨e, rfl, by rw [cellsP_cons] at h; simpa using h⟩
  | e :: r, j + 2, x, h => by
    rw [cellsP_cons] at h
    obtain ⟨e', h1, h2⟩ := cellsP_inv r j x (by simpa using h)
    exact ⟨e', by rw [show (j + 2) / 2 = j / 2 + 1 by omega]; simpa using h1, by rw [show (j + 2) % 2 = j % 2 by omega]; exact h2⟩
section
variable {H : Type} {enc : TypeId × Value → H} {P : Program} {w : World} {spare : Nat → Bool} {held : Bool}
theorem rd_P {t e : TypeId} {f0 f1 : Field} {fuel : Nat} {cs : List Value} {x : DataW H × List MemPlace} (ht : P.underlying t = some (.slice e)) (he : P.underlying e = some (.struct #[f0, f1])) (hc : P.cellsOf e = 2) (o0 : f0.offset = 0) (o1 : f1.offset = 1)
    (c0 : P.cellsOf f0.type = 1) (c1 : P.cellsOf f1.type = 1) (u0 : P.underlying f0.type = some (.int .i64)) (u1 : P.underlying f1.type = some (.int .i64))
    (h : DataW.trod enc P w 0 spare held fuel t cs = some x) : ∃ a n c xs, cs = [.slice a n c] ∧ n ≤ maxLen ∧ AtP w a n xs ∧ wfP xs := by
  obtain ⟨a, len, cap, m, C, rfl, hm, hcell, hC⟩ := open_cells ht hc (by decide) h
  have hex : ∀ i, i < len → ∃ y : Plc, C i = [.int .i64 y.1, .int .i64 y.2] ∧ i64 y.1 ∧ i64 y.2 := by
    intro i hi
    obtain ⟨hl, z, hz⟩ := hC i hi
    obtain ⟨y0, y1, n, _, _, g0, g1⟩ := trod_struct2 he hz
    rw [o0, c0] at g0
    rw [o1, c1] at g1
    obtain ⟨s, e0, _, w0⟩ := DataW.trod_int u0 g0
    obtain ⟨b, e1, _, w1⟩ := DataW.trod_int u1 g1
    match hCi : C i, hl with
    | [p, q], _ =>
      rw [hCi] at e0 e1
      simp at e0 e1
      subst e0 e1
      exact ⟨(s, b), rfl, recs.wfI_of w0, recs.wfI_of w1⟩
  obtain ⟨f, hf⟩ := choose_lt hex
  refine ⟨a, len, cap, (List.range len).map f, rfl, hm, ⟨by rw [cellsP_len]; simp, ?_⟩, ?_⟩
  · refine hcell.imp id fun ⟨b, off, h1, h2, h3⟩ => ⟨b, off, h1, h2, fun j y hj => ?_⟩
    obtain ⟨en, hen, hy⟩ := cellsP_inv _ _ _ hj
    have hk : j / 2 < len := by have := (List.getElem?_eq_some_iff.1 hen).1; simpa using this
    have e2 : f (j / 2) = en := by rw [List.getElem?_map, List.getElem?_range hk] at hen; simpa using hen
    have := h3 (j / 2) hk (j % 2) y (by rw [(hf (j / 2) hk).1, e2]; exact hy)
    rwa [show j / 2 * 2 + j % 2 = j by omega] at this
  · intro en hen
    obtain ⟨i, hi, rfl⟩ := List.mem_map.1 hen
    exact (hf i (by simpa using hi)).2
end

end Go.Proofs.YtpibemlganeacaaGreatDoor.pl
