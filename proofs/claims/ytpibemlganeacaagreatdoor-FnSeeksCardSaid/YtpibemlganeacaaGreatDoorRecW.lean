/-
  Slices of entries and of nodes: two that hold the same are equal; copies; how much they are.
-/
import Derived.Test.YtpibemlganeacaaGreatDoorRecQ
import Derived.OpenShut
import Derived.ShutString
import Derived.SliceStrings
import Derived.ChangeOld
import Derived.Deep.Slices
import Derived.Deep.Strs
namespace Go.Proofs.YtpibemlganeacaaGreatDoor.recs
set_option maxRecDepth 20000
open Go.RowKit
open kit strs

/-! ### one element brought over -/
end Go.Proofs.YtpibemlganeacaaGreatDoor.recs

namespace Go.Proofs.YtpibemlganeacaaGreatDoor.recs
set_option maxRecDepth 20000
open Go.RowKit
open kit strs

theorem made2 (x y : Value) (n : Nat) : (madeCells #[x, y] (n * 2)).toList = (List.replicate n [x, y]).flatten := by
  apply List.ext_getElem?
  intro j
  induction n generalizing j with
  | zero => simp [madeCells]
  | succ n ih =>
    rw [List.replicate_succ, List.flatten_cons]
    match j with
    | 0 => simp [madeCells, show 0 < (n + 1) * 2 by omega]
    | 1 => simp [madeCells, show 1 < (n + 1) * 2 by omega]
    | j + 2 =>
      have := ih j
      simp only [List.cons_append, List.nil_append, List.getElem?_cons_succ]
      rw [← this]
      by_cases hj : j < n * 2
      · simp [madeCells, hj, show j + 2 < (n + 1) * 2 by omega]
      · simp [madeCells, hj, show ¬ j + 2 < (n + 1) * 2 by omega]
theorem made3 (x y z : Value) (n : Nat) : (madeCells #[x, y, z] (n * 3)).toList = (List.replicate n [x, y, z]).flatten := by
  apply List.ext_getElem?
  intro j
  induction n generalizing j with
  | zero => simp [madeCells]
  | succ n ih =>
    rw [List.replicate_succ, List.flatten_cons]
    match j with
    | 0 => simp [madeCells, show 0 < (n + 1) * 3 by omega]
    | 1 => simp [madeCells, show 1 < (n + 1) * 3 by omega]
    | 2 => simp [madeCells, show 2 < (n + 1) * 3 by omega]
    | j + 3 =>
      have := ih j
      simp only [List.cons_append, List.nil_append, List.getElem?_cons_succ]
      rw [← this]
      by_cases hj : j < n * 3
      · simp [madeCells, hj, show j + 3 < (n + 1) * 3 by omega]
      · simp [madeCells, hj, show ¬ j + 3 < (n + 1) * 3 by omega]
theorem flatE_zero (n : Nat) : (List.replicate n [Value.string { data := #[] }, .int .i64 0]).flatten = cellsE (List.replicate n (({ data := #[] } : ByteArray), (0 : Int))) := by
  induction n with
  | zero => rfl
  | succ n ih => rw [List.replicate_succ, List.replicate_succ, List.flatten_cons, ih]; rfl
theorem flatN_zero (n : Nat) : (List.replicate n [Value.int .i64 0, .string { data := #[] }, .int .i64 0]).flatten = cellsN (List.replicate n ((0 : Int), ({ data := #[] } : ByteArray), (0 : Int))) := by
  induction n with
  | zero => rfl
  | succ n ih => rw [List.replicate_succ, List.replicate_succ, List.flatten_cons, ih]; rfl
theorem cellsE_set : ∀ (xs : List Ent) (k : Nat) (s : ByteArray) (i : Int), k < xs.length → ((cellsE xs).set (k * 2) (.string s)).set (k * 2 + 1) (.int .i64 i) = cellsE (xs.set k (s, i))
  | [], k, s, i, h => by simp at h
  | e :: r, 0, s, i, h => by simp [cellsE_cons]
  | e :: r, k + 1, s, i, h => by
    rw [List.set_cons_succ, cellsE_cons, cellsE_cons, ← cellsE_set r k s i (by simpa using h), show (k + 1) * 2 = k * 2 + 1 + 1 by omega]
    simp
theorem cellsN_set : ∀ (xs : List Nod) (k : Nat) (i : Int) (s : ByteArray) (j : Int), k < xs.length → (((cellsN xs).set (k * 3) (.int .i64 i)).set (k * 3 + 1) (.string s)).set (k * 3 + 2) (.int .i64 j) = cellsN (xs.set k (i, s, j))
  | [], k, i, s, j, h => by simp at h
  | e :: r, 0, i, s, j, h => by simp [cellsN_cons]
  | e :: r, k + 1, i, s, j, h => by
    rw [List.set_cons_succ, cellsN_cons, cellsN_cons, ← cellsN_set r k i s j (by simpa using h), show (k + 1) * 3 = k * 3 + 1 + 1 + 1 by omega]
    simp
theorem fill_set {α : Type} (xs : List α) (z x : α) (n k : Nat) (hl : xs.length = n) (h : k < n) (hx : xs[k]? = some x) : (xs.take k ++ List.replicate (n - k) z).set k x = xs.take (k + 1) ++ List.replicate (n - (k + 1)) z := by
  obtain ⟨m, hm⟩ : ∃ m, n - k = m + 1 := ⟨n - k - 1, by omega⟩
  have hm2 : n - (k + 1) = m := by omega
  rw [List.set_append_right _ _ (by rw [List.length_take]; omega), List.length_take, Nat.min_eq_left (by omega), Nat.sub_self, hm, hm2, List.replicate_succ, List.set_cons_zero, List.take_add_one, hx]
  simp
/-- one element stored whole into an owned row -/
theorem own_set2 {w : World} {B : Nat} {e : TypeId} {g n c k : Nat} {xs : List Ent} (h : w.ownsRow B e 2 (.slice (some ⟨g, 0, none⟩) n c) n (cellsE xs)) (hk : k < xs.length) (s : ByteArray) (i : Int) :
    ((w.setCell ⟨g, k * 2, none⟩ (.string s)).setCell ⟨g, k * 2 + 1, none⟩ (.int .i64 i)).ownsRow B e 2 (.slice (some ⟨g, 0, none⟩) n c) n (cellsE (xs.set k (s, i))) := by
  have h1 := ((h.stored (k * 2) (.string s)).1.stored (k * 2 + 1) (.int .i64 i)).1
  rwa [cellsE_set xs k s i hk] at h1
theorem own_set3 {w : World} {B : Nat} {e : TypeId} {g n c k : Nat} {xs : List Nod} (h : w.ownsRow B e 3 (.slice (some ⟨g, 0, none⟩) n c) n (cellsN xs)) (hk : k < xs.length) (i : Int) (s : ByteArray) (j : Int) :
    (((w.setCell ⟨g, k * 3, none⟩ (.int .i64 i)).setCell ⟨g, k * 3 + 1, none⟩ (.string s)).setCell ⟨g, k * 3 + 2, none⟩ (.int .i64 j)).ownsRow B e 3 (.slice (some ⟨g, 0, none⟩) n c) n (cellsN (xs.set k (i, s, j))) := by
  have h1 := (((h.stored (k * 3) (.int .i64 i)).1.stored (k * 3 + 1) (.string s)).1.stored (k * 3 + 2) (.int .i64 j)).1
  rwa [cellsN_set xs k i s j hk] at h1

end Go.Proofs.YtpibemlganeacaaGreatDoor.recs

namespace Go.Proofs.YtpibemlganeacaaGreatDoor.recs
set_option maxRecDepth 20000
open Go.RowKit
open kit strs

/-! ### how much -/
/-! ### marks -/
def marksE (k n : Nat) : List Ent := (List.range n).map fun i => (markB (k + 2 * i), ((k + 2 * i + 1 : Nat) : Int))
def marksN (k n : Nat) : List Nod := (List.range n).map fun i => (((k + 3 * i : Nat) : Int), markB (k + 3 * i + 1), ((k + 3 * i + 2 : Nat) : Int))
theorem marksE_at (k n j : Nat) (h : j < n) : (marksE k n)[j]? = some (markB (k + 2 * j), ((k + 2 * j + 1 : Nat) : Int)) := by simp [marksE, h]
theorem marksN_at (k n j : Nat) (h : j < n) : (marksN k n)[j]? = some (((k + 3 * j : Nat) : Int), markB (k + 3 * j + 1), ((k + 3 * j + 2 : Nat) : Int)) := by simp [marksN, h]
theorem marksE_len (k n : Nat) : (marksE k n).length = n := by simp [marksE]
theorem marksN_len (k n : Nat) : (marksN k n).length = n := by simp [marksN]
theorem part_set {α : Type} (ms ms' xs : List α) (x : α) (n j : Nat) (hm : ms.length = j) (hm' : ms' = ms ++ [x]) (hl : xs.length = n) (h : j < n) : (ms ++ xs.drop j).set j x = ms' ++ xs.drop (j + 1) := by
  subst hm'
  rw [List.set_append_right _ _ (by omega), hm, Nat.sub_self, List.drop_eq_getElem_cons (by omega), List.set_cons_zero]
  simp
theorem marksE_snoc (k j : Nat) : marksE k (j + 1) = marksE k j ++ [(markB (k + 2 * j), ((k + 2 * j + 1 : Nat) : Int))] := by simp [marksE, List.range_succ]
theorem marksN_snoc (k j : Nat) : marksN k (j + 1) = marksN k j ++ [(((k + 3 * j : Nat) : Int), markB (k + 3 * j + 1), ((k + 3 * j + 2 : Nat) : Int))] := by simp [marksN, List.range_succ]

end Go.Proofs.YtpibemlganeacaaGreatDoor.recs

namespace Go.Proofs.YtpibemlganeacaaGreatDoor.recs
set_option maxRecDepth 20000
open Go.ChangeShapes Go.WideShapes Go.RowKit Go.Deep
open kit strs

section
variable {H : Type} {enc : TypeId × Value → H} {P : Program} {w : World} {spare : Nat → Bool} {held : Bool}

/-- the cells of a slice of structs, element by element -/
theorem open_cells {t e : TypeId} {size fuel : Nat} {cs : List Value} {x : DataW H × List MemPlace} (ht : P.underlying t = some (.slice e)) (hc : P.cellsOf e = size) (hs : 0 < size) (h : DataW.trod enc P w 0 spare held fuel t cs = some x) :
    ∃ (a : Option Addr) (len cap n : Nat) (C : Nat → List Value), cs = [.slice a len cap] ∧ len ≤ maxLen ∧ (len = 0 ∨ ∃ b off, a = some ⟨b, off, none⟩ ∧ b < w.heap.size ∧ ∀ i, i < len → ∀ j y, (C i)[j]? = some y → w.cell? ⟨b, off + (i * size + j), none⟩ = some y) ∧
      ∀ i, i < len → (C i).length = size ∧ ∃ z, DataW.trod enc P w 0 spare held n e (C i) = some z := by
  rcases open_slice ht h with ⟨rfl, _⟩ | ⟨a, len, cap, m, n, D, Pl, rfl, _, hl, hm, hmm, _, hi⟩
  · exact ⟨none, 0, 0, 0, fun _ => [], rfl, by decide, .inl rfl, fun i hi => absurd hi (Nat.not_lt_zero _)⟩
  · have hle : len ≤ m := by rw [hmm]; split <;> omega
    have hex : ∀ i, i < len → ∃ c : List Value, c.length = size ∧ (∀ j y, c[j]? = some y → w.cell? ((a.add (i * size)).add j) = some y) ∧ ∃ z, DataW.trod enc P w 0 spare held n e c = some z := by
      intro i hil
      obtain ⟨c, hcs, htr⟩ := hi i (by omega)
      rw [hc] at hcs
      obtain ⟨_, hlen, hat⟩ := World.cells?_some hcs
      exact ⟨c, hlen, fun j y hj => (hat j (by rw [← hlen]; exact (List.getElem?_eq_some_iff.1 hj).1)).trans hj, _, htr⟩
    obtain ⟨C, hC⟩ := choose_lt hex
    refine ⟨some a, len, cap, n, C, rfl, by omega, ?_, fun i hi => ⟨(hC i hi).1, (hC i hi).2.2⟩⟩
    by_cases h0 : len = 0
    · exact .inl h0
    obtain ⟨b, off, spot⟩ := a
    have hy0 : (C 0)[0]? = some ((C 0)[0]'(by have := (hC 0 (by omega)).1; omega)) := List.getElem?_eq_getElem _
    have hcell := (hC 0 (by omega)).2.1 0 _ hy0
    have hspot : spot = none := by simpa [Addr.add] using World.cell?_spot hcell
    subst hspot
    have e1 : ∀ k j, ((⟨b, off, none⟩ : Addr).add k).add j = ⟨b, off + (k + j), none⟩ := fun k j => by rw [Go.WideShapes.add_plain, Go.WideShapes.add_plain, Nat.add_assoc]
    rw [e1] at hcell
    exact .inr ⟨b, off, rfl, World.block_lt_of_cell? w _ hcell, fun i hi j y hj => by rw [← e1]; exact (hC i hi).2.1 j y hj⟩

theorem cellsE_inv : ∀ (xs : List Ent) (j : Nat) (x : Value), (cellsE xs)[j]? = some x → ∃ e, xs[j / 2]? = some e ∧ ([.string e.1, .int .i64 e.2] : List Value)[j % 2]? = some x
  | [], j, x, h => by simp [cellsE] at h
  | e :: r, 0, x, h => ⟨e, rfl, by rw [cellsE_cons] at h; simpa using h⟩
  | e :: r, 1, x, h => ⟨e, rfl, by rw [cellsE_cons] at h; simpa using h⟩
  | e :: r, j + 2, x, h => by
    rw [cellsE_cons] at h
    obtain ⟨e', h1, h2⟩ := cellsE_inv r j x (by simpa using h)
    exact ⟨e', by rw [show (j + 2) / 2 = j / 2 + 1 by omega]; simpa using h1, by rw [show (j + 2) % 2 = j % 2 by omega]; exact h2⟩
theorem cellsN_inv : ∀ (xs : List Nod) (j : Nat) (x : Value), (cellsN xs)[j]? = some x → ∃ e, xs[j / 3]? = some e ∧ ([.int .i64 e.1, .string e.2.1, .int .i64 e.2.2] : List Value)[j % 3]? = some x
  | [], j, x, h => by simp [cellsN] at h
  | e :: r, 0, x, h => ⟨e, rfl, by rw [cellsN_cons] at h; simpa using h⟩
  | e :: r, 1, x, h => ⟨e, rfl, by rw [cellsN_cons] at h; simpa using h⟩
  | e :: r, 2, x, h => ⟨e, rfl, by rw [cellsN_cons] at h; simpa using h⟩
  | e :: r, j + 3, x, h => by
    rw [cellsN_cons] at h
    obtain ⟨e', h1, h2⟩ := cellsN_inv r j x (by simpa using h)
    exact ⟨e', by rw [show (j + 3) / 3 = j / 3 + 1 by omega]; simpa using h1, by rw [show (j + 3) % 3 = j % 3 by omega]; exact h2⟩

def wfI (x : Int) : Prop := -9223372036854775808 ≤ x ∧ x ≤ 9223372036854775807
theorem wfI_of {x : Int} (h : (Lit.int .i64 x).wf = true) : wfI x := by
  have i1 : IntKind.i64.min = -9223372036854775808 := rfl
  have i2 : IntKind.i64.max = 9223372036854775807 := rfl
  unfold wfI
  simpa [Lit.wf, i1, i2] using h
def wfE (xs : List Ent) : Prop := ∀ e ∈ xs, e.1.size ≤ maxLen ∧ wfI e.2
def wfN (xs : List Nod) : Prop := ∀ e ∈ xs, wfI e.1 ∧ e.2.1.size ≤ maxLen ∧ wfI e.2.2

theorem rd_E {t e : TypeId} {f0 f1 : Field} {fuel : Nat} {cs : List Value} {x : DataW H × List MemPlace} (ht : P.underlying t = some (.slice e)) (he : P.underlying e = some (.struct #[f0, f1])) (hc : P.cellsOf e = 2) (o0 : f0.offset = 0) (o1 : f1.offset = 1)
    (c0 : P.cellsOf f0.type = 1) (c1 : P.cellsOf f1.type = 1) (u0 : P.underlying f0.type = some .string) (u1 : P.underlying f1.type = some (.int .i64))
    (h : DataW.trod enc P w 0 spare held fuel t cs = some x) : ∃ a n c xs, cs = [.slice a n c] ∧ n ≤ maxLen ∧ AtE w a n xs ∧ wfE xs := by
  obtain ⟨a, len, cap, m, C, rfl, hm, hcell, hC⟩ := open_cells ht hc (by decide) h
  have hex : ∀ i, i < len → ∃ y : Ent, C i = [.string y.1, .int .i64 y.2] ∧ y.1.size ≤ maxLen ∧ wfI y.2 := by
    intro i hi
    obtain ⟨hl, z, hz⟩ := hC i hi
    obtain ⟨y0, y1, n, _, _, g0, g1⟩ := trod_struct2 he hz
    rw [o0, c0] at g0
    rw [o1, c1] at g1
    obtain ⟨s, e0, _, w0⟩ := DataW.trod_string u0 g0
    obtain ⟨b, e1, _, w1⟩ := DataW.trod_int u1 g1
    match hCi : C i, hl with
    | [p, q], _ =>
      rw [hCi] at e0 e1
      simp at e0 e1
      subst e0 e1
      exact ⟨(s, b), rfl, w0, wfI_of w1⟩
  obtain ⟨f, hf⟩ := choose_lt hex
  refine ⟨a, len, cap, (List.range len).map f, rfl, hm, ⟨by rw [cellsE_len]; simp, ?_⟩, ?_⟩
  · refine hcell.imp id fun ⟨b, off, h1, h2, h3⟩ => ⟨b, off, h1, h2, fun j y hj => ?_⟩
    obtain ⟨en, hen, hy⟩ := cellsE_inv _ _ _ hj
    have hk : j / 2 < len := by have := (List.getElem?_eq_some_iff.1 hen).1; simpa using this
    have e2 : f (j / 2) = en := by rw [List.getElem?_map, List.getElem?_range hk] at hen; simpa using hen
    have := h3 (j / 2) hk (j % 2) y (by rw [(hf (j / 2) hk).1, e2]; exact hy)
    rwa [show j / 2 * 2 + j % 2 = j by omega] at this
  · intro en hen
    obtain ⟨i, hi, rfl⟩ := List.mem_map.1 hen
    exact (hf i (by simpa using hi)).2
theorem rd_N {t e : TypeId} {f0 f1 f2 : Field} {fuel : Nat} {cs : List Value} {x : DataW H × List MemPlace} (ht : P.underlying t = some (.slice e)) (he : P.underlying e = some (.struct #[f0, f1, f2])) (hc : P.cellsOf e = 3) (o0 : f0.offset = 0) (o1 : f1.offset = 1) (o2 : f2.offset = 2)
    (c0 : P.cellsOf f0.type = 1) (c1 : P.cellsOf f1.type = 1) (c2 : P.cellsOf f2.type = 1) (u0 : P.underlying f0.type = some (.int .i64)) (u1 : P.underlying f1.type = some .string) (u2 : P.underlying f2.type = some (.int .i64))
    (h : DataW.trod enc P w 0 spare held fuel t cs = some x) : ∃ a n c xs, cs = [.slice a n c] ∧ n ≤ maxLen ∧ AtN w a n xs ∧ wfN xs := by
  obtain ⟨a, len, cap, m, C, rfl, hm, hcell, hC⟩ := open_cells ht hc (by decide) h
  have hex : ∀ i, i < len → ∃ y : Nod, C i = [.int .i64 y.1, .string y.2.1, .int .i64 y.2.2] ∧ wfI y.1 ∧ y.2.1.size ≤ maxLen ∧ wfI y.2.2 := by
    intro i hi
    obtain ⟨hl, z, hz⟩ := hC i hi
    obtain ⟨y0, y1, y2, n, _, _, g0, g1, g2⟩ := trod_struct3 he hz
    rw [o0, c0] at g0
    rw [o1, c1] at g1
    rw [o2, c2] at g2
    obtain ⟨a0, e0, _, w0⟩ := DataW.trod_int u0 g0
    obtain ⟨s, e1, _, w1⟩ := DataW.trod_string u1 g1
    obtain ⟨b, e2, _, w2⟩ := DataW.trod_int u2 g2
    match hCi : C i, hl with
    | [p, q, r], _ =>
      rw [hCi] at e0 e1 e2
      simp at e0 e1 e2
      subst e0 e1 e2
      exact ⟨(a0, s, b), rfl, wfI_of w0, w1, wfI_of w2⟩
  obtain ⟨f, hf⟩ := choose_lt hex
  refine ⟨a, len, cap, (List.range len).map f, rfl, hm, ⟨by rw [cellsN_len]; simp, ?_⟩, ?_⟩
  · refine hcell.imp id fun ⟨b, off, h1, h2, h3⟩ => ⟨b, off, h1, h2, fun j y hj => ?_⟩
    obtain ⟨en, hen, hy⟩ := cellsN_inv _ _ _ hj
    have hk : j / 3 < len := by have := (List.getElem?_eq_some_iff.1 hen).1; simpa using this
    have e2 : f (j / 3) = en := by rw [List.getElem?_map, List.getElem?_range hk] at hen; simpa using hen
    have := h3 (j / 3) hk (j % 3) y (by rw [(hf (j / 3) hk).1, e2]; exact hy)
    rwa [show j / 3 * 3 + j % 3 = j by omega] at this
  · intro en hen
    obtain ⟨i, hi, rfl⟩ := List.mem_map.1 hen
    exact (hf i (by simpa using hi)).2
theorem rd_S {t e : TypeId} {fuel : Nat} {cs : List Value} {x : DataW H × List MemPlace} (ht : P.underlying t = some (.slice e)) (he : P.underlying e = some .string) (hc : P.cellsOf e = 1)
    (h : DataW.trod enc P w 0 spare held fuel t cs = some x) : ∃ a n c xs, cs = [.slice a n c] ∧ n ≤ maxLen ∧ At w a n xs ∧ ∀ s ∈ xs, s.size ≤ maxLen := by
  obtain ⟨a, len, cap, m, C, rfl, hm, hcell, hC⟩ := open_cells ht hc (by decide) h
  have hex : ∀ i, i < len → ∃ y : ByteArray, C i = [.string y] ∧ y.size ≤ maxLen := by
    intro i hi
    obtain ⟨hl, z, hz⟩ := hC i hi
    obtain ⟨s, e0, _, w0⟩ := DataW.trod_string he hz
    exact ⟨s, e0, w0⟩
  obtain ⟨f, hf⟩ := choose_lt (α := ByteArray) (hex)
  refine ⟨a, len, cap, (List.range len).map f, rfl, hm, ⟨by simp, ?_⟩, ?_⟩
  · refine hcell.imp id fun ⟨b, off, h1, h2, h3⟩ => ⟨b, off, h1, h2, fun j y hj => ?_⟩
    have hk : j < len := by have := (List.getElem?_eq_some_iff.1 hj).1; simpa using this
    have e2 : f j = y := by rw [List.getElem?_map, List.getElem?_range hk] at hj; simpa using hj
    have := h3 j hk 0 (.string y) (by rw [(hf j hk).1, e2]; rfl)
    simpa using this
  · intro en hen
    obtain ⟨i, hi, rfl⟩ := List.mem_map.1 hen
    exact (hf i (by simpa using hi)).2
theorem rd_I {t e : TypeId} {fuel : Nat} {cs : List Value} {x : DataW H × List MemPlace} (ht : P.underlying t = some (.slice e)) (he : P.underlying e = some (.int .i64)) (hc : P.cellsOf e = 1)
    (h : DataW.trod enc P w 0 spare held fuel t cs = some x) : ∃ (a : Option Addr) (n c : Nat) (xs : List Int), cs = [.slice a n c] ∧ n ≤ maxLen ∧ Cells w a n 1 (xs.map (Value.int .i64)) ∧ ∀ s ∈ xs, wfI s := by
  obtain ⟨a, len, cap, m, C, rfl, hm, hcell, hC⟩ := open_cells ht hc (by decide) h
  have hex : ∀ i, i < len → ∃ y : Int, C i = [.int .i64 y] ∧ wfI y := by
    intro i hi
    obtain ⟨hl, z, hz⟩ := hC i hi
    obtain ⟨s, e0, _, w0⟩ := DataW.trod_int he hz
    exact ⟨s, e0, wfI_of w0⟩
  obtain ⟨f, hf⟩ := choose_lt hex
  refine ⟨a, len, cap, (List.range len).map f, rfl, hm, ⟨by simp, ?_⟩, ?_⟩
  · refine hcell.imp id fun ⟨b, off, h1, h2, h3⟩ => ⟨b, off, h1, h2, fun j y hj => ?_⟩
    have hk : j < len := by have := (List.getElem?_eq_some_iff.1 hj).1; simpa using this
    have e2 : Value.int .i64 (f j) = y := by rw [List.getElem?_map, List.getElem?_map, List.getElem?_range hk] at hj; simpa using hj
    have := h3 j hk 0 y (by rw [(hf j hk).1, e2]; rfl)
    simpa using this
  · intro en hen
    obtain ⟨i, hi, rfl⟩ := List.mem_map.1 hen
    exact (hf i (by simpa using hi)).2
/-- a slice of numbers -/
def AtI (w : World) (a : Option Addr) (n : Nat) (xs : List Int) : Prop := Cells w a n 1 (xs.map (Value.int .i64))
theorem one_slice {t : TypeId} {fuel : Nat} {v : Value} {x : DataW H × List MemPlace} {cs : List Value} {b : Option Addr} {n c : Nat} (_ : DataW.trod enc P w 0 spare held fuel t cs = some x) (e : cs = [v]) (e2 : cs = [.slice b n c]) : v = .slice b n c := by
  rw [e] at e2
  simpa using e2
theorem slice_list {e t : TypeId} {r : Reach} {b0 : Nat} {v : Value} (ht : P.underlying t = some (.slice e)) (hv : Value.okWide P w r b0 t v) : v.cells.toList = [v] := by
  obtain ⟨a, l, c, rfl⟩ := okWide_slice ht hv
  rfl
set_option maxRecDepth 1000000 in
theorem op_S {r : Reach} {b0 : Nat} {v : Value} {d : DataW H} {p : List MemPlace} (hv : Value.okWide Tryz.prog w r b0 42 v) (h : DataW.Trod enc Tryz.prog w 0 spare held 42 v d p) :
    ∃ a n c xs, v = .slice a n c ∧ n ≤ maxLen ∧ At w a n xs ∧ ∀ s ∈ xs, s.size ≤ maxLen := by
  obtain ⟨fuel, hf⟩ := h
  obtain ⟨a, n, c, xs, hcs, hm, ha, hw⟩ := rd_S (P := Tryz.prog) Tryz.underlying42 Tryz.underlying9 (by kernel_rfl) hf
  exact ⟨a, n, c, xs, one_slice (P := Tryz.prog) hf (slice_list (P := Tryz.prog) Tryz.underlying42 hv) hcs, hm, ha, hw⟩
set_option maxRecDepth 1000000 in
theorem op_I {r : Reach} {b0 : Nat} {v : Value} {d : DataW H} {p : List MemPlace} (hv : Value.okWide Tryz.prog w r b0 49 v) (h : DataW.Trod enc Tryz.prog w 0 spare held 49 v d p) :
    ∃ a n c xs, v = .slice a n c ∧ n ≤ maxLen ∧ AtI w a n xs ∧ ∀ s ∈ xs, wfI s := by
  obtain ⟨fuel, hf⟩ := h
  obtain ⟨a, n, c, xs, hcs, hm, ha, hw⟩ := rd_I (P := Tryz.prog) Tryz.underlying49 Tryz.underlying3 (by kernel_rfl) hf
  exact ⟨a, n, c, xs, one_slice (P := Tryz.prog) hf (slice_list (P := Tryz.prog) Tryz.underlying49 hv) hcs, hm, ha, hw⟩
end

end Go.Proofs.YtpibemlganeacaaGreatDoor.recs
