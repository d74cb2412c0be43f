/-
  Slices of structs: what they hold, cell by cell; entries and nodes as lists of cells.
-/
import Derived.Test.YtiehfobcbhgfkaaGreatDoorStrQ
import Derived.OpenShut
import Derived.ShutString
import Derived.SliceStrings
import Derived.ChangeOld
import Derived.Deep.Slices
import Derived.Deep.Strs
namespace Go.Proofs.YtiehfobcbhgfkaaGreatDoor.recs
set_option maxRecDepth 20000
open Go.RowKit
open kit strs

/-- a slice whose elements have these cells, one behind the other -/
def Cells (w : World) (a : Option Addr) (n size : Nat) (cs : List Value) : Prop :=
  cs.length = n * size ∧ (n = 0 ∨ ∃ b off, a = some ⟨b, off, none⟩ ∧ b < w.heap.size ∧ ∀ j x, cs[j]? = some x → w.cell? ⟨b, off + j, none⟩ = some x)
theorem Cells.below {w w' : World} {a : Option Addr} {n size : Nat} {cs : List Value} (h : Cells w a n size cs) (hb : Below w.heap.size w w') : Cells w' a n size cs :=
  ⟨h.1, h.2.imp id fun ⟨b, off, h1, h2, h3⟩ => ⟨b, off, h1, Nat.lt_of_lt_of_le h2 hb.size, fun j x hx => (hb.cell (p := ⟨b, off + j, none⟩) h2).trans (h3 j x hx)⟩⟩
theorem own_cells {w : World} {B size : Nat} {e : TypeId} {a : Option Addr} {n c : Nat} {cs : List Value} (h : w.ownsRow B e size (.slice a n c) n cs) : Cells w a n size cs := by
  refine ⟨h.1, ?_⟩
  have h2 := h.2
  rcases h2 with ⟨_, h0⟩ | ⟨g, cap, cur, hv, hB, hg, hnc, hcm, hsz, htake⟩
  · exact .inl h0
  · injection hv with e1 e2 e3
    subst e1 e3
    refine .inr ⟨g, 0, rfl, (Array.getElem?_eq_some_iff.1 hg).1, fun j x hx => ?_⟩
    have hj : j < n * size := by rw [← h.1]; exact (List.getElem?_eq_some_iff.1 hx).1
    rw [Nat.zero_add, h.cellAt j hj, hx]
/-- what an owned slice looks like -/
theorem own_shape {w : World} {B size : Nat} {e : TypeId} {v : Value} {n : Nat} {cs : List Value} (h : w.ownsRow B e size v n cs) :
    ∃ a c, v = .slice a n c ∧ n ≤ maxLen ∧ (n = 0 ∨ ∃ g, a = some ⟨g, 0, none⟩ ∧ B ≤ g ∧ g < w.heap.size) := by
  rcases h.2 with ⟨rfl, rfl⟩ | ⟨g, cap, cur, rfl, hB, hg, hn, hcm, _⟩
  · exact ⟨none, 0, rfl, by decide, .inl rfl⟩
  · exact ⟨some ⟨g, 0, none⟩, cap, rfl, by omega, .inr ⟨g, rfl, hB, (Array.getElem?_eq_some_iff.1 hg).1⟩⟩

abbrev Ent := ByteArray × Int
abbrev Nod := Int × ByteArray × Int
def cellsE (xs : List Ent) : List Value := xs.flatMap fun e => [.string e.1, .int .i64 e.2]
def cellsN (xs : List Nod) : List Value := xs.flatMap fun e => [.int .i64 e.1, .string e.2.1, .int .i64 e.2.2]
theorem cellsE_cons (e : Ent) (xs : List Ent) : cellsE (e :: xs) = .string e.1 :: .int .i64 e.2 :: cellsE xs := rfl
theorem cellsN_cons (e : Nod) (xs : List Nod) : cellsN (e :: xs) = .int .i64 e.1 :: .string e.2.1 :: .int .i64 e.2.2 :: cellsN xs := rfl
theorem cellsE_app (xs ys : List Ent) : cellsE (xs ++ ys) = cellsE xs ++ cellsE ys := List.flatMap_append
theorem cellsN_app (xs ys : List Nod) : cellsN (xs ++ ys) = cellsN xs ++ cellsN ys := List.flatMap_append
theorem cellsE_len (xs : List Ent) : (cellsE xs).length = xs.length * 2 := by
  induction xs with
  | nil => rfl
  | cons e r ih => rw [cellsE_cons]; simp only [List.length_cons, ih]; omega
theorem cellsN_len (xs : List Nod) : (cellsN xs).length = xs.length * 3 := by
  induction xs with
  | nil => rfl
  | cons e r ih => rw [cellsN_cons]; simp only [List.length_cons, ih]; omega
theorem cellsE_at : ∀ (xs : List Ent) (k : Nat) (s : ByteArray) (i : Int), xs[k]? = some (s, i) → (cellsE xs)[k * 2]? = some (.string s) ∧ (cellsE xs)[k * 2 + 1]? = some (.int .i64 i)
  | [], k, s, i, h => by simp at h
  | e :: r, 0, s, i, h => by simp at h; subst h; exact ⟨rfl, rfl⟩
  | e :: r, k + 1, s, i, h => by
    have := cellsE_at r k s i (by simpa using h)
    rw [cellsE_cons, show (k + 1) * 2 = k * 2 + 1 + 1 by omega]
    simpa using this
theorem cellsN_at : ∀ (xs : List Nod) (k : Nat) (i : Int) (s : ByteArray) (j : Int), xs[k]? = some (i, s, j) → (cellsN xs)[k * 3]? = some (.int .i64 i) ∧ (cellsN xs)[k * 3 + 1]? = some (.string s) ∧ (cellsN xs)[k * 3 + 2]? = some (.int .i64 j)
  | [], k, i, s, j, h => by simp at h
  | e :: r, 0, i, s, j, h => by simp at h; subst h; exact ⟨rfl, rfl, rfl⟩
  | e :: r, k + 1, i, s, j, h => by
    have := cellsN_at r k i s j (by simpa using h)
    rw [cellsN_cons, show (k + 1) * 3 = k * 3 + 1 + 1 + 1 by omega]
    simpa using this
/-- a slice of entries, of nodes -/
def AtE (w : World) (a : Option Addr) (n : Nat) (xs : List Ent) : Prop := Cells w a n 2 (cellsE xs)
def AtN (w : World) (a : Option Addr) (n : Nat) (xs : List Nod) : Prop := Cells w a n 3 (cellsN xs)
theorem AtE.len {w : World} {a : Option Addr} {n : Nat} {xs : List Ent} (h : AtE w a n xs) : xs.length = n := by have := h.1; rw [cellsE_len] at this; omega
theorem AtN.len {w : World} {a : Option Addr} {n : Nat} {xs : List Nod} (h : AtN w a n xs) : xs.length = n := by have := h.1; rw [cellsN_len] at this; omega
theorem AtE.below {w w' : World} {a : Option Addr} {n : Nat} {xs : List Ent} (h : AtE w a n xs) (hb : Below w.heap.size w w') : AtE w' a n xs := Cells.below h hb
theorem AtN.below {w w' : World} {a : Option Addr} {n : Nat} {xs : List Nod} (h : AtN w a n xs) (hb : Below w.heap.size w w') : AtN w' a n xs := Cells.below h hb
theorem AtE.get {w : World} {a : Option Addr} {n k : Nat} {xs : List Ent} (h : AtE w a n xs) (hk : k < n) :
    ∃ s i b off, xs[k]? = some (s, i) ∧ a = some ⟨b, off, none⟩ ∧ b < w.heap.size ∧ w.cell? ⟨b, off + k * 2, none⟩ = some (.string s) ∧ w.cell? ⟨b, off + k * 2 + 1, none⟩ = some (.int .i64 i) := by
  have hl := h.len
  have hx : xs[k]? = some (xs[k]'(by omega)) := List.getElem?_eq_getElem (by omega)
  obtain ⟨b, off, h1, h2, h3⟩ := h.2.resolve_left (by omega)
  have hc := cellsE_at xs k _ _ hx
  exact ⟨_, _, b, off, hx, h1, h2, h3 _ _ hc.1, by rw [Nat.add_assoc]; exact h3 _ _ hc.2⟩
theorem AtN.get {w : World} {a : Option Addr} {n k : Nat} {xs : List Nod} (h : AtN w a n xs) (hk : k < n) :
    ∃ i s j b off, xs[k]? = some (i, s, j) ∧ a = some ⟨b, off, none⟩ ∧ b < w.heap.size ∧ w.cell? ⟨b, off + k * 3, none⟩ = some (.int .i64 i) ∧ w.cell? ⟨b, off + k * 3 + 1, none⟩ = some (.string s) ∧ w.cell? ⟨b, off + k * 3 + 2, none⟩ = some (.int .i64 j) := by
  have hl := h.len
  have hx : xs[k]? = some (xs[k]'(by omega)) := List.getElem?_eq_getElem (by omega)
  obtain ⟨b, off, h1, h2, h3⟩ := h.2.resolve_left (by omega)
  have hc := cellsN_at xs k _ _ _ hx
  exact ⟨_, _, _, b, off, hx, h1, h2, h3 _ _ hc.1, by rw [Nat.add_assoc]; exact h3 _ _ hc.2.1, by rw [Nat.add_assoc]; exact h3 _ _ hc.2.2⟩

/-! ### two entries, two nodes -/
end Go.Proofs.YtiehfobcbhgfkaaGreatDoor.recs

namespace Go.Proofs.YtiehfobcbhgfkaaGreatDoor.recs
set_option maxRecDepth 20000
open Go.RowKit
open kit strs

/-! ### one element brought over -/
end Go.Proofs.YtiehfobcbhgfkaaGreatDoor.recs

namespace Go.Proofs.YtiehfobcbhgfkaaGreatDoor.recs
set_option maxRecDepth 20000
open Go.RowKit
open kit strs

theorem Tryz.infoEnt : (Tryz.prog.info? 71).map (fun i => (i.zero, i.size, i.bytes)) = some (some (.agg #[.string { data := #[] }, .int .i64 0]), 2, 24) := by kernel_rfl
theorem Tryz.infoNod : (Tryz.prog.info? 87).map (fun i => (i.zero, i.size, i.bytes)) = some (some (.agg #[.int .i64 0, .string { data := #[] }, .int .i64 0]), 3, 32) := by kernel_rfl

end Go.Proofs.YtiehfobcbhgfkaaGreatDoor.recs

namespace Go.Proofs.YtiehfobcbhgfkaaGreatDoor.recs
set_option maxRecDepth 20000
open Go.RowKit
open kit strs

/-! ### how much -/
/-! ### marks -/
end Go.Proofs.YtiehfobcbhgfkaaGreatDoor.recs

namespace Go.Proofs.YtiehfobcbhgfkaaGreatDoor.recs
set_option maxRecDepth 20000
open Go.ChangeShapes Go.WideShapes Go.RowKit Go.Deep
open kit strs

section
variable {H : Type} {enc : TypeId × Value → H} {P : Program} {w : World} {spare : Nat → Bool} {held : Bool}

def wfI (x : Int) : Prop := -9223372036854775808 ≤ x ∧ x ≤ 9223372036854775807
def wfE (xs : List Ent) : Prop := ∀ e ∈ xs, e.1.size ≤ maxLen ∧ wfI e.2
def wfN (xs : List Nod) : Prop := ∀ e ∈ xs, wfI e.1 ∧ e.2.1.size ≤ maxLen ∧ wfI e.2.2

/-- a slice of numbers -/
def AtI (w : World) (a : Option Addr) (n : Nat) (xs : List Int) : Prop := Cells w a n 1 (xs.map (Value.int .i64))
end

end Go.Proofs.YtiehfobcbhgfkaaGreatDoor.recs
