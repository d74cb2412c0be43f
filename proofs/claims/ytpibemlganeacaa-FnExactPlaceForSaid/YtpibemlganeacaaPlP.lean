/-
  Slices of places, cell by cell; contracts of spec.PlacesOf, l11Less and PlacesText.
-/
import Derived.Test.YtpibemlganeacaaMathX
import Derived.Test.YtpibemlganeacaaRecQ
import Derived.Test.YtpibemlganeacaaInts
import Derived.Test.YtpibemlganeacaaAppN
import Derived.Test.YtpibemlganeacaaNumX
import Derived.Test.YtpibemlganeacaaLater
import Derived.BigQuiet
import Derived.Test.YtpibemlganeacaaBox
namespace Go.Proofs.Ytpibemlganeacaa.pl
set_option maxRecDepth 20000
open Go.RowKit
open kit sum num burst hd fr recs

abbrev Plc := Int × Int
def cellsP (xs : List Plc) : List Value := xs.flatMap fun e => [.int .i64 e.1, .int .i64 e.2]
theorem cellsP_cons (e : Plc) (xs : List Plc) : cellsP (e :: xs) = .int .i64 e.1 :: .int .i64 e.2 :: cellsP xs := rfl
theorem cellsP_app (xs ys : List Plc) : cellsP (xs ++ ys) = cellsP xs ++ cellsP ys := List.flatMap_append
theorem cellsP_len (xs : List Plc) : (cellsP xs).length = xs.length * 2 := by
  induction xs with
  | nil => rfl
  | cons e r ih => rw [cellsP_cons]; simp only [List.length_cons, ih]; omega
theorem cellsP_at : ∀ (xs : List Plc) (k : Nat) (s i : Int), xs[k]? = some (s, i) → (cellsP xs)[k * 2]? = some (.int .i64 s) ∧ (cellsP xs)[k * 2 + 1]? = some (.int .i64 i)
  | [], k, s, i, h => by simp at h
  | e :: r, 0, s, i, h => by simp at h; subst h; exact ⟨rfl, rfl⟩
  | e :: r, k + 1, s, i, h => by
    have := cellsP_at r k s i (by simpa using h)
    rw [cellsP_cons, show (k + 1) * 2 = k * 2 + 1 + 1 by omega]
    simpa using this
/-- a slice of places -/
def AtP (w : World) (a : Option Addr) (n : Nat) (xs : List Plc) : Prop := Cells w a n 2 (cellsP xs)
theorem AtP.len {w : World} {a : Option Addr} {n : Nat} {xs : List Plc} (h : AtP w a n xs) : xs.length = n := by have := h.1; rw [cellsP_len] at this; omega
theorem AtP.below {w w' : World} {a : Option Addr} {n : Nat} {xs : List Plc} (h : AtP w a n xs) (hb : Below w.heap.size w w') : AtP w' a n xs := Cells.below h hb
theorem AtP.get {w : World} {a : Option Addr} {n k : Nat} {xs : List Plc} (h : AtP w a n xs) (hk : k < n) :
    ∃ s i b off, xs[k]? = some (s, i) ∧ a = some ⟨b, off, none⟩ ∧ b < w.heap.size ∧ w.cell? ⟨b, off + k * 2, none⟩ = some (.int .i64 s) ∧ w.cell? ⟨b, off + k * 2 + 1, none⟩ = some (.int .i64 i) := by
  have hl := h.len
  have hx : xs[k]? = some (xs[k]'(by omega)) := List.getElem?_eq_getElem (by omega)
  obtain ⟨b, off, h1, h2, h3⟩ := h.2.resolve_left (by omega)
  have hc := cellsP_at xs k _ _ hx
  exact ⟨_, _, b, off, hx, h1, h2, h3 _ _ hc.1, by rw [Nat.add_assoc]; exact h3 _ _ hc.2⟩
theorem AtP.of_own {w : World} {B : Nat} {a : Option Addr} {n c : Nat} {xs : List Plc} (h : w.ownsRow B 25 2 (.slice a n c) n (cellsP xs)) : AtP w a n xs := own_cells h
theorem two_ints (s i : Int) : ∀ u ∈ ([.int .i64 s, .int .i64 i] : List Value), u.oneCell' = true := by simp [Value.oneCell']
theorem Try.infoPlace : (Try.prog.info? 25).map (fun i => (i.zero, i.size, i.bytes)) = some (some (.agg #[.int .i64 0, .int .i64 0]), 2, 16) := by kernel_rfl
/-- places that a call hands back, in memory of its own -/
def OwnP (B : Nat) (w : World) (v : Value) (xs : List Plc) : Prop := w.ownsRow B 25 2 v xs.length (cellsP xs)
theorem OwnP.below {B : Nat} {w w' : World} {v : Value} {xs : List Plc} (h : OwnP B w v xs) (hb : Below w.heap.size w w') : OwnP B w' v xs := own_below h hb
def PlR (xs : List Plc) (w : World) (e : Ending) (w' : World) : Prop := (∃ v, e = .returned v ∧ OwnP w.heap.size w' v xs) ∧ Below w.heap.size w w'

end Go.Proofs.Ytpibemlganeacaa.pl

namespace Go.Proofs.Ytpibemlganeacaa.pl
set_option maxRecDepth 20000
open Go.RowKit
open kit sum num burst hd fr recs sc

def wfP (xs : List Plc) : Prop := ∀ e ∈ xs, i64 e.1 ∧ i64 e.2
theorem plGo_drop {xs : List Plc} {k : Nat} {x l : Plc} {T : ByteArray} (h : xs[k]? = some x) : plGo T l (xs.drop k) = plGo T l (x :: xs.drop (k + 1)) := by
  have hl : k < xs.length := (List.getElem?_eq_some_iff.1 h).1
  rw [List.drop_eq_getElem_cons hl]
  have e : xs[k] = x := (List.getElem?_eq_some_iff.1 h).2
  rw [e]
theorem emp_yes {t : ByteArray} (h : t = nul) : t.toList.isEmpty = true := by rw [h, ByteArray.toList_eq]; rfl
theorem emp_no {t : ByteArray} (h : t ≠ nul) : t.toList.isEmpty = false := str_full (Nat.pos_of_ne_zero fun e => h (ByteArray.size_eq_zero_iff.1 e))
theorem specVarL (n : Int) (w : World) : Calls Try.prog 40 #[.int .i64 n] w fun e w' => e = .returned (.string (vtI n)) ∧ Below w.heap.size w w' := specVar_any n w

end Go.Proofs.Ytpibemlganeacaa.pl
