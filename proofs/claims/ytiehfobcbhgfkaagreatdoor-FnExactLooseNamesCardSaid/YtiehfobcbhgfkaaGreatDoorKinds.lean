/-
  Lists of texts, of entries and disks under one form: what a value holds, memory of its own, copies, equality, marks, how much.
-/
import Derived.Test.YtiehfobcbhgfkaaGreatDoorDkMath
namespace Go.Proofs.YtiehfobcbhgfkaaGreatDoor.kd
set_option maxRecDepth 20000
open Go.RowKit
open kit strs recs disk

/-! ### lists of texts -/
def IsSS (w : World) (v : Value) (xs : List ByteArray) : Prop := ∃ (a : Option Addr) (n c : Nat), v = .slice a n c ∧ strs.At w a n xs
def OwnSS (B : Nat) (w : World) (v : Value) (xs : List ByteArray) : Prop := ∃ n, w.ownsRow B 9 1 v n (xs.map Value.string)
theorem IsSS.below {w w' : World} {v : Value} {xs : List ByteArray} (h : IsSS w v xs) (hb : Below w.heap.size w w') : IsSS w' v xs := by
  obtain ⟨a, n, c, rfl, h⟩ := h
  exact ⟨a, n, c, rfl, h.below hb⟩
theorem OwnSS.is {B : Nat} {w : World} {v : Value} {xs : List ByteArray} (h : OwnSS B w v xs) : IsSS w v xs := by
  obtain ⟨n, h⟩ := h
  obtain ⟨a, c, rfl, _⟩ := own_shape h
  exact ⟨a, n, c, rfl, At.of_own h⟩
theorem OwnSS.base {B B' : Nat} {w : World} {v : Value} {xs : List ByteArray} (h : OwnSS B w v xs) (hB : B' ≤ B) : OwnSS B' w v xs := ⟨h.choose, own_base h.choose_spec hB⟩
theorem OwnSS.below {B : Nat} {w w' : World} {v : Value} {xs : List ByteArray} (h : OwnSS B w v xs) (hb : Below w.heap.size w w') : OwnSS B w' v xs := ⟨h.choose, own_below h.choose_spec hb⟩
theorem row_slice {w : World} {B size n : Nat} {e : TypeId} {v : Value} {xs : List Value} (h : w.ownsRow B e size v n xs) : ∀ k, rows v k → v.ownBlock = some k ∧ B ≤ k ∧ k < w.heap.size := by
  intro k hk
  rcases h.2 with ⟨rfl, _⟩ | ⟨g', cap, cur, rfl, hB, hh, _⟩
  · simp [rows, Value.ownBlock] at hk
  · have hk' := hk
    simp only [rows, Value.ownBlock, Option.some.injEq] at hk'
    subst hk'
    exact ⟨rfl, hB, (Array.getElem?_eq_some_iff.1 hh).1⟩
theorem rows_own {w : World} {B size n : Nat} {e : TypeId} {v : Value} {xs : List Value} (h : w.ownsRow B e size v n xs) : ∀ k, v.ownBlock = some k → rows v k := by
  intro k hk
  rcases h.2 with ⟨rfl, _⟩ | ⟨g', cap, cur, rfl, _⟩
  · exact hk
  · exact hk
theorem OwnSS.rows {B : Nat} {w : World} {v : Value} {xs : List ByteArray} (h : OwnSS B w v xs) : ∀ k, disk.rows v k → B ≤ k ∧ k < w.heap.size := fun k hk => (row_slice h.choose_spec k hk).2
theorem OwnSS.only {B : Nat} {w w' : World} {v : Value} {xs : List ByteArray} {S : Nat → Prop} (h : OwnSS B w v xs) (o : Only w w' S) (hs : ∀ k, disk.rows v k → ¬ S k) : OwnSS B w' v xs :=
  ⟨h.choose, own_only h.choose_spec o (fun k hk => hs k (rows_own h.choose_spec k hk))⟩
/-! ### lists of entries -/
def IsE (w : World) (v : Value) (xs : List Ent) : Prop := ∃ (a : Option Addr) (n c : Nat), v = .slice a n c ∧ AtE w a n xs
def OwnE (B : Nat) (w : World) (v : Value) (xs : List Ent) : Prop := ∃ n, w.ownsRow B 71 2 v n (cellsE xs)
theorem IsE.below {w w' : World} {v : Value} {xs : List Ent} (h : IsE w v xs) (hb : Below w.heap.size w w') : IsE w' v xs := by
  obtain ⟨a, n, c, rfl, h⟩ := h
  exact ⟨a, n, c, rfl, h.below hb⟩
theorem OwnE.is {B : Nat} {w : World} {v : Value} {xs : List Ent} (h : OwnE B w v xs) : IsE w v xs := by
  obtain ⟨n, h⟩ := h
  obtain ⟨a, c, rfl, _⟩ := own_shape h
  exact ⟨a, n, c, rfl, own_cells h⟩
theorem OwnE.base {B B' : Nat} {w : World} {v : Value} {xs : List Ent} (h : OwnE B w v xs) (hB : B' ≤ B) : OwnE B' w v xs := ⟨h.choose, own_base h.choose_spec hB⟩
theorem OwnE.below {B : Nat} {w w' : World} {v : Value} {xs : List Ent} (h : OwnE B w v xs) (hb : Below w.heap.size w w') : OwnE B w' v xs := ⟨h.choose, own_below h.choose_spec hb⟩
theorem OwnE.rows {B : Nat} {w : World} {v : Value} {xs : List Ent} (h : OwnE B w v xs) : ∀ k, disk.rows v k → B ≤ k ∧ k < w.heap.size := fun k hk => (row_slice h.choose_spec k hk).2
theorem OwnE.only {B : Nat} {w w' : World} {v : Value} {xs : List Ent} {S : Nat → Prop} (h : OwnE B w v xs) (o : Only w w' S) (hs : ∀ k, disk.rows v k → ¬ S k) : OwnE B w' v xs :=
  ⟨h.choose, own_only h.choose_spec o (fun k hk => hs k (rows_own h.choose_spec k hk))⟩
/-! ### disks -/
/-! ### what is handed in, right and small -/
def okD (d : D) : Prop := wfD d ∧ bulk d ≤ 1048576
end Go.Proofs.YtiehfobcbhgfkaaGreatDoor.kd
