/-
  Contracts of the laws' helpers on places: compared, made, marked, held, counted.
-/
import Derived.Test.YtpibemlganeacaaGreatDoorPlP
import Derived.Test.YtpibemlganeacaaGreatDoorRecQ
namespace Go.Proofs.YtpibemlganeacaaGreatDoor.pl
set_option maxRecDepth 20000
open Go.RowKit
open kit sum num burst hd fr recs

theorem cellsP_set : ∀ (xs : List Plc) (k : Nat) (s i : Int), k < xs.length → ((cellsP xs).set (k * 2) (.int .i64 s)).set (k * 2 + 1) (.int .i64 i) = cellsP (xs.set k (s, i))
  | [], k, s, i, h => by simp at h
  | e :: r, 0, s, i, h => by simp [cellsP_cons]
  | e :: r, k + 1, s, i, h => by
    rw [List.set_cons_succ, cellsP_cons, cellsP_cons, ← cellsP_set r k s i (by simpa using h), show (k + 1) * 2 = k * 2 + 1 + 1 by omega]
    simp
theorem own_setP {w : World} {B : Nat} {e : TypeId} {g n c k : Nat} {xs : List Plc} (h : w.ownsRow B e 2 (.slice (some ⟨g, 0, none⟩) n c) n (cellsP xs)) (hk : k < xs.length) (s i : Int) :
    ((w.setCell ⟨g, k * 2, none⟩ (.int .i64 s)).setCell ⟨g, k * 2 + 1, none⟩ (.int .i64 i)).ownsRow B e 2 (.slice (some ⟨g, 0, none⟩) n c) n (cellsP (xs.set k (s, i))) := by
  have h1 := ((h.stored (k * 2) (.int .i64 s)).1.stored (k * 2 + 1) (.int .i64 i)).1
  rwa [cellsP_set xs k s i hk] at h1
theorem flatP_zero (n : Nat) : (List.replicate n [Value.int .i64 0, .int .i64 0]).flatten = cellsP (List.replicate n ((0 : Int), (0 : Int))) := by
  induction n with
  | zero => rfl
  | succ n ih => rw [List.replicate_succ, List.replicate_succ, List.flatten_cons, ih]; rfl

/-! ### marks -/
def marksP (k n : Nat) : List Plc := (List.range n).map fun i => (((k + 2 * i : Nat) : Int), ((k + 2 * i + 1 : Nat) : Int))
theorem marksP_at (k n j : Nat) (h : j < n) : (marksP k n)[j]? = some (((k + 2 * j : Nat) : Int), ((k + 2 * j + 1 : Nat) : Int)) := by simp [marksP, h]
theorem marksP_len (k n : Nat) : (marksP k n).length = n := by simp [marksP]
theorem marksP_snoc (k j : Nat) : marksP k (j + 1) = marksP k j ++ [(((k + 2 * j : Nat) : Int), ((k + 2 * j + 1 : Nat) : Int))] := by simp [marksP, List.range_succ]

end Go.Proofs.YtpibemlganeacaaGreatDoor.pl
