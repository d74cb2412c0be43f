/-
  Draws of offsets, places and what is read as such.
-/
import Derived.Test.YtdppflfhjmigdaaGreatDoorPlC
import Derived.Test.YtdppflfhjmigdaaGreatDoorPlV
import Derived.Test.YtdppflfhjmigdaaGreatDoorHdP
import Derived.Test.YtdppflfhjmigdaaGreatDoorTbQ
namespace Go.Proofs.YtdppflfhjmigdaaGreatDoor.draw
set_option maxRecDepth 20000
open Go.RowKit
open kit hd sc pl

/-- a list of numbers of the call's own; only the cursor is written -/
def PostO (c : Nat) (a : Option Addr) (len cap most : Nat) (w : World) (e : Ending) (w' : World) : Prop :=
  (∃ (v : Value) (n : Nat) (os : List Int), e = .returned v ∧ n ≤ most ∧ (∀ o ∈ os, i64 o) ∧ w'.ownsRow w.heap.size 3 1 v n (os.map (Value.int .i64))) ∧ Cur w' c a len cap ∧ w.grownBy w' (some c)
theorem i64_of {x : Int} (h0 : -9223372036854775808 ≤ x) (h1 : x ≤ 9223372036854775807) : i64 x := ⟨h0, h1⟩
/-- one of the listed numbers, the list being made for it -/
theorem pickNew (B c m : Nat) (a : Option Addr) (len cap : Nat) (xs : List Int) (w : World) (hBc : B ≤ c) (hcw : c < w.heap.size) (hc : CodeAt w B a len) (hu : Cur w c a len cap) (hm : xs.length = m) (h0 : 0 < m) (h1 : m ≤ 1000) :
    Calls Tryz.prog 14 #[.pointer (some ⟨c, 0, none⟩), .slice (some ⟨w.heap.size, 0, none⟩) m m] (w.alloc (.cells (xs.map (Value.int .i64)).toArray 3)) fun e w' => (∃ x, x ∈ xs ∧ e = .returned (.int .i64 x)) ∧ Cur w' c a len cap ∧ w.grownBy w' (some c) := by
  refine (pickInt_any B c w.heap.size m m a len cap xs _ hBc (by simp; omega) (hc.below ((Below.refl _ _).alloc (by omega) _)) (hu.below ((Below.refl _ _).alloc (by omega) _)) (by simp) (by omega) hm h0 h1 (fun j hj => ?_)).mono ?_
  · rw [cell_of_row _ _ _ _ _ _ (heap_alloc_new w _)]
    simp
  · rintro e w' ⟨⟨v, hv, rfl⟩, u1, g1⟩
    obtain ⟨x, hx, rfl⟩ := List.mem_map.1 hv
    exact ⟨⟨x, hx, rfl⟩, u1, grown_trans (World.grownBy_alloc w _ _) g1⟩

end Go.Proofs.YtdppflfhjmigdaaGreatDoor.draw

namespace Go.Proofs.YtdppflfhjmigdaaGreatDoor.draw
set_option maxRecDepth 20000
open Go.RowKit
open kit hd sc pl

/-- a stride and offsets of the call's own -/
def PostPl (w : World) (e : Ending) (w' : World) : Prop := (∃ (s : Int) (v : Value) (n : Nat) (os : List Int), e = .returned (.tuple #[.int .i64 s, v]) ∧ i64 s ∧ n ≤ 9 ∧ (∀ o ∈ os, i64 o) ∧ w'.ownsRow w.heap.size 3 1 v n (os.map (Value.int .i64))) ∧ Below w.heap.size w w'
theorem one_more {T z : ByteArray} (hz : z.size = 1) (h : T.size ≤ 99999) : (T ++ z).size ≤ 100000 := by rw [ByteArray.size_append]; omega
/-- a text and where to read -/
def PostRp (w : World) (e : Ending) (w' : World) : Prop := (∃ (b : ByteArray) (q : Int), b.size ≤ 1000 ∧ e = .returned (.tuple #[.string b, .int .i64 q])) ∧ Below w.heap.size w w'
/-- a text that may end in a trailer -/
def PostTr (w : World) (e : Ending) (w' : World) : Prop := (∃ b : ByteArray, b.size ≤ 1000 ∧ e = .returned (.string b)) ∧ Below w.heap.size w w'
end Go.Proofs.YtdppflfhjmigdaaGreatDoor.draw
