/-
  Contracts of the draws of frames: what a text may hold, and which version and place come.
-/
import Derived.Test.YtdppflfhjmigdaaGreatDoorFrP
import Derived.Test.YtdppflfhjmigdaaGreatDoorHdP
import Derived.Test.YtdppflfhjmigdaaGreatDoorTbQ
namespace Go.Proofs.YtdppflfhjmigdaaGreatDoor.draw
set_option maxRecDepth 20000
open Go.RowKit
open kit fr

theorem grown_ofB {w w' : World} (h : Below w.heap.size w w') (row : Option Nat) : w.grownBy w' row := ⟨h.os, h.tape, h.output, h.size, fun i hi _ => h.block i hi⟩

/-- a version; only the cursor is written -/
def PostN (c : Nat) (a : Option Addr) (len cap : Nat) (lo hi : Int) (w : World) (e : Ending) (w' : World) : Prop :=
  (∃ q : Int, lo ≤ q ∧ q ≤ hi ∧ e = .returned (.int .i64 q)) ∧ Cur w' c a len cap ∧ w.grownBy w' (some c)

/-- a version, a place and a record; nothing that was there turns -/
def PostFT (w : World) (e : Ending) (w' : World) : Prop := (∃ (v p : Int) (r : ByteArray), 0 ≤ v ∧ v ≤ 3 ∧ -1 ≤ p ∧ p ≤ 1000000001 ∧ r.size ≤ 61 ∧ e = .returned (.tuple #[.int .i64 v, .int .i64 p, .string r])) ∧ Below w.heap.size w w'

end Go.Proofs.YtdppflfhjmigdaaGreatDoor.draw
