/-
  Draws of files' texts: l10File, and the draws that are one.
-/
import Derived.Test.YtideejpopneplaaSlP
import Derived.Test.YtideejpopneplaaScF
import Derived.Test.YtideejpopneplaaHdP
import Derived.Test.YtideejpopneplaaBent
namespace Go.Proofs.Ytideejpopneplaa.draw
set_option maxRecDepth 20000
open Go.RowKit
open kit hd sc sl

theorem box_kept {w w' : World} {g c : Nat} {cs : List Value} (h : Box w g cs) (k : w.grownBy w' (some c)) (hne : g ≠ c) : Box w' g cs := by
  have hb := k.block g h.lt (fun e => hne (Option.some.inj e))
  refine ⟨⟨Nat.lt_of_lt_of_le h.lt k.size, fun j x hj => ?_⟩, fun j => (World.frozen?_of_block (a := ⟨g, j, none⟩) hb).trans (h.2 j)⟩
  rw [← h.1.2 j x hj]
  unfold World.cell?
  rw [hb]
theorem slT_few (h : Hd) (rs : List ByteArray) : (slT h rs).size ≤ 57 + 82 * rs.length := by
  by_cases hk : okS h rs
  · rw [slT_yes hk, ByteArray.size_append]
    have h1 := tx_le72 h rs rs.length
    have h2 := pl.ftT_le h (offL h rs) ((tx h rs rs.length).size : Int)
    rw [offL_length] at h2
    omega
  · rw [slT_no hk]; exact Nat.zero_le _

/-- a text of a file; nothing that was there turns -/
def PostFi (w : World) (e : Ending) (w' : World) : Prop := (∃ b : ByteArray, b.size ≤ 100000 ∧ e = .returned (.string b)) ∧ Below w.heap.size w w'
end Go.Proofs.Ytideejpopneplaa.draw
