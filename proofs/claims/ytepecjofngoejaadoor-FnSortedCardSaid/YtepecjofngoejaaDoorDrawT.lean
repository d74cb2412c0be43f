/-
  Contracts of the draws of texts: one out of some, one of drawn bytes.
-/
import Derived.Test.YtepecjofngoejaaDoorDrawB
namespace Go.Proofs.YtepecjofngoejaaDoor.draw
open Go.RowKit
open kit

theorem grown_below {a b c : World} {row : Option Nat} (h : a.grownBy b row) (k : Below a.heap.size b c) : a.grownBy c row :=
  ⟨k.os.trans h.os, k.tape.trans h.tape, k.output.trans h.output, Nat.le_trans h.size k.size, fun i hi hr => (k.block i hi).trans (h.block i hi hr)⟩

theorem pick_any (B c g m k : Nat) (a : Option Addr) (len cap : Nat) (xs : List ByteArray) (w : World) (hBc : B ≤ c) (hB : B ≤ w.heap.size) (hc : CodeAt w B a len) (hu : Cur w c a len cap)
    (hg : g < w.heap.size) (hne : g ≠ c) (hm : xs.length = m) (h0 : 0 < m) (h1 : m ≤ 1000) (hx : ∀ j, j < m → w.cell? ⟨g, j, none⟩ = (xs.map Value.string)[j]?) :
    Calls Tryd.prog 54 #[.pointer (some ⟨c, 0, none⟩), .slice (some ⟨g, 0, none⟩) m k] w (PostV c a len cap (xs.map Value.string) w) := by
  have HX := Lib.hid hx
  have HM := Lib.hid hm
  clear hx hm
  go_enter Tryd.func54, Tryd.ntmps54
  go_wp2_with fail
  refine (below_any B c a len cap (m : Int) w hBc hB hc hu (by omega) (by omega)).mono ?_
  rintro e w1 ⟨⟨x1, l1, m1, rfl⟩, u1, g1⟩
  obtain ⟨j, rfl⟩ := Int.eq_ofNat_of_zero_le l1
  have hjm : j < m := by omega
  obtain ⟨y, hy⟩ : ∃ y, xs[j]? = some y := ⟨_, List.getElem?_eq_getElem (by rw [HM.out]; exact hjm)⟩
  have hcell : w1.cell? ⟨g, j, none⟩ = some (.string y) := by
    rw [World.cell?_of_block (w := w) (w' := w1) (a := ⟨g, j, none⟩) (g1.block g hg (fun e => hne (by injection e))), HX.out j hjm, List.getElem?_map, hy]
    rfl
  have HY := Lib.hid (show Value.string y ∈ xs.map Value.string from List.mem_map.2 ⟨y, List.mem_of_getElem? hy, rfl⟩)
  have i0 : (0 : Int) ≤ (j : Int) := by omega
  have i1 : (j : Int) < (m : Int) := by omega
  clear hc hu hy m1
  go_wp2
  go_ret
  exact ⟨⟨_, HY.out, rfl⟩, u1, g1⟩

/-- a text of at most so many bytes -/
def PostS (c : Nat) (a : Option Addr) (len cap most : Nat) (w : World) (e : Ending) (w' : World) : Prop :=
  (∃ s : ByteArray, s.size ≤ most ∧ e = .returned (.string s)) ∧ Cur w' c a len cap ∧ w.grownBy w' (some c)

theorem Tryd.infoU8 : (Tryd.prog.info? 5).map (fun i => (i.zero, i.size, i.bytes)) = some (some (.int .u8 0), 1, 1) := by kernel_rfl

end Go.Proofs.YtepecjofngoejaaDoor.draw
