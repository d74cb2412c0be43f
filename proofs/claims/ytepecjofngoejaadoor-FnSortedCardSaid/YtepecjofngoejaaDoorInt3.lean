/-
  Contract of the draw of any number, spec.l03Int.
-/
import Derived.Test.YtepecjofngoejaaDoorDrawB
namespace Go.Proofs.YtepecjofngoejaaDoor.draw
open Go.RowKit
open kit

theorem below_of (w w1 w2 : World) (b1 : Below w.heap.size w w1) (g : w1.grownBy w2 (some w.heap.size)) : Below w.heap.size w w2 :=
  b1.grown g b1.size (fun k hk => by injection hk with hk; omega)
theorem grown_of {w w' : World} (h : Below w.heap.size w w') (row : Option Nat) : w.grownBy w' row := ⟨h.os, h.tape, h.output, h.size, fun i hi _ => h.block i hi⟩
theorem app_size {a b : ByteArray} {x y : Nat} (ha : a.size ≤ x) (hb : b.size ≤ y) : (a ++ b).size ≤ x + y := by rw [ByteArray.size_append]; omega

/-- any number -/
def PostI (c : Nat) (a : Option Addr) (len cap : Nat) (w : World) (e : Ending) (w' : World) : Prop :=
  (∃ x : Int, e = .returned (.int .i64 x)) ∧ Cur w' c a len cap ∧ w.grownBy w' (some c)
theorem int3_any (B c : Nat) (a : Option Addr) (len cap : Nat) (w : World) (hBc : B ≤ c) (hcw : c < w.heap.size) (hc : CodeAt w B a len) (hu : Cur w c a len cap) :
    Calls Tryd.prog 33 #[.pointer (some ⟨c, 0, none⟩)] w (PostI c a len cap w) := by
  go_enter Tryd.func33, Tryd.ntmps33
  go_wp2_with fail
  refine (below_any B c a len cap 100000 w hBc (by omega) hc hu (by omega) (by omega)).mono ?_
  rintro e w1 ⟨⟨x1, l1, m1, rfl⟩, u1, g1⟩
  have k1 := hc.grown hBc (by omega) g1
  have s1 := g1.size
  clear hc hu
  go_wp2_with fail
  refine (pickInt_any B c w1.heap.size 14 _ a len cap [0, 1, 127, 128, 255, 256, 16383, 16384, 1000000000, 1000000001, 4294967295, -1, 9223372036854775807, x1] _ hBc (by simp; omega) (k1.below ((Below.refl _ _).alloc (by omega) _)) (u1.below ((Below.refl _ _).alloc (by omega) _)) (by simp) (by omega) rfl (by omega) (by omega) (fun j hj => ?_)).mono ?_
  · rw [cell_of_row _ w1.heap.size j _ 3 (0, 0) (heap_alloc_new w1 _)]
    rw [List.getElem?_toArray]
    rfl
  · rintro e w2 ⟨⟨v, hv, rfl⟩, u2, g2⟩
    obtain ⟨x, rfl⟩ : ∃ x, v = .int .i64 x := by
      obtain ⟨x, _, hx⟩ := List.mem_map.1 hv
      exact ⟨x, hx.symm⟩
    clear hv
    go_wp2
    go_ret
    exact ⟨⟨_, rfl⟩, u2, grown_trans (grown_trans g1 (World.grownBy_alloc _ _ _)) g2⟩

end Go.Proofs.YtepecjofngoejaaDoor.draw
