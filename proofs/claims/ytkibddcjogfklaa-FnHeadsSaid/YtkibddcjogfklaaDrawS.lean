/-
  Contracts of the draws of the sums' arguments: any number, a text of at most 39 bytes.
-/
import Derived.Test.YtkibddcjogfklaaDrawT
namespace Go.Proofs.Ytkibddcjogfklaa.draw
open Go.RowKit
open kit

/-- any number -/
def PostI (c : Nat) (a : Option Addr) (len cap : Nat) (w : World) (e : Ending) (w' : World) : Prop :=
  (∃ x : Int, e = .returned (.int .i64 x)) ∧ Cur w' c a len cap ∧ w.grownBy w' (some c)
theorem int_any (B c : Nat) (a : Option Addr) (len cap : Nat) (w : World) (hBc : B ≤ c) (hcw : c < w.heap.size) (hc : CodeAt w B a len) (hu : Cur w c a len cap) :
    Calls Try.prog 47 #[.pointer (some ⟨c, 0, none⟩)] w (PostI c a len cap w) := by
  go_enter Try.func47, Try.ntmps47
  go_wp2_with fail
  refine (below_any B c a len cap 1000000000 w hBc (by omega) hc hu (by omega) (by omega)).mono ?_
  rintro e w1 ⟨⟨x1, l1, m1, rfl⟩, u1, g1⟩
  have k1 := hc.grown hBc (by omega) g1
  have s1 := g1.size
  clear hc hu
  go_wp2_with fail
  refine (pickInt_any B c w1.heap.size 10 _ a len cap [0, 1, 255, 256, 4294967295, 4294967296, -1, 9223372036854775807, -9223372036854775808, x1] _ hBc (by simp; omega) (k1.below ((Below.refl _ _).alloc (by omega) _)) (u1.below ((Below.refl _ _).alloc (by omega) _)) (by simp) (by omega) rfl (by omega) (by omega) (fun j hj => ?_)).mono ?_
  · rw [cell_of_row _ w1.heap.size j _ 3 (0, 0) (heap_alloc_new w1 _)]
    rw [List.getElem?_toArray]
    rfl
  · rintro e w2 ⟨⟨v, hv, rfl⟩, u2, g2⟩
    obtain ⟨x, rfl⟩ : ∃ x, v = .int .i64 x := by
      obtain ⟨x, _, hx⟩ := List.mem_map.1 hv
      exact ⟨x, hx.symm⟩
    clear hv
    go_wp2
    go_ret
    exact ⟨⟨_, rfl⟩, u2, grown_trans (grown_trans g1 (World.grownBy_alloc _ _ _)) g2⟩

/-- a text of at most 39 bytes -/
def PostOf (w : World) (e : Ending) (w' : World) : Prop := (∃ s : ByteArray, s.size ≤ 39 ∧ e = .returned (.string s)) ∧ Below w.heap.size w w'
theorem below_of (w w1 w2 : World) (b1 : Below w.heap.size w w1) (g : w1.grownBy w2 (some w.heap.size)) : Below w.heap.size w w2 :=
  b1.grown g b1.size (fun k hk => by injection hk with hk; omega)
/-- a number, and such a text -/
def PostMore (w : World) (e : Ending) (w' : World) : Prop := (∃ (x : Int) (s : ByteArray), s.size ≤ 39 ∧ e = .returned (.tuple #[.int .i64 x, .string s])) ∧ Below w.heap.size w w'
end Go.Proofs.Ytkibddcjogfklaa.draw
