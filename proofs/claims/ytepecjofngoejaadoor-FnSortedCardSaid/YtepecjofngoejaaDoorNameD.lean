/-
  Contracts of the draws of names (bounds only): l04Name, DrawSegmentName, DrawReadName.
-/
import Derived.Test.YtepecjofngoejaaDoorNameB
import Derived.Test.YtepecjofngoejaaDoorDrawT
import Derived.Test.YtepecjofngoejaaDoorInt3
namespace Go.Proofs.YtepecjofngoejaaDoor.draw
open Go.RowKit
open kit
open num

/-- a text of at most 21 bytes -/
def PostW (c : Nat) (a : Option Addr) (len cap : Nat) (w : World) (e : Ending) (w' : World) : Prop :=
  (∃ s : ByteArray, s.size ≤ 21 ∧ e = .returned (.string s)) ∧ Cur w' c a len cap ∧ w.grownBy w' (some c)

set_option maxHeartbeats 1000000 in
theorem name4_any (B c : Nat) (a : Option Addr) (len cap : Nat) (w : World) (hBc : B ≤ c) (hcw : c < w.heap.size) (hc : CodeAt w B a len) (hu : Cur w c a len cap) :
    Calls Tryd.prog 37 #[.pointer (some ⟨c, 0, none⟩)] w (PostW c a len cap w) := by
  go_enter Tryd.func37, Tryd.ntmps37
  go_wp2_with fail
  refine (below_any B c a len cap 6 w hBc (by omega) hc hu (by omega) (by omega)).mono ?_
  rintro e w1 ⟨⟨y, l1, m1, rfl⟩, u1, g1⟩
  have k1 := hc.grown hBc (by omega) g1
  have s1 := g1.size
  clear hc hu
  by_cases h0 : y = 0
  · subst h0
    go_wp2_with fail
    refine (pick_any B c w1.heap.size 13 _ a len cap [{ data := #[] }, { data := #[97] }, { data := #[114, 101, 97, 100, 109, 101] }, { data := #[115, 48, 48, 48, 48, 48, 48, 48, 97, 46, 115, 101, 103] }, { data := #[115, 48, 48, 48, 48, 48, 48, 48, 65, 46, 115, 101, 103] }, { data := #[115, 51, 98, 57, 97, 99, 97, 48, 49, 46, 115, 101, 103] }, { data := #[115, 48, 48, 48, 48, 48, 48, 48, 48, 46, 115, 101, 103, 46, 116, 109, 112] }, { data := #[115, 48, 48, 48, 48, 48, 48, 48, 46, 115, 101, 103] }, { data := #[120, 48, 48, 48, 48, 48, 48, 48, 48, 46, 115, 101, 103] }, { data := #[115, 48, 48, 48, 48, 48, 48, 48, 48, 46, 115, 101, 104] }, { data := #[97, 32, 98] }, { data := #[97, 97, 97, 97, 97, 97, 97, 97, 97, 97, 97, 97, 97, 97, 97, 97, 97, 97, 97, 97, 97] }, { data := #[97, 97, 97, 97, 97, 97, 97, 97, 97, 97, 97, 97, 97, 97, 97, 97, 97, 97, 97, 97] }] _ hBc (by simp; omega) (k1.below ((Below.refl _ _).alloc (by omega) _)) (u1.below ((Below.refl _ _).alloc (by omega) _)) (by simp) (by omega) rfl (by omega) (by omega) (fun j hj => ?_)).mono ?_
    · rw [cell_of_row _ w1.heap.size j _ 9 (0, 0) (heap_alloc_new w1 _)]
      rw [List.getElem?_toArray]
      rfl
    rintro e w2 ⟨⟨v, hv, rfl⟩, u2, g2⟩
    obtain ⟨s, rfl, hs⟩ : ∃ s : ByteArray, v = .string s ∧ s.size ≤ 21 := by
      obtain ⟨s, hs, rfl⟩ := List.mem_map.1 hv
      refine ⟨s, rfl, ?_⟩
      simp only [List.mem_cons, List.not_mem_nil, or_false] at hs
      rcases hs with rfl | rfl | rfl | rfl | rfl | rfl | rfl | rfl | rfl | rfl | rfl | rfl | rfl <;> decide
    clear hv
    go_wp2
    go_ret
    exact ⟨⟨_, hs, rfl⟩, u2, grown_trans (grown_trans g1 (World.grownBy_alloc _ _ _)) g2⟩
  · have n0 : (y == 0) = false := by rw [beq_eq_false_iff_ne]; exact h0
    by_cases h1 : y = 1
    · subst h1
      go_wp2_with fail
      refine (below_any B c a len cap 40 w1 hBc (by omega) k1 u1 (by omega) (by omega)).mono ?_
      rintro e w2 ⟨⟨x, l2, m2, rfl⟩, u2, g2⟩
      have s2 := g2.size
      go_wp2_with fail
      refine (nam.specTemp_any x w2).mono ?_
      rintro e w3 ⟨rfl, c3⟩
      have hz := nam.tmpI_size x
      go_wp2
      go_ret
      exact ⟨⟨_, by omega, rfl⟩, u2.below (c3.mono (by omega)), grown_trans (grown_trans g1 g2) (grown_of c3 _)⟩
    · have n1 : (y == 1) = false := by rw [beq_eq_false_iff_ne]; exact h1
      go_wp2_with fail
      refine (below_any B c a len cap 40 w1 hBc (by omega) k1 u1 (by omega) (by omega)).mono ?_
      rintro e w2 ⟨⟨x, l2, m2, rfl⟩, u2, g2⟩
      have s2 := g2.size
      go_wp2_with fail
      refine (nam.specSeg_any x w2).mono ?_
      rintro e w3 ⟨rfl, c3⟩
      have hz := nam.segI_size x
      go_wp2
      go_ret
      exact ⟨⟨_, by omega, rfl⟩, u2.below (c3.mono (by omega)), grown_trans (grown_trans g1 g2) (grown_of c3 _)⟩

/-- a number; nothing of what was there turns -/
def PostNI (w : World) (e : Ending) (w' : World) : Prop := (∃ x : Int, e = .returned (.int .i64 x)) ∧ Below w.heap.size w w'
theorem drawSeg_any (a : Option Addr) (len cap : Nat) (w : World) (hc : CodeAt w w.heap.size a len) :
    Calls Tryd.prog 12 #[.slice a len cap] w (PostNI w) := by
  go_enter Tryd.func12, Tryd.ntmps12
  go_wp2_with fail
  refine (new_any w.heap.size a len cap w (Nat.le_refl _) hc).mono ?_
  rintro e w1 ⟨rfl, u1, b1, sz1⟩
  have code1 := hc.below b1
  have hs1 : w.heap.size < w1.heap.size := by omega
  clear sz1 hc
  go_wp2_with fail
  refine (int3_any w.heap.size w.heap.size a len cap w1 (Nat.le_refl _) hs1 code1 u1).mono ?_
  rintro e w2 ⟨⟨x, rfl⟩, u2, g2⟩
  have b2 := below_of w w1 w2 b1 g2
  clear code1 u1 g2
  go_wp2
  go_ret
  exact ⟨⟨x, rfl⟩, b2⟩
/-- a text of at most 21 bytes; nothing of what was there turns -/
def PostNW (w : World) (e : Ending) (w' : World) : Prop := (∃ s : ByteArray, s.size ≤ 21 ∧ e = .returned (.string s)) ∧ Below w.heap.size w w'
theorem drawName_any (a : Option Addr) (len cap : Nat) (w : World) (hc : CodeAt w w.heap.size a len) :
    Calls Tryd.prog 15 #[.slice a len cap] w (PostNW w) := by
  go_enter Tryd.func15, Tryd.ntmps15
  go_wp2_with fail
  refine (new_any w.heap.size a len cap w (Nat.le_refl _) hc).mono ?_
  rintro e w1 ⟨rfl, u1, b1, sz1⟩
  have code1 := hc.below b1
  have hs1 : w.heap.size < w1.heap.size := by omega
  clear sz1 hc
  go_wp2_with fail
  refine (name4_any w.heap.size w.heap.size a len cap w1 (Nat.le_refl _) hs1 code1 u1).mono ?_
  rintro e w2 ⟨⟨s, hs, rfl⟩, u2, g2⟩
  have b2 := below_of w w1 w2 b1 g2
  clear code1 u1 g2
  go_wp2
  go_ret
  exact ⟨⟨s, hs, rfl⟩, b2⟩

end Go.Proofs.YtepecjofngoejaaDoor.draw
