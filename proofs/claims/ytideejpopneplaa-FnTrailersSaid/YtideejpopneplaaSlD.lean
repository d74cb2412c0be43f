/-
  Draws of what a foot is made of, of sealed files, and of what they are made of.
-/
import Derived.Test.YtideejpopneplaaPlG
import Derived.Test.YtideejpopneplaaScD
namespace Go.Proofs.Ytideejpopneplaa.draw
set_option maxRecDepth 20000
open Go.RowKit
open kit hd sc pl sl

/-- a head, offsets of the call's own, and an end -/
def PostFt (w : World) (e : Ending) (w' : World) : Prop := (∃ (x y z u : Int) (v : Value) (n : Nat) (os : List Int) (q : Int), e = .returned (.tuple #[.agg #[.int .i64 x, .int .i64 y, .int .i64 z, .int .i64 u], v, .int .i64 q]) ∧ n ≤ 9 ∧ (∀ o ∈ os, i64 o) ∧ w'.ownsRow w.heap.size 3 1 v n (os.map (Value.int .i64))) ∧ Below w.heap.size w w'
theorem below_four {B r : Nat} {w0 w : World} (c0 c1 c2 c3 : Value) (h : Below B w0 w) (hr : B ≤ r) : Below B w0 ((((w.setCell ⟨r, 0, none⟩ c0).setCell ⟨r, 1, none⟩ c1).setCell ⟨r, 2, none⟩ c2).setCell ⟨r, 3, none⟩ c3) := by
  iterate 4 refine Below.setCell ?_ hr _
  exact h
theorem own_four {B r n : Nat} {w : World} {E : TypeId} {v : Value} {xs : List Value} (c0 c1 c2 c3 : Value) (h : w.ownsRow B E 1 v n xs) (hr : ∀ q, v.ownBlock = some q → q ≠ r) : ((((w.setCell ⟨r, 0, none⟩ c0).setCell ⟨r, 1, none⟩ c1).setCell ⟨r, 2, none⟩ c2).setCell ⟨r, 3, none⟩ c3).ownsRow B E 1 v n xs := by
  have hv : v.ownBlock ≠ some r := fun e => hr r e rfl
  iterate 4 refine own_setOther ?_ _ _ _ hv
  exact h
set_option maxHeartbeats 2000000 in
theorem drawFoot_any (a : Option Addr) (len cap : Nat) (w : World) (hc : CodeAt w w.heap.size a len) :
    Calls Try.prog 25 #[.slice a len cap] w (PostFt w) := by
  obtain ⟨W, hW⟩ : ∃ W, W = w.alloc (.cells #[.int .i64 0, .int .i64 0, .int .i64 0, .int .i64 0] 42) := ⟨_, rfl⟩
  have al : Below w.heap.size w W := by rw [hW]; exact (Below.refl _ _).alloc (Nat.le_refl _) _
  have k0 := hc.below al
  have hr0 : Hb W w.heap.size 0 0 0 0 := by rw [hW]; exact Hb.new w _ _ _ _
  have s0 : w.heap.size < W.heap.size := by rw [hW]; simp
  have HAL := Lib.hid al
  obtain ⟨c, hcc⟩ : ∃ c, W.heap.size = c := ⟨_, rfl⟩
  have hBc : c ≤ c := Nat.le_refl _
  clear hc al
  go_enter Try.func25, Try.ntmps25
  go_wp2_with fail
  rw [← hW]
  clear hW
  refine (new_any W.heap.size a len cap W (Nat.le_refl _) (k0.raise (by omega))).mono ?_
  rintro e w1 ⟨rfl, u1, b1, sz1⟩
  have k1 := (k0.raise (show w.heap.size ≤ W.heap.size by omega)).below b1
  have hr1 := hr0.below b1
  have HB1 := Lib.hid (HAL.out.trans (b1.mono HAL.out.size))
  rw [hcc] at u1 k1 ⊢
  have hs1 : c < w1.heap.size := by omega
  have hwc : w.heap.size < c := by omega
  have G1 := Lib.hid (grown_refl w1 (some c))
  have HR := Lib.hid hr1
  clear k0 hr0 b1 sz1 hr1 s0 hcc
  go_wp2_with fail
  refine (any8_any c c a len cap w1 hBc hs1 k1 u1).mono ?_
  rintro e w2 ⟨⟨x, y, z, u, rfl⟩, u2, g2⟩
  have k2 := k1.grown hBc (by omega) g2
  have hs2 : c < w2.heap.size := Nat.lt_of_lt_of_le hs1 g2.size
  have G2 := Lib.hid (grown_trans G1.out g2)
  clear k1 u1 hs1 G1
  have z2 : c < w2.heap.size := hs2
  go_wp2_with fail
  refine (offsets11_any c c a len cap w2 hBc hs2 k2 u2).mono ?_
  rintro e w3 ⟨⟨v, n, os, rfl, hn, hos, ho⟩, u3, g3⟩
  have k3 := k2.grown hBc (by omega) g3
  have hs3 : c < w3.heap.size := Nat.lt_of_lt_of_le hs2 g3.size
  have G3 := Lib.hid (grown_trans G2.out g3)
  clear k2 u2 hs2 G2
  go_wp2_with fail
  refine (pickNew c c 5 a len cap [24, 100, 4294967295, 4294967296, -1] w3 hBc hs3 k3 u3 rfl (by decide) (by decide)).mono ?_
  rintro e w4 ⟨⟨q, hq, rfl⟩, u4, g4⟩
  have k4 := k3.grown hBc (by omega) g4
  have hs4 : c < w4.heap.size := Nat.lt_of_lt_of_le hs3 g4.size
  have G4 := Lib.hid (grown_trans G3.out g4)
  clear k3 u3 hs3 G3
  have ho := own_base (ho.kept g4 (own_ne (own_base ho (show c + 1 ≤ w2.heap.size by omega)))) (show c + 1 ≤ w2.heap.size by omega)
  obtain ⟨av, cv, rfl, _, _, _⟩ := own_form ho
  have HO := Lib.hid (own_four (r := w.heap.size) (.int .i64 x) (.int .i64 y) (.int .i64 z) (.int .i64 u) (own_base ho (show w.heap.size ≤ c + 1 by omega)) (fun q hq => by have := (own_block_ge ho q hq).1; omega))
  have HR := Lib.hid (HR.out.kept G4.out (by omega))
  obtain ⟨r0, r1, r2, r3⟩ := HR.out.cells
  have f0 := HR.out.frozen 0
  have f1 := HR.out.frozen 1
  have f2 := HR.out.frozen 2
  have f3 := HR.out.frozen 3
  have HBF := Lib.hid (below_four (.int .i64 x) (.int .i64 y) (.int .i64 z) (.int .i64 u) (HB1.out.grown G4.out HB1.out.size (fun k hk => by injection hk with hk; omega)) (Nat.le_refl w.heap.size))
  clear ho
  go_wp2
  try simp only [Exit.inBlock, Exit.then]
  refine bodyPost_ret (v := .tuple #[.agg #[.int .i64 x, .int .i64 y, .int .i64 z, .int .i64 u], .slice av n cv, .int .i64 q]) (by simp [results, Try.results25, go_sem, r0, r1, r2, r3]) rfl ⟨⟨x, y, z, u, _, n, os, q, rfl, hn, hos, HO.out⟩, HBF.out⟩

end Go.Proofs.Ytideejpopneplaa.draw
