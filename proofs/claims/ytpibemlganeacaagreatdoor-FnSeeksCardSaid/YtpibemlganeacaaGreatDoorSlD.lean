/-
  Draws of what a foot is made of, of sealed files, and of what they are made of.
-/
import Derived.Test.YtpibemlganeacaaGreatDoorPlQQ
import Derived.Test.YtpibemlganeacaaGreatDoorScDF
namespace Go.Proofs.YtpibemlganeacaaGreatDoor.draw
set_option maxRecDepth 20000
open Go.RowKit
open kit hd sc pl sl

/-- a head, offsets of the call's own, and an end -/
def PostFt (w : World) (e : Ending) (w' : World) : Prop := (∃ (x y z u : Int) (v : Value) (n : Nat) (os : List Int) (q : Int), e = .returned (.tuple #[.agg #[.int .i64 x, .int .i64 y, .int .i64 z, .int .i64 u], v, .int .i64 q]) ∧ n ≤ 9 ∧ (∀ o ∈ os, i64 o) ∧ w'.ownsRow w.heap.size 3 1 v n (os.map (Value.int .i64))) ∧ Below w.heap.size w w'
theorem below_four {B r : Nat} {w0 w : World} (c0 c1 c2 c3 : Value) (h : Below B w0 w) (hr : B ≤ r) : Below B w0 ((((w.setCell ⟨r, 0, none⟩ c0).setCell ⟨r, 1, none⟩ c1).setCell ⟨r, 2, none⟩ c2).setCell ⟨r, 3, none⟩ c3) := by
  iterate 4 refine Below.setCell ?_ hr _
  exact h
theorem own_four {B r n : Nat} {w : World} {E : TypeId} {v : Value} {xs : List Value} (c0 c1 c2 c3 : Value) (h : w.ownsRow B E 1 v n xs) (hr : ∀ q, v.ownBlock = some q → q ≠ r) : ((((w.setCell ⟨r, 0, none⟩ c0).setCell ⟨r, 1, none⟩ c1).setCell ⟨r, 2, none⟩ c2).setCell ⟨r, 3, none⟩ c3).ownsRow B E 1 v n xs := by
  have hv : v.ownBlock ≠ some r := fun e => hr r e rfl
  iterate 4 refine own_setOther ?_ _ _ _ hv
  exact h
set_option maxHeartbeats 2000000 in
theorem text12_any (a : Option Addr) (len cap : Nat) (w : World) (hc : CodeAt w w.heap.size a len) :
    Calls Tryz.prog 42 #[.slice a len cap] w (PostFi w) := by
  obtain ⟨c, hcc⟩ : ∃ c, w.heap.size = c := ⟨_, rfl⟩
  have hBc : c ≤ c := Nat.le_refl _
  go_enter Tryz.func42, Tryz.ntmps42
  go_wp2_with fail
  refine (new_any w.heap.size a len cap w (Nat.le_refl _) hc).mono ?_
  rintro e w1 ⟨rfl, u1, b1, sz1⟩
  have k1 := hc.below b1
  rw [hcc] at u1 k1
  have hs1 : c < w1.heap.size := by omega
  have HB1 := Lib.hid b1
  have HCC := Lib.hid hcc
  have G1 := Lib.hid (grown_refl w1 (some c))
  clear hc b1 sz1
  rw [hcc]
  clear hcc
  go_wp2_with fail
  refine (once_any c c a len cap 4 w1 hBc (by omega) k1 u1 (by decide) (by decide)).mono ?_
  rintro e w2 ⟨⟨o, rfl⟩, u2, g2⟩
  have k2 := k1.grown hBc (by omega) g2
  have hs2 : c < w2.heap.size := Nat.lt_of_lt_of_le hs1 g2.size
  have G2 := Lib.hid (grown_trans G1.out g2)
  clear k1 u1 hs1 G1
  cases o with
  | true =>
    go_wp2_with fail
    refine (file10_any c c a len cap w2 hBc hs2 k2 u2).mono ?_
    rintro e w3 ⟨⟨r, hr, rfl⟩, u3, g3⟩
    have k3 := k2.grown hBc (by omega) g3
    have hs3 : c < w3.heap.size := Nat.lt_of_lt_of_le hs2 g3.size
    have G3 := Lib.hid (grown_trans G2.out g3)
    clear k2 u2 hs2 G2
    go_wp2
    go_ret
    exact ⟨⟨r, by omega, rfl⟩, (HB1.out.grown G3.out HB1.out.size (fun k hk => by injection hk with hk; have := HCC.out; omega))⟩
  | false =>
    go_wp2_with fail
    refine (head8_any c c a len cap w2 hBc hs2 k2 u2).mono ?_
    rintro e w3 ⟨⟨x, y, z, u, rfl⟩, u3, g3⟩
    have k3 := k2.grown hBc (by omega) g3
    have hs3 : c < w3.heap.size := Nat.lt_of_lt_of_le hs2 g3.size
    have G3 := Lib.hid (grown_trans G2.out g3)
    clear k2 u2 hs2 G2
    have z3 : c + 1 ≤ w3.heap.size := by omega
    go_wp2_with fail
    refine (records8_any c c a len cap 8 w3 hBc hs3 k3 u3 (by omega)).mono ?_
    rintro e w4 ⟨⟨v, n, xs, rfl, hn, hx, ho⟩, u4, g4⟩
    have k4 := k3.grown hBc (by omega) g4
    have hs4 : c < w4.heap.size := Nat.lt_of_lt_of_le hs3 g4.size
    have G4 := Lib.hid (grown_trans G3.out g4)
    clear k3 u3 hs3 G3
    obtain ⟨av, cv, rfl, hxl, _, _⟩ := own_form ho
    have hxl' : xs.length = n := by simpa using hxl
    have AT := Lib.hid (strs.At.of_own ho)
    have hT := slT_few ⟨x, y, z, u⟩ xs
    have CT := Lib.hid (specSeal x y z u av cv n xs w4 (by omega) AT.out)
    obtain ⟨T, hTT⟩ : ∃ T, slT ⟨x, y, z, u⟩ xs = T := ⟨_, rfl⟩
    rw [hTT] at CT hT
    clear hTT ho hxl
    go_wp2_with fail
    refine (CT.out).mono ?_
    rintro e w5 ⟨rfl, b5⟩
    have k5 := k4.below (b5.mono (show c ≤ w4.heap.size by omega))
    have u5 := u4.below (b5.mono (show c + 1 ≤ w4.heap.size by omega))
    have hs5 : c < w5.heap.size := Nat.lt_of_lt_of_le hs4 b5.size
    have G5 := Lib.hid (grown_below G4.out (b5.mono G4.out.size))
    clear k4 u4 hs4 G4
    go_wp2_with fail
    refine (bent8_any c c a len cap T w5 hBc hs5 k5 u5 (by omega)).mono ?_
    rintro e w6 ⟨⟨r, hr, rfl⟩, u6, g6⟩
    have k6 := k5.grown hBc (by omega) g6
    have hs6 : c < w6.heap.size := Nat.lt_of_lt_of_le hs5 g6.size
    have G6 := Lib.hid (grown_trans G5.out g6)
    clear k5 u5 hs5 G5
    go_wp2
    go_ret
    exact ⟨⟨r, by omega, rfl⟩, (HB1.out.grown G6.out HB1.out.size (fun k hk => by injection hk with hk; have := HCC.out; omega))⟩
end Go.Proofs.YtpibemlganeacaaGreatDoor.draw
