/-
  Draws of what a foot is made of, of sealed files, and of what they are made of.
-/
import Derived.Test.YtdppflfhjmigdaaDoorPlQQ
import Derived.Test.YtdppflfhjmigdaaDoorScDF
import Derived.Test.YtdppflfhjmigdaaDoorFrD
namespace Go.Proofs.YtdppflfhjmigdaaDoor.draw
set_option maxRecDepth 20000
open Go.RowKit
open kit hd sc pl sl

/-- a head, offsets of the call's own, and an end -/
def PostFt (w : World) (e : Ending) (w' : World) : Prop := (∃ (x y z u : Int) (v : Value) (n : Nat) (os : List Int) (q : Int), e = .returned (.tuple #[.agg #[.int .i64 x, .int .i64 y, .int .i64 z, .int .i64 u], v, .int .i64 q]) ∧ n ≤ 9 ∧ (∀ o ∈ os, i64 o) ∧ w'.ownsRow w.heap.size 3 1 v n (os.map (Value.int .i64))) ∧ Below w.heap.size w w'
theorem below_four {B r : Nat} {w0 w : World} (c0 c1 c2 c3 : Value) (h : Below B w0 w) (hr : B ≤ r) : Below B w0 ((((w.setCell ⟨r, 0, none⟩ c0).setCell ⟨r, 1, none⟩ c1).setCell ⟨r, 2, none⟩ c2).setCell ⟨r, 3, none⟩ c3) := by
  iterate 4 refine Below.setCell ?_ hr _
  exact h
theorem own_four {B r n : Nat} {w : World} {E : TypeId} {v : Value} {xs : List Value} (c0 c1 c2 c3 : Value) (h : w.ownsRow B E 1 v n xs) (hr : ∀ q, v.ownBlock = some q → q ≠ r) : ((((w.setCell ⟨r, 0, none⟩ c0).setCell ⟨r, 1, none⟩ c1).setCell ⟨r, 2, none⟩ c2).setCell ⟨r, 3, none⟩ c3).ownsRow B E 1 v n xs := by
  have hv : v.ownBlock ≠ some r := fun e => hr r e rfl
  iterate 4 refine own_setOther ?_ _ _ _ hv
  exact h
set_option maxHeartbeats 2000000 in
theorem text12_any (a : Option Addr) (len cap : Nat) (w : World) (hc : CodeAt w w.heap.size a len) :
    Calls Tryd.prog 32 #[.slice a len cap] w (PostFi w) := by
  obtain ⟨c, hcc⟩ : ∃ c, w.heap.size = c := ⟨_, rfl⟩
  have hBc : c ≤ c := Nat.le_refl _
  go_enter Tryd.func32, Tryd.ntmps32
  go_wp2_with fail
  refine (new_any w.heap.size a len cap w (Nat.le_refl _) hc).mono ?_
  rintro e w1 ⟨rfl, u1, b1, sz1⟩
  have k1 := hc.below b1
  rw [hcc] at u1 k1
  have hs1 : c < w1.heap.size := by omega
  have HB1 := Lib.hid b1
  have HCC := Lib.hid hcc
  have G1 := Lib.hid (grown_refl w1 (some c))
  clear hc b1 sz1
  rw [hcc]
  clear hcc
  go_wp2_with fail
  refine (once_any c c a len cap 4 w1 hBc (by omega) k1 u1 (by decide) (by decide)).mono ?_
  rintro e w2 ⟨⟨o, rfl⟩, u2, g2⟩
  have k2 := k1.grown hBc (by omega) g2
  have hs2 : c < w2.heap.size := Nat.lt_of_lt_of_le hs1 g2.size
  have G2 := Lib.hid (grown_trans G1.out g2)
  clear k1 u1 hs1 G1
  cases o with
  | true =>
    go_wp2_with fail
    refine (file10_any c c a len cap w2 hBc hs2 k2 u2).mono ?_
    rintro e w3 ⟨⟨r, hr, rfl⟩, u3, g3⟩
    have k3 := k2.grown hBc (by omega) g3
    have hs3 : c < w3.heap.size := Nat.lt_of_lt_of_le hs2 g3.size
    have G3 := Lib.hid (grown_trans G2.out g3)
    clear k2 u2 hs2 G2
    go_wp2
    go_ret
    exact ⟨⟨r, by omega, rfl⟩, (HB1.out.grown G3.out HB1.out.size (fun k hk => by injection hk with hk; have := HCC.out; omega))⟩
  | false =>
    go_wp2_with fail
    refine (head8_any c c a len cap w2 hBc hs2 k2 u2).mono ?_
    rintro e w3 ⟨⟨x, y, z, u, rfl⟩, u3, g3⟩
    have k3 := k2.grown hBc (by omega) g3
    have hs3 : c < w3.heap.size := Nat.lt_of_lt_of_le hs2 g3.size
    have G3 := Lib.hid (grown_trans G2.out g3)
    clear k2 u2 hs2 G2
    have z3 : c + 1 ≤ w3.heap.size := by omega
    go_wp2_with fail
    refine (records8_any c c a len cap 8 w3 hBc hs3 k3 u3 (by omega)).mono ?_
    rintro e w4 ⟨⟨v, n, xs, rfl, hn, hx, ho⟩, u4, g4⟩
    have k4 := k3.grown hBc (by omega) g4
    have hs4 : c < w4.heap.size := Nat.lt_of_lt_of_le hs3 g4.size
    have G4 := Lib.hid (grown_trans G3.out g4)
    clear k3 u3 hs3 G3
    obtain ⟨av, cv, rfl, hxl, _, _⟩ := own_form ho
    have hxl' : xs.length = n := by simpa using hxl
    have AT := Lib.hid (strs.At.of_own ho)
    have hT := slT_few ⟨x, y, z, u⟩ xs
    have CT := Lib.hid (specSeal x y z u av cv n xs w4 (by omega) AT.out)
    obtain ⟨T, hTT⟩ : ∃ T, slT ⟨x, y, z, u⟩ xs = T := ⟨_, rfl⟩
    rw [hTT] at CT hT
    clear hTT ho hxl
    go_wp2_with fail
    refine (CT.out).mono ?_
    rintro e w5 ⟨rfl, b5⟩
    have k5 := k4.below (b5.mono (show c ≤ w4.heap.size by omega))
    have u5 := u4.below (b5.mono (show c + 1 ≤ w4.heap.size by omega))
    have hs5 : c < w5.heap.size := Nat.lt_of_lt_of_le hs4 b5.size
    have G5 := Lib.hid (grown_below G4.out (b5.mono G4.out.size))
    clear k4 u4 hs4 G4
    go_wp2_with fail
    refine (bent8_any c c a len cap T w5 hBc hs5 k5 u5 (by omega)).mono ?_
    rintro e w6 ⟨⟨r, hr, rfl⟩, u6, g6⟩
    have k6 := k5.grown hBc (by omega) g6
    have hs6 : c < w6.heap.size := Nat.lt_of_lt_of_le hs5 g6.size
    have G6 := Lib.hid (grown_trans G5.out g6)
    clear k5 u5 hs5 G5
    go_wp2
    go_ret
    exact ⟨⟨r, by omega, rfl⟩, (HB1.out.grown G6.out HB1.out.size (fun k hk => by injection hk with hk; have := HCC.out; omega))⟩
theorem drawReadSealed_any (a : Option Addr) (len cap : Nat) (w : World) (hc : CodeAt w w.heap.size a len) :
    Calls Tryd.prog 11 #[.slice a len cap] w (PostFi w) := by
  go_enter Tryd.func11, Tryd.ntmps11
  go_wp2_with fail
  refine (text12_any a len cap w hc).mono ?_
  rintro e w1 ⟨⟨b, hb, rfl⟩, b1⟩
  go_wp2
  go_ret
  exact ⟨⟨b, hb, rfl⟩, b1⟩

end Go.Proofs.YtdppflfhjmigdaaDoor.draw

namespace Go.Proofs.YtdppflfhjmigdaaDoor.draw
set_option maxRecDepth 20000
open Go.RowKit
open kit hd sc pl sl

theorem box_low {w w' : World} {B g : Nat} {cs : List Value} (h : Box w g cs) (k : Below B w w') (hg : g < B) : Box w' g cs := by
  have hb := k.block g hg
  refine ⟨⟨Nat.lt_of_lt_of_le h.lt k.size, fun j x hj => ?_⟩, fun j => (World.frozen?_of_block (a := ⟨g, j, none⟩) hb).trans (h.2 j)⟩
  rw [← h.1.2 j x hj]
  unfold World.cell?
  rw [hb]
theorem Hb.low {w w' : World} {B g : Nat} {a b c d : Int} (h : Hb w g a b c d) (k : Below B w w') (hg : g < B) : Hb w' g a b c d := (k.block g hg).trans h
/-- a head, and records of the call's own -/
def PostSl (w : World) (e : Ending) (w' : World) : Prop := (∃ (x y z u : Int) (v : Value) (n : Nat) (xs : List ByteArray), e = .returned (.tuple #[.agg #[.int .i64 x, .int .i64 y, .int .i64 z, .int .i64 u], v]) ∧ n ≤ 9 ∧ (∀ r ∈ xs, r.size ≤ 61) ∧ w'.ownsRow w.heap.size 9 1 v n (xs.map Value.string)) ∧ Below w.heap.size w w'
set_option maxHeartbeats 4000000 in
theorem case12_any (a : Option Addr) (len cap : Nat) (w : World) (hc : CodeAt w w.heap.size a len) :
    Calls Tryd.prog 39 #[.slice a len cap] w (PostSl w) := by
  obtain ⟨i0, hi, hz0, hz1, hz2⟩ := info_parts strs.Tryd.infoStr
  obtain ⟨W, hW⟩ : ∃ W, W = w.alloc (.cells #[.int .i64 0, .int .i64 0, .int .i64 0, .int .i64 0] 26) := ⟨_, rfl⟩
  have al : Below w.heap.size w W := by rw [hW]; exact (Below.refl _ _).alloc (Nat.le_refl _) _
  have k0 := hc.below al
  have hr0 : Hb W w.heap.size 0 0 0 0 := by rw [hW]; exact Hb.new w _ _ _ _
  have s0 : w.heap.size < W.heap.size := by rw [hW]; simp
  have HAL := Lib.hid al
  obtain ⟨c, hcc⟩ : ∃ c, W.heap.size = c := ⟨_, rfl⟩
  have hBc : c ≤ c := Nat.le_refl _
  clear hc al
  go_enter Tryd.func39, Tryd.ntmps39
  go_wp2_with fail
  rw [← hW]
  clear hW
  refine (new_any W.heap.size a len cap W (Nat.le_refl _) (k0.raise (by omega))).mono ?_
  rintro e w1 ⟨rfl, u1, b1, sz1⟩
  have k1 := (k0.raise (show w.heap.size ≤ W.heap.size by omega)).below b1
  have hr1 := hr0.below b1
  have HB1 := Lib.hid (HAL.out.trans (b1.mono HAL.out.size))
  rw [hcc] at u1 k1 ⊢
  have hs1 : c < w1.heap.size := by omega
  have hwc : w.heap.size < c := by omega
  have G1 := Lib.hid (grown_refl w1 (some c))
  have HR := Lib.hid hr1
  clear k0 hr0 b1 sz1 hr1 s0 hcc
  go_wp2_with fail
  refine (any8_any c c a len cap w1 hBc hs1 k1 u1).mono ?_
  rintro e w2 ⟨⟨x, y, z, u, rfl⟩, u2, g2⟩
  have k2 := k1.grown hBc (by omega) g2
  have hs2 : c < w2.heap.size := Nat.lt_of_lt_of_le hs1 g2.size
  have G2 := Lib.hid (grown_trans G1.out g2)
  clear k1 u1 hs1 G1
  have al := (Below.refl w2.heap.size w2).alloc (Nat.le_refl _) (.cells #[.int .i64 x, .int .i64 y, .int .i64 z, .int .i64 u] 26)
  have bx := Box.new w2 #[.int .i64 x, .int .i64 y, .int .i64 z, .int .i64 u] 26
  obtain ⟨w3, hw3⟩ : ∃ w3, w3 = w2.alloc (.cells #[.int .i64 x, .int .i64 y, .int .i64 z, .int .i64 u] 26) := ⟨_, rfl⟩
  rw [← hw3] at al bx
  have k3 := k2.below (al.mono (show c ≤ w2.heap.size by omega))
  have u3 := u2.below (al.mono (show c + 1 ≤ w2.heap.size by omega))
  have hs3 : c < w3.heap.size := Nat.lt_of_lt_of_le hs2 al.size
  have G3 := Lib.hid (grown_below G2.out (al.mono G2.out.size))
  have hg2 : c < w2.heap.size := hs2
  have hs23 : w2.heap.size < w3.heap.size := bx.lt
  have HW3 := Lib.hid hw3
  clear k2 u2 hs2 G2 al hw3
  go_wp2_with fail
  rw [← HW3.out]
  refine (records8_any c c a len cap 8 w3 hBc hs3 k3 u3 (by omega)).mono ?_
  rintro e w4 ⟨⟨v, n, xs, rfl, hn, hx, ho⟩, u4, g4⟩
  have k4 := k3.grown hBc (by omega) g4
  have hs4 : c < w4.heap.size := Nat.lt_of_lt_of_le hs3 g4.size
  have G4 := Lib.hid (grown_trans G3.out g4)
  have bx := box_kept bx g4 (by omega)
  have z4 : w3.heap.size ≤ w4.heap.size := g4.size
  clear k3 u3 G3 HW3 g4
  go_wp2_with fail
  refine (once_any c c a len cap 12 w4 hBc (by omega) k4 u4 (by decide) (by decide)).mono ?_
  rintro e w5 ⟨⟨o, rfl⟩, u5, g5⟩
  have k5 := k4.grown hBc (by omega) g5
  have hs5 : c < w5.heap.size := Nat.lt_of_lt_of_le hs4 g5.size
  have G5 := Lib.hid (grown_trans G4.out g5)
  clear k4 u4 hs4 G4
  have ho := ho.kept g5 (own_ne (own_base ho (show c + 1 ≤ w3.heap.size by omega)))
  have bx := box_kept bx g5 (by omega)
  have z5 : w3.heap.size ≤ w5.heap.size := Nat.le_trans z4 g5.size
  clear g5
  cases o with
  | false =>
    obtain ⟨av, cv, rfl, _, _, _⟩ := own_form ho
    have HRf := Lib.hid (HR.out.kept G5.out (by omega))
    have bxf := Lib.hid bx
    have ne : w.heap.size ≠ w2.heap.size := by omega
    have HO := Lib.hid (own_four (r := w.heap.size) (.int .i64 x) (.int .i64 y) (.int .i64 z) (.int .i64 u) (own_base ho (show w.heap.size ≤ w3.heap.size by omega)) (fun q hq => by have := (own_block_ge ho q hq).1; omega))
    have HBF := Lib.hid (below_four (.int .i64 x) (.int .i64 y) (.int .i64 z) (.int .i64 u) (HB1.out.grown G5.out HB1.out.size (fun k hk => by injection hk with hk; omega)) (Nat.le_refl w.heap.size))
    clear ho bx
    obtain ⟨r0, r1, r2, r3⟩ := HRf.out.cells
    have f0 := HRf.out.frozen 0
    have f1 := HRf.out.frozen 1
    have f2 := HRf.out.frozen 2
    have f3 := HRf.out.frozen 3
    have y0 := bxf.out.at 0 _ rfl
    have y1 := bxf.out.at 1 _ rfl
    have y2 := bxf.out.at 2 _ rfl
    have y3 := bxf.out.at 3 _ rfl
    go_wp2
    try simp only [Exit.inBlock, Exit.then]
    refine bodyPost_ret (v := .tuple #[.agg #[.int .i64 x, .int .i64 y, .int .i64 z, .int .i64 u], .slice av n cv]) (by simp [results, Tryd.results39, go_sem, r0, r1, r2, r3]) rfl ⟨⟨x, y, z, u, _, n, xs, rfl, by omega, fun r hr => by have := hx r hr; omega, HO.out⟩, HBF.out⟩
  | true =>
    go_wp2_with fail
    refine (below_any c c a len cap 2 w5 hBc (by omega) k5 u5 (by decide) (by decide)).mono ?_
    rintro e w6 ⟨⟨zz, q0, q1, rfl⟩, u6, g6⟩
    have k6 := k5.grown hBc (by omega) g6
    have hs6 : c < w6.heap.size := Nat.lt_of_lt_of_le hs5 g6.size
    have G6 := Lib.hid (grown_trans G5.out g6)
    clear k5 u5 hs5 G5
    have ho := ho.kept g6 (own_ne (own_base ho (show c + 1 ≤ w3.heap.size by omega)))
    have bx := box_kept bx g6 (by omega)
    have z6 : w3.heap.size ≤ w6.heap.size := Nat.le_trans z5 g6.size
    clear g6
    obtain ⟨zn, rfl⟩ := Int.eq_ofNat_of_zero_le q0
    have e60 : (60 : Int) + (zn : Int) = ((60 + zn : Nat) : Int) := by omega
    have CL := Lib.hid (long_any (60 + zn) 5 w6 (by omega))
    rw [← e60] at CL
    have ht61 : 60 + zn ≤ 61 := by omega
    clear e60
    go_wp2_with fail
    refine (CL.out).mono ?_
    rintro e w7 ⟨⟨t, ht, rfl⟩, b7⟩
    have k7 := k6.below (b7.mono (show c ≤ w6.heap.size by omega))
    have u7 := u6.below (b7.mono (show c + 1 ≤ w6.heap.size by omega))
    have hs7 : c < w7.heap.size := Nat.lt_of_lt_of_le hs6 b7.size
    have G7 := Lib.hid (grown_below G6.out (b7.mono G6.out.size))
    clear k6 u6 hs6 G6
    have ho := own_below ho b7
    have bx := bx.below b7
    have z7 : w3.heap.size ≤ w7.heap.size := Nat.le_trans z6 b7.size
    have HRf := Lib.hid (HR.out.kept G7.out (by omega))
    have HO := Lib.hid ho
    have bxf := Lib.hid bx
    have t61 : t.size ≤ 61 := by omega
    clear ho bx b7 ht ht61
    go_wp2_with (at_builtin; refine list_app2 (by rfl) (.tmp 15) (.tmp 20) 27 (by rfl) w3.heap.size w7 9 i0 (.string { data := #[] }) 16 Tryd.underlying27 hi hz0 hz1 hz2 (by rfl) _ n _ HO.out z7 [.string t] 1 ?_ ?_ ?_ ?_ (by rfl) (by rfl) (by rfl) ?_ ?_; rfl; simp [Value.oneCell']; unfold maxLen; omega; omega; exact ⟨rfl, rfl, rfl⟩; intro v8 w8 o8 b8; have HR8 := HRf.out.low b8 (by omega); have bx8 := box_low bxf.out b8 hs23; obtain ⟨r0, r1, r2, r3⟩ := HR8.cells; have f0 := HR8.frozen 0; have f1 := HR8.frozen 1; have f2 := HR8.frozen 2; have f3 := HR8.frozen 3; have y0 := bx8.at 0 _ rfl; have y1 := bx8.at 1 _ rfl; have y2 := bx8.at 2 _ rfl; have y3 := bx8.at 3 _ rfl; clear HR8 bx8)
    have HO8 := Lib.hid (own_four (r := w.heap.size) (.int .i64 x) (.int .i64 y) (.int .i64 z) (.int .i64 u) (own_base o8 (show w.heap.size ≤ w3.heap.size by omega)) (fun q hq => by have := (own_block_ge o8 q hq).1; omega))
    have HB8 := (HB1.out.grown G7.out HB1.out.size (fun k hk => by injection hk with hk; omega)).trans (b8.mono (show w.heap.size ≤ w3.heap.size by omega))
    have HBF := Lib.hid (below_four (.int .i64 x) (.int .i64 y) (.int .i64 z) (.int .i64 u) HB8 (Nat.le_refl w.heap.size))
    try simp only [Exit.inBlock, Exit.then]
    refine bodyPost_ret (v := .tuple #[.agg #[.int .i64 x, .int .i64 y, .int .i64 z, .int .i64 u], v8]) (by simp [results, Tryd.results39, go_sem, r0, r1, r2, r3]) rfl ⟨⟨x, y, z, u, _, n + 1, xs ++ [t], rfl, by omega, fun r hr => ?_, by rw [List.map_append]; exact HO8.out⟩, HBF.out⟩
    rcases List.mem_append.1 hr with hr | hr
    · have := hx r hr; omega
    · obtain rfl : r = t := by simpa using hr
      exact t61
theorem drawSeal_any (a : Option Addr) (len cap : Nat) (w : World) (hc : CodeAt w w.heap.size a len) :
    Calls Tryd.prog 17 #[.slice a len cap] w (PostSl w) := by
  have al := (Below.refl w.heap.size w).alloc (Nat.le_refl _) (.cells #[.int .i64 0, .int .i64 0, .int .i64 0, .int .i64 0] 26)
  have hr0 := Hb.new w 0 0 0 0
  obtain ⟨W, hW⟩ : ∃ W, W = w.alloc (.cells #[.int .i64 0, .int .i64 0, .int .i64 0, .int .i64 0] 26) := ⟨_, rfl⟩
  rw [← hW] at al hr0
  have s0 : w.heap.size < W.heap.size := by rw [hW]; simp
  have kW : CodeAt W W.heap.size a len := (hc.below al).raise (by omega)
  have AL := Lib.hid al
  have HW := Lib.hid hW
  clear hW al hc
  go_enter Tryd.func17, Tryd.ntmps17
  go_wp2_with fail
  rw [← HW.out]
  refine (case12_any a len cap W kW).mono ?_
  rintro e w1 ⟨⟨x, y, z, u, v, n, xs, rfl, hn, hx, ho⟩, b1⟩
  have HR := hr0.below b1
  obtain ⟨r0, r1, r2, r3⟩ := HR.cells
  have f0 := HR.frozen 0
  have f1 := HR.frozen 1
  have f2 := HR.frozen 2
  have f3 := HR.frozen 3
  obtain ⟨av, cv, rfl, _, _, _⟩ := own_form ho
  have HO := Lib.hid (own_four (r := w.heap.size) (.int .i64 x) (.int .i64 y) (.int .i64 z) (.int .i64 u) (own_base ho (show w.heap.size ≤ W.heap.size by omega)) (fun q hq => by have := (own_block_ge ho q hq).1; omega))
  have HBF := Lib.hid (below_four (.int .i64 x) (.int .i64 y) (.int .i64 z) (.int .i64 u) (AL.out.trans (b1.mono AL.out.size)) (Nat.le_refl w.heap.size))
  clear ho b1 HR
  go_wp2
  try simp only [Exit.inBlock, Exit.then]
  refine bodyPost_ret (v := .tuple #[.agg #[.int .i64 x, .int .i64 y, .int .i64 z, .int .i64 u], .slice av n cv]) (by simp [results, Tryd.results17, go_sem, r0, r1, r2, r3]) rfl ⟨⟨x, y, z, u, _, n, xs, rfl, hn, hx, HO.out⟩, HBF.out⟩

end Go.Proofs.YtdppflfhjmigdaaDoor.draw
