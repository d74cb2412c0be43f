/-
  The exact walks of sealed files. impl's contracts come from SlI.
-/
import Derived.Test.YtdppflfhjmigdaaDoorSlR
import Derived.Test.YtdppflfhjmigdaaDoorHdY
import Derived.Test.YtdppflfhjmigdaaDoorStrQ
import Derived.Test.YtdppflfhjmigdaaDoorBig
namespace Go.Proofs.YtdppflfhjmigdaaDoor.sl
set_option maxRecDepth 20000
open Go.RowKit
open kit sum num burst hd fr recs sc pl om

set_option maxHeartbeats 1000000 in
theorem exactSealedOk (b : ByteArray) (w : World) (hb : b.size ≤ 9223372036854775807) (hg : GE w) :
    Calls Tryd.prog 6 #[.string b] w fun e w' => e = .returned (.bool true) ∧ Below w.heap.size w w' := by
  have HG := Lib.hid hg
  clear hg
  by_cases h1 : 1048576 < b.size
  · go_enter Tryd.func6, Tryd.ntmps6
    go_wp2
    go_ret
    exact ⟨rfl, Below.refl _ _⟩
  · have CS := Lib.hid (fun w => specSealedOk b w (by omega))
    have CI := Lib.hid (fun w (g : GE w) => implSealedOk b w (by omega) g)
    obtain ⟨z, hr⟩ : ∃ z, isS b = z := ⟨_, rfl⟩
    rw [hr] at CS CI
    clear hr
    go_enter Tryd.func6, Tryd.ntmps6
    go_wp2_with fail
    refine (CS.out _).mono ?_
    rintro e w1 ⟨rfl, b1⟩
    go_wp2_with fail
    refine (CI.out _ (HG.out.below b1)).mono ?_
    rintro e w2 ⟨rfl, b2⟩
    have B2 := Lib.hid (chain b1 b2)
    clear b1 b2
    go_wp2
    go_ret
    exact ⟨rfl, B2.out⟩

set_option maxHeartbeats 1000000 in
theorem exactResealed (b : ByteArray) (ver : Int) (w : World) (hb : b.size ≤ 9223372036854775807) (hg : GE w) :
    Calls Tryd.prog 7 #[.string b, .int .i64 ver] w fun e w' => e = .returned (.bool true) ∧ Below w.heap.size w w' := by
  have HG := Lib.hid hg
  clear hg
  by_cases h1 : 1048576 < b.size
  · go_enter Tryd.func7, Tryd.ntmps7
    go_wp2
    go_ret
    exact ⟨rfl, Below.refl _ _⟩
  · have CS := Lib.hid (fun w => specResealed b ver w (by omega))
    have CI := Lib.hid (fun w (g : GE w) => implResealed b ver w (by omega) g)
    obtain ⟨z, hr⟩ : ∃ z, rsT b ver = z := ⟨_, rfl⟩
    rw [hr] at CS CI
    clear hr
    go_enter Tryd.func7, Tryd.ntmps7
    go_wp2_with fail
    refine (CS.out _).mono ?_
    rintro e w1 ⟨rfl, b1⟩
    go_wp2_with fail
    refine (CI.out _ (HG.out.below b1)).mono ?_
    rintro e w2 ⟨rfl, b2⟩
    have B2 := Lib.hid (chain b1 b2)
    clear b1 b2
    go_wp2
    go_ret
    exact ⟨rfl, B2.out⟩

set_option maxHeartbeats 1000000 in
theorem exactSealedAs (b : ByteArray) (ver : Int) (w : World) (hb : b.size ≤ 9223372036854775807) (hg : GE w) :
    Calls Tryd.prog 9 #[.string b, .int .i64 ver] w fun e w' => e = .returned (.bool true) ∧ Below w.heap.size w w' := by
  have HG := Lib.hid hg
  clear hg
  by_cases h1 : 1048576 < b.size
  · go_enter Tryd.func9, Tryd.ntmps9
    go_wp2
    go_ret
    exact ⟨rfl, Below.refl _ _⟩
  · have CS := Lib.hid (fun w => specSealedAs b ver w (by omega))
    have CI := Lib.hid (fun w (g : GE w) => implSealedAs b ver w (by omega) g)
    obtain ⟨z, hr⟩ : ∃ z, asB b ver = z := ⟨_, rfl⟩
    rw [hr] at CS CI
    clear hr
    go_enter Tryd.func9, Tryd.ntmps9
    go_wp2_with fail
    refine (CS.out _).mono ?_
    rintro e w1 ⟨rfl, b1⟩
    go_wp2_with fail
    refine (CI.out _ (HG.out.below b1)).mono ?_
    rintro e w2 ⟨rfl, b2⟩
    have B2 := Lib.hid (chain b1 b2)
    clear b1 b2
    go_wp2
    go_ret
    exact ⟨rfl, B2.out⟩

set_option maxHeartbeats 1000000 in
theorem exactHeadIn (b : ByteArray) (w : World) (hb : b.size ≤ 9223372036854775807) (hg : GE w) :
    Calls Tryd.prog 8 #[.string b] w fun e w' => e = .returned (.bool true) ∧ Below w.heap.size w w' := by
  have HG := Lib.hid hg
  clear hg
  by_cases h1 : 1048576 < b.size
  · go_enter Tryd.func8, Tryd.ntmps8
    go_wp2
    go_ret
    exact ⟨rfl, Below.refl _ _⟩
  · have CS := Lib.hid (specHeadIn b w (by omega))
    have CI := Lib.hid (fun w (g : GE w) => implHeadIn b w (by omega) g)
    obtain ⟨v, s, p, l, hv⟩ := hi_form b
    unfold hiR at CS CI
    rw [hv] at CS CI
    obtain ⟨o, ho⟩ : ∃ o, isS b = o := ⟨_, rfl⟩
    rw [ho] at CS CI
    have CE := Lib.hid (fun w => eqHead_any v s p l w)
    clear hv ho
    go_enter Tryd.func8, Tryd.ntmps8
    go_wp2_with fail
    refine (CS.out).mono ?_
    rintro e w1 ⟨rfl, b1⟩
    obtain ⟨W1, hW1⟩ : ∃ W1, W1 = w1.alloc (.cells #[.int .i64 v, .int .i64 s, .int .i64 p, .int .i64 l] 26) := ⟨_, rfl⟩
    have HX := Lib.hid (show Four W1 w1.heap.size (.int .i64 v) (.int .i64 s) (.int .i64 p) (.int .i64 l) by rw [hW1]; exact Four.new w1 _ _ _ _ _)
    have HB1 := Lib.hid (show Below w.heap.size w W1 by rw [hW1]; exact b1.alloc b1.size _)
    have HW1 := Lib.hid hW1
    clear hW1 b1
    go_wp2_with fail
    rw [← HW1.out]
    refine (CI.out _ (HG.out.below HB1.out)).mono ?_
    rintro e w2 ⟨rfl, b2⟩
    obtain ⟨W2, hW2⟩ : ∃ W2, W2 = w2.alloc (.cells #[.int .i64 v, .int .i64 s, .int .i64 p, .int .i64 l] 26) := ⟨_, rfl⟩
    have hb2 : Below W1.heap.size W1 W2 := by rw [hW2]; exact b2.alloc b2.size _
    obtain ⟨_, x0, x1, x2, x3⟩ := HX.out.below hb2
    obtain ⟨_, y0, y1, y2, y3⟩ : Four W2 w2.heap.size (.int .i64 v) (.int .i64 s) (.int .i64 p) (.int .i64 l) := by rw [hW2]; exact Four.new w2 _ _ _ _ _
    have HB2 := Lib.hid (HB1.out.trans (hb2.mono HB1.out.size))
    have HW2 := Lib.hid hW2
    rw [hW2] at x0 x1 x2 x3 y0 y1 y2 y3
    clear hW2 b2 hb2
    go_wp2_with fail
    rw [← HW2.out]
    refine (CE.out _).mono ?_
    rintro e w3 ⟨rfl, b3⟩
    clear x0 x1 x2 x3 y0 y1 y2 y3
    go_wp2
    go_ret
    exact ⟨rfl, HB2.out.trans (b3.mono HB2.out.size)⟩

theorem own_far {w w' : World} {B B' s s' n n' : Nat} {e e' : TypeId} {u v : Value} {xs ys : List Value} (hu : w.ownsRow B e s u n xs) (hv : w'.ownsRow B' e' s' v n' ys) (h : w.heap.size ≤ B') : u.ownBlock = none ∨ u.ownBlock ≠ v.ownBlock := by
  cases h1 : u.ownBlock with
  | none => exact .inl rfl
  | some g =>
    refine .inr fun h2 => ?_
    have a := (own_block_ge hu g h1).2
    have b := (own_block_ge hv g h2.symm).1
    omega
theorem sR_le (b : ByteArray) : (sR b).length ≤ b.size := by
  unfold sR
  split
  · exact recs_le b
  · simp

set_option maxHeartbeats 2000000 in
theorem exactReadSealed (b : ByteArray) (w : World) (hb : b.size ≤ 9223372036854775807) (hg : GE w) :
    Calls Tryd.prog 5 #[.string b] w fun e w' => e = .returned (.bool true) ∧ Below w.heap.size w w' := by
  have HG := Lib.hid hg
  clear hg
  by_cases h1 : 1048576 < b.size
  · go_enter Tryd.func5, Tryd.ntmps5
    go_wp2
    go_ret
    exact ⟨rfl, Below.refl _ _⟩
  · have CS := Lib.hid (specReadSealed b w (by omega))
    have CI := Lib.hid (fun w (g : GE w) => implReadSealed b w (by omega) g)
    have hn := sR_le b
    obtain ⟨v, s, p, l, hv⟩ := hi_form b
    obtain ⟨d, hd⟩ : ∃ d, isS b = d := ⟨_, rfl⟩
    obtain ⟨xs, hxs⟩ : ∃ xs, sR b = xs := ⟨_, rfl⟩
    have HR : Hid (∀ B w u, RsV B w u b → ∃ t, u = .tuple #[.agg #[.int .i64 v, .int .i64 s, .int .i64 p, .int .i64 l], t, .bool d] ∧ w.ownsRow B 9 1 t xs.length (xs.map Value.string)) := Lib.hid (fun B w u h => by
      unfold RsV at h
      rw [hv, hd, hxs] at h
      exact h)
    rw [hxs] at hn
    have CE := Lib.hid (fun w => eqHead_any v s p l w)
    clear hv hd hxs
    go_enter Tryd.func5, Tryd.ntmps5
    go_wp2_with fail
    refine (CS.out).mono ?_
    rintro e w1 ⟨⟨u1, rfl, r1⟩, b1⟩
    obtain ⟨t1, rfl, o1⟩ := HR.out _ _ _ r1
    obtain ⟨W1, hW1⟩ : ∃ W1, W1 = w1.alloc (.cells #[.int .i64 v, .int .i64 s, .int .i64 p, .int .i64 l] 26) := ⟨_, rfl⟩
    have HX := Lib.hid (show Four W1 w1.heap.size (.int .i64 v) (.int .i64 s) (.int .i64 p) (.int .i64 l) by rw [hW1]; exact Four.new w1 _ _ _ _ _)
    have HB1 := Lib.hid (show Below w.heap.size w W1 by rw [hW1]; exact b1.alloc b1.size _)
    have OW1 := Lib.hid (own_below o1 (show Below w1.heap.size w1 W1 by rw [hW1]; exact (Below.refl _ _).alloc (Nat.le_refl _) _))
    have HW1 := Lib.hid hW1
    clear hW1 b1 r1 o1 CS
    go_wp2_with fail
    rw [← HW1.out]
    refine (CI.out _ (HG.out.below HB1.out)).mono ?_
    rintro e w2 ⟨⟨u2, rfl, r2⟩, b2⟩
    obtain ⟨t2, rfl, o2⟩ := HR.out _ _ _ r2
    obtain ⟨W2, hW2⟩ : ∃ W2, W2 = w2.alloc (.cells #[.int .i64 v, .int .i64 s, .int .i64 p, .int .i64 l] 26) := ⟨_, rfl⟩
    have b2' : Below w2.heap.size w2 W2 := by rw [hW2]; exact (Below.refl _ _).alloc (Nat.le_refl _) _
    have BX2 := Lib.hid (chain b2 b2')
    have OG2 := Lib.hid (own_below o2 b2')
    have OW2 := Lib.hid (own_below OW1.out BX2.out)
    have GW := Lib.hid (own_far OW1.out o2 (Nat.le_refl _))
    obtain ⟨_, x0, x1, x2, x3⟩ := HX.out.below BX2.out
    obtain ⟨_, y0, y1, y2, y3⟩ : Four W2 w2.heap.size (.int .i64 v) (.int .i64 s) (.int .i64 p) (.int .i64 l) := by rw [hW2]; exact Four.new w2 _ _ _ _ _
    have HW2 := Lib.hid hW2
    rw [hW2] at x0 x1 x2 x3 y0 y1 y2 y3
    clear hW2 b2 b2' r2 o2 OW1
    go_wp2_with fail
    rw [← HW2.out]
    refine (CE.out _).mono ?_
    rintro e w3 ⟨rfl, b3⟩
    have BX3 := Lib.hid (chain BX2.out b3)
    have OG3 := Lib.hid (own_below OG2.out b3)
    have OW3 := Lib.hid (own_below OW2.out b3)
    clear x0 x1 x2 x3 y0 y1 y2 y3 b3 OG2 OW2 BX2
    go_wp2_with fail
    refine (strs.eqStr_any w3 OG3.out OW3.out).mono ?_
    rintro e w4 ⟨rfl, b4⟩
    have BX4 := Lib.hid (chain BX3.out b4)
    have OG4 := Lib.hid (own_below OG3.out b4)
    have OW4 := Lib.hid (own_below OW3.out b4)
    clear b4 OG3 OW3 BX3
    go_wp2_with fail
    refine (strs.mark_any (k := 1) w4 (by omega) (by omega) OG4.out).mono ?_
    rintro e w5 ⟨rfl, o5, g5⟩
    have BX5 := Lib.hid (BX4.out.grown g5 BX4.out.size (fun k' hk' => (OG4.out.lt k' hk').1))
    have OM5 := Lib.hid o5
    have OW5 := Lib.hid (OW4.out.kept g5 GW.out)
    clear o5 g5 OG4 OW4 BX4
    go_wp2_with fail
    refine (strs.held_any (k := 1) w5 (by omega) (by omega) OM5.out).mono ?_
    rintro e w6 ⟨rfl, b6⟩
    have BX6 := Lib.hid (chain BX5.out b6)
    have OM6 := Lib.hid (own_below OM5.out b6)
    have OW6 := Lib.hid (own_below OW5.out b6)
    clear b6 OM5 OW5 BX5
    go_wp2_with fail
    refine (CI.out _ (HG.out.below (HB1.out.trans (BX6.out.mono HB1.out.size)))).mono ?_
    rintro e w7 ⟨⟨u7, rfl, r7⟩, b7⟩
    obtain ⟨t7, rfl, o7⟩ := HR.out _ _ _ r7
    obtain ⟨W7, hW7⟩ : ∃ W7, W7 = w7.alloc (.cells #[.int .i64 v, .int .i64 s, .int .i64 p, .int .i64 l] 26) := ⟨_, rfl⟩
    have b7' : Below w7.heap.size w7 W7 := by rw [hW7]; exact (Below.refl _ _).alloc (Nat.le_refl _) _
    have b76 := chain b7 b7'
    have BX7 := Lib.hid (chain BX6.out b76)
    have OH7 := Lib.hid (own_below o7 b7')
    have OW7 := Lib.hid (own_below OW6.out b76)
    have OM7 := Lib.hid (own_below OM6.out b76)
    obtain ⟨_, x0, x1, x2, x3⟩ := HX.out.below BX7.out
    obtain ⟨_, y0, y1, y2, y3⟩ : Four W7 w7.heap.size (.int .i64 v) (.int .i64 s) (.int .i64 p) (.int .i64 l) := by rw [hW7]; exact Four.new w7 _ _ _ _ _
    have HW7 := Lib.hid hW7
    rw [hW7] at x0 x1 x2 x3 y0 y1 y2 y3
    clear hW7 b7 b7' b76 r7 o7 OM6 OW6 BX6
    go_wp2_with fail
    rw [← HW7.out]
    refine (CE.out _).mono ?_
    rintro e w8 ⟨rfl, b8⟩
    have BX8 := Lib.hid (chain BX7.out b8)
    have OH8 := Lib.hid (own_below OH7.out b8)
    have OW8 := Lib.hid (own_below OW7.out b8)
    have OM8 := Lib.hid (own_below OM7.out b8)
    clear x0 x1 x2 x3 y0 y1 y2 y3 b8 OH7 OW7 OM7 BX7
    go_wp2_with fail
    refine (strs.eqStr_any w8 OH8.out OW8.out).mono ?_
    rintro e w9 ⟨rfl, b9⟩
    have BX9 := Lib.hid (chain BX8.out b9)
    have OM9 := Lib.hid (own_below OM8.out b9)
    clear b9 OH8 OW8 OM8 BX8
    go_wp2_with fail
    refine (strs.held_any (k := 1) w9 (by omega) (by omega) OM9.out).mono ?_
    rintro e w10 ⟨rfl, b10⟩
    have BX10 := Lib.hid (chain BX9.out b10)
    clear b10 OM9 BX9
    go_wp2
    go_ret
    exact ⟨rfl, HB1.out.trans (BX10.out.mono HB1.out.size)⟩

end Go.Proofs.YtdppflfhjmigdaaDoor.sl
