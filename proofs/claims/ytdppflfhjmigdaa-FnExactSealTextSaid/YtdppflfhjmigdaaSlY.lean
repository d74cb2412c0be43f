/-
  The exact walks of SealText and SealedSize.
-/
import Derived.Test.YtdppflfhjmigdaaSlR
import Derived.Test.YtdppflfhjmigdaaHdY
import Derived.Test.YtdppflfhjmigdaaStrQ
import Derived.Test.YtdppflfhjmigdaaBig
namespace Go.Proofs.Ytdppflfhjmigdaa.sl
set_option maxRecDepth 20000
open Go.RowKit
open kit sum num burst hd fr recs sc pl om

set_option maxHeartbeats 2000000 in
theorem exactSealText (v s p l : Int) (a : Option Addr) (n c : Nat) (xs : List ByteArray) (w : World) (hm : n ≤ 9223372036854775807) (ha : strs.At w a n xs) (hw : ∀ s ∈ xs, s.size ≤ 9223372036854775807) :
    Calls Try.prog 3 #[.agg #[.int .i64 v, .int .i64 s, .int .i64 p, .int .i64 l], .slice a n c] w fun e w' => e = .returned (.bool true) ∧ Below w.heap.size w w' := by
  obtain ⟨W, hW⟩ : ∃ W, W = w.alloc (.cells #[.int .i64 v, .int .i64 s, .int .i64 p, .int .i64 l] 23) := ⟨_, rfl⟩
  have HB := Lib.hid (show Below w.heap.size w W by rw [hW]; exact (Below.refl _ _).alloc (Nat.le_refl _) _)
  have HF := Lib.hid (show Four W w.heap.size (.int .i64 v) (.int .i64 s) (.int .i64 p) (.int .i64 l) by rw [hW]; exact Four.new w _ _ _ _ _)
  have HW := Lib.hid hW
  have HA := Lib.hid (ha.below HB.out)
  obtain ⟨_, x0, x1, x2, x3⟩ := HF.out
  rw [hW] at x0 x1 x2 x3
  clear hW ha
  have HZ0 := strs.sz_any a c n 1048576 xs W (by decide) hm HA.out hw
  by_cases h1 : ¬ (xs.length : Int) + strs.tot xs ≤ 1048576
  · rw [show strs.szI ((1048576 : Nat) : Int) xs = -1 from if_neg (by omega)] at HZ0
    have HZ := Lib.hid HZ0
    clear HZ0 h1 hw
    go_enter Try.func3, Try.ntmps3
    go_wp2_with fail
    rw [← HW.out]
    refine HZ.out.mono ?_
    rintro e w0 ⟨rfl, hw0⟩
    rw [← hw0]
    clear hw0
    go_wp2
    go_ret
    exact ⟨rfl, HB.out⟩
  · obtain ⟨q, hq⟩ : ∃ q : Nat, strs.szI ((1048576 : Nat) : Int) xs = (q : Int) := ⟨1048576 - xs.length - strs.tot xs, by unfold strs.szI; rw [if_pos (by omega)]; omega⟩
    rw [hq] at HZ0
    have HZ := Lib.hid HZ0
    have g2 : ¬ (q : Int) < 0 := by omega
    have g0 : n ≤ 1048576 := by have := HA.out.1; omega
    clear HZ0 hq h1 hw
    have CT := Lib.hid (fun w => toHead_any v s p l w)
    have CP := Lib.hid (fun w (h : strs.At w a n xs) => strs.to_any a c n xs w g0 h)
    have CS := Lib.hid (fun a c w (h : strs.At w a n xs) => specSeal v s p l a c n xs w g0 h)
    have CI := Lib.hid (fun a c w (h : strs.At w a n xs) => implSeal v s p l a c n xs w g0 h)
    obtain ⟨r, hr⟩ : ∃ r, slT ⟨v, s, p, l⟩ xs = r := ⟨_, rfl⟩
    rw [hr] at CS CI
    clear hr
    go_enter Try.func3, Try.ntmps3
    go_wp2_with fail
    rw [← HW.out]
    refine HZ.out.mono ?_
    rintro e w0 ⟨rfl, hw0⟩
    rw [← hw0]
    clear hw0
    rw [HW.out]
    go_wp2_with fail
    rw [← HW.out]
    refine (CT.out _).mono ?_
    rintro e w1 ⟨rfl, b1⟩
    have B1 := Lib.hid b1
    clear b1
    go_wp2_with fail
    refine (CP.out _ (HA.out.below B1.out)).mono ?_
    rintro e w2 ⟨rfl, o2, b2⟩
    have B2 := Lib.hid (chain B1.out b2)
    have A2 := Lib.hid (strs.At.of_own o2)
    clear b2 o2 B1
    go_wp2_with fail
    refine (CS.out _ _ _ A2.out).mono ?_
    rintro e w3 ⟨rfl, b3⟩
    have B3 := Lib.hid (chain B2.out b3)
    clear b3 B2 A2 x0 x1 x2 x3
    go_wp2_with fail
    refine (CP.out _ (HA.out.below B3.out)).mono ?_
    rintro e w4 ⟨rfl, o4, b4⟩
    have B4 := Lib.hid (chain B3.out b4)
    have A4 := Lib.hid o4
    obtain ⟨_, y0, y1, y2, y3⟩ := HF.out.below B4.out
    clear b4 o4 B3
    go_wp2_with fail
    refine (CT.out _).mono ?_
    rintro e w5 ⟨rfl, b5⟩
    have B5 := Lib.hid (chain B4.out b5)
    have A5 := Lib.hid (own_below A4.out b5)
    clear b5 A4 B4 y0 y1 y2 y3
    go_wp2_with fail
    refine (CI.out _ _ _ (strs.At.of_own A5.out)).mono ?_
    rintro e w6 ⟨rfl, b6⟩
    have B6 := Lib.hid (chain B5.out b6)
    have A6 := Lib.hid (own_below A5.out b6)
    clear b6 A5 B5
    go_wp2_with fail
    refine (CP.out _ (HA.out.below B6.out)).mono ?_
    rintro e w7 ⟨rfl, o7, b7⟩
    have B7 := Lib.hid (chain B6.out b7)
    have A7 := Lib.hid (own_below A6.out b7)
    have C7 := Lib.hid o7
    clear b7 o7 A6 B6
    go_wp2_with fail
    refine (strs.eqStr_any w7 A7.out C7.out).mono ?_
    rintro e w8 ⟨rfl, b8⟩
    have B8 := Lib.hid (chain B7.out b8)
    clear b8 B7 A7 C7
    go_wp2
    go_ret
    exact ⟨rfl, HB.out.trans (B8.out.mono HB.out.size)⟩

set_option maxHeartbeats 2000000 in
theorem exactSealedSize (v s p l : Int) (a : Option Addr) (n c : Nat) (xs : List ByteArray) (w : World) (hm : n ≤ 9223372036854775807) (ha : strs.At w a n xs) (hw : ∀ s ∈ xs, s.size ≤ 9223372036854775807) :
    Calls Try.prog 4 #[.agg #[.int .i64 v, .int .i64 s, .int .i64 p, .int .i64 l], .slice a n c] w fun e w' => e = .returned (.bool true) ∧ Below w.heap.size w w' := by
  obtain ⟨W, hW⟩ : ∃ W, W = w.alloc (.cells #[.int .i64 v, .int .i64 s, .int .i64 p, .int .i64 l] 23) := ⟨_, rfl⟩
  have HB := Lib.hid (show Below w.heap.size w W by rw [hW]; exact (Below.refl _ _).alloc (Nat.le_refl _) _)
  have HF := Lib.hid (show Four W w.heap.size (.int .i64 v) (.int .i64 s) (.int .i64 p) (.int .i64 l) by rw [hW]; exact Four.new w _ _ _ _ _)
  have HW := Lib.hid hW
  have HA := Lib.hid (ha.below HB.out)
  obtain ⟨_, x0, x1, x2, x3⟩ := HF.out
  rw [hW] at x0 x1 x2 x3
  clear hW ha
  have HZ0 := strs.sz_any a c n 1048576 xs W (by decide) hm HA.out hw
  by_cases h1 : ¬ (xs.length : Int) + strs.tot xs ≤ 1048576
  · rw [show strs.szI ((1048576 : Nat) : Int) xs = -1 from if_neg (by omega)] at HZ0
    have HZ := Lib.hid HZ0
    clear HZ0 h1 hw
    go_enter Try.func4, Try.ntmps4
    go_wp2_with fail
    rw [← HW.out]
    refine HZ.out.mono ?_
    rintro e w0 ⟨rfl, hw0⟩
    rw [← hw0]
    clear hw0
    go_wp2
    go_ret
    exact ⟨rfl, HB.out⟩
  · obtain ⟨q, hq⟩ : ∃ q : Nat, strs.szI ((1048576 : Nat) : Int) xs = (q : Int) := ⟨1048576 - xs.length - strs.tot xs, by unfold strs.szI; rw [if_pos (by omega)]; omega⟩
    rw [hq] at HZ0
    have HZ := Lib.hid HZ0
    have g2 : ¬ (q : Int) < 0 := by omega
    have g0 : n ≤ 1048576 := by have := HA.out.1; omega
    clear HZ0 hq h1 hw
    have CT := Lib.hid (fun w => toHead_any v s p l w)
    have CP := Lib.hid (fun w (h : strs.At w a n xs) => strs.to_any a c n xs w g0 h)
    have CS := Lib.hid (fun a c w (h : strs.At w a n xs) => specSealedSize v s p l a c n xs w g0 h)
    have CI := Lib.hid (fun a c w (h : strs.At w a n xs) => implSealedSize v s p l a c n xs w g0 h)
    obtain ⟨r, hr⟩ : ∃ r, (((slT ⟨v, s, p, l⟩ xs).size : Nat) : Int) = r := ⟨_, rfl⟩
    rw [hr] at CS CI
    clear hr
    go_enter Try.func4, Try.ntmps4
    go_wp2_with fail
    rw [← HW.out]
    refine HZ.out.mono ?_
    rintro e w0 ⟨rfl, hw0⟩
    rw [← hw0]
    clear hw0
    rw [HW.out]
    go_wp2_with fail
    rw [← HW.out]
    refine (CT.out _).mono ?_
    rintro e w1 ⟨rfl, b1⟩
    have B1 := Lib.hid b1
    clear b1
    go_wp2_with fail
    refine (CP.out _ (HA.out.below B1.out)).mono ?_
    rintro e w2 ⟨rfl, o2, b2⟩
    have B2 := Lib.hid (chain B1.out b2)
    have A2 := Lib.hid (strs.At.of_own o2)
    clear b2 o2 B1
    go_wp2_with fail
    refine (CS.out _ _ _ A2.out).mono ?_
    rintro e w3 ⟨rfl, b3⟩
    have B3 := Lib.hid (chain B2.out b3)
    clear b3 B2 A2 x0 x1 x2 x3
    go_wp2_with fail
    refine (CP.out _ (HA.out.below B3.out)).mono ?_
    rintro e w4 ⟨rfl, o4, b4⟩
    have B4 := Lib.hid (chain B3.out b4)
    have A4 := Lib.hid o4
    obtain ⟨_, y0, y1, y2, y3⟩ := HF.out.below B4.out
    clear b4 o4 B3
    go_wp2_with fail
    refine (CT.out _).mono ?_
    rintro e w5 ⟨rfl, b5⟩
    have B5 := Lib.hid (chain B4.out b5)
    have A5 := Lib.hid (own_below A4.out b5)
    clear b5 A4 B4 y0 y1 y2 y3
    go_wp2_with fail
    refine (CI.out _ _ _ (strs.At.of_own A5.out)).mono ?_
    rintro e w6 ⟨rfl, b6⟩
    have B6 := Lib.hid (chain B5.out b6)
    have A6 := Lib.hid (own_below A5.out b6)
    clear b6 A5 B5
    go_wp2_with fail
    refine (CP.out _ (HA.out.below B6.out)).mono ?_
    rintro e w7 ⟨rfl, o7, b7⟩
    have B7 := Lib.hid (chain B6.out b7)
    have A7 := Lib.hid (own_below A6.out b7)
    have C7 := Lib.hid o7
    clear b7 o7 A6 B6
    go_wp2_with fail
    refine (strs.eqStr_any w7 A7.out C7.out).mono ?_
    rintro e w8 ⟨rfl, b8⟩
    have B8 := Lib.hid (chain B7.out b8)
    clear b8 B7 A7 C7
    go_wp2
    go_ret
    exact ⟨rfl, HB.out.trans (B8.out.mono HB.out.size)⟩

end Go.Proofs.Ytdppflfhjmigdaa.sl
