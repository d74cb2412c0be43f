/-
  The exact walks of PlaceFor, OffsetOf.
-/
import Derived.Test.YtpibemlganeacaaSkP
import Derived.Test.YtpibemlganeacaaPlK
import Derived.Test.YtpibemlganeacaaPlR
namespace Go.Proofs.Ytpibemlganeacaa.sk
set_option maxRecDepth 20000
open Go.RowKit
open kit sum num burst hd fr recs sc pl sl

theorem pfR_form (o : Option Plc) : ∃ x y k, pfR o = .tuple #[.agg #[.int .i64 x, .int .i64 y], .bool k] := by
  cases o with
  | none => exact ⟨_, _, _, rfl⟩
  | some r => exact ⟨_, _, _, rfl⟩

set_option maxHeartbeats 1000000 in
theorem exactOffsetOf (b : ByteArray) (i : Int) (w : World) (hb : b.size ≤ 9223372036854775807) (hi : recs.wfI i) :
    Calls Try.prog 4 #[.string b, .int .i64 i] w fun e w' => e = .returned (.bool true) ∧ Below w.heap.size w w' := by
  have HI : Hid (i64 i) := Lib.hid hi
  clear hi
  by_cases h1 : 1048576 < b.size
  · go_enter Try.func4, Try.ntmps4
    go_wp2
    go_ret
    exact ⟨rfl, Below.refl _ _⟩
  · have CS := Lib.hid (fun w => specOffset b i w (by omega) HI.out)
    have CI := Lib.hid (fun w => implOffset b i w (by omega) HI.out)
    obtain ⟨z, hr⟩ : ∃ z, ofN b i = z := ⟨_, rfl⟩
    rw [hr] at CS CI
    clear hr
    go_enter Try.func4, Try.ntmps4
    go_wp2_with (fail)
    refine (CS.out _).mono ?_
    rintro e w1 ⟨rfl, b1⟩
    go_wp2_with (fail)
    refine (CI.out _).mono ?_
    rintro e w2 ⟨rfl, b2⟩
    have B2 := Lib.hid (chain b1 b2)
    clear b1 b2
    go_wp2
    go_ret
    exact ⟨rfl, B2.out⟩

set_option maxHeartbeats 2000000 in
theorem exactPlaceFor (a : Option Addr) (n c : Nat) (xs : List Plc) (i : Int) (w : World) (hm : n ≤ maxLen) (ha : AtP w a n xs) :
    Calls Try.prog 3 #[.slice a n c, .int .i64 i] w fun e w' => e = .returned (.bool true) ∧ Below w.heap.size w w' := by
  have HA := Lib.hid ha
  have HL := szPlaceS_any a c n w hm
  clear ha
  by_cases h1 : n ≤ 1048576
  · rw [if_pos h1] at HL
    have HZ := Lib.hid HL
    have g2 : ¬ (1048576 : Int) - (n : Int) < 0 := by omega
    have CP := Lib.hid (fun w (h : AtP w a n xs) => toPlaceS_any a c n xs w h1 h)
    have CS := Lib.hid (fun a c w (h : AtP w a n xs) => specPlaceFor a c n xs i w h1 h)
    have CI := Lib.hid (fun a c w (h : AtP w a n xs) (k : n ≤ c ∧ c ≤ 9223372036854775807) => implPlaceFor a c n xs i w h1 h k)
    obtain ⟨x, y, k, hr⟩ := pfR_form (plcFor xs i)
    rw [hr] at CS CI
    clear hr HL
    go_enter Try.func3, Try.ntmps3
    go_wp2_with fail
    refine HZ.out.mono ?_
    rintro e w0 ⟨rfl, hw0⟩
    rw [← hw0]
    clear hw0
    go_wp2_with fail
    refine (CP.out _ HA.out).mono ?_
    rintro e w1 ⟨rfl, o1, b1⟩
    have B1 := Lib.hid b1
    have A1 := Lib.hid (AtP.of_own o1)
    clear b1 o1
    go_wp2_with fail
    refine (CS.out _ _ _ A1.out).mono ?_
    rintro e w2 ⟨rfl, b2⟩
    have bx := Box.new w2 #[.int .i64 x, .int .i64 y] 25
    have al := (Below.refl w2.heap.size w2).alloc (Nat.le_refl _) (.cells #[.int .i64 x, .int .i64 y] 25)
    have B2 := Lib.hid (chain (chain B1.out b2) al)
    have X2 := Lib.hid bx
    clear b2 A1 B1 bx al
    obtain ⟨W2, hW2⟩ : ∃ W2, W2 = w2.alloc (.cells #[.int .i64 x, .int .i64 y] 25) := ⟨_, rfl⟩
    rw [← hW2] at B2 X2
    go_wp2_with fail
    rw [← hW2]
    clear hW2
    refine (CP.out _ (HA.out.below B2.out)).mono ?_
    rintro e w3 ⟨rfl, o3, b3⟩
    have B3 := Lib.hid (chain B2.out b3)
    have A3 := Lib.hid (AtP.of_own o3)
    have X3 := Lib.hid (X2.out.below b3)
    clear b3 o3 B2 X2
    go_wp2_with fail
    refine (CI.out _ _ _ A3.out ⟨Nat.le_refl _, by omega⟩).mono ?_
    rintro e w4 ⟨rfl, b4⟩
    have bx := Box.new w4 #[.int .i64 x, .int .i64 y] 25
    have al := (Below.refl w4.heap.size w4).alloc (Nat.le_refl _) (.cells #[.int .i64 x, .int .i64 y] 25)
    have B4 := Lib.hid (chain (chain B3.out b4) al)
    have A4 := Lib.hid ((A3.out.below b4).below al)
    have X4 := Lib.hid ((X3.out.below b4).below al)
    have p0 := X4.out.at 0 _ rfl
    have p1 := X4.out.at 1 _ rfl
    have q0 := bx.at 0 _ rfl
    have q1 := bx.at 1 _ rfl
    clear b4 A3 B3 X3 bx al
    go_wp2_with fail
    refine (eqPlace_same x y _).mono ?_
    rintro e w5 ⟨rfl, b5⟩
    have B5 := Lib.hid (chain B4.out b5)
    have A5 := Lib.hid (A4.out.below b5)
    clear b5 A4 B4 p0 p1 q0 q1 X4
    go_wp2_with fail
    refine (CP.out _ (HA.out.below B5.out)).mono ?_
    rintro e w6 ⟨rfl, o6, b6⟩
    have B6 := Lib.hid (chain B5.out b6)
    have A6 := Lib.hid (A5.out.below b6)
    have C6 := Lib.hid (AtP.of_own o6)
    clear b6 o6 A5 B5
    go_wp2_with fail
    refine (eqPlaceS_same _ _ _ _ n xs w6 hm A6.out C6.out).mono ?_
    rintro e w7 ⟨rfl, b7⟩
    have B7 := Lib.hid (chain B6.out b7)
    clear b7 A6 C6 B6
    go_wp2
    go_ret
    exact ⟨rfl, B7.out⟩
  · rw [if_neg h1] at HL
    have HZ := Lib.hid HL
    clear HL
    go_enter Try.func3, Try.ntmps3
    go_wp2_with fail
    refine HZ.out.mono ?_
    rintro e w0 ⟨rfl, hw0⟩
    rw [← hw0]
    clear hw0
    go_wp2
    go_ret
    exact ⟨rfl, Below.refl _ _⟩

end Go.Proofs.Ytpibemlganeacaa.sk
