/-
  The walks of the exact laws of frames. impl's contracts come from FrI: implFrame_any, implFrameSize_any, implMark_any, implReadF_any, implMarkAt_any.
-/
import Derived.Test.YthnpeecfianplaaFrB
import Derived.Test.YthnpeecfianplaaFrJ
import Derived.Test.YthnpeecfianplaaBig
namespace Go.Proofs.Ythnpeecfianplaa.fr
open Go.RowKit
open kit sum num burst hd

set_option maxHeartbeats 1000000 in
theorem exactFrameText (v p : Int) (r : ByteArray) (w : World) (hb : r.size ≤ 9223372036854775807) :
    Calls Try.prog 5 #[.int .i64 v, .int .i64 p, .string r] w fun e w' => e = .returned (.bool true) ∧ Below w.heap.size w w' := by
  by_cases h1 : 1048576 < r.size
  · go_enter Try.func5, Try.ntmps5
    go_wp2
    go_ret
    exact ⟨rfl, Below.refl _ _⟩
  · have CS := Lib.hid (fun w => specFrame_any v p r w (by omega))
    have CI := Lib.hid (fun w => implFrame_any v p r w (by omega))
    obtain ⟨z, hr⟩ : ∃ z, frT v p r = z := ⟨_, rfl⟩
    rw [hr] at CS CI
    clear hr
    go_enter Try.func5, Try.ntmps5
    go_wp2_with (fail)
    refine (CS.out _).mono ?_
    rintro e w1 ⟨rfl, b1⟩
    go_wp2_with (fail)
    refine (CI.out _).mono ?_
    rintro e w2 ⟨rfl, b2⟩
    have B2 := Lib.hid (chain b1 b2)
    clear b1 b2
    go_wp2
    go_ret
    exact ⟨rfl, B2.out⟩

set_option maxHeartbeats 1000000 in
theorem exactReadFrame (v p : Int) (b : ByteArray) (a : Int) (w : World) (hb : b.size ≤ 9223372036854775807) :
    Calls Try.prog 6 #[.int .i64 v, .int .i64 p, .string b, .int .i64 a] w fun e w' => e = .returned (.bool true) ∧ Below w.heap.size w w' := by
  by_cases h1 : 1048576 < b.size
  · go_enter Try.func6, Try.ntmps6
    go_wp2
    go_ret
    exact ⟨rfl, Below.refl _ _⟩
  · have CS := Lib.hid (fun w => specReadF_any v p b a w (by omega))
    have CI := Lib.hid (fun w => implReadF_any v p b a w (by omega))
    obtain ⟨t, q, k, hr⟩ := frR_form (rdF v p b a)
    rw [hr] at CS CI
    clear hr
    go_enter Try.func6, Try.ntmps6
    go_wp2_with (fail)
    refine (CS.out _).mono ?_
    rintro e w1 ⟨rfl, b1⟩
    go_wp2_with (fail)
    refine (CI.out _).mono ?_
    rintro e w2 ⟨rfl, b2⟩
    have B2 := Lib.hid (chain b1 b2)
    clear b1 b2
    go_wp2
    go_ret
    exact ⟨rfl, B2.out⟩

set_option maxHeartbeats 1000000 in
theorem exactEndMark (v p : Int) (w : World) :
    Calls Try.prog 7 #[.int .i64 v, .int .i64 p] w fun e w' => e = .returned (.bool true) ∧ Below w.heap.size w w' := by
  have CS := Lib.hid (fun w => specMark_any v p w)
  have CI := Lib.hid (fun w => implMark_any v p w)
  obtain ⟨r, hr⟩ : ∃ r, emT v p = r := ⟨_, rfl⟩
  rw [hr] at CS CI
  clear hr
  go_enter Try.func7, Try.ntmps7
  go_wp2_with (fail)
  refine (CS.out _).mono ?_
  rintro e w1 ⟨rfl, b1⟩
  go_wp2_with (fail)
  refine (CI.out _).mono ?_
  rintro e w2 ⟨rfl, b2⟩
  have B2 := Lib.hid (chain b1 b2)
  clear b1 b2
  go_wp2
  go_ret
  exact ⟨rfl, B2.out⟩

set_option maxHeartbeats 1000000 in
theorem exactMarkAt (v p : Int) (b : ByteArray) (a : Int) (w : World) (hb : b.size ≤ 9223372036854775807) :
    Calls Try.prog 8 #[.int .i64 v, .int .i64 p, .string b, .int .i64 a] w fun e w' => e = .returned (.bool true) ∧ Below w.heap.size w w' := by
  by_cases h1 : 1048576 < b.size
  · go_enter Try.func8, Try.ntmps8
    go_wp2
    go_ret
    exact ⟨rfl, Below.refl _ _⟩
  · have CS := Lib.hid (fun w => specMarkAt_any v p b a w (by omega))
    have CI := Lib.hid (fun w => implMarkAt_any v p b a w (by omega))
    obtain ⟨r, hr⟩ : ∃ r, mkAt v p b a = r := ⟨_, rfl⟩
    rw [hr] at CS CI
    clear hr
    go_enter Try.func8, Try.ntmps8
    go_wp2_with (fail)
    refine (CS.out _).mono ?_
    rintro e w1 ⟨rfl, b1⟩
    go_wp2_with (fail)
    refine (CI.out _).mono ?_
    rintro e w2 ⟨rfl, b2⟩
    have B2 := Lib.hid (chain b1 b2)
    clear b1 b2
    go_wp2
    go_ret
    exact ⟨rfl, B2.out⟩

set_option maxHeartbeats 1000000 in
theorem exactFrameSize (v : Int) (r : ByteArray) (w : World) (hb : r.size ≤ 9223372036854775807) :
    Calls Try.prog 9 #[.int .i64 v, .string r] w fun e w' => e = .returned (.bool true) ∧ Below w.heap.size w w' := by
  by_cases h1 : 1048576 < r.size
  · go_enter Try.func9, Try.ntmps9
    go_wp2
    go_ret
    exact ⟨rfl, Below.refl _ _⟩
  · have CS := Lib.hid (fun w => specFrameSize_any v r w (by omega))
    have CI := Lib.hid (fun w => implFrameSize_any v r w (by omega))
    obtain ⟨z, hr⟩ : ∃ z, (((frT v 0 r).size : Nat) : Int) = z := ⟨_, rfl⟩
    rw [hr] at CS CI
    clear hr
    go_enter Try.func9, Try.ntmps9
    go_wp2_with (fail)
    refine (CS.out _).mono ?_
    rintro e w1 ⟨rfl, b1⟩
    go_wp2_with (fail)
    refine (CI.out _).mono ?_
    rintro e w2 ⟨rfl, b2⟩
    have B2 := Lib.hid (chain b1 b2)
    clear b1 b2
    go_wp2
    go_ret
    exact ⟨rfl, B2.out⟩

end Go.Proofs.Ythnpeecfianplaa.fr
