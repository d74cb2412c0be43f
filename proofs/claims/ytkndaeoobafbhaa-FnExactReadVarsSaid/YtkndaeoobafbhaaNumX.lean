/-
  The walks of the exact laws of numbers in bytes, given what impl's functions answer.
-/
import Derived.Test.YtkndaeoobafbhaaNumS
namespace Go.Proofs.Ytkndaeoobafbhaa.num
open Go.RowKit
open kit

theorem exactVar_any (G : World → Prop) (I : Impl G) (n : Int) (w : World) (hG : G w) :
    Calls Try.prog 5 #[.int .i64 n] w fun e w' => e = .returned (.bool true) ∧ Below w.heap.size w w' := by
  obtain ⟨T, hT⟩ : ∃ T, vtI n = T := ⟨_, rfl⟩
  go_enter Try.func5, Try.ntmps5
  go_wp2_with fail
  refine (specVar_any n w).mono ?_
  rw [hT]
  rintro e w1 ⟨rfl, b1⟩
  go_wp2_with fail
  refine (I.text n w1 (I.keep _ _ hG b1)).mono ?_
  rw [hT]
  rintro e w2 ⟨rfl, c2⟩
  clear hT
  go_wp2
  go_ret
  exact ⟨rfl, chain b1 c2⟩
theorem exactSize_any (G : World → Prop) (I : Impl G) (n : Int) (w : World) (hG : G w) :
    Calls Try.prog 9 #[.int .i64 n] w fun e w' => e = .returned (.bool true) ∧ Below w.heap.size w w' := by
  go_enter Try.func9, Try.ntmps9
  go_wp2_with fail
  refine (specSize_any n w).mono ?_
  rintro e w1 ⟨rfl, b1⟩
  go_wp2_with fail
  refine (I.size n w1 (I.keep _ _ hG b1)).mono ?_
  rintro e w2 ⟨rfl, c2⟩
  go_wp2
  go_ret
  exact ⟨rfl, chain b1 c2⟩
theorem exactFix_any (G : World → Prop) (I : Impl G) (n k : Int) (w : World) (hG : G w) :
    Calls Try.prog 7 #[.int .i64 n, .int .i64 k] w fun e w' => e = .returned (.bool true) ∧ Below w.heap.size w w' := by
  obtain ⟨T, hT⟩ : ∃ T, fxI n k = T := ⟨_, rfl⟩
  go_enter Try.func7, Try.ntmps7
  go_wp2_with fail
  refine (specFix_any n k w).mono ?_
  rw [hT]
  rintro e w1 ⟨rfl, b1⟩
  go_wp2_with fail
  refine (I.fix n k w1 (I.keep _ _ hG b1)).mono ?_
  rw [hT]
  rintro e w2 ⟨rfl, c2⟩
  clear hT
  go_wp2
  go_ret
  exact ⟨rfl, chain b1 c2⟩
theorem rvAt_tuple (b : ByteArray) (a : Int) : ∃ (p q : Int) (o : Bool), rvAt b a = .tuple #[.int .i64 p, .int .i64 q, .bool o] := by
  rcases rvAt_cases b a with ⟨h, _, _⟩ | ⟨p, v, m, _, _, h, _, _⟩
  · exact ⟨0, 0, false, h⟩
  · exact ⟨_, _, _, h⟩
theorem rfAt_tuple (b : ByteArray) (a k : Int) : ∃ (p : Int) (o : Bool), rfAt b a k = .tuple #[.int .i64 p, .bool o] := by
  unfold rfAt
  split
  · exact ⟨_, _, rfl⟩
  · exact ⟨_, _, rfl⟩
theorem exactRead_any (G : World → Prop) (I : Impl G) (b : ByteArray) (a : Int) (w : World) (hb : b.size ≤ 9223372036854775807) (hG : G w) :
    Calls Try.prog 6 #[.string b, .int .i64 a] w fun e w' => e = .returned (.bool true) ∧ Below w.heap.size w w' := by
  obtain ⟨p, q, o, hT⟩ := rvAt_tuple b a
  by_cases h1 : 1048576 < b.size
  · clear hT
    go_enter Try.func6, Try.ntmps6
    go_wp2
    go_ret
    exact ⟨rfl, Below.refl _ _⟩
  · go_enter Try.func6, Try.ntmps6
    go_wp2_with fail
    refine (specRead_any b a w (by omega)).mono ?_
    rw [hT]
    rintro e w1 ⟨rfl, b1⟩
    go_wp2_with fail
    refine (I.read b a w1 (by omega) (I.keep _ _ hG b1)).mono ?_
    rw [hT]
    rintro e w2 ⟨rfl, c2⟩
    clear hT
    go_wp2
    go_ret
    exact ⟨rfl, chain b1 c2⟩
theorem exactRf_any (G : World → Prop) (I : Impl G) (b : ByteArray) (a k : Int) (w : World) (hb : b.size ≤ 9223372036854775807) (hG : G w) :
    Calls Try.prog 8 #[.string b, .int .i64 a, .int .i64 k] w fun e w' => e = .returned (.bool true) ∧ Below w.heap.size w w' := by
  obtain ⟨p, o, hT⟩ := rfAt_tuple b a k
  by_cases h1 : 1048576 < b.size
  · clear hT
    go_enter Try.func8, Try.ntmps8
    go_wp2
    go_ret
    exact ⟨rfl, Below.refl _ _⟩
  · go_enter Try.func8, Try.ntmps8
    go_wp2_with fail
    refine (specRf_any b a k w (by omega)).mono ?_
    rw [hT]
    rintro e w1 ⟨rfl, rfl⟩
    go_wp2_with fail
    refine (I.rfix b a k w (by omega) hG).mono ?_
    rw [hT]
    rintro e w2 ⟨rfl, c2⟩
    clear hT
    go_wp2
    go_ret
    exact ⟨rfl, c2⟩
theorem exactVarsBig (b : ByteArray) (a : Int) (w : World) (hb : b.size ≤ 9223372036854775807) (h1 : 1048576 < b.size) :
    Calls Try.prog 11 #[.string b, .int .i64 a] w fun e w' => e = .returned (.bool true) ∧ Below w.heap.size w w' := by
  go_enter Try.func11, Try.ntmps11
  go_wp2
  go_ret
  exact ⟨rfl, Below.refl _ _⟩
theorem exactListBig (a : Option Addr) (c n : Nat) (w : World) (hb : n ≤ 9223372036854775807) (h1 : 1048576 < n) :
    Calls Try.prog 10 #[.slice a n c] w fun e w' => e = .returned (.bool true) ∧ Below w.heap.size w w' := by
  go_enter Try.func10, Try.ntmps10
  go_wp2
  go_ret
  exact ⟨rfl, Below.refl _ _⟩

end Go.Proofs.Ytkndaeoobafbhaa.num
