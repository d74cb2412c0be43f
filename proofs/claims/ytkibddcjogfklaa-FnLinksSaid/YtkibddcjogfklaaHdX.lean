/-
  The walks of the exact laws of heads and links.
-/
import Derived.Test.YtkibddcjogfklaaHdS
import Derived.Test.YtkibddcjogfklaaHdL
import Derived.Test.YtkibddcjogfklaaBig
namespace Go.Proofs.Ytkibddcjogfklaa.hd
open Go.RowKit
open kit sum num burst

set_option maxHeartbeats 1000000 in
theorem toHead_any (v s b l : Int) (w : World) :
    Calls Try.prog 27 #[.agg #[.int .i64 v, .int .i64 s, .int .i64 b, .int .i64 l]] w fun e w' => e = .returned (.agg #[.int .i64 v, .int .i64 s, .int .i64 b, .int .i64 l]) ∧ Below w.heap.size w w' := by
  have hb : Below w.heap.size w (w.alloc (.cells #[.int .i64 v, .int .i64 s, .int .i64 b, .int .i64 l] 42)) := (Below.refl _ _).alloc (Nat.le_refl _) _
  go_enter Try.func27, Try.ntmps27
  go_wp2
  refine bodyPost_ret (v := .agg #[.int .i64 v, .int .i64 s, .int .i64 b, .int .i64 l]) (by simp [results, Try.results27, go_sem]) rfl ⟨rfl, ?_⟩
  exact (hb.alloc (by simp) _).alloc (by simp; omega) _

set_option maxHeartbeats 1000000 in
theorem eqHead_any (v s b l : Int) (w : World) :
    Calls Try.prog 28 #[.agg #[.int .i64 v, .int .i64 s, .int .i64 b, .int .i64 l], .agg #[.int .i64 v, .int .i64 s, .int .i64 b, .int .i64 l]] w fun e w' => e = .returned (.bool true) ∧ Below w.heap.size w w' := by
  have hb : Below w.heap.size w ((w.alloc (.cells #[.int .i64 v, .int .i64 s, .int .i64 b, .int .i64 l] 25)).alloc (.cells #[.int .i64 v, .int .i64 s, .int .i64 b, .int .i64 l] 25)) := ((Below.refl _ _).alloc (Nat.le_refl _) _).alloc (by simp) _
  go_enter Try.func28, Try.ntmps28
  go_wp2
  go_ret
  exact ⟨rfl, hb⟩

set_option maxHeartbeats 1000000 in
theorem exactHeadOk (v s b l : Int) (w : World) :
    Calls Try.prog 5 #[.agg #[.int .i64 v, .int .i64 s, .int .i64 b, .int .i64 l]] w fun e w' => e = .returned (.bool true) ∧ Below w.heap.size w w' := by
  obtain ⟨W, hW⟩ : ∃ W, W = w.alloc (.cells #[.int .i64 v, .int .i64 s, .int .i64 b, .int .i64 l] 42) := ⟨_, rfl⟩
  have HB := Lib.hid (show Below w.heap.size w W by rw [hW]; exact (Below.refl _ _).alloc (Nat.le_refl _) _)
  have HF := Lib.hid (show Four W w.heap.size (.int .i64 v) (.int .i64 s) (.int .i64 b) (.int .i64 l) by rw [hW]; exact Four.new w _ _ _ _ _)
  have HW := Lib.hid hW
  obtain ⟨_, x0, x1, x2, x3⟩ := HF.out
  rw [hW] at x0 x1 x2 x3
  clear hW
  have CT := Lib.hid (fun w => toHead_any v s b l w)
  have CS := Lib.hid (fun w => specHeadOk v s b l w)
  have CI := Lib.hid (fun w => implHeadOk v s b l w)
  obtain ⟨r, hr⟩ : ∃ r, okH ⟨v, s, b, l⟩ = r := ⟨_, rfl⟩
  rw [hr] at CS CI
  clear hr
  go_enter Try.func5, Try.ntmps5
  go_wp2_with (fail)
  rw [← HW.out]
  refine (CT.out _).mono ?_
  rintro e w1 ⟨rfl, b1⟩
  go_wp2_with (fail)
  refine (CS.out _).mono ?_
  rintro e w2 ⟨rfl, b2⟩
  have B2 := Lib.hid (b1.trans (b2.mono b1.size))
  obtain ⟨_, y0, y1, y2, y3⟩ := HF.out.below B2.out
  clear b1 b2 x0 x1 x2 x3
  go_wp2_with (fail)
  refine (CT.out _).mono ?_
  rintro e w3 ⟨rfl, b3⟩
  go_wp2_with (fail)
  refine (CI.out _).mono ?_
  rintro e w4 ⟨rfl, b4⟩
  have B4 := Lib.hid (b3.trans (b4.mono b3.size))
  clear b3 b4 y0 y1 y2 y3
  go_wp2
  go_ret
  exact ⟨rfl, (HB.out.trans (B2.out.mono HB.out.size)).trans (B4.out.mono (Nat.le_trans HB.out.size B2.out.size))⟩

set_option maxHeartbeats 1000000 in
theorem exactHeadText (v s b l : Int) (w : World) :
    Calls Try.prog 6 #[.agg #[.int .i64 v, .int .i64 s, .int .i64 b, .int .i64 l]] w fun e w' => e = .returned (.bool true) ∧ Below w.heap.size w w' := by
  obtain ⟨W, hW⟩ : ∃ W, W = w.alloc (.cells #[.int .i64 v, .int .i64 s, .int .i64 b, .int .i64 l] 42) := ⟨_, rfl⟩
  have HB := Lib.hid (show Below w.heap.size w W by rw [hW]; exact (Below.refl _ _).alloc (Nat.le_refl _) _)
  have HF := Lib.hid (show Four W w.heap.size (.int .i64 v) (.int .i64 s) (.int .i64 b) (.int .i64 l) by rw [hW]; exact Four.new w _ _ _ _ _)
  have HW := Lib.hid hW
  obtain ⟨_, x0, x1, x2, x3⟩ := HF.out
  rw [hW] at x0 x1 x2 x3
  clear hW
  have CT := Lib.hid (fun w => toHead_any v s b l w)
  have CS := Lib.hid (fun w => specHeadText v s b l w)
  have CI := Lib.hid (fun w => implHeadText v s b l w)
  obtain ⟨r, hr⟩ : ∃ r, hdT ⟨v, s, b, l⟩ = r := ⟨_, rfl⟩
  rw [hr] at CS CI
  clear hr
  go_enter Try.func6, Try.ntmps6
  go_wp2_with (fail)
  rw [← HW.out]
  refine (CT.out _).mono ?_
  rintro e w1 ⟨rfl, b1⟩
  go_wp2_with (fail)
  refine (CS.out _).mono ?_
  rintro e w2 ⟨rfl, b2⟩
  have B2 := Lib.hid (b1.trans (b2.mono b1.size))
  obtain ⟨_, y0, y1, y2, y3⟩ := HF.out.below B2.out
  clear b1 b2 x0 x1 x2 x3
  go_wp2_with (fail)
  refine (CT.out _).mono ?_
  rintro e w3 ⟨rfl, b3⟩
  go_wp2_with (fail)
  refine (CI.out _).mono ?_
  rintro e w4 ⟨rfl, b4⟩
  have B4 := Lib.hid (b3.trans (b4.mono b3.size))
  clear b3 b4 y0 y1 y2 y3
  go_wp2
  go_ret
  exact ⟨rfl, (HB.out.trans (B2.out.mono HB.out.size)).trans (B4.out.mono (Nat.le_trans HB.out.size B2.out.size))⟩

theorem hdV_form (o : Option Hd) : ∃ v s b l : Int, hdV o = .agg #[.int .i64 v, .int .i64 s, .int .i64 b, .int .i64 l] := by
  cases o with
  | none => exact ⟨_, _, _, _, rfl⟩
  | some h => exact ⟨_, _, _, _, rfl⟩

set_option maxHeartbeats 1000000 in
theorem exactReadHead (b : ByteArray) (w : World) (hb : b.size ≤ 9223372036854775807) :
    Calls Try.prog 7 #[.string b] w fun e w' => e = .returned (.bool true) ∧ Below w.heap.size w w' := by
  by_cases h1 : 1048576 < b.size
  · go_enter Try.func7, Try.ntmps7
    go_wp2
    go_ret
    exact ⟨rfl, Below.refl _ _⟩
  · have CS := Lib.hid (specReadHead b w (by omega))
    have CI := Lib.hid (fun w => implReadHead b w (by omega))
    obtain ⟨v, s, d, l, hv⟩ := hdV_form (rdH b)
    unfold hdR at CS CI
    rw [hv] at CS CI
    obtain ⟨o, ho⟩ : ∃ o, (rdH b).isSome = o := ⟨_, rfl⟩
    rw [ho] at CS CI
    have CE := Lib.hid (fun w => eqHead_any v s d l w)
    clear hv ho
    go_enter Try.func7, Try.ntmps7
    go_wp2_with (fail)
    refine (CS.out).mono ?_
    rintro e w1 ⟨rfl, b1⟩
    obtain ⟨W1, hW1⟩ : ∃ W1, W1 = w1.alloc (.cells #[.int .i64 v, .int .i64 s, .int .i64 d, .int .i64 l] 25) := ⟨_, rfl⟩
    have HX := Lib.hid (show Four W1 w1.heap.size (.int .i64 v) (.int .i64 s) (.int .i64 d) (.int .i64 l) by rw [hW1]; exact Four.new w1 _ _ _ _ _)
    have HB1 := Lib.hid (show Below w.heap.size w W1 by rw [hW1]; exact b1.alloc b1.size _)
    have HW1 := Lib.hid hW1
    clear hW1 b1
    go_wp2_with (fail)
    rw [← HW1.out]
    refine (CI.out _).mono ?_
    rintro e w2 ⟨rfl, b2⟩
    obtain ⟨W2, hW2⟩ : ∃ W2, W2 = w2.alloc (.cells #[.int .i64 v, .int .i64 s, .int .i64 d, .int .i64 l] 25) := ⟨_, rfl⟩
    have hb2 : Below W1.heap.size W1 W2 := by rw [hW2]; exact b2.alloc b2.size _
    obtain ⟨_, x0, x1, x2, x3⟩ := HX.out.below hb2
    obtain ⟨_, y0, y1, y2, y3⟩ : Four W2 w2.heap.size (.int .i64 v) (.int .i64 s) (.int .i64 d) (.int .i64 l) := by rw [hW2]; exact Four.new w2 _ _ _ _ _
    have HB2 := Lib.hid (HB1.out.trans (hb2.mono HB1.out.size))
    have HW2 := Lib.hid hW2
    rw [hW2] at x0 x1 x2 x3 y0 y1 y2 y3
    clear hW2 b2 hb2
    go_wp2_with (fail)
    rw [← HW2.out]
    refine (CE.out _).mono ?_
    rintro e w3 ⟨rfl, b3⟩
    clear x0 x1 x2 x3 y0 y1 y2 y3
    go_wp2
    go_ret
    exact ⟨rfl, HB2.out.trans (b3.mono HB2.out.size)⟩

set_option maxHeartbeats 1000000 in
theorem exactLinkMore (s : Int) (r : ByteArray) (w : World) (hb : r.size ≤ 9223372036854775807) :
    Calls Try.prog 8 #[.int .i64 s, .string r] w fun e w' => e = .returned (.bool true) ∧ Below w.heap.size w w' := by
  by_cases h1 : 1048576 < r.size
  · go_enter Try.func8, Try.ntmps8
    go_wp2
    go_ret
    exact ⟨rfl, Below.refl _ _⟩
  · have CS := Lib.hid (fun w => specLinkMore s r w (by omega))
    have CI := Lib.hid (fun w => implLinkMore s r w (by omega))
    obtain ⟨m, hm⟩ : ∃ m, lkM s r = m := ⟨_, rfl⟩
    rw [hm] at CS CI
    clear hm
    go_enter Try.func8, Try.ntmps8
    go_wp2_with (fail)
    refine (CS.out _).mono ?_
    rintro e w1 ⟨rfl, b1⟩
    go_wp2_with (fail)
    refine (CI.out _).mono ?_
    rintro e w2 ⟨rfl, b2⟩
    go_wp2
    go_ret
    exact ⟨rfl, chain b1 b2⟩

set_option maxHeartbeats 1000000 in
theorem exactLinkOf (a : Option Addr) (c n : Nat) (xs : List ByteArray) (w : World) (hn : n ≤ 9223372036854775807) (ha : strs.At w a n xs) (hs : ∀ s ∈ xs, s.size ≤ 9223372036854775807) :
    Calls Try.prog 9 #[.slice a n c] w fun e w' => e = .returned (.bool true) ∧ Below w.heap.size w w' := by
  have CZ := Lib.hid (strs.sz_any a c n 1048576 xs w (by omega) hn ha hs)
  by_cases hz : (xs.length : Int) + strs.tot xs ≤ 1048576
  · have hl := ha.1
    have hn1 : n ≤ 1048576 := by omega
    have he : ∀ x ∈ xs, x.size ≤ 1048576 := fun x hx => by have := strs.tot_each xs x hx; omega
    obtain ⟨q, hq⟩ : ∃ q : Nat, strs.szI ((1048576 : Nat) : Int) xs = (q : Int) := ⟨1048576 - xs.length - strs.tot xs, by unfold strs.szI; rw [if_pos (by omega)]; omega⟩
    rw [hq] at CZ
    have HA := Lib.hid ha
    have CT := Lib.hid (fun w ha => strs.to_any a c n xs w hn1 ha)
    have CS := Lib.hid (fun a c w ha => specLinkOf a c n xs w hn1 he ha)
    have CI := Lib.hid (fun a c w ha => implLinkOf a c n xs w hn1 he ha)
    obtain ⟨m, hm⟩ : ∃ m, lkL 0 xs = m := ⟨_, rfl⟩
    rw [hm] at CS CI
    clear hm hq ha hs he hz hl
    go_enter Try.func9, Try.ntmps9
    go_wp2_with (fail)
    refine (CZ.out).mono ?_
    rintro e w' ⟨rfl, rfl⟩
    go_wp2_with (fail)
    refine (CT.out _ HA.out).mono ?_
    rintro e w1 ⟨rfl, o1, b1⟩
    go_wp2_with (fail)
    refine (CS.out _ _ _ (strs.At.of_own o1)).mono ?_
    rintro e w2 ⟨rfl, b2⟩
    have B2 := b1.trans (b2.mono b1.size)
    have H2 := Lib.hid B2
    go_wp2_with (fail)
    refine (CT.out _ (HA.out.below B2)).mono ?_
    rintro e w3 ⟨rfl, o3, b3⟩
    go_wp2_with (fail)
    refine (CI.out _ _ _ (strs.At.of_own o3)).mono ?_
    rintro e w4 ⟨rfl, b4⟩
    have B4 := B2.trans ((b3.trans (b4.mono b3.size)).mono B2.size)
    have o4 := own_below o3 b4
    go_wp2_with (fail)
    refine (CT.out _ (HA.out.below B4)).mono ?_
    rintro e w5 ⟨rfl, o5, b5⟩
    go_wp2_with (fail)
    refine (strs.eqStr_any w5 (own_below o4 b5) o5).mono ?_
    rintro e w6 ⟨rfl, b6⟩
    go_wp2
    go_ret
    exact ⟨rfl, B4.trans ((b5.trans (b6.mono b5.size)).mono B4.size)⟩
  · have hq : strs.szI ((1048576 : Nat) : Int) xs = -1 := by unfold strs.szI; rw [if_neg (by omega)]
    rw [hq] at CZ
    clear hq hz ha hs
    go_enter Try.func9, Try.ntmps9
    go_wp2_with (fail)
    refine (CZ.out).mono ?_
    rintro e w' ⟨rfl, rfl⟩
    go_wp2
    go_ret
    exact ⟨rfl, Below.refl _ _⟩

end Go.Proofs.Ytkibddcjogfklaa.hd
