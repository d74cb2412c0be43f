/-
  Contract of impl.HeadText.
-/
import Derived.Test.YtbgkdngeingmnaaHdI
namespace Go.Proofs.Ytbgkdngeingmnaa.hd
set_option maxRecDepth 20000
open Go.RowKit
open kit sum num burst

theorem implFixL (n k : Int) (w : World) : Calls Try.prog 76 #[.int .i64 n, .int .i64 k] w fun e w' => e = .returned (.string (fxI n k)) ∧ Below w.heap.size w w' := implFix_any n k w

set_option maxHeartbeats 1000000 in
theorem implHeadText (v s b l : Int) (w : World) :
    Calls Try.prog 68 #[.agg #[.int .i64 v, .int .i64 s, .int .i64 b, .int .i64 l]] w (PostT (hdT ⟨v, s, b, l⟩) w) := by
  obtain ⟨W, hW⟩ : ∃ W, W = w.alloc (.cells #[.int .i64 v, .int .i64 s, .int .i64 b, .int .i64 l] 26) := ⟨_, rfl⟩
  have hb : Below w.heap.size w W := by rw [hW]; exact (Below.refl _ _).alloc (Nat.le_refl _) _
  have F0 : Four W w.heap.size (.int .i64 v) (.int .i64 s) (.int .i64 b) (.int .i64 l) := by rw [hW]; exact Four.new w _ _ _ _ _
  have HF := Lib.hid F0
  obtain ⟨z0, x0, x1, x2, x3⟩ := F0
  have HB := Lib.hid hb
  have HW := Lib.hid hW
  have CK := Lib.hid (implHeadOk v s b l W)
  rw [hW] at x0 x1 x2 x3
  clear hW hb
  cases hk : okH ⟨v, s, b, l⟩ with
  | false =>
    have HE := Lib.hid (hdT_no hk)
    go_enter Try.func68, Try.ntmps68
    go_wp2_with (fail)
    rw [← HW.out]
    refine CK.out.mono ?_
    rw [hk]
    rintro e w1 ⟨rfl, hb1⟩
    go_wp2
    go_ret
    exact ⟨by rw [HE.out]; rfl, HB.out.trans (hb1.mono HB.out.size)⟩
  | true =>
    have HE := Lib.hid (hdT_ok hk)
    have hsz := body_size hk
    have HBD := Lib.hid (show body ⟨v, s, b, l⟩ = magic ++ fxI v 1 ++ fxI s 1 ++ gap ++ fxI b 8 ++ fxI l 4 from rfl)
    obtain ⟨t1, ht1⟩ : ∃ t, fxI v 1 = t := ⟨_, rfl⟩
    obtain ⟨t2, ht2⟩ : ∃ t, fxI s 1 = t := ⟨_, rfl⟩
    obtain ⟨t3, ht3⟩ : ∃ t, fxI b 8 = t := ⟨_, rfl⟩
    obtain ⟨t4, ht4⟩ : ∃ t, fxI l 4 = t := ⟨_, rfl⟩
    rw [ht1, ht2, ht3, ht4] at HBD
    obtain ⟨B, hB⟩ : ∃ B, body ⟨v, s, b, l⟩ = B := ⟨_, rfl⟩
    rw [hB] at HE HBD hsz
    have C1 := Lib.hid (fun w => implFixL v 1 w)
    have C2 := Lib.hid (fun w => implFixL s 1 w)
    have C3 := Lib.hid (fun w => implFixL b 8 w)
    have C4 := Lib.hid (fun w => implFixL l 4 w)
    rw [ht1] at C1
    rw [ht2] at C2
    rw [ht3] at C3
    rw [ht4] at C4
    have HM := Lib.hid (show magic = { data := #[83, 69, 71, 77] } from rfl)
    have HG := Lib.hid (show gap = { data := #[0, 0] } from rfl)
    have HS := Lib.hid hsz
    have n1 := fxI_size v 1
    have n2 := fxI_size s 1
    have n3 := fxI_size b 8
    have n4 := fxI_size l 4
    rw [ht1] at n1
    rw [ht2] at n2
    rw [ht3] at n3
    rw [ht4] at n4
    clear ht1 ht2 ht3 ht4 hB hsz
    go_enter Try.func68, Try.ntmps68
    go_wp2_with (fail)
    rw [← HW.out]
    refine CK.out.mono ?_
    rw [hk]
    clear x0 x1 x2 x3
    rintro e w1 ⟨rfl, hb1⟩
    have F1 := HF.out.below hb1
    have HB1 := Lib.hid (HB.out.trans (hb1.mono HB.out.size))
    obtain ⟨z1, y0, y1, y2, y3⟩ := F1
    have q0 := Later.cell y0 z1
    have q1 := Later.cell y1 z1
    have q2 := Later.cell y2 z1
    have q3 := Later.cell y3 z1
    clear hb1 hk
    go_wp2
    refine wp_region_later (by kernel_rfl) (by kernel_rfl) ?_
    repeat (first | go_big_quiet_skip | (go_big_quiet_want; go_big_quiet_op; go_big_quiet_on))
    go_big_quiet_want
    go_big_quiet_op
    apply Exists.intro
    refine ⟨fun x => ?_, ?_⟩
    · go_at_call 76
      exact Calls.later (C1.out x.val)
    go_big_quiet_on
    repeat (first | go_big_quiet_skip | (go_big_quiet_want; go_big_quiet_op; go_big_quiet_on))
    go_big_quiet_want
    go_big_quiet_op
    apply Exists.intro
    refine ⟨fun x => ?_, ?_⟩
    · go_at_call 76
      exact Calls.later (C2.out x.val)
    go_big_quiet_on
    repeat (first | go_big_quiet_skip | (go_big_quiet_want; go_big_quiet_op; go_big_quiet_on))
    go_big_quiet_want
    go_big_quiet_op
    apply Exists.intro
    refine ⟨fun x => ?_, ?_⟩
    · go_at_call 76
      exact Calls.later (C3.out x.val)
    go_big_quiet_on
    repeat (first | go_big_quiet_skip | (go_big_quiet_want; go_big_quiet_op; go_big_quiet_on))
    go_big_quiet_want
    go_big_quiet_op
    apply Exists.intro
    refine ⟨fun x => ?_, ?_⟩
    · go_at_call 76
      exact Calls.later (C4.out x.val)
    go_big_quiet_on
    repeat (first | go_big_quiet_skip | (go_big_quiet_want; go_big_quiet_op; go_big_quiet_on))
    refine wpQuiet_nil ?_
    rintro w2 ⟨x2, hx2⟩
    have hb2 : Below w1.heap.size w1 w2 := hx2 ▸ x2.2
    clear hx2 x2
    have HB2 := Lib.hid (HB1.out.trans (hb2.mono HB1.out.size))
    clear q0 q1 q2 q3 y0 y1 y2 y3 hb2
    rw [← HM.out, ← HG.out, ← HBD.out]
    have CS := Lib.hid (implOf_any B w2 (by have := HS.out; omega))
    rw [more_zero] at CS
    have nB : B.size = 20 := HS.out
    obtain ⟨T, hT⟩ : ∃ T, fxI ((sumT B : Nat) : Int) 4 = T := ⟨_, rfl⟩
    have nT := fxI_size ((sumT B : Nat) : Int) 4
    have C5 := Lib.hid (fun w => implFixL ((sumT B : Nat) : Int) 4 w)
    rw [hT] at nT C5
    have HT := Lib.hid hT
    clear hT n1 n2 n3 n4
    go_wp2_with (fail)
    refine CS.out.mono ?_
    rintro e w' ⟨rfl, rfl⟩
    go_wp2_with (fail)
    refine (C5.out w2).mono ?_
    rintro e w3 ⟨rfl, hb3⟩
    go_wp2
    go_ret
    exact ⟨by rw [HE.out, HT.out]; rfl, HB2.out.trans (hb3.mono HB2.out.size)⟩

end Go.Proofs.Ytbgkdngeingmnaa.hd
