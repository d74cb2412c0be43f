/-
  Contracts of spec's heads: HeadOk, HeadText.
-/
import Derived.Test.YtpibemlganeacaaGreatDoorMathX
import Derived.Test.YtpibemlganeacaaGreatDoorNumX
import Derived.Test.YtpibemlganeacaaGreatDoorSumX
import Derived.Test.YtpibemlganeacaaGreatDoorLater
namespace Go.Proofs.YtpibemlganeacaaGreatDoor.hd
set_option maxRecDepth 20000
open Go.RowKit
open kit sum num burst

/-- the four cells of a box -/
def Four (w : World) (g : Nat) (a b c d : Value) : Prop := g < w.heap.size ∧ w.cell? ⟨g, 0, none⟩ = some a ∧ w.cell? ⟨g, 1, none⟩ = some b ∧ w.cell? ⟨g, 2, none⟩ = some c ∧ w.cell? ⟨g, 3, none⟩ = some d
theorem Four.new (w : World) (a b c d : Value) (t : TypeId) : Four (w.alloc (.cells #[a, b, c, d] t)) w.heap.size a b c d :=
  ⟨by simp, by simp, by simp, by simp, by simp⟩
theorem Four.below {w w' : World} {g : Nat} {a b c d : Value} (h : Four w g a b c d) (hb : Below w.heap.size w w') : Four w' g a b c d :=
  ⟨Nat.lt_of_lt_of_le h.1 hb.size, (hb.cell (p := ⟨g, 0, none⟩) h.1).trans h.2.1, (hb.cell (p := ⟨g, 1, none⟩) h.1).trans h.2.2.1, (hb.cell (p := ⟨g, 2, none⟩) h.1).trans h.2.2.2.1, (hb.cell (p := ⟨g, 3, none⟩) h.1).trans h.2.2.2.2⟩
theorem more_moreI (s : Int) (t : ByteArray) : more s t = moreI s t := rfl
theorem more_zero (t : ByteArray) : more 0 t = sumT t := by
  unfold more sumT sumMore
  rw [show low 0 = 0 from rfl, Nat.zero_xor]

set_option maxHeartbeats 1000000 in
theorem specHeadOk (v s b l : Int) (w : World) :
    Calls Tryz.prog 37 #[.agg #[.int .i64 v, .int .i64 s, .int .i64 b, .int .i64 l]] w fun e w' => e = .returned (.bool (okH ⟨v, s, b, l⟩)) ∧ Below w.heap.size w w' := by
  have hb : Below w.heap.size w (w.alloc (.cells #[.int .i64 v, .int .i64 s, .int .i64 b, .int .i64 l] 41)) := (Below.refl _ _).alloc (Nat.le_refl _) _
  obtain ⟨_, x0, x1, x2, x3⟩ := Four.new w (.int .i64 v) (.int .i64 s) (.int .i64 b) (.int .i64 l) 41
  by_cases h1 : 1 ≤ v ∧ v ≤ 2
  · by_cases h2 : 1 ≤ s ∧ s ≤ 20
    · by_cases h3 : 0 ≤ b ∧ b ≤ 1000000000
      · by_cases h4 : 0 ≤ l ∧ l ≤ 4294967295
        · have HE := Lib.hid (okH_is.2 (by simp only; omega) : okH ⟨v, s, b, l⟩ = true)
          have C1 := Lib.hid (fun w => in_yes v 1 2 w h1.1 h1.2)
          have C2 := Lib.hid (fun w => in_yes s 1 20 w h2.1 h2.2)
          have C3 := Lib.hid (fun w => in_yes b 0 1000000000 w h3.1 h3.2)
          have C4 := Lib.hid (fun w => in_yes l 0 4294967295 w h4.1 h4.2)
          clear h1 h2 h3 h4
          go_enter Tryz.func37, Tryz.ntmps37
          go_wp2_with (fail)
          refine (C1.out _).mono ?_
          rintro e w' ⟨rfl, rfl⟩
          go_wp2_with (fail)
          refine (C2.out _).mono ?_
          rintro e w' ⟨rfl, rfl⟩
          go_wp2_with (fail)
          refine (C3.out _).mono ?_
          rintro e w' ⟨rfl, rfl⟩
          go_wp2_with (fail)
          refine (C4.out _).mono ?_
          rintro e w' ⟨rfl, rfl⟩
          go_wp2
          go_ret
          exact ⟨by rw [HE.out]; rfl, hb⟩
        · have HE := Lib.hid (okH_no.2 (by simp only; omega) : okH ⟨v, s, b, l⟩ = false)
          have C1 := Lib.hid (fun w => in_yes v 1 2 w h1.1 h1.2)
          have C2 := Lib.hid (fun w => in_yes s 1 20 w h2.1 h2.2)
          have C3 := Lib.hid (fun w => in_yes b 0 1000000000 w h3.1 h3.2)
          have C4 := Lib.hid (fun w => in_no l 0 4294967295 w (by omega))
          clear h1 h2 h3 h4
          go_enter Tryz.func37, Tryz.ntmps37
          go_wp2_with (fail)
          refine (C1.out _).mono ?_
          rintro e w' ⟨rfl, rfl⟩
          go_wp2_with (fail)
          refine (C2.out _).mono ?_
          rintro e w' ⟨rfl, rfl⟩
          go_wp2_with (fail)
          refine (C3.out _).mono ?_
          rintro e w' ⟨rfl, rfl⟩
          go_wp2_with (fail)
          refine (C4.out _).mono ?_
          rintro e w' ⟨rfl, rfl⟩
          go_wp2
          go_ret
          exact ⟨by rw [HE.out]; rfl, hb⟩
      · have HE := Lib.hid (okH_no.2 (by simp only; omega) : okH ⟨v, s, b, l⟩ = false)
        have C1 := Lib.hid (fun w => in_yes v 1 2 w h1.1 h1.2)
        have C2 := Lib.hid (fun w => in_yes s 1 20 w h2.1 h2.2)
        have C3 := Lib.hid (fun w => in_no b 0 1000000000 w (by omega))
        clear h1 h2 h3
        go_enter Tryz.func37, Tryz.ntmps37
        go_wp2_with (fail)
        refine (C1.out _).mono ?_
        rintro e w' ⟨rfl, rfl⟩
        go_wp2_with (fail)
        refine (C2.out _).mono ?_
        rintro e w' ⟨rfl, rfl⟩
        go_wp2_with (fail)
        refine (C3.out _).mono ?_
        rintro e w' ⟨rfl, rfl⟩
        go_wp2
        go_ret
        exact ⟨by rw [HE.out]; rfl, hb⟩
    · have HE := Lib.hid (okH_no.2 (by simp only; omega) : okH ⟨v, s, b, l⟩ = false)
      have C1 := Lib.hid (fun w => in_yes v 1 2 w h1.1 h1.2)
      have C2 := Lib.hid (fun w => in_no s 1 20 w (by omega))
      clear h1 h2
      go_enter Tryz.func37, Tryz.ntmps37
      go_wp2_with (fail)
      refine (C1.out _).mono ?_
      rintro e w' ⟨rfl, rfl⟩
      go_wp2_with (fail)
      refine (C2.out _).mono ?_
      rintro e w' ⟨rfl, rfl⟩
      go_wp2
      go_ret
      exact ⟨by rw [HE.out]; rfl, hb⟩
  · have HE := Lib.hid (okH_no.2 (by simp only; omega) : okH ⟨v, s, b, l⟩ = false)
    have C1 := Lib.hid (fun w => in_no v 1 2 w (by omega))
    clear h1
    go_enter Tryz.func37, Tryz.ntmps37
    go_wp2_with (fail)
    refine (C1.out _).mono ?_
    rintro e w' ⟨rfl, rfl⟩
    go_wp2
    go_ret
    exact ⟨by rw [HE.out]; rfl, hb⟩

theorem specFixL (n k : Int) (w : World) : Calls Tryz.prog 57 #[.int .i64 n, .int .i64 k] w fun e w' => e = .returned (.string (fxI n k)) ∧ Below w.heap.size w w' := specFix_any n k w

set_option maxHeartbeats 1000000 in
theorem specHeadText (v s b l : Int) (w : World) :
    Calls Tryz.prog 38 #[.agg #[.int .i64 v, .int .i64 s, .int .i64 b, .int .i64 l]] w (PostT (hdT ⟨v, s, b, l⟩) w) := by
  obtain ⟨W, hW⟩ : ∃ W, W = w.alloc (.cells #[.int .i64 v, .int .i64 s, .int .i64 b, .int .i64 l] 41) := ⟨_, rfl⟩
  have hb : Below w.heap.size w W := by rw [hW]; exact (Below.refl _ _).alloc (Nat.le_refl _) _
  have F0 : Four W w.heap.size (.int .i64 v) (.int .i64 s) (.int .i64 b) (.int .i64 l) := by rw [hW]; exact Four.new w _ _ _ _ _
  have HF := Lib.hid F0
  obtain ⟨z0, x0, x1, x2, x3⟩ := F0
  have HB := Lib.hid hb
  have HW := Lib.hid hW
  have CK := Lib.hid (specHeadOk v s b l W)
  rw [hW] at x0 x1 x2 x3
  clear hW hb
  cases hk : okH ⟨v, s, b, l⟩ with
  | false =>
    have HE := Lib.hid (hdT_no hk)
    go_enter Tryz.func38, Tryz.ntmps38
    go_wp2_with (fail)
    rw [← HW.out]
    refine CK.out.mono ?_
    rw [hk]
    rintro e w1 ⟨rfl, hb1⟩
    go_wp2
    go_ret
    exact ⟨by rw [HE.out]; rfl, HB.out.trans (hb1.mono HB.out.size)⟩
  | true =>
    have HE := Lib.hid (hdT_ok hk)
    have hsz := body_size hk
    have HBD := Lib.hid (show body ⟨v, s, b, l⟩ = magic ++ fxI v 1 ++ fxI s 1 ++ gap ++ fxI b 8 ++ fxI l 4 from rfl)
    obtain ⟨t1, ht1⟩ : ∃ t, fxI v 1 = t := ⟨_, rfl⟩
    obtain ⟨t2, ht2⟩ : ∃ t, fxI s 1 = t := ⟨_, rfl⟩
    obtain ⟨t3, ht3⟩ : ∃ t, fxI b 8 = t := ⟨_, rfl⟩
    obtain ⟨t4, ht4⟩ : ∃ t, fxI l 4 = t := ⟨_, rfl⟩
    rw [ht1, ht2, ht3, ht4] at HBD
    obtain ⟨B, hB⟩ : ∃ B, body ⟨v, s, b, l⟩ = B := ⟨_, rfl⟩
    rw [hB] at HE HBD hsz
    have C1 := Lib.hid (fun w => specFixL v 1 w)
    have C2 := Lib.hid (fun w => specFixL s 1 w)
    have C3 := Lib.hid (fun w => specFixL b 8 w)
    have C4 := Lib.hid (fun w => specFixL l 4 w)
    rw [ht1] at C1
    rw [ht2] at C2
    rw [ht3] at C3
    rw [ht4] at C4
    have HM := Lib.hid (show magic = { data := #[83, 69, 71, 77] } from rfl)
    have HG := Lib.hid (show gap = { data := #[0, 0] } from rfl)
    have HS := Lib.hid hsz
    have n1 := fxI_size v 1
    have n2 := fxI_size s 1
    have n3 := fxI_size b 8
    have n4 := fxI_size l 4
    rw [ht1] at n1
    rw [ht2] at n2
    rw [ht3] at n3
    rw [ht4] at n4
    clear ht1 ht2 ht3 ht4 hB hsz
    go_enter Tryz.func38, Tryz.ntmps38
    go_wp2_with (fail)
    rw [← HW.out]
    refine CK.out.mono ?_
    rw [hk]
    clear x0 x1 x2 x3
    rintro e w1 ⟨rfl, hb1⟩
    have F1 := HF.out.below hb1
    have HB1 := Lib.hid (HB.out.trans (hb1.mono HB.out.size))
    obtain ⟨z1, y0, y1, y2, y3⟩ := F1
    have q0 := Later.cell y0 z1
    have q1 := Later.cell y1 z1
    have q2 := Later.cell y2 z1
    have q3 := Later.cell y3 z1
    clear hb1 hk
    go_wp2
    refine wp_region_later (by kernel_rfl) (by kernel_rfl) ?_
    repeat (first | go_big_quiet_skip | (go_big_quiet_want; go_big_quiet_op; go_big_quiet_on))
    go_big_quiet_want
    go_big_quiet_op
    apply Exists.intro
    refine ⟨fun x => ?_, ?_⟩
    · go_at_call 57
      exact Calls.later (C1.out x.val)
    go_big_quiet_on
    repeat (first | go_big_quiet_skip | (go_big_quiet_want; go_big_quiet_op; go_big_quiet_on))
    go_big_quiet_want
    go_big_quiet_op
    apply Exists.intro
    refine ⟨fun x => ?_, ?_⟩
    · go_at_call 57
      exact Calls.later (C2.out x.val)
    go_big_quiet_on
    repeat (first | go_big_quiet_skip | (go_big_quiet_want; go_big_quiet_op; go_big_quiet_on))
    go_big_quiet_want
    go_big_quiet_op
    apply Exists.intro
    refine ⟨fun x => ?_, ?_⟩
    · go_at_call 57
      exact Calls.later (C3.out x.val)
    go_big_quiet_on
    repeat (first | go_big_quiet_skip | (go_big_quiet_want; go_big_quiet_op; go_big_quiet_on))
    go_big_quiet_want
    go_big_quiet_op
    apply Exists.intro
    refine ⟨fun x => ?_, ?_⟩
    · go_at_call 57
      exact Calls.later (C4.out x.val)
    go_big_quiet_on
    repeat (first | go_big_quiet_skip | (go_big_quiet_want; go_big_quiet_op; go_big_quiet_on))
    refine wpQuiet_nil ?_
    rintro w2 ⟨x2, hx2⟩
    have hb2 : Below w1.heap.size w1 w2 := hx2 ▸ x2.2
    clear hx2 x2
    have HB2 := Lib.hid (HB1.out.trans (hb2.mono HB1.out.size))
    clear q0 q1 q2 q3 y0 y1 y2 y3 hb2
    rw [← HM.out, ← HG.out, ← HBD.out]
    have CS := Lib.hid (specOf_any B w2 (by have := HS.out; omega))
    rw [more_zero] at CS
    have nB : B.size = 20 := HS.out
    obtain ⟨T, hT⟩ : ∃ T, fxI ((sumT B : Nat) : Int) 4 = T := ⟨_, rfl⟩
    have nT := fxI_size ((sumT B : Nat) : Int) 4
    have C5 := Lib.hid (fun w => specFixL ((sumT B : Nat) : Int) 4 w)
    rw [hT] at nT C5
    have HT := Lib.hid hT
    clear hT n1 n2 n3 n4
    go_wp2_with (fail)
    refine CS.out.mono ?_
    rintro e w' ⟨rfl, rfl⟩
    go_wp2_with (fail)
    refine (C5.out w2).mono ?_
    rintro e w3 ⟨rfl, hb3⟩
    go_wp2
    go_ret
    exact ⟨by rw [HE.out, HT.out]; rfl, HB2.out.trans (hb3.mono HB2.out.size)⟩

end Go.Proofs.YtpibemlganeacaaGreatDoor.hd
