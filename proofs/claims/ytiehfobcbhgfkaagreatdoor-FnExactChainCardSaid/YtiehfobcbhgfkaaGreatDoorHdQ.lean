/-
  Contracts of spec's heads: HeadOk, HeadText.
-/
import Derived.Test.YtiehfobcbhgfkaaGreatDoorMathX
import Derived.Test.YtiehfobcbhgfkaaGreatDoorNumX
import Derived.Test.YtiehfobcbhgfkaaGreatDoorSumX
import Derived.Test.YtiehfobcbhgfkaaGreatDoorLater
import Derived.Test.YtiehfobcbhgfkaaGreatDoorNumY
import Derived.Deep.RegionHeld3
namespace Go.Proofs.YtiehfobcbhgfkaaGreatDoor.hd
set_option maxRecDepth 20000
open Go.RowKit
open kit sum num burst

/-- the four cells of a box -/
def Four (w : World) (g : Nat) (a b c d : Value) : Prop := g < w.heap.size ∧ w.cell? ⟨g, 0, none⟩ = some a ∧ w.cell? ⟨g, 1, none⟩ = some b ∧ w.cell? ⟨g, 2, none⟩ = some c ∧ w.cell? ⟨g, 3, none⟩ = some d
theorem Four.new (w : World) (a b c d : Value) (t : TypeId) : Four (w.alloc (.cells #[a, b, c, d] t)) w.heap.size a b c d :=
  ⟨by simp, by simp, by simp, by simp, by simp⟩
theorem Four.below {w w' : World} {g : Nat} {a b c d : Value} (h : Four w g a b c d) (hb : Below w.heap.size w w') : Four w' g a b c d :=
  ⟨Nat.lt_of_lt_of_le h.1 hb.size, (hb.cell (p := ⟨g, 0, none⟩) h.1).trans h.2.1, (hb.cell (p := ⟨g, 1, none⟩) h.1).trans h.2.2.1, (hb.cell (p := ⟨g, 2, none⟩) h.1).trans h.2.2.2.1, (hb.cell (p := ⟨g, 3, none⟩) h.1).trans h.2.2.2.2⟩
theorem more_zero (t : ByteArray) : more 0 t = sumT t := by
  unfold more sumT sumMore
  rw [show low 0 = 0 from rfl, Nat.zero_xor]

set_option maxHeartbeats 1000000 in
theorem specHeadOk (v s b l : Int) (w : World) :
    Calls Tryz.prog 77 #[.agg #[.int .i64 v, .int .i64 s, .int .i64 b, .int .i64 l]] w fun e w' => e = .returned (.bool (okH ⟨v, s, b, l⟩)) ∧ Below w.heap.size w w' := by
  have hb : Below w.heap.size w (w.alloc (.cells #[.int .i64 v, .int .i64 s, .int .i64 b, .int .i64 l] 45)) := (Below.refl _ _).alloc (Nat.le_refl _) _
  obtain ⟨_, x0, x1, x2, x3⟩ := Four.new w (.int .i64 v) (.int .i64 s) (.int .i64 b) (.int .i64 l) 45
  by_cases h1 : 1 ≤ v ∧ v ≤ 2
  · by_cases h2 : 1 ≤ s ∧ s ≤ 20
    · by_cases h3 : 0 ≤ b ∧ b ≤ 1000000000
      · by_cases h4 : 0 ≤ l ∧ l ≤ 4294967295
        · have HE := Lib.hid (okH_is.2 (by simp only; omega) : okH ⟨v, s, b, l⟩ = true)
          have C1 := Lib.hid (fun w => in_yes v 1 2 w h1.1 h1.2)
          have C2 := Lib.hid (fun w => in_yes s 1 20 w h2.1 h2.2)
          have C3 := Lib.hid (fun w => in_yes b 0 1000000000 w h3.1 h3.2)
          have C4 := Lib.hid (fun w => in_yes l 0 4294967295 w h4.1 h4.2)
          clear h1 h2 h3 h4
          go_enter Tryz.func77, Tryz.ntmps77
          go_wp2_with (fail)
          refine (C1.out _).mono ?_
          rintro e w' ⟨rfl, rfl⟩
          go_wp2_with (fail)
          refine (C2.out _).mono ?_
          rintro e w' ⟨rfl, rfl⟩
          go_wp2_with (fail)
          refine (C3.out _).mono ?_
          rintro e w' ⟨rfl, rfl⟩
          go_wp2_with (fail)
          refine (C4.out _).mono ?_
          rintro e w' ⟨rfl, rfl⟩
          go_wp2
          go_ret
          exact ⟨by rw [HE.out]; rfl, hb⟩
        · have HE := Lib.hid (okH_no.2 (by simp only; omega) : okH ⟨v, s, b, l⟩ = false)
          have C1 := Lib.hid (fun w => in_yes v 1 2 w h1.1 h1.2)
          have C2 := Lib.hid (fun w => in_yes s 1 20 w h2.1 h2.2)
          have C3 := Lib.hid (fun w => in_yes b 0 1000000000 w h3.1 h3.2)
          have C4 := Lib.hid (fun w => in_no l 0 4294967295 w (by omega))
          clear h1 h2 h3 h4
          go_enter Tryz.func77, Tryz.ntmps77
          go_wp2_with (fail)
          refine (C1.out _).mono ?_
          rintro e w' ⟨rfl, rfl⟩
          go_wp2_with (fail)
          refine (C2.out _).mono ?_
          rintro e w' ⟨rfl, rfl⟩
          go_wp2_with (fail)
          refine (C3.out _).mono ?_
          rintro e w' ⟨rfl, rfl⟩
          go_wp2_with (fail)
          refine (C4.out _).mono ?_
          rintro e w' ⟨rfl, rfl⟩
          go_wp2
          go_ret
          exact ⟨by rw [HE.out]; rfl, hb⟩
      · have HE := Lib.hid (okH_no.2 (by simp only; omega) : okH ⟨v, s, b, l⟩ = false)
        have C1 := Lib.hid (fun w => in_yes v 1 2 w h1.1 h1.2)
        have C2 := Lib.hid (fun w => in_yes s 1 20 w h2.1 h2.2)
        have C3 := Lib.hid (fun w => in_no b 0 1000000000 w (by omega))
        clear h1 h2 h3
        go_enter Tryz.func77, Tryz.ntmps77
        go_wp2_with (fail)
        refine (C1.out _).mono ?_
        rintro e w' ⟨rfl, rfl⟩
        go_wp2_with (fail)
        refine (C2.out _).mono ?_
        rintro e w' ⟨rfl, rfl⟩
        go_wp2_with (fail)
        refine (C3.out _).mono ?_
        rintro e w' ⟨rfl, rfl⟩
        go_wp2
        go_ret
        exact ⟨by rw [HE.out]; rfl, hb⟩
    · have HE := Lib.hid (okH_no.2 (by simp only; omega) : okH ⟨v, s, b, l⟩ = false)
      have C1 := Lib.hid (fun w => in_yes v 1 2 w h1.1 h1.2)
      have C2 := Lib.hid (fun w => in_no s 1 20 w (by omega))
      clear h1 h2
      go_enter Tryz.func77, Tryz.ntmps77
      go_wp2_with (fail)
      refine (C1.out _).mono ?_
      rintro e w' ⟨rfl, rfl⟩
      go_wp2_with (fail)
      refine (C2.out _).mono ?_
      rintro e w' ⟨rfl, rfl⟩
      go_wp2
      go_ret
      exact ⟨by rw [HE.out]; rfl, hb⟩
  · have HE := Lib.hid (okH_no.2 (by simp only; omega) : okH ⟨v, s, b, l⟩ = false)
    have C1 := Lib.hid (fun w => in_no v 1 2 w (by omega))
    clear h1
    go_enter Tryz.func77, Tryz.ntmps77
    go_wp2_with (fail)
    refine (C1.out _).mono ?_
    rintro e w' ⟨rfl, rfl⟩
    go_wp2
    go_ret
    exact ⟨by rw [HE.out]; rfl, hb⟩

theorem specFixL (n k : Int) (w : World) : Calls Tryz.prog 117 #[.int .i64 n, .int .i64 k] w fun e w' => e = .returned (.string (fxI n k)) ∧ Below w.heap.size w w' := specFix_any n k w

set_option maxHeartbeats 1000000 in
theorem specHeadText (v s b l : Int) (w : World) :
    Calls Tryz.prog 78 #[.agg #[.int .i64 v, .int .i64 s, .int .i64 b, .int .i64 l]] w (PostT (hdT ⟨v, s, b, l⟩) w) := by
  obtain ⟨W, hW⟩ : ∃ W, W = w.alloc (.cells #[.int .i64 v, .int .i64 s, .int .i64 b, .int .i64 l] 45) := ⟨_, rfl⟩
  have hb : Below w.heap.size w W := by rw [hW]; exact (Below.refl _ _).alloc (Nat.le_refl _) _
  have F0 : Four W w.heap.size (.int .i64 v) (.int .i64 s) (.int .i64 b) (.int .i64 l) := by rw [hW]; exact Four.new w _ _ _ _ _
  have HF := Lib.hid F0
  obtain ⟨z0, x0, x1, x2, x3⟩ := F0
  have HB := Lib.hid hb
  have HW := Lib.hid hW
  have CK := Lib.hid (specHeadOk v s b l W)
  rw [hW] at x0 x1 x2 x3
  clear hW hb
  cases hk : okH ⟨v, s, b, l⟩ with
  | false =>
    have HE := Lib.hid (hdT_no hk)
    go_enter Tryz.func78, Tryz.ntmps78
    go_wp2_with (fail)
    rw [← HW.out]
    refine CK.out.mono ?_
    rw [hk]
    rintro e w1 ⟨rfl, hb1⟩
    go_wp2
    go_ret
    exact ⟨by rw [HE.out]; rfl, HB.out.trans (hb1.mono HB.out.size)⟩
  | true =>
    have HE := Lib.hid (hdT_ok hk)
    have hsz := body_size hk
    have HBD := Lib.hid (show body ⟨v, s, b, l⟩ = magic ++ fxI v 1 ++ fxI s 1 ++ gap ++ fxI b 8 ++ fxI l 4 from rfl)
    obtain ⟨t1, ht1⟩ : ∃ t, fxI v 1 = t := ⟨_, rfl⟩
    obtain ⟨t2, ht2⟩ : ∃ t, fxI s 1 = t := ⟨_, rfl⟩
    obtain ⟨t3, ht3⟩ : ∃ t, fxI b 8 = t := ⟨_, rfl⟩
    obtain ⟨t4, ht4⟩ : ∃ t, fxI l 4 = t := ⟨_, rfl⟩
    rw [ht1, ht2, ht3, ht4] at HBD
    obtain ⟨B, hB⟩ : ∃ B, body ⟨v, s, b, l⟩ = B := ⟨_, rfl⟩
    rw [hB] at HE HBD hsz
    have C1 := Lib.hid (fun w => specFixL v 1 w)
    have C2 := Lib.hid (fun w => specFixL s 1 w)
    have C3 := Lib.hid (fun w => specFixL b 8 w)
    have C4 := Lib.hid (fun w => specFixL l 4 w)
    rw [ht1] at C1
    rw [ht2] at C2
    rw [ht3] at C3
    rw [ht4] at C4
    have HM := Lib.hid (show magic = { data := #[83, 69, 71, 77] } from rfl)
    have HG := Lib.hid (show gap = { data := #[0, 0] } from rfl)
    have HS := Lib.hid hsz
    have n1 := fxI_size v 1
    have n2 := fxI_size s 1
    have n3 := fxI_size b 8
    have n4 := fxI_size l 4
    rw [ht1] at n1
    rw [ht2] at n2
    rw [ht3] at n3
    rw [ht4] at n4
    clear ht1 ht2 ht3 ht4 hB hsz
    go_enter Tryz.func78, Tryz.ntmps78
    go_wp2_with (fail)
    rw [← HW.out]
    refine CK.out.mono ?_
    rw [hk]
    clear x0 x1 x2 x3
    rintro e w1 ⟨rfl, hb1⟩
    have F1 := HF.out.below hb1
    have HB1 := Lib.hid (HB.out.trans (hb1.mono HB.out.size))
    obtain ⟨z1, y0, y1, y2, y3⟩ := F1
    have q0 := Later.cell y0 z1
    have q1 := Later.cell y1 z1
    have q2 := Later.cell y2 z1
    have q3 := Later.cell y3 z1
    clear hb1 hk
    go_wp2
    refine wp_region_later (by kernel_rfl) (by kernel_rfl) ?_
    repeat (first | go_big_quiet_skip | (go_big_quiet_want; go_big_quiet_op; go_big_quiet_on))
    go_big_quiet_want
    go_big_quiet_op
    apply Exists.intro
    refine ⟨fun x => ?_, ?_⟩
    · go_at_call 117
      exact Calls.later (C1.out x.val)
    go_big_quiet_on
    repeat (first | go_big_quiet_skip | (go_big_quiet_want; go_big_quiet_op; go_big_quiet_on))
    go_big_quiet_want
    go_big_quiet_op
    apply Exists.intro
    refine ⟨fun x => ?_, ?_⟩
    · go_at_call 117
      exact Calls.later (C2.out x.val)
    go_big_quiet_on
    repeat (first | go_big_quiet_skip | (go_big_quiet_want; go_big_quiet_op; go_big_quiet_on))
    go_big_quiet_want
    go_big_quiet_op
    apply Exists.intro
    refine ⟨fun x => ?_, ?_⟩
    · go_at_call 117
      exact Calls.later (C3.out x.val)
    go_big_quiet_on
    repeat (first | go_big_quiet_skip | (go_big_quiet_want; go_big_quiet_op; go_big_quiet_on))
    go_big_quiet_want
    go_big_quiet_op
    apply Exists.intro
    refine ⟨fun x => ?_, ?_⟩
    · go_at_call 117
      exact Calls.later (C4.out x.val)
    go_big_quiet_on
    repeat (first | go_big_quiet_skip | (go_big_quiet_want; go_big_quiet_op; go_big_quiet_on))
    refine wpQuiet_nil ?_
    rintro w2 ⟨x2, hx2⟩
    have hb2 : Below w1.heap.size w1 w2 := hx2 ▸ x2.2
    clear hx2 x2
    have HB2 := Lib.hid (HB1.out.trans (hb2.mono HB1.out.size))
    clear q0 q1 q2 q3 y0 y1 y2 y3 hb2
    rw [← HM.out, ← HG.out, ← HBD.out]
    have CS := Lib.hid (specOf_any B w2 (by have := HS.out; omega))
    rw [more_zero] at CS
    have nB : B.size = 20 := HS.out
    obtain ⟨T, hT⟩ : ∃ T, fxI ((sumT B : Nat) : Int) 4 = T := ⟨_, rfl⟩
    have nT := fxI_size ((sumT B : Nat) : Int) 4
    have C5 := Lib.hid (fun w => specFixL ((sumT B : Nat) : Int) 4 w)
    rw [hT] at nT C5
    have HT := Lib.hid hT
    clear hT n1 n2 n3 n4
    go_wp2_with (fail)
    refine CS.out.mono ?_
    rintro e w' ⟨rfl, rfl⟩
    go_wp2_with (fail)
    refine (C5.out w2).mono ?_
    rintro e w3 ⟨rfl, hb3⟩
    go_wp2
    go_ret
    exact ⟨by rw [HE.out, HT.out]; rfl, HB2.out.trans (hb3.mono HB2.out.size)⟩

end Go.Proofs.YtiehfobcbhgfkaaGreatDoor.hd

namespace Go.Proofs.YtiehfobcbhgfkaaGreatDoor.hd
set_option maxRecDepth 20000
open Go.RowKit
open kit sum num burst

set_option maxHeartbeats 1000000 in
theorem implBrought (v s b l : Int) (w : World) :
    Calls Tryz.prog 234 #[.agg #[.int .i64 v, .int .i64 s, .int .i64 b, .int .i64 l]] w fun e w' => e = .returned (.agg #[.int .i64 (br v 1 2), .int .i64 (br s 1 20), .int .i64 (br b 0 1000000000), .int .i64 (br l 0 4294967295)]) ∧ Below w.heap.size w w' := by
  obtain ⟨W, hW⟩ : ∃ W, W = (w.alloc (.cells #[.int .i64 v, .int .i64 s, .int .i64 b, .int .i64 l] 45)).alloc (.cells #[.int .i64 0, .int .i64 0, .int .i64 0, .int .i64 0] 45) := ⟨_, rfl⟩
  have hb : Below w.heap.size w W := by rw [hW]; exact ((Below.refl _ _).alloc (Nat.le_refl _) _).alloc (by simp) _
  have x0 : W.cell? ⟨w.heap.size, 0, none⟩ = some (.int .i64 v) := by rw [hW]; simp
  have x1 : W.cell? ⟨w.heap.size, 1, none⟩ = some (.int .i64 s) := by rw [hW]; simp
  have x2 : W.cell? ⟨w.heap.size, 2, none⟩ = some (.int .i64 b) := by rw [hW]; simp
  have x3 : W.cell? ⟨w.heap.size, 3, none⟩ = some (.int .i64 l) := by rw [hW]; simp
  have r0 : W.cell? ⟨w.heap.size + 1, 0, none⟩ = some (.int .i64 0) := by rw [hW]; simp
  have r1 : W.cell? ⟨w.heap.size + 1, 1, none⟩ = some (.int .i64 0) := by rw [hW]; simp
  have r2 : W.cell? ⟨w.heap.size + 1, 2, none⟩ = some (.int .i64 0) := by rw [hW]; simp
  have r3 : W.cell? ⟨w.heap.size + 1, 3, none⟩ = some (.int .i64 0) := by rw [hW]; simp
  have f0 : W.frozen? ⟨w.heap.size + 1, 0, none⟩ = false := by rw [hW]; simp
  have f1 : W.frozen? ⟨w.heap.size + 1, 1, none⟩ = false := by rw [hW]; simp
  have f2 : W.frozen? ⟨w.heap.size + 1, 2, none⟩ = false := by rw [hW]; simp
  have f3 : W.frozen? ⟨w.heap.size + 1, 3, none⟩ = false := by rw [hW]; simp
  have HB := Lib.hid hb
  have C1 := Lib.hid (fun w => implBr_any v 1 2 w)
  have C2 := Lib.hid (fun w => implBr_any s 1 20 w)
  have C3 := Lib.hid (fun w => implBr_any b 0 1000000000 w)
  have C4 := Lib.hid (fun w => implBr_any l 0 4294967295 w)
  obtain ⟨v', hv'⟩ : ∃ x, br v 1 2 = x := ⟨_, rfl⟩
  obtain ⟨s', hs'⟩ : ∃ x, br s 1 20 = x := ⟨_, rfl⟩
  obtain ⟨b', hb'⟩ : ∃ x, br b 0 1000000000 = x := ⟨_, rfl⟩
  obtain ⟨l', hl'⟩ : ∃ x, br l 0 4294967295 = x := ⟨_, rfl⟩
  rw [hv'] at C1 ⊢
  rw [hs'] at C2 ⊢
  rw [hb'] at C3 ⊢
  rw [hl'] at C4 ⊢
  clear hb hv' hs' hb' hl'
  go_enter Tryz.func234, Tryz.ntmps234
  go_wp2
  rw [← hW]
  clear hW
  go_region_held3 (fun w' => w'.cell? ⟨w.heap.size, 0, none⟩ = some (.int .i64 v) ∧ w'.cell? ⟨w.heap.size, 1, none⟩ = some (.int .i64 s) ∧ w'.cell? ⟨w.heap.size, 2, none⟩ = some (.int .i64 b) ∧ w'.cell? ⟨w.heap.size, 3, none⟩ = some (.int .i64 l)) (first | with_reducible exact ⟨x0, x1, x2, x3⟩ | exact ⟨by simp [go_sem, x0], by simp [go_sem, x1], by simp [go_sem, x2], by simp [go_sem, x3]⟩) (first | (go_at_call 243; with_reducible refine (C1.out _).mono ?_; rintro e w1 ⟨rfl, rfl⟩) | (go_at_call 243; with_reducible refine (C2.out _).mono ?_; rintro e w1 ⟨rfl, rfl⟩) | (go_at_call 243; with_reducible refine (C3.out _).mono ?_; rintro e w1 ⟨rfl, rfl⟩) | (go_at_call 243; with_reducible refine (C4.out _).mono ?_; rintro e w1 ⟨rfl, rfl⟩))
  go_wp2
  refine bodyPost_ret (v := .agg #[.int .i64 v', .int .i64 s', .int .i64 b', .int .i64 l']) (by simp [results, Tryz.results234, go_sem, r0, r1, r2, r3]) rfl ⟨rfl, ?_⟩
  refine Below.drew ?_
  iterate 4 refine Below.setCell ?_ (by first | (simp; done) | (simp; omega)) _
  exact HB.out

/-- the fields brought into their limits: a right head's stay as they are -/
theorem br_in {n a b : Int} (h1 : a ≤ n) (h2 : n ≤ b) : br n a b = n := by unfold br; rw [if_neg (by omega), if_neg (by omega)]
theorem br_out {n a b : Int} (hab : a ≤ b) (h : ¬ (a ≤ n ∧ n ≤ b)) : ¬ n = br n a b := by
  unfold br
  split
  · omega
  · split
    · omega
    · omega

set_option maxHeartbeats 1000000 in
theorem implHeadOk (v s b l : Int) (w : World) :
    Calls Tryz.prog 216 #[.agg #[.int .i64 v, .int .i64 s, .int .i64 b, .int .i64 l]] w fun e w' => e = .returned (.bool (okH ⟨v, s, b, l⟩)) ∧ Below w.heap.size w w' := by
  obtain ⟨W, hW⟩ : ∃ W, W = w.alloc (.cells #[.int .i64 v, .int .i64 s, .int .i64 b, .int .i64 l] 45) := ⟨_, rfl⟩
  have hb : Below w.heap.size w W := by rw [hW]; exact (Below.refl _ _).alloc (Nat.le_refl _) _
  have F0 : Four W w.heap.size (.int .i64 v) (.int .i64 s) (.int .i64 b) (.int .i64 l) := by rw [hW]; exact Four.new w _ _ _ _ _
  have HF := Lib.hid F0
  obtain ⟨z0, x0, x1, x2, x3⟩ := F0
  have HB := Lib.hid hb
  have CB := Lib.hid (fun w => implBrought v s b l w)
  obtain ⟨v', hv'⟩ : ∃ x, br v 1 2 = x := ⟨_, rfl⟩
  obtain ⟨s', hs'⟩ : ∃ x, br s 1 20 = x := ⟨_, rfl⟩
  obtain ⟨b', hb'⟩ : ∃ x, br b 0 1000000000 = x := ⟨_, rfl⟩
  obtain ⟨l', hl'⟩ : ∃ x, br l 0 4294967295 = x := ⟨_, rfl⟩
  have HE : Hid (okH ⟨v, s, b, l⟩ = (((decide (v = v') && decide (s = s')) && decide (b = b')) && decide (l = l'))) := Lib.hid (by
    have e1 : decide (v = v') = decide (1 ≤ v ∧ v ≤ 2) := by
      rw [← hv']; by_cases h : 1 ≤ v ∧ v ≤ 2
      · rw [br_in h.1 h.2]; simp [h]
      · rw [decide_eq_false (br_out (by omega) h), decide_eq_false h]
    have e2 : decide (s = s') = decide (1 ≤ s ∧ s ≤ 20) := by
      rw [← hs']; by_cases h : 1 ≤ s ∧ s ≤ 20
      · rw [br_in h.1 h.2]; simp [h]
      · rw [decide_eq_false (br_out (by omega) h), decide_eq_false h]
    have e3 : decide (b = b') = decide (0 ≤ b ∧ b ≤ 1000000000) := by
      rw [← hb']; by_cases h : 0 ≤ b ∧ b ≤ 1000000000
      · rw [br_in h.1 h.2]; simp [h]
      · rw [decide_eq_false (br_out (by omega) h), decide_eq_false h]
    have e4 : decide (l = l') = decide (0 ≤ l ∧ l ≤ 4294967295) := by
      rw [← hl']; by_cases h : 0 ≤ l ∧ l ≤ 4294967295
      · rw [br_in h.1 h.2]; simp [h]
      · rw [decide_eq_false (br_out (by omega) h), decide_eq_false h]
    rw [e1, e2, e3, e4]
    unfold okH
    simp only [Bool.decide_and, Bool.and_assoc])
  rw [hv', hs', hb', hl'] at CB
  have HW := Lib.hid hW
  have q0 := Later.cell x0 z0
  have q1 := Later.cell x1 z0
  have q2 := Later.cell x2 z0
  have q3 := Later.cell x3 z0
  clear hb hv' hs' hb' hl' hW
  go_enter Tryz.func216, Tryz.ntmps216
  go_wp2
  rw [← HW.out]
  refine wp_region_later (by kernel_rfl) (by kernel_rfl) ?_
  repeat (first | go_big_quiet_skip | (go_big_quiet_want; go_big_quiet_op; go_big_quiet_on))
  go_big_quiet_want
  go_big_quiet_op
  apply Exists.intro
  refine ⟨fun x => ?_, ?_⟩
  · go_at_call 234
    exact Calls.later (CB.out x.val)
  go_big_quiet_on
  repeat (first | go_big_quiet_skip | (go_big_quiet_want; go_big_quiet_op; go_big_quiet_on))
  go_big_quiet_want
  go_big_quiet_op
  refine ⟨.bool (okH ⟨v, s, b, l⟩), fun x => ?_, ?_⟩
  · rw [HE.out]
    by_cases e1 : v = v'
    · by_cases e2 : s = s'
      · by_cases e3 : b = b'
        · by_cases e4 : l = l'
          · rw [if_pos e1, if_pos e2, if_pos e3, if_pos e4]; exact ⟨rfl, by simp [e1, e2, e3, e4]⟩
          · rw [if_pos e1, if_pos e2, if_pos e3, if_neg e4]; exact ⟨rfl, by simp [e1, e2, e3, e4]⟩
        · rw [if_pos e1, if_pos e2, if_neg e3]; exact ⟨rfl, by simp [e3]⟩
      · rw [if_pos e1, if_neg e2]; exact ⟨rfl, by simp [e2]⟩
    · rw [if_neg e1]; exact ⟨rfl, by simp [e1]⟩
  go_big_quiet_on
  repeat (first | go_big_quiet_skip | (go_big_quiet_want; go_big_quiet_op; go_big_quiet_on))
  refine wpQuiet_nil ?_
  rintro w2 ⟨x2, hx2⟩
  have hb2 : Below W.heap.size W w2 := hx2 ▸ x2.2
  clear hx2 x2
  have HB2 := Lib.hid (HB.out.trans (hb2.mono HB.out.size))
  go_wp2
  go_ret
  exact ⟨rfl, HB2.out⟩

end Go.Proofs.YtiehfobcbhgfkaaGreatDoor.hd

namespace Go.Proofs.YtiehfobcbhgfkaaGreatDoor.hd
set_option maxRecDepth 20000
open Go.RowKit
open kit sum num burst

theorem implFixL (n k : Int) (w : World) : Calls Tryz.prog 180 #[.int .i64 n, .int .i64 k] w fun e w' => e = .returned (.string (fxI n k)) ∧ Below w.heap.size w w' := implFix_any n k w

set_option maxHeartbeats 1000000 in
theorem implHeadText (v s b l : Int) (w : World) :
    Calls Tryz.prog 189 #[.agg #[.int .i64 v, .int .i64 s, .int .i64 b, .int .i64 l]] w (PostT (hdT ⟨v, s, b, l⟩) w) := by
  obtain ⟨W, hW⟩ : ∃ W, W = w.alloc (.cells #[.int .i64 v, .int .i64 s, .int .i64 b, .int .i64 l] 45) := ⟨_, rfl⟩
  have hb : Below w.heap.size w W := by rw [hW]; exact (Below.refl _ _).alloc (Nat.le_refl _) _
  have F0 : Four W w.heap.size (.int .i64 v) (.int .i64 s) (.int .i64 b) (.int .i64 l) := by rw [hW]; exact Four.new w _ _ _ _ _
  have HF := Lib.hid F0
  obtain ⟨z0, x0, x1, x2, x3⟩ := F0
  have HB := Lib.hid hb
  have HW := Lib.hid hW
  have CK := Lib.hid (implHeadOk v s b l W)
  rw [hW] at x0 x1 x2 x3
  clear hW hb
  cases hk : okH ⟨v, s, b, l⟩ with
  | false =>
    have HE := Lib.hid (hdT_no hk)
    go_enter Tryz.func189, Tryz.ntmps189
    go_wp2_with (fail)
    rw [← HW.out]
    refine CK.out.mono ?_
    rw [hk]
    rintro e w1 ⟨rfl, hb1⟩
    go_wp2
    go_ret
    exact ⟨by rw [HE.out]; rfl, HB.out.trans (hb1.mono HB.out.size)⟩
  | true =>
    have HE := Lib.hid (hdT_ok hk)
    have hsz := body_size hk
    have HBD := Lib.hid (show body ⟨v, s, b, l⟩ = magic ++ fxI v 1 ++ fxI s 1 ++ gap ++ fxI b 8 ++ fxI l 4 from rfl)
    obtain ⟨t1, ht1⟩ : ∃ t, fxI v 1 = t := ⟨_, rfl⟩
    obtain ⟨t2, ht2⟩ : ∃ t, fxI s 1 = t := ⟨_, rfl⟩
    obtain ⟨t3, ht3⟩ : ∃ t, fxI b 8 = t := ⟨_, rfl⟩
    obtain ⟨t4, ht4⟩ : ∃ t, fxI l 4 = t := ⟨_, rfl⟩
    rw [ht1, ht2, ht3, ht4] at HBD
    obtain ⟨B, hB⟩ : ∃ B, body ⟨v, s, b, l⟩ = B := ⟨_, rfl⟩
    rw [hB] at HE HBD hsz
    have C1 := Lib.hid (fun w => implFixL v 1 w)
    have C2 := Lib.hid (fun w => implFixL s 1 w)
    have C3 := Lib.hid (fun w => implFixL b 8 w)
    have C4 := Lib.hid (fun w => implFixL l 4 w)
    rw [ht1] at C1
    rw [ht2] at C2
    rw [ht3] at C3
    rw [ht4] at C4
    have HM := Lib.hid (show magic = { data := #[83, 69, 71, 77] } from rfl)
    have HG := Lib.hid (show gap = { data := #[0, 0] } from rfl)
    have HS := Lib.hid hsz
    have n1 := fxI_size v 1
    have n2 := fxI_size s 1
    have n3 := fxI_size b 8
    have n4 := fxI_size l 4
    rw [ht1] at n1
    rw [ht2] at n2
    rw [ht3] at n3
    rw [ht4] at n4
    clear ht1 ht2 ht3 ht4 hB hsz
    go_enter Tryz.func189, Tryz.ntmps189
    go_wp2_with (fail)
    rw [← HW.out]
    refine CK.out.mono ?_
    rw [hk]
    clear x0 x1 x2 x3
    rintro e w1 ⟨rfl, hb1⟩
    have F1 := HF.out.below hb1
    have HB1 := Lib.hid (HB.out.trans (hb1.mono HB.out.size))
    obtain ⟨z1, y0, y1, y2, y3⟩ := F1
    have q0 := Later.cell y0 z1
    have q1 := Later.cell y1 z1
    have q2 := Later.cell y2 z1
    have q3 := Later.cell y3 z1
    clear hb1 hk
    go_wp2
    refine wp_region_later (by kernel_rfl) (by kernel_rfl) ?_
    repeat (first | go_big_quiet_skip | (go_big_quiet_want; go_big_quiet_op; go_big_quiet_on))
    go_big_quiet_want
    go_big_quiet_op
    apply Exists.intro
    refine ⟨fun x => ?_, ?_⟩
    · go_at_call 180
      exact Calls.later (C1.out x.val)
    go_big_quiet_on
    repeat (first | go_big_quiet_skip | (go_big_quiet_want; go_big_quiet_op; go_big_quiet_on))
    go_big_quiet_want
    go_big_quiet_op
    apply Exists.intro
    refine ⟨fun x => ?_, ?_⟩
    · go_at_call 180
      exact Calls.later (C2.out x.val)
    go_big_quiet_on
    repeat (first | go_big_quiet_skip | (go_big_quiet_want; go_big_quiet_op; go_big_quiet_on))
    go_big_quiet_want
    go_big_quiet_op
    apply Exists.intro
    refine ⟨fun x => ?_, ?_⟩
    · go_at_call 180
      exact Calls.later (C3.out x.val)
    go_big_quiet_on
    repeat (first | go_big_quiet_skip | (go_big_quiet_want; go_big_quiet_op; go_big_quiet_on))
    go_big_quiet_want
    go_big_quiet_op
    apply Exists.intro
    refine ⟨fun x => ?_, ?_⟩
    · go_at_call 180
      exact Calls.later (C4.out x.val)
    go_big_quiet_on
    repeat (first | go_big_quiet_skip | (go_big_quiet_want; go_big_quiet_op; go_big_quiet_on))
    refine wpQuiet_nil ?_
    rintro w2 ⟨x2, hx2⟩
    have hb2 : Below w1.heap.size w1 w2 := hx2 ▸ x2.2
    clear hx2 x2
    have HB2 := Lib.hid (HB1.out.trans (hb2.mono HB1.out.size))
    clear q0 q1 q2 q3 y0 y1 y2 y3 hb2
    rw [← HM.out, ← HG.out, ← HBD.out]
    have CS := Lib.hid (implOf_any B w2 (by have := HS.out; omega))
    rw [more_zero] at CS
    have nB : B.size = 20 := HS.out
    obtain ⟨T, hT⟩ : ∃ T, fxI ((sumT B : Nat) : Int) 4 = T := ⟨_, rfl⟩
    have nT := fxI_size ((sumT B : Nat) : Int) 4
    have C5 := Lib.hid (fun w => implFixL ((sumT B : Nat) : Int) 4 w)
    rw [hT] at nT C5
    have HT := Lib.hid hT
    clear hT n1 n2 n3 n4
    go_wp2_with (fail)
    refine CS.out.mono ?_
    rintro e w' ⟨rfl, rfl⟩
    go_wp2_with (fail)
    refine (C5.out w2).mono ?_
    rintro e w3 ⟨rfl, hb3⟩
    go_wp2
    go_ret
    exact ⟨by rw [HE.out, HT.out]; rfl, HB2.out.trans (hb3.mono HB2.out.size)⟩

end Go.Proofs.YtiehfobcbhgfkaaGreatDoor.hd

namespace Go.Proofs.YtiehfobcbhgfkaaGreatDoor.hd
set_option maxRecDepth 20000
open Go.RowKit
open kit sum num burst

/-- what is answered of a reading -/
def hdV : Option Hd → Value
  | none => .agg #[.int .i64 0, .int .i64 0, .int .i64 0, .int .i64 0]
  | some h => .agg #[.int .i64 h.v, .int .i64 h.s, .int .i64 h.b, .int .i64 h.l]
def hdR (o : Option Hd) : Value := .tuple #[hdV o, .bool o.isSome]
/-- the parts of a reading in bytes -/
theorem rf1 (b : ByteArray) (a : Nat) (ai : Int) (e : ai = a) (h : a + 1 ≤ b.size) : rfAt b ai 1 = .tuple #[.int .i64 ((valF b a 1 : Nat) : Int), .bool true] := e ▸ rfAt_in b a 1 (by omega) (by omega) h (below8 b a 1 (by omega))
theorem rf4 (b : ByteArray) (a : Nat) (ai : Int) (e : ai = a) (h : a + 4 ≤ b.size) : rfAt b ai 4 = .tuple #[.int .i64 ((valF b a 4 : Nat) : Int), .bool true] := e ▸ rfAt_in b a 4 (by omega) (by omega) h (below8 b a 4 (by omega))
def top (b : ByteArray) : Bool := decide (valF b 8 8 < 9223372036854775808)
def basI (b : ByteArray) : Int := if valF b 8 8 < 9223372036854775808 then ((valF b 8 8 : Nat) : Int) else 0
theorem rf8 (b : ByteArray) (h : 24 ≤ b.size) : rfAt b 8 8 = .tuple #[.int .i64 (basI b), .bool (top b)] := by
  unfold basI top
  by_cases hv : valF b 8 8 < 9223372036854775808
  · rw [if_pos hv, decide_eq_true hv]
    exact rfAt_in b 8 8 (by omega) (by omega) (by omega) hv
  · rw [if_neg hv, decide_eq_false hv]
    exact rfAt_big b 8 8 hv
theorem fields_is (b : ByteArray) : fields b = ⟨(valF b 4 1 : Nat), (valF b 5 1 : Nat), basI b, (valF b 16 4 : Nat)⟩ := rfl

set_option maxHeartbeats 1000000 in
theorem implFields (b : ByteArray) (w : World) (hm : b.size ≤ 1048576) (hs : 24 ≤ b.size) :
    Calls Tryz.prog 188 #[.string b] w fun e w' => e = .returned (hdV (some (fields b))) ∧ Below w.heap.size w w' := by
  have HF := Lib.hid (fields_is b)
  have C1 := Lib.hid (fun w => implRf_any b 4 1 w hm)
  have C2 := Lib.hid (fun w => implRf_any b 5 1 w hm)
  have C3 := Lib.hid (fun w => implRf_any b 8 8 w hm)
  have C4 := Lib.hid (fun w => implRf_any b 16 4 w hm)
  rw [rf1 b 4 4 rfl (by omega)] at C1
  rw [rf1 b 5 5 rfl (by omega)] at C2
  rw [rf8 b hs] at C3
  rw [rf4 b 16 16 rfl (by omega)] at C4
  obtain ⟨v, hv⟩ : ∃ x : Int, ((valF b 4 1 : Nat) : Int) = x := ⟨_, rfl⟩
  obtain ⟨s, hs'⟩ : ∃ x : Int, ((valF b 5 1 : Nat) : Int) = x := ⟨_, rfl⟩
  obtain ⟨bb, hb'⟩ : ∃ x : Int, basI b = x := ⟨_, rfl⟩
  obtain ⟨l, hl⟩ : ∃ x : Int, ((valF b 16 4 : Nat) : Int) = x := ⟨_, rfl⟩
  obtain ⟨o, ho⟩ : ∃ x : Bool, top b = x := ⟨_, rfl⟩
  rw [hv] at C1 HF
  rw [hs'] at C2 HF
  rw [hb'] at C3 HF
  rw [ho] at C3
  rw [hl] at C4 HF
  clear hv hs' hb' hl ho hs
  go_enter Tryz.func188, Tryz.ntmps188
  go_wp2_with (fail)
  refine (C1.out _).mono ?_
  rintro e w' ⟨rfl, rfl⟩
  go_wp2_with (fail)
  refine (C2.out _).mono ?_
  rintro e w' ⟨rfl, rfl⟩
  go_wp2_with (fail)
  refine (C3.out _).mono ?_
  rintro e w' ⟨rfl, rfl⟩
  go_wp2_with (fail)
  refine (C4.out _).mono ?_
  rintro e w' ⟨rfl, rfl⟩
  go_wp2
  refine bodyPost_ret (v := .agg #[.int .i64 v, .int .i64 s, .int .i64 bb, .int .i64 l]) (by simp [results, Tryz.results188, go_sem]) rfl ⟨by rw [HF.out]; rfl, ((Below.refl _ _).alloc (Nat.le_refl _) _).alloc (by simp) _⟩

theorem hd_frozen {w w' : World} {g : Nat} (h : ∀ j, w.frozen? ⟨g, j, none⟩ = false) (hg : g < w.heap.size) (hb : Below w.heap.size w w') : ∀ j, w'.frozen? ⟨g, j, none⟩ = false := fun j => (hb.frozen (p := ⟨g, j, none⟩) hg).trans (h j)

set_option maxHeartbeats 1000000 in
theorem implReadHead (b : ByteArray) (w : World) (hm : b.size ≤ 1048576) :
    Calls Tryz.prog 148 #[.string b] w fun e w' => e = .returned (hdR (rdH b)) ∧ Below w.heap.size w w' := by
  by_cases hs : b.size < 24
  · have HE := Lib.hid (rdH_short hs)
    have g1 : (b.size : Int) < 24 := by omega
    go_enter Tryz.func148, Tryz.ntmps148
    go_wp2
    refine bodyPost_ret (v := .tuple #[.agg #[.int .i64 0, .int .i64 0, .int .i64 0, .int .i64 0], .bool false]) (by simp [results, Tryz.results148, go_sem]) rfl ⟨by rw [HE.out]; rfl, (Below.refl _ _).alloc (Nat.le_refl _) _⟩
  · have g1 : ¬ (b.size : Int) < 24 := by omega
    obtain ⟨W, hW⟩ : ∃ W, W = w.alloc (.cells #[.int .i64 0, .int .i64 0, .int .i64 0, .int .i64 0] 45) := ⟨_, rfl⟩
    have HR := Lib.hid (show Four W w.heap.size (.int .i64 0) (.int .i64 0) (.int .i64 0) (.int .i64 0) by rw [hW]; exact Four.new w _ _ _ _ _)
    have HZ := Lib.hid (show ∀ j, W.frozen? ⟨w.heap.size, j, none⟩ = false from fun j => by rw [hW]; simp)
    have HB := Lib.hid (show Below w.heap.size w W by rw [hW]; exact (Below.refl _ _).alloc (Nat.le_refl _) _)
    have hWs : w.heap.size < W.heap.size := by rw [hW]; simp
    have CF := Lib.hid (implFields b W hm (by omega))
    obtain ⟨h, hh⟩ : ∃ h, fields b = h := ⟨_, rfl⟩
    rw [hh] at CF
    obtain ⟨v, s, bb, l⟩ := h
    rw [show hdV (some ⟨v, s, bb, l⟩) = .agg #[.int .i64 v, .int .i64 s, .int .i64 bb, .int .i64 l] from rfl] at CF
    obtain ⟨T, hT⟩ : ∃ T, hdT ⟨v, s, bb, l⟩ = T := ⟨_, rfl⟩
    have CT := Lib.hid (fun w => implHeadText v s bb l w)
    rw [hT] at CT
    have HW := Lib.hid hW
    have h24 : 24 ≤ b.size := by omega
    have hr : Hid (rdH b = if T = b.extract 0 24 then some ⟨v, s, bb, l⟩ else none) := Lib.hid (by unfold rdH; rw [if_neg hs, hh, hT])
    clear hW hh hT hs
    go_enter Tryz.func148, Tryz.ntmps148
    go_wp2_with (fail)
    rw [← HW.out]
    refine CF.out.mono ?_
    rintro e w1 ⟨rfl, hb1⟩
    obtain ⟨W1, hW1⟩ : ∃ W1, W1 = w1.alloc (.cells #[.int .i64 v, .int .i64 s, .int .i64 bb, .int .i64 l] 45) := ⟨_, rfl⟩
    have hbx : Below W.heap.size W W1 := by rw [hW1]; exact hb1.alloc hb1.size _
    have HW1 := Lib.hid hW1
    obtain ⟨gX, x0, x1, x2, x3⟩ : Four W1 w1.heap.size (.int .i64 v) (.int .i64 s) (.int .i64 bb) (.int .i64 l) := by rw [hW1]; exact Four.new w1 _ _ _ _ _
    have HX := Lib.hid (show Four W1 w1.heap.size (.int .i64 v) (.int .i64 s) (.int .i64 bb) (.int .i64 l) from ⟨gX, x0, x1, x2, x3⟩)
    have HR1 := Lib.hid (HR.out.below hbx)
    have HZ1 := Lib.hid (hd_frozen HZ.out HR.out.1 hbx)
    have HB1 := Lib.hid (HB.out.trans (hbx.mono HB.out.size))
    have q0 := Later.cell x0 gX
    have q1 := Later.cell x1 gX
    have q2 := Later.cell x2 gX
    have q3 := Later.cell x3 gX
    clear hb1 hbx hW1 CF x0 x1 x2 x3
    go_wp2
    rw [← HW1.out]
    by_cases he : T = b.extract 0 24
    · have hc : (T.toList == (b.extract 0 24).toList) = true := str_yes he
      have HE := Lib.hid (show rdH b = some ⟨v, s, bb, l⟩ by rw [hr.out, if_pos he])
      clear he
      refine wp_region_later (by kernel_rfl) (by kernel_rfl) ?_
      repeat (first | go_big_quiet_skip | (go_big_quiet_want; go_big_quiet_op; go_big_quiet_on))
      go_big_quiet_want
      go_big_quiet_op
      apply Exists.intro
      refine ⟨fun x => ?_, ?_⟩
      · go_at_call 189
        exact Calls.later (CT.out x.val)
      go_big_quiet_on
      repeat (first | go_big_quiet_skip | (go_big_quiet_want; go_big_quiet_op; go_big_quiet_on))
      refine wpQuiet_nil ?_
      rintro w2 ⟨x2, hx2⟩
      have hb2 : Below W1.heap.size W1 w2 := hx2 ▸ x2.2
      clear hx2 x2
      obtain ⟨_, y0, y1, y2, y3⟩ := HX.out.below hb2
      obtain ⟨gR, r0, r1, r2, r3⟩ := HR1.out.below hb2
      have fz := hd_frozen HZ1.out HR1.out.1 hb2
      have f0 := fz 0
      have f1 := fz 1
      have f2 := fz 2
      have f3 := fz 3
      have HB2 := Lib.hid (HB1.out.trans (hb2.mono HB1.out.size))
      have HS2 := Lib.hid (show w.heap.size ≤ w2.heap.size from HB2.out.size)
      clear q0 q1 q2 q3 hc hb2 fz
      go_wp2
      refine bodyPost_ret (v := .tuple #[.agg #[.int .i64 v, .int .i64 s, .int .i64 bb, .int .i64 l], .bool true]) (by simp [results, Tryz.results148, go_sem, r0, r1, r2, r3]) rfl ⟨by rw [HE.out]; rfl, ?_⟩
      iterate 4 refine Below.setCell ?_ (by first | (simp; done) | (simp; omega)) _
      exact HB2.out
    · have hc : (T.toList == (b.extract 0 24).toList) = false := str_ne he
      have HE := Lib.hid (show rdH b = none by rw [hr.out, if_neg he])
      clear he
      refine wp_region_later (by kernel_rfl) (by kernel_rfl) ?_
      repeat (first | go_big_quiet_skip | (go_big_quiet_want; go_big_quiet_op; go_big_quiet_on))
      go_big_quiet_want
      go_big_quiet_op
      apply Exists.intro
      refine ⟨fun x => ?_, ?_⟩
      · go_at_call 189
        exact Calls.later (CT.out x.val)
      go_big_quiet_on
      repeat (first | go_big_quiet_skip | (go_big_quiet_want; go_big_quiet_op; go_big_quiet_on))
      refine wpQuiet_nil ?_
      rintro w2 ⟨x2, hx2⟩
      have hb2 : Below W1.heap.size W1 w2 := hx2 ▸ x2.2
      clear hx2 x2
      obtain ⟨_, y0, y1, y2, y3⟩ := HX.out.below hb2
      obtain ⟨gR, r0, r1, r2, r3⟩ := HR1.out.below hb2
      have fz := hd_frozen HZ1.out HR1.out.1 hb2
      have f0 := fz 0
      have f1 := fz 1
      have f2 := fz 2
      have f3 := fz 3
      have HB2 := Lib.hid (HB1.out.trans (hb2.mono HB1.out.size))
      have HS2 := Lib.hid (show w.heap.size ≤ w2.heap.size from HB2.out.size)
      clear q0 q1 q2 q3 hc hb2 fz
      go_wp2
      refine bodyPost_ret (v := .tuple #[.agg #[.int .i64 0, .int .i64 0, .int .i64 0, .int .i64 0], .bool false]) (by simp [results, Tryz.results148, go_sem, r0, r1, r2, r3]) rfl ⟨by rw [HE.out]; rfl, ?_⟩
      iterate 4 refine Below.setCell ?_ (by first | (simp; done) | (simp; omega)) _
      exact HB2.out

end Go.Proofs.YtiehfobcbhgfkaaGreatDoor.hd

namespace Go.Proofs.YtiehfobcbhgfkaaGreatDoor.hd
set_option maxRecDepth 20000
open Go.RowKit
open kit sum num burst

theorem val_one (b : ByteArray) (a : Nat) (h : a < b.size) : valF b a 1 = b[a].toNat := by
  unfold valF
  have e := List.take_add_one (l := nats b a) (i := 0)
  rw [nats_get b a 0 (by omega)] at e
  rw [e]
  simp [val]

set_option maxHeartbeats 2000000 in
theorem specReadHead (b : ByteArray) (w : World) (hm : b.size ≤ 1048576) :
    Calls Tryz.prog 64 #[.string b] w fun e w' => e = .returned (hdR (rdH b)) ∧ Below w.heap.size w w' := by
  by_cases hs : b.size < 24
  · have HE := Lib.hid (rdH_short hs)
    have g1 : (b.size : Int) < 24 := by omega
    go_enter Tryz.func64, Tryz.ntmps64
    go_wp2
    refine bodyPost_ret (v := .tuple #[.agg #[.int .i64 0, .int .i64 0, .int .i64 0, .int .i64 0], .bool false]) (by simp [results, Tryz.results64, go_sem]) rfl ⟨by rw [HE.out]; rfl, (Below.refl _ _).alloc (Nat.le_refl _) _⟩
  · have g1 : ¬ (b.size : Int) < 24 := by omega
    obtain ⟨W, hW⟩ : ∃ W, W = w.alloc (.cells #[.int .i64 0, .int .i64 0, .int .i64 0, .int .i64 0] 45) := ⟨_, rfl⟩
    have HR := Lib.hid (show Four W w.heap.size (.int .i64 0) (.int .i64 0) (.int .i64 0) (.int .i64 0) by rw [hW]; exact Four.new w _ _ _ _ _)
    have HZ := Lib.hid (show ∀ j, W.frozen? ⟨w.heap.size, j, none⟩ = false from fun j => by rw [hW]; simp)
    have HB := Lib.hid (show Below w.heap.size w W by rw [hW]; exact (Below.refl _ _).alloc (Nat.le_refl _) _)
    have hWs : w.heap.size < W.heap.size := by rw [hW]; simp
    have hF := fields_is b
    have e4 := val_one b 4 (by omega)
    have e5 := val_one b 5 (by omega)
    rw [e4, e5] at hF
    have C3 := Lib.hid (specRf_any b 8 8 W hm)
    have C4 := Lib.hid (specRf_any b 16 4 W hm)
    rw [rf8 b (by omega)] at C3
    rw [rf4 b 16 16 rfl (by omega)] at C4
    have hl4 : 4 < b.size := by omega
    have hl5 : 5 < b.size := by omega
    obtain ⟨n4, hn4⟩ : ∃ x : Nat, (b[4]'hl4).toNat = x := ⟨_, rfl⟩
    obtain ⟨n5, hn5⟩ : ∃ x : Nat, (b[5]'hl5).toNat = x := ⟨_, rfl⟩
    have k4 : n4 < 256 := by rw [← hn4]; exact (b[4]'hl4).toNat_lt
    have k5 : n5 < 256 := by rw [← hn5]; exact (b[5]'hl5).toNat_lt
    obtain ⟨bb, hb'⟩ : ∃ x : Int, basI b = x := ⟨_, rfl⟩
    obtain ⟨l, hl⟩ : ∃ x : Int, ((valF b 16 4 : Nat) : Int) = x := ⟨_, rfl⟩
    rw [hn4, hn5, hb', hl] at hF
    rw [hb'] at C3
    rw [hl] at C4
    obtain ⟨T, hT⟩ : ∃ T, hdT ⟨(n4 : Int), (n5 : Int), bb, l⟩ = T := ⟨_, rfl⟩
    have CT := Lib.hid (fun w => specHeadText (n4 : Int) (n5 : Int) bb l w)
    rw [hT] at CT
    have HW := Lib.hid hW
    have h24 : 24 ≤ b.size := by omega
    have hr : Hid (rdH b = if T = b.extract 0 24 then some ⟨(n4 : Int), (n5 : Int), bb, l⟩ else none) := Lib.hid (by unfold rdH; rw [if_neg hs, hF, hT])
    have HBig := Lib.hid (fun (h : top b = false) => rdH_big (by unfold top at h; simpa using h) hs)
    clear hW hF hT hs e4 e5 hb' hl
    obtain ⟨o, ho⟩ : ∃ o, top b = o := ⟨_, rfl⟩
    rw [ho] at C3 HBig
    clear ho
    go_enter Tryz.func64, Tryz.ntmps64
    go_wp2_with (fail)
    rw [← HW.out]
    refine C3.out.mono ?_
    rintro e w' ⟨rfl, rfl⟩
    go_wp2_with (fail)
    refine C4.out.mono ?_
    rintro e w' ⟨rfl, rfl⟩
    go_wp2
    go_region
    obtain ⟨W1, hW1⟩ : ∃ W1, W1 = (W.alloc (.cells #[.int .i64 (n4 : Int), .int .i64 (n5 : Int), .int .i64 bb, .int .i64 l] 45)).drew := ⟨_, rfl⟩
    have hbx : Below W.heap.size W W1 := by rw [hW1]; exact ((Below.refl _ _).alloc (Nat.le_refl _) _).drew
    have HX := Lib.hid (show Four W1 W.heap.size (.int .i64 (n4 : Int)) (.int .i64 (n5 : Int)) (.int .i64 bb) (.int .i64 l) by rw [hW1]; exact Four.new W _ _ _ _ _)
    obtain ⟨gX, x0, x1, x2, x3⟩ := HX.out
    have HR1 := Lib.hid (HR.out.below hbx)
    have HZ1 := Lib.hid (hd_frozen HZ.out HR.out.1 hbx)
    have HB1 := Lib.hid (HB.out.trans (hbx.mono HB.out.size))
    rw [← hW1]
    have q0 := Later.cell x0 gX
    have q1 := Later.cell x1 gX
    have q2 := Later.cell x2 gX
    have q3 := Later.cell x3 gX
    clear hbx hW1 x0 x1 x2 x3 C3 C4
    go_wp2
    cases o with
    | false =>
      have HE := Lib.hid (HBig.out rfl)
      refine wp_region_later (by kernel_rfl) (by kernel_rfl) ?_
      repeat (first | go_big_quiet_skip | (go_big_quiet_want; go_big_quiet_op; go_big_quiet_on))
      refine wpQuiet_nil ?_
      rintro w2 ⟨x2, hx2⟩
      have hb2 : Below W1.heap.size W1 w2 := hx2 ▸ x2.2
      clear hx2 x2
      obtain ⟨_, y0, y1, y2, y3⟩ := HX.out.below hb2
      obtain ⟨gR, r0, r1, r2, r3⟩ := HR1.out.below hb2
      have fz := hd_frozen HZ1.out HR1.out.1 hb2
      have f0 := fz 0
      have f1 := fz 1
      have f2 := fz 2
      have f3 := fz 3
      have HB2 := Lib.hid (HB1.out.trans (hb2.mono HB1.out.size))
      have HS2 := Lib.hid (show w.heap.size ≤ w2.heap.size from HB2.out.size)
      clear q0 q1 q2 q3 hb2 fz
      go_wp2
      refine bodyPost_ret (v := .tuple #[.agg #[.int .i64 0, .int .i64 0, .int .i64 0, .int .i64 0], .bool false]) (by simp [results, Tryz.results64, go_sem, r0, r1, r2, r3]) rfl ⟨by rw [HE.out]; rfl, ?_⟩
      iterate 4 refine Below.setCell ?_ (by first | (simp; done) | (simp; omega)) _
      exact HB2.out
    | true =>
      by_cases he : T = b.extract 0 24
      · have hc : (T.toList == (b.extract 0 24).toList) = true := str_yes he
        have HE := Lib.hid (show rdH b = some ⟨(n4 : Int), (n5 : Int), bb, l⟩ by rw [hr.out, if_pos he])
        clear he
        refine wp_region_later (by kernel_rfl) (by kernel_rfl) ?_
        repeat (first | go_big_quiet_skip | (go_big_quiet_want; go_big_quiet_op; go_big_quiet_on))
        go_big_quiet_want
        go_big_quiet_op
        apply Exists.intro
        refine ⟨fun x => ?_, ?_⟩
        · go_at_call 78
          exact Calls.later (CT.out x.val)
        go_big_quiet_on
        repeat (first | go_big_quiet_skip | (go_big_quiet_want; go_big_quiet_op; go_big_quiet_on))
        refine wpQuiet_nil ?_
        rintro w2 ⟨x2, hx2⟩
        have hb2 : Below W1.heap.size W1 w2 := hx2 ▸ x2.2
        clear hx2 x2
        obtain ⟨_, y0, y1, y2, y3⟩ := HX.out.below hb2
        obtain ⟨gR, r0, r1, r2, r3⟩ := HR1.out.below hb2
        have fz := hd_frozen HZ1.out HR1.out.1 hb2
        have f0 := fz 0
        have f1 := fz 1
        have f2 := fz 2
        have f3 := fz 3
        have HB2 := Lib.hid (HB1.out.trans (hb2.mono HB1.out.size))
        have HS2 := Lib.hid (show w.heap.size ≤ w2.heap.size from HB2.out.size)
        clear q0 q1 q2 q3 hb2 fz
        go_wp2
        refine bodyPost_ret (v := .tuple #[.agg #[.int .i64 (n4 : Int), .int .i64 (n5 : Int), .int .i64 bb, .int .i64 l], .bool true]) (by simp [results, Tryz.results64, go_sem, r0, r1, r2, r3]) rfl ⟨by rw [HE.out]; rfl, ?_⟩
        iterate 4 refine Below.setCell ?_ (by first | (simp; done) | (simp; omega)) _
        exact HB2.out
      · have hc : (T.toList == (b.extract 0 24).toList) = false := str_ne he
        have HE := Lib.hid (show rdH b = none by rw [hr.out, if_neg he])
        clear he
        refine wp_region_later (by kernel_rfl) (by kernel_rfl) ?_
        repeat (first | go_big_quiet_skip | (go_big_quiet_want; go_big_quiet_op; go_big_quiet_on))
        go_big_quiet_want
        go_big_quiet_op
        apply Exists.intro
        refine ⟨fun x => ?_, ?_⟩
        · go_at_call 78
          exact Calls.later (CT.out x.val)
        go_big_quiet_on
        repeat (first | go_big_quiet_skip | (go_big_quiet_want; go_big_quiet_op; go_big_quiet_on))
        refine wpQuiet_nil ?_
        rintro w2 ⟨x2, hx2⟩
        have hb2 : Below W1.heap.size W1 w2 := hx2 ▸ x2.2
        clear hx2 x2
        obtain ⟨_, y0, y1, y2, y3⟩ := HX.out.below hb2
        obtain ⟨gR, r0, r1, r2, r3⟩ := HR1.out.below hb2
        have fz := hd_frozen HZ1.out HR1.out.1 hb2
        have f0 := fz 0
        have f1 := fz 1
        have f2 := fz 2
        have f3 := fz 3
        have HB2 := Lib.hid (HB1.out.trans (hb2.mono HB1.out.size))
        have HS2 := Lib.hid (show w.heap.size ≤ w2.heap.size from HB2.out.size)
        clear q0 q1 q2 q3 hb2 fz
        go_wp2
        refine bodyPost_ret (v := .tuple #[.agg #[.int .i64 0, .int .i64 0, .int .i64 0, .int .i64 0], .bool false]) (by simp [results, Tryz.results64, go_sem, r0, r1, r2, r3]) rfl ⟨by rw [HE.out]; rfl, ?_⟩
        iterate 4 refine Below.setCell ?_ (by first | (simp; done) | (simp; omega)) _
        exact HB2.out

end Go.Proofs.YtiehfobcbhgfkaaGreatDoor.hd
