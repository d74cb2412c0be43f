/-
  Contracts of impl's heads: broughtHead, HeadOk.
-/
import Derived.Test.YtideejpopneplaaHdA
import Derived.Test.YtideejpopneplaaNumY
import Derived.Test.YtideejpopneplaaSumI
import Derived.Deep.RegionHeld3
namespace Go.Proofs.Ytideejpopneplaa.hd
set_option maxRecDepth 20000
open Go.RowKit
open kit sum num burst

set_option maxHeartbeats 1000000 in
theorem implBrought (v s b l : Int) (w : World) :
    Calls Try.prog 76 #[.agg #[.int .i64 v, .int .i64 s, .int .i64 b, .int .i64 l]] w fun e w' => e = .returned (.agg #[.int .i64 (br v 1 2), .int .i64 (br s 1 20), .int .i64 (br b 0 1000000000), .int .i64 (br l 0 4294967295)]) ∧ Below w.heap.size w w' := by
  obtain ⟨W, hW⟩ : ∃ W, W = (w.alloc (.cells #[.int .i64 v, .int .i64 s, .int .i64 b, .int .i64 l] 42)).alloc (.cells #[.int .i64 0, .int .i64 0, .int .i64 0, .int .i64 0] 42) := ⟨_, rfl⟩
  have hb : Below w.heap.size w W := by rw [hW]; exact ((Below.refl _ _).alloc (Nat.le_refl _) _).alloc (by simp) _
  have x0 : W.cell? ⟨w.heap.size, 0, none⟩ = some (.int .i64 v) := by rw [hW]; simp
  have x1 : W.cell? ⟨w.heap.size, 1, none⟩ = some (.int .i64 s) := by rw [hW]; simp
  have x2 : W.cell? ⟨w.heap.size, 2, none⟩ = some (.int .i64 b) := by rw [hW]; simp
  have x3 : W.cell? ⟨w.heap.size, 3, none⟩ = some (.int .i64 l) := by rw [hW]; simp
  have r0 : W.cell? ⟨w.heap.size + 1, 0, none⟩ = some (.int .i64 0) := by rw [hW]; simp
  have r1 : W.cell? ⟨w.heap.size + 1, 1, none⟩ = some (.int .i64 0) := by rw [hW]; simp
  have r2 : W.cell? ⟨w.heap.size + 1, 2, none⟩ = some (.int .i64 0) := by rw [hW]; simp
  have r3 : W.cell? ⟨w.heap.size + 1, 3, none⟩ = some (.int .i64 0) := by rw [hW]; simp
  have f0 : W.frozen? ⟨w.heap.size + 1, 0, none⟩ = false := by rw [hW]; simp
  have f1 : W.frozen? ⟨w.heap.size + 1, 1, none⟩ = false := by rw [hW]; simp
  have f2 : W.frozen? ⟨w.heap.size + 1, 2, none⟩ = false := by rw [hW]; simp
  have f3 : W.frozen? ⟨w.heap.size + 1, 3, none⟩ = false := by rw [hW]; simp
  have HB := Lib.hid hb
  have C1 := Lib.hid (fun w => implBr_any v 1 2 w)
  have C2 := Lib.hid (fun w => implBr_any s 1 20 w)
  have C3 := Lib.hid (fun w => implBr_any b 0 1000000000 w)
  have C4 := Lib.hid (fun w => implBr_any l 0 4294967295 w)
  obtain ⟨v', hv'⟩ : ∃ x, br v 1 2 = x := ⟨_, rfl⟩
  obtain ⟨s', hs'⟩ : ∃ x, br s 1 20 = x := ⟨_, rfl⟩
  obtain ⟨b', hb'⟩ : ∃ x, br b 0 1000000000 = x := ⟨_, rfl⟩
  obtain ⟨l', hl'⟩ : ∃ x, br l 0 4294967295 = x := ⟨_, rfl⟩
  rw [hv'] at C1 ⊢
  rw [hs'] at C2 ⊢
  rw [hb'] at C3 ⊢
  rw [hl'] at C4 ⊢
  clear hb hv' hs' hb' hl'
  go_enter Try.func76, Try.ntmps76
  go_wp2
  rw [← hW]
  clear hW
  go_region_held3 (fun w' => w'.cell? ⟨w.heap.size, 0, none⟩ = some (.int .i64 v) ∧ w'.cell? ⟨w.heap.size, 1, none⟩ = some (.int .i64 s) ∧ w'.cell? ⟨w.heap.size, 2, none⟩ = some (.int .i64 b) ∧ w'.cell? ⟨w.heap.size, 3, none⟩ = some (.int .i64 l)) (first | with_reducible exact ⟨x0, x1, x2, x3⟩ | exact ⟨by simp [go_sem, x0], by simp [go_sem, x1], by simp [go_sem, x2], by simp [go_sem, x3]⟩) (first | (go_at_call 84; with_reducible refine (C1.out _).mono ?_; rintro e w1 ⟨rfl, rfl⟩) | (go_at_call 84; with_reducible refine (C2.out _).mono ?_; rintro e w1 ⟨rfl, rfl⟩) | (go_at_call 84; with_reducible refine (C3.out _).mono ?_; rintro e w1 ⟨rfl, rfl⟩) | (go_at_call 84; with_reducible refine (C4.out _).mono ?_; rintro e w1 ⟨rfl, rfl⟩))
  go_wp2
  refine bodyPost_ret (v := .agg #[.int .i64 v', .int .i64 s', .int .i64 b', .int .i64 l']) (by simp [results, Try.results76, go_sem, r0, r1, r2, r3]) rfl ⟨rfl, ?_⟩
  refine Below.drew ?_
  iterate 4 refine Below.setCell ?_ (by first | (simp; done) | (simp; omega)) _
  exact HB.out

/-- the fields brought into their limits: a right head's stay as they are -/
theorem br_in {n a b : Int} (h1 : a ≤ n) (h2 : n ≤ b) : br n a b = n := by unfold br; rw [if_neg (by omega), if_neg (by omega)]
theorem br_out {n a b : Int} (hab : a ≤ b) (h : ¬ (a ≤ n ∧ n ≤ b)) : ¬ n = br n a b := by
  unfold br
  split
  · omega
  · split
    · omega
    · omega

set_option maxHeartbeats 1000000 in
theorem implHeadOk (v s b l : Int) (w : World) :
    Calls Try.prog 59 #[.agg #[.int .i64 v, .int .i64 s, .int .i64 b, .int .i64 l]] w fun e w' => e = .returned (.bool (okH ⟨v, s, b, l⟩)) ∧ Below w.heap.size w w' := by
  obtain ⟨W, hW⟩ : ∃ W, W = w.alloc (.cells #[.int .i64 v, .int .i64 s, .int .i64 b, .int .i64 l] 42) := ⟨_, rfl⟩
  have hb : Below w.heap.size w W := by rw [hW]; exact (Below.refl _ _).alloc (Nat.le_refl _) _
  have F0 : Four W w.heap.size (.int .i64 v) (.int .i64 s) (.int .i64 b) (.int .i64 l) := by rw [hW]; exact Four.new w _ _ _ _ _
  have HF := Lib.hid F0
  obtain ⟨z0, x0, x1, x2, x3⟩ := F0
  have HB := Lib.hid hb
  have CB := Lib.hid (fun w => implBrought v s b l w)
  obtain ⟨v', hv'⟩ : ∃ x, br v 1 2 = x := ⟨_, rfl⟩
  obtain ⟨s', hs'⟩ : ∃ x, br s 1 20 = x := ⟨_, rfl⟩
  obtain ⟨b', hb'⟩ : ∃ x, br b 0 1000000000 = x := ⟨_, rfl⟩
  obtain ⟨l', hl'⟩ : ∃ x, br l 0 4294967295 = x := ⟨_, rfl⟩
  have HE : Hid (okH ⟨v, s, b, l⟩ = (((decide (v = v') && decide (s = s')) && decide (b = b')) && decide (l = l'))) := Lib.hid (by
    have e1 : decide (v = v') = decide (1 ≤ v ∧ v ≤ 2) := by
      rw [← hv']; by_cases h : 1 ≤ v ∧ v ≤ 2
      · rw [br_in h.1 h.2]; simp [h]
      · rw [decide_eq_false (br_out (by omega) h), decide_eq_false h]
    have e2 : decide (s = s') = decide (1 ≤ s ∧ s ≤ 20) := by
      rw [← hs']; by_cases h : 1 ≤ s ∧ s ≤ 20
      · rw [br_in h.1 h.2]; simp [h]
      · rw [decide_eq_false (br_out (by omega) h), decide_eq_false h]
    have e3 : decide (b = b') = decide (0 ≤ b ∧ b ≤ 1000000000) := by
      rw [← hb']; by_cases h : 0 ≤ b ∧ b ≤ 1000000000
      · rw [br_in h.1 h.2]; simp [h]
      · rw [decide_eq_false (br_out (by omega) h), decide_eq_false h]
    have e4 : decide (l = l') = decide (0 ≤ l ∧ l ≤ 4294967295) := by
      rw [← hl']; by_cases h : 0 ≤ l ∧ l ≤ 4294967295
      · rw [br_in h.1 h.2]; simp [h]
      · rw [decide_eq_false (br_out (by omega) h), decide_eq_false h]
    rw [e1, e2, e3, e4]
    unfold okH
    simp only [Bool.decide_and, Bool.and_assoc])
  rw [hv', hs', hb', hl'] at CB
  have HW := Lib.hid hW
  have q0 := Later.cell x0 z0
  have q1 := Later.cell x1 z0
  have q2 := Later.cell x2 z0
  have q3 := Later.cell x3 z0
  clear hb hv' hs' hb' hl' hW
  go_enter Try.func59, Try.ntmps59
  go_wp2
  rw [← HW.out]
  refine wp_region_later (by kernel_rfl) (by kernel_rfl) ?_
  repeat (first | go_big_quiet_skip | (go_big_quiet_want; go_big_quiet_op; go_big_quiet_on))
  go_big_quiet_want
  go_big_quiet_op
  apply Exists.intro
  refine ⟨fun x => ?_, ?_⟩
  · go_at_call 76
    exact Calls.later (CB.out x.val)
  go_big_quiet_on
  repeat (first | go_big_quiet_skip | (go_big_quiet_want; go_big_quiet_op; go_big_quiet_on))
  go_big_quiet_want
  go_big_quiet_op
  refine ⟨.bool (okH ⟨v, s, b, l⟩), fun x => ?_, ?_⟩
  · rw [HE.out]
    by_cases e1 : v = v'
    · by_cases e2 : s = s'
      · by_cases e3 : b = b'
        · by_cases e4 : l = l'
          · rw [if_pos e1, if_pos e2, if_pos e3, if_pos e4]; exact ⟨rfl, by simp [e1, e2, e3, e4]⟩
          · rw [if_pos e1, if_pos e2, if_pos e3, if_neg e4]; exact ⟨rfl, by simp [e1, e2, e3, e4]⟩
        · rw [if_pos e1, if_pos e2, if_neg e3]; exact ⟨rfl, by simp [e3]⟩
      · rw [if_pos e1, if_neg e2]; exact ⟨rfl, by simp [e2]⟩
    · rw [if_neg e1]; exact ⟨rfl, by simp [e1]⟩
  go_big_quiet_on
  repeat (first | go_big_quiet_skip | (go_big_quiet_want; go_big_quiet_op; go_big_quiet_on))
  refine wpQuiet_nil ?_
  rintro w2 ⟨x2, hx2⟩
  have hb2 : Below W.heap.size W w2 := hx2 ▸ x2.2
  clear hx2 x2
  have HB2 := Lib.hid (HB.out.trans (hb2.mono HB.out.size))
  go_wp2
  go_ret
  exact ⟨rfl, HB2.out⟩

end Go.Proofs.Ytideejpopneplaa.hd
