/-
  Contract of spec.ReadHead.
-/
import Derived.Test.YtbgkdngeingmnaaHdR
namespace Go.Proofs.Ytbgkdngeingmnaa.hd
set_option maxRecDepth 20000
open Go.RowKit
open kit sum num burst

theorem val_one (b : ByteArray) (a : Nat) (h : a < b.size) : valF b a 1 = b[a].toNat := by
  unfold valF
  have e := List.take_add_one (l := nats b a) (i := 0)
  rw [nats_get b a 0 (by omega)] at e
  rw [e]
  simp [val]

set_option maxHeartbeats 2000000 in
theorem specReadHead (b : ByteArray) (w : World) (hm : b.size ≤ 1048576) :
    Calls Try.prog 46 #[.string b] w fun e w' => e = .returned (hdR (rdH b)) ∧ Below w.heap.size w w' := by
  by_cases hs : b.size < 24
  · have HE := Lib.hid (rdH_short hs)
    have g1 : (b.size : Int) < 24 := by omega
    go_enter Try.func46, Try.ntmps46
    go_wp2
    refine bodyPost_ret (v := .tuple #[.agg #[.int .i64 0, .int .i64 0, .int .i64 0, .int .i64 0], .bool false]) (by simp [results, Try.results46, go_sem]) rfl ⟨by rw [HE.out]; rfl, (Below.refl _ _).alloc (Nat.le_refl _) _⟩
  · have g1 : ¬ (b.size : Int) < 24 := by omega
    obtain ⟨W, hW⟩ : ∃ W, W = w.alloc (.cells #[.int .i64 0, .int .i64 0, .int .i64 0, .int .i64 0] 26) := ⟨_, rfl⟩
    have HR := Lib.hid (show Four W w.heap.size (.int .i64 0) (.int .i64 0) (.int .i64 0) (.int .i64 0) by rw [hW]; exact Four.new w _ _ _ _ _)
    have HZ := Lib.hid (show ∀ j, W.frozen? ⟨w.heap.size, j, none⟩ = false from fun j => by rw [hW]; simp)
    have HB := Lib.hid (show Below w.heap.size w W by rw [hW]; exact (Below.refl _ _).alloc (Nat.le_refl _) _)
    have hWs : w.heap.size < W.heap.size := by rw [hW]; simp
    have hF := fields_is b
    have e4 := val_one b 4 (by omega)
    have e5 := val_one b 5 (by omega)
    rw [e4, e5] at hF
    have C3 := Lib.hid (specRf_any b 8 8 W hm)
    have C4 := Lib.hid (specRf_any b 16 4 W hm)
    rw [rf8 b (by omega)] at C3
    rw [rf4 b 16 16 rfl (by omega)] at C4
    have hl4 : 4 < b.size := by omega
    have hl5 : 5 < b.size := by omega
    obtain ⟨n4, hn4⟩ : ∃ x : Nat, (b[4]'hl4).toNat = x := ⟨_, rfl⟩
    obtain ⟨n5, hn5⟩ : ∃ x : Nat, (b[5]'hl5).toNat = x := ⟨_, rfl⟩
    have k4 : n4 < 256 := by rw [← hn4]; exact (b[4]'hl4).toNat_lt
    have k5 : n5 < 256 := by rw [← hn5]; exact (b[5]'hl5).toNat_lt
    obtain ⟨bb, hb'⟩ : ∃ x : Int, basI b = x := ⟨_, rfl⟩
    obtain ⟨l, hl⟩ : ∃ x : Int, ((valF b 16 4 : Nat) : Int) = x := ⟨_, rfl⟩
    rw [hn4, hn5, hb', hl] at hF
    rw [hb'] at C3
    rw [hl] at C4
    obtain ⟨T, hT⟩ : ∃ T, hdT ⟨(n4 : Int), (n5 : Int), bb, l⟩ = T := ⟨_, rfl⟩
    have CT := Lib.hid (fun w => specHeadText (n4 : Int) (n5 : Int) bb l w)
    rw [hT] at CT
    have HW := Lib.hid hW
    have h24 : 24 ≤ b.size := by omega
    have hr : Hid (rdH b = if T = b.extract 0 24 then some ⟨(n4 : Int), (n5 : Int), bb, l⟩ else none) := Lib.hid (by unfold rdH; rw [if_neg hs, hF, hT])
    have HBig := Lib.hid (fun (h : top b = false) => rdH_big (by unfold top at h; simpa using h) hs)
    clear hW hF hT hs e4 e5 hb' hl
    obtain ⟨o, ho⟩ : ∃ o, top b = o := ⟨_, rfl⟩
    rw [ho] at C3 HBig
    clear ho
    go_enter Try.func46, Try.ntmps46
    go_wp2_with (fail)
    rw [← HW.out]
    refine C3.out.mono ?_
    rintro e w' ⟨rfl, rfl⟩
    go_wp2_with (fail)
    refine C4.out.mono ?_
    rintro e w' ⟨rfl, rfl⟩
    go_wp2
    go_region
    obtain ⟨W1, hW1⟩ : ∃ W1, W1 = (W.alloc (.cells #[.int .i64 (n4 : Int), .int .i64 (n5 : Int), .int .i64 bb, .int .i64 l] 26)).drew := ⟨_, rfl⟩
    have hbx : Below W.heap.size W W1 := by rw [hW1]; exact ((Below.refl _ _).alloc (Nat.le_refl _) _).drew
    have HX := Lib.hid (show Four W1 W.heap.size (.int .i64 (n4 : Int)) (.int .i64 (n5 : Int)) (.int .i64 bb) (.int .i64 l) by rw [hW1]; exact Four.new W _ _ _ _ _)
    obtain ⟨gX, x0, x1, x2, x3⟩ := HX.out
    have HR1 := Lib.hid (HR.out.below hbx)
    have HZ1 := Lib.hid (hd_frozen HZ.out HR.out.1 hbx)
    have HB1 := Lib.hid (HB.out.trans (hbx.mono HB.out.size))
    rw [← hW1]
    have q0 := Later.cell x0 gX
    have q1 := Later.cell x1 gX
    have q2 := Later.cell x2 gX
    have q3 := Later.cell x3 gX
    clear hbx hW1 x0 x1 x2 x3 C3 C4
    go_wp2
    cases o with
    | false =>
      have HE := Lib.hid (HBig.out rfl)
      refine wp_region_later (by kernel_rfl) (by kernel_rfl) ?_
      repeat (first | go_big_quiet_skip | (go_big_quiet_want; go_big_quiet_op; go_big_quiet_on))
      refine wpQuiet_nil ?_
      rintro w2 ⟨x2, hx2⟩
      have hb2 : Below W1.heap.size W1 w2 := hx2 ▸ x2.2
      clear hx2 x2
      obtain ⟨_, y0, y1, y2, y3⟩ := HX.out.below hb2
      obtain ⟨gR, r0, r1, r2, r3⟩ := HR1.out.below hb2
      have fz := hd_frozen HZ1.out HR1.out.1 hb2
      have f0 := fz 0
      have f1 := fz 1
      have f2 := fz 2
      have f3 := fz 3
      have HB2 := Lib.hid (HB1.out.trans (hb2.mono HB1.out.size))
      have HS2 := Lib.hid (show w.heap.size ≤ w2.heap.size from HB2.out.size)
      clear q0 q1 q2 q3 hb2 fz
      go_wp2
      refine bodyPost_ret (v := .tuple #[.agg #[.int .i64 0, .int .i64 0, .int .i64 0, .int .i64 0], .bool false]) (by simp [results, Try.results46, go_sem, r0, r1, r2, r3]) rfl ⟨by rw [HE.out]; rfl, ?_⟩
      iterate 4 refine Below.setCell ?_ (by first | (simp; done) | (simp; omega)) _
      exact HB2.out
    | true =>
      by_cases he : T = b.extract 0 24
      · have hc : (T.toList == (b.extract 0 24).toList) = true := str_yes he
        have HE := Lib.hid (show rdH b = some ⟨(n4 : Int), (n5 : Int), bb, l⟩ by rw [hr.out, if_pos he])
        clear he
        refine wp_region_later (by kernel_rfl) (by kernel_rfl) ?_
        repeat (first | go_big_quiet_skip | (go_big_quiet_want; go_big_quiet_op; go_big_quiet_on))
        go_big_quiet_want
        go_big_quiet_op
        apply Exists.intro
        refine ⟨fun x => ?_, ?_⟩
        · go_at_call 21
          exact Calls.later (CT.out x.val)
        go_big_quiet_on
        repeat (first | go_big_quiet_skip | (go_big_quiet_want; go_big_quiet_op; go_big_quiet_on))
        refine wpQuiet_nil ?_
        rintro w2 ⟨x2, hx2⟩
        have hb2 : Below W1.heap.size W1 w2 := hx2 ▸ x2.2
        clear hx2 x2
        obtain ⟨_, y0, y1, y2, y3⟩ := HX.out.below hb2
        obtain ⟨gR, r0, r1, r2, r3⟩ := HR1.out.below hb2
        have fz := hd_frozen HZ1.out HR1.out.1 hb2
        have f0 := fz 0
        have f1 := fz 1
        have f2 := fz 2
        have f3 := fz 3
        have HB2 := Lib.hid (HB1.out.trans (hb2.mono HB1.out.size))
        have HS2 := Lib.hid (show w.heap.size ≤ w2.heap.size from HB2.out.size)
        clear q0 q1 q2 q3 hb2 fz
        go_wp2
        refine bodyPost_ret (v := .tuple #[.agg #[.int .i64 (n4 : Int), .int .i64 (n5 : Int), .int .i64 bb, .int .i64 l], .bool true]) (by simp [results, Try.results46, go_sem, r0, r1, r2, r3]) rfl ⟨by rw [HE.out]; rfl, ?_⟩
        iterate 4 refine Below.setCell ?_ (by first | (simp; done) | (simp; omega)) _
        exact HB2.out
      · have hc : (T.toList == (b.extract 0 24).toList) = false := str_ne he
        have HE := Lib.hid (show rdH b = none by rw [hr.out, if_neg he])
        clear he
        refine wp_region_later (by kernel_rfl) (by kernel_rfl) ?_
        repeat (first | go_big_quiet_skip | (go_big_quiet_want; go_big_quiet_op; go_big_quiet_on))
        go_big_quiet_want
        go_big_quiet_op
        apply Exists.intro
        refine ⟨fun x => ?_, ?_⟩
        · go_at_call 21
          exact Calls.later (CT.out x.val)
        go_big_quiet_on
        repeat (first | go_big_quiet_skip | (go_big_quiet_want; go_big_quiet_op; go_big_quiet_on))
        refine wpQuiet_nil ?_
        rintro w2 ⟨x2, hx2⟩
        have hb2 : Below W1.heap.size W1 w2 := hx2 ▸ x2.2
        clear hx2 x2
        obtain ⟨_, y0, y1, y2, y3⟩ := HX.out.below hb2
        obtain ⟨gR, r0, r1, r2, r3⟩ := HR1.out.below hb2
        have fz := hd_frozen HZ1.out HR1.out.1 hb2
        have f0 := fz 0
        have f1 := fz 1
        have f2 := fz 2
        have f3 := fz 3
        have HB2 := Lib.hid (HB1.out.trans (hb2.mono HB1.out.size))
        have HS2 := Lib.hid (show w.heap.size ≤ w2.heap.size from HB2.out.size)
        clear q0 q1 q2 q3 hb2 fz
        go_wp2
        refine bodyPost_ret (v := .tuple #[.agg #[.int .i64 0, .int .i64 0, .int .i64 0, .int .i64 0], .bool false]) (by simp [results, Try.results46, go_sem, r0, r1, r2, r3]) rfl ⟨by rw [HE.out]; rfl, ?_⟩
        iterate 4 refine Below.setCell ?_ (by first | (simp; done) | (simp; omega)) _
        exact HB2.out

end Go.Proofs.Ytbgkdngeingmnaa.hd
