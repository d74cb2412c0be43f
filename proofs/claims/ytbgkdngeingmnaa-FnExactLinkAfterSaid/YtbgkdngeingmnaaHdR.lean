/-
  Contracts of impl.headFields and impl.ReadHead.
-/
import Derived.Test.YtbgkdngeingmnaaHdT
namespace Go.Proofs.Ytbgkdngeingmnaa.hd
set_option maxRecDepth 20000
open Go.RowKit
open kit sum num burst

/-- what is answered of a reading -/
def hdV : Option Hd → Value
  | none => .agg #[.int .i64 0, .int .i64 0, .int .i64 0, .int .i64 0]
  | some h => .agg #[.int .i64 h.v, .int .i64 h.s, .int .i64 h.b, .int .i64 h.l]
def hdR (o : Option Hd) : Value := .tuple #[hdV o, .bool o.isSome]
/-- the parts of a reading in bytes -/
theorem rf1 (b : ByteArray) (a : Nat) (ai : Int) (e : ai = a) (h : a + 1 ≤ b.size) : rfAt b ai 1 = .tuple #[.int .i64 ((valF b a 1 : Nat) : Int), .bool true] := e ▸ rfAt_in b a 1 (by omega) (by omega) h (below8 b a 1 (by omega))
theorem rf4 (b : ByteArray) (a : Nat) (ai : Int) (e : ai = a) (h : a + 4 ≤ b.size) : rfAt b ai 4 = .tuple #[.int .i64 ((valF b a 4 : Nat) : Int), .bool true] := e ▸ rfAt_in b a 4 (by omega) (by omega) h (below8 b a 4 (by omega))
def top (b : ByteArray) : Bool := decide (valF b 8 8 < 9223372036854775808)
def basI (b : ByteArray) : Int := if valF b 8 8 < 9223372036854775808 then ((valF b 8 8 : Nat) : Int) else 0
theorem rf8 (b : ByteArray) (h : 24 ≤ b.size) : rfAt b 8 8 = .tuple #[.int .i64 (basI b), .bool (top b)] := by
  unfold basI top
  by_cases hv : valF b 8 8 < 9223372036854775808
  · rw [if_pos hv, decide_eq_true hv]
    exact rfAt_in b 8 8 (by omega) (by omega) (by omega) hv
  · rw [if_neg hv, decide_eq_false hv]
    exact rfAt_big b 8 8 hv
theorem fields_is (b : ByteArray) : fields b = ⟨(valF b 4 1 : Nat), (valF b 5 1 : Nat), basI b, (valF b 16 4 : Nat)⟩ := rfl

set_option maxHeartbeats 1000000 in
theorem implFields (b : ByteArray) (w : World) (hm : b.size ≤ 1048576) (hs : 24 ≤ b.size) :
    Calls Try.prog 67 #[.string b] w fun e w' => e = .returned (hdV (some (fields b))) ∧ Below w.heap.size w w' := by
  have HF := Lib.hid (fields_is b)
  have C1 := Lib.hid (fun w => implRf_any b 4 1 w hm)
  have C2 := Lib.hid (fun w => implRf_any b 5 1 w hm)
  have C3 := Lib.hid (fun w => implRf_any b 8 8 w hm)
  have C4 := Lib.hid (fun w => implRf_any b 16 4 w hm)
  rw [rf1 b 4 4 rfl (by omega)] at C1
  rw [rf1 b 5 5 rfl (by omega)] at C2
  rw [rf8 b hs] at C3
  rw [rf4 b 16 16 rfl (by omega)] at C4
  obtain ⟨v, hv⟩ : ∃ x : Int, ((valF b 4 1 : Nat) : Int) = x := ⟨_, rfl⟩
  obtain ⟨s, hs'⟩ : ∃ x : Int, ((valF b 5 1 : Nat) : Int) = x := ⟨_, rfl⟩
  obtain ⟨bb, hb'⟩ : ∃ x : Int, basI b = x := ⟨_, rfl⟩
  obtain ⟨l, hl⟩ : ∃ x : Int, ((valF b 16 4 : Nat) : Int) = x := ⟨_, rfl⟩
  obtain ⟨o, ho⟩ : ∃ x : Bool, top b = x := ⟨_, rfl⟩
  rw [hv] at C1 HF
  rw [hs'] at C2 HF
  rw [hb'] at C3 HF
  rw [ho] at C3
  rw [hl] at C4 HF
  clear hv hs' hb' hl ho hs
  go_enter Try.func67, Try.ntmps67
  go_wp2_with (fail)
  refine (C1.out _).mono ?_
  rintro e w' ⟨rfl, rfl⟩
  go_wp2_with (fail)
  refine (C2.out _).mono ?_
  rintro e w' ⟨rfl, rfl⟩
  go_wp2_with (fail)
  refine (C3.out _).mono ?_
  rintro e w' ⟨rfl, rfl⟩
  go_wp2_with (fail)
  refine (C4.out _).mono ?_
  rintro e w' ⟨rfl, rfl⟩
  go_wp2
  refine bodyPost_ret (v := .agg #[.int .i64 v, .int .i64 s, .int .i64 bb, .int .i64 l]) (by simp [results, Try.results67, go_sem]) rfl ⟨by rw [HF.out]; rfl, ((Below.refl _ _).alloc (Nat.le_refl _) _).alloc (by simp) _⟩

theorem zero_cells (w : World) : Four (w.alloc (.cells #[.int .i64 0, .int .i64 0, .int .i64 0, .int .i64 0] 26)) w.heap.size (.int .i64 0) (.int .i64 0) (.int .i64 0) (.int .i64 0) := Four.new w _ _ _ _ _
theorem hd_frozen {w w' : World} {g : Nat} (h : ∀ j, w.frozen? ⟨g, j, none⟩ = false) (hg : g < w.heap.size) (hb : Below w.heap.size w w') : ∀ j, w'.frozen? ⟨g, j, none⟩ = false := fun j => (hb.frozen (p := ⟨g, j, none⟩) hg).trans (h j)

set_option maxHeartbeats 1000000 in
theorem implReadHead (b : ByteArray) (w : World) (hm : b.size ≤ 1048576) :
    Calls Try.prog 42 #[.string b] w fun e w' => e = .returned (hdR (rdH b)) ∧ Below w.heap.size w w' := by
  by_cases hs : b.size < 24
  · have HE := Lib.hid (rdH_short hs)
    have g1 : (b.size : Int) < 24 := by omega
    go_enter Try.func42, Try.ntmps42
    go_wp2
    refine bodyPost_ret (v := .tuple #[.agg #[.int .i64 0, .int .i64 0, .int .i64 0, .int .i64 0], .bool false]) (by simp [results, Try.results42, go_sem]) rfl ⟨by rw [HE.out]; rfl, (Below.refl _ _).alloc (Nat.le_refl _) _⟩
  · have g1 : ¬ (b.size : Int) < 24 := by omega
    obtain ⟨W, hW⟩ : ∃ W, W = w.alloc (.cells #[.int .i64 0, .int .i64 0, .int .i64 0, .int .i64 0] 26) := ⟨_, rfl⟩
    have HR := Lib.hid (show Four W w.heap.size (.int .i64 0) (.int .i64 0) (.int .i64 0) (.int .i64 0) by rw [hW]; exact Four.new w _ _ _ _ _)
    have HZ := Lib.hid (show ∀ j, W.frozen? ⟨w.heap.size, j, none⟩ = false from fun j => by rw [hW]; simp)
    have HB := Lib.hid (show Below w.heap.size w W by rw [hW]; exact (Below.refl _ _).alloc (Nat.le_refl _) _)
    have hWs : w.heap.size < W.heap.size := by rw [hW]; simp
    have CF := Lib.hid (implFields b W hm (by omega))
    obtain ⟨h, hh⟩ : ∃ h, fields b = h := ⟨_, rfl⟩
    rw [hh] at CF
    obtain ⟨v, s, bb, l⟩ := h
    rw [show hdV (some ⟨v, s, bb, l⟩) = .agg #[.int .i64 v, .int .i64 s, .int .i64 bb, .int .i64 l] from rfl] at CF
    obtain ⟨T, hT⟩ : ∃ T, hdT ⟨v, s, bb, l⟩ = T := ⟨_, rfl⟩
    have CT := Lib.hid (fun w => implHeadText v s bb l w)
    rw [hT] at CT
    have HW := Lib.hid hW
    have h24 : 24 ≤ b.size := by omega
    have hr : Hid (rdH b = if T = b.extract 0 24 then some ⟨v, s, bb, l⟩ else none) := Lib.hid (by unfold rdH; rw [if_neg hs, hh, hT])
    clear hW hh hT hs
    go_enter Try.func42, Try.ntmps42
    go_wp2_with (fail)
    rw [← HW.out]
    refine CF.out.mono ?_
    rintro e w1 ⟨rfl, hb1⟩
    obtain ⟨W1, hW1⟩ : ∃ W1, W1 = w1.alloc (.cells #[.int .i64 v, .int .i64 s, .int .i64 bb, .int .i64 l] 26) := ⟨_, rfl⟩
    have hbx : Below W.heap.size W W1 := by rw [hW1]; exact hb1.alloc hb1.size _
    have HW1 := Lib.hid hW1
    obtain ⟨gX, x0, x1, x2, x3⟩ : Four W1 w1.heap.size (.int .i64 v) (.int .i64 s) (.int .i64 bb) (.int .i64 l) := by rw [hW1]; exact Four.new w1 _ _ _ _ _
    have HX := Lib.hid (show Four W1 w1.heap.size (.int .i64 v) (.int .i64 s) (.int .i64 bb) (.int .i64 l) from ⟨gX, x0, x1, x2, x3⟩)
    have HR1 := Lib.hid (HR.out.below hbx)
    have HZ1 := Lib.hid (hd_frozen HZ.out HR.out.1 hbx)
    have HB1 := Lib.hid (HB.out.trans (hbx.mono HB.out.size))
    have q0 := Later.cell x0 gX
    have q1 := Later.cell x1 gX
    have q2 := Later.cell x2 gX
    have q3 := Later.cell x3 gX
    clear hb1 hbx hW1 CF x0 x1 x2 x3
    go_wp2
    rw [← HW1.out]
    by_cases he : T = b.extract 0 24
    · have hc : (T.toList == (b.extract 0 24).toList) = true := str_yes he
      have HE := Lib.hid (show rdH b = some ⟨v, s, bb, l⟩ by rw [hr.out, if_pos he])
      clear he
      refine wp_region_later (by kernel_rfl) (by kernel_rfl) ?_
      repeat (first | go_big_quiet_skip | (go_big_quiet_want; go_big_quiet_op; go_big_quiet_on))
      go_big_quiet_want
      go_big_quiet_op
      apply Exists.intro
      refine ⟨fun x => ?_, ?_⟩
      · go_at_call 68
        exact Calls.later (CT.out x.val)
      go_big_quiet_on
      repeat (first | go_big_quiet_skip | (go_big_quiet_want; go_big_quiet_op; go_big_quiet_on))
      refine wpQuiet_nil ?_
      rintro w2 ⟨x2, hx2⟩
      have hb2 : Below W1.heap.size W1 w2 := hx2 ▸ x2.2
      clear hx2 x2
      obtain ⟨_, y0, y1, y2, y3⟩ := HX.out.below hb2
      obtain ⟨gR, r0, r1, r2, r3⟩ := HR1.out.below hb2
      have fz := hd_frozen HZ1.out HR1.out.1 hb2
      have f0 := fz 0
      have f1 := fz 1
      have f2 := fz 2
      have f3 := fz 3
      have HB2 := Lib.hid (HB1.out.trans (hb2.mono HB1.out.size))
      have HS2 := Lib.hid (show w.heap.size ≤ w2.heap.size from HB2.out.size)
      clear q0 q1 q2 q3 hc hb2 fz
      go_wp2
      refine bodyPost_ret (v := .tuple #[.agg #[.int .i64 v, .int .i64 s, .int .i64 bb, .int .i64 l], .bool true]) (by simp [results, Try.results42, go_sem, r0, r1, r2, r3]) rfl ⟨by rw [HE.out]; rfl, ?_⟩
      iterate 4 refine Below.setCell ?_ (by first | (simp; done) | (simp; omega)) _
      exact HB2.out
    · have hc : (T.toList == (b.extract 0 24).toList) = false := str_ne he
      have HE := Lib.hid (show rdH b = none by rw [hr.out, if_neg he])
      clear he
      refine wp_region_later (by kernel_rfl) (by kernel_rfl) ?_
      repeat (first | go_big_quiet_skip | (go_big_quiet_want; go_big_quiet_op; go_big_quiet_on))
      go_big_quiet_want
      go_big_quiet_op
      apply Exists.intro
      refine ⟨fun x => ?_, ?_⟩
      · go_at_call 68
        exact Calls.later (CT.out x.val)
      go_big_quiet_on
      repeat (first | go_big_quiet_skip | (go_big_quiet_want; go_big_quiet_op; go_big_quiet_on))
      refine wpQuiet_nil ?_
      rintro w2 ⟨x2, hx2⟩
      have hb2 : Below W1.heap.size W1 w2 := hx2 ▸ x2.2
      clear hx2 x2
      obtain ⟨_, y0, y1, y2, y3⟩ := HX.out.below hb2
      obtain ⟨gR, r0, r1, r2, r3⟩ := HR1.out.below hb2
      have fz := hd_frozen HZ1.out HR1.out.1 hb2
      have f0 := fz 0
      have f1 := fz 1
      have f2 := fz 2
      have f3 := fz 3
      have HB2 := Lib.hid (HB1.out.trans (hb2.mono HB1.out.size))
      have HS2 := Lib.hid (show w.heap.size ≤ w2.heap.size from HB2.out.size)
      clear q0 q1 q2 q3 hc hb2 fz
      go_wp2
      refine bodyPost_ret (v := .tuple #[.agg #[.int .i64 0, .int .i64 0, .int .i64 0, .int .i64 0], .bool false]) (by simp [results, Try.results42, go_sem, r0, r1, r2, r3]) rfl ⟨by rw [HE.out]; rfl, ?_⟩
      iterate 4 refine Below.setCell ?_ (by first | (simp; done) | (simp; omega)) _
      exact HB2.out

end Go.Proofs.Ytbgkdngeingmnaa.hd
