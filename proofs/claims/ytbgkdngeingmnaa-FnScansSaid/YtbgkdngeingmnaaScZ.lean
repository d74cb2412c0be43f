/-
  The walk of FnScans.
-/
import Derived.Test.YtbgkdngeingmnaaScS
import Derived.Test.YtbgkdngeingmnaaScD
import Derived.Deep.RegionHeld3
import Derived.BigQuiet
namespace Go.Proofs.Ytbgkdngeingmnaa.sc
set_option maxRecDepth 20000
open Go.RowKit
open kit sum num burst hd fr

theorem scans_big (a : Option Addr) (len cap : Nat) (w : World) (h : 1048576 < len) :
    Calls Try.prog 3 #[.slice a len cap] w fun e w' => e = .returned (.bool true) ∧ Below w.heap.size w w' := by
  go_enter Try.func3, Try.ntmps3
  go_wp2_with (go_at_call 12; refine (big_yes _ _ _ _ h).mono ?_; rintro e w' ⟨rfl, rfl⟩)
  go_ret
  exact ⟨rfl, Below.refl _ _⟩
theorem first_ok : okH ⟨1, 1, 0, 0⟩ = true := by decide
theorem goes_first : goesB (hdT ⟨1, 1, 0, 0⟩) 0 0 = true := by
  have h := rdH_hdT first_ok nul
  have e : hdT ⟨1, 1, 0, 0⟩ ++ nul = hdT ⟨1, 1, 0, 0⟩ := by
    have h1 := txt_self (hdT ⟨1, 1, 0, 0⟩)
    have h2 := txt_self (hdT ⟨1, 1, 0, 0⟩ ++ nul)
    rw [nats_app0, show nats nul 0 = [] from rfl, List.append_nil] at h2
    exact h2.symm.trans h1
  rw [e] at h
  unfold goesB
  rw [hdOf_some h, h]
  rfl

set_option maxHeartbeats 1500000 in
set_option maxRecDepth 20000 in
theorem scans_small (a : Option Addr) (len cap : Nat) (w : World) (hc : draw.CodeAt w w.heap.size a len) :
    Calls Try.prog 3 #[.slice a len cap] w fun e w' => e = .returned (.bool true) ∧ Below w.heap.size w w' := by
  have HC := Lib.hid hc
  have hlen := hc.1
  clear hc
  go_enter Try.func3, Try.ntmps3
  go_wp2_with (fail)
  refine (big_no _ _ _ _ hlen).mono ?_
  rintro e w' ⟨rfl, rfl⟩
  clear hlen
  go_wp2_with (fail)
  refine (draw.drawScan_any a len cap w HC.out).mono ?_
  rintro e w1 ⟨⟨b, hb, rfl⟩, b1⟩
  have B1 := Lib.hid b1
  have hm : b.size ≤ 1048576 := by omega
  have CS := Lib.hid (fun w => specScan b w hm)
  have CI := Lib.hid (fun w => implRecords b w hm)
  have CR := Lib.hid (fun w => specRecords b w hm)
  have hn := recs_le b
  obtain ⟨n, hnn⟩ : ∃ n, (recs b).length = n := ⟨_, rfl⟩
  have HNN := Lib.hid hnn
  rw [hnn] at CI CR
  clear hnn b1
  have hn : n ≤ 1048576 := by rw [← HNN.out]; omega
  go_wp2_with (fail)
  refine (implScan b w1 hm).mono ?_
  rintro e w2 ⟨⟨v2, rfl, o2⟩, b2⟩
  obtain ⟨a1, c1, a2, c2, rfl⟩ := o2.form
  rw [HNN.out] at o2 ⊢
  obtain ⟨W, hW⟩ : ∃ W, W = w2.alloc (.cells #[.bool (rdH b).isSome, .int .i64 (hdOf b).v, .int .i64 (hdOf b).s, .int .i64 (hdOf b).b, .int .i64 (hdOf b).l, .slice a1 n c1, .slice a2 n c2, .int .i64 (endN b : Int), .bool (marked b)] 30) := ⟨_, rfl⟩
  have al : Below w2.heap.size w2 W := by rw [hW]; exact (Below.refl _ _).alloc (Nat.le_refl _) _
  have bx : Box W w2.heap.size [.bool (rdH b).isSome, .int .i64 (hdOf b).v, .int .i64 (hdOf b).s, .int .i64 (hdOf b).b, .int .i64 (hdOf b).l, .slice a1 n c1, .slice a2 n c2, .int .i64 (endN b : Int), .bool (marked b)] := by rw [hW]; exact Box.new w2 _ _
  have OS := Lib.hid (o2.below al)
  have BX := Lib.hid bx
  have HB := Lib.hid ((B1.out.trans (b2.mono B1.out.size)).trans (al.mono (Nat.le_trans B1.out.size b2.size)))
  clear o2 b2 al bx B1
  go_wp2
  rw [← hW]
  clear hW
  have BC := (Below.refl W.heap.size W).drew
  go_region_held3 (fun w' => w'.cell? ⟨w2.heap.size, 0, none⟩ = some (.bool (rdH b).isSome) ∧ w'.cell? ⟨w2.heap.size, 1, none⟩ = some (.int .i64 (hdOf b).v) ∧ w'.cell? ⟨w2.heap.size, 2, none⟩ = some (.int .i64 (hdOf b).s) ∧ w'.cell? ⟨w2.heap.size, 3, none⟩ = some (.int .i64 (hdOf b).b) ∧ w'.cell? ⟨w2.heap.size, 4, none⟩ = some (.int .i64 (hdOf b).l) ∧ w'.cell? ⟨w2.heap.size, 5, none⟩ = some (.slice a1 n c1) ∧ w'.cell? ⟨w2.heap.size, 6, none⟩ = some (.slice a2 n c2) ∧ w'.cell? ⟨w2.heap.size, 7, none⟩ = some (.int .i64 (endN b : Int)) ∧ w'.cell? ⟨w2.heap.size, 8, none⟩ = some (.bool (marked b))) (first | exact ⟨BX.out.at 0 _ rfl, BX.out.at 1 _ rfl, BX.out.at 2 _ rfl, BX.out.at 3 _ rfl, BX.out.at 4 _ rfl, BX.out.at 5 _ rfl, BX.out.at 6 _ rfl, BX.out.at 7 _ rfl, BX.out.at 8 _ rfl⟩ | exact ⟨(BX.out.below BC).at 0 _ rfl, (BX.out.below BC).at 1 _ rfl, (BX.out.below BC).at 2 _ rfl, (BX.out.below BC).at 3 _ rfl, (BX.out.below BC).at 4 _ rfl, (BX.out.below BC).at 5 _ rfl, (BX.out.below BC).at 6 _ rfl, (BX.out.below BC).at 7 _ rfl, (BX.out.below BC).at 8 _ rfl⟩) (first | (go_at_call 16; refine (CS.out _).mono ?_; rintro e wa ⟨⟨v3, rfl, o3⟩, hb⟩; have O3 := o3; have BC := BC.trans (hb.mono BC.size); obtain ⟨p3, q3, r3, t3, rfl⟩ := o3.form; rw [HNN.out] at O3 ⊢) | (go_at_call 15; refine (sameScan_any b _ hm (OS.out.below BC) O3).mono ?_; rintro e wb ⟨rfl, hb⟩; have BC := BC.trans (hb.mono BC.size)) | (go_at_call 18; refine (CI.out _).mono ?_; rintro e wc ⟨⟨v4, rfl, o4⟩, hb⟩; have BC := BC.trans (hb.mono BC.size); obtain ⟨a4, c4, rfl, _, _, _⟩ := own_form o4; have A4 := strs.At.of_own o4) | (go_at_call 19; refine (CR.out _).mono ?_; rintro e wd ⟨⟨v5, rfl, o5⟩, hb⟩; have BC := BC.trans (hb.mono BC.size); have A4 := A4.below hb; obtain ⟨a5, c5, rfl, _, _, _⟩ := own_form o5; have A5 := strs.At.of_own o5) | (go_at_call 17; refine (same_any a4 a5 c4 c5 n (recs b) _ hn A4 A5).mono ?_; rintro e we ⟨rfl, hb⟩; have BC := BC.trans (hb.mono BC.size)))
  all_goals
    have X := BX.out.below BC
    have HBC := Lib.hid BC
    have HB := Lib.hid (HB.out.trans (BC.mono HB.out.size))
    have RW := Lib.hid (OS.out.below BC)
    clear BC BX OS CS CR
    have x0 := X.at 0 _ rfl
    have x1 := X.at 1 _ rfl
    have x2 := X.at 2 _ rfl
    have x3 := X.at 3 _ rfl
    have x4 := X.at 4 _ rfl
    have x5 := X.at 5 _ rfl
    have x6 := X.at 6 _ rfl
    have x7 := X.at 7 _ rfl
    have x8 := X.at 8 _ rfl
    have HXX := Lib.hid X
    clear X
    cases hx : rdH b with
    | none =>
      rw [hx] at x0
      have hz : n = 0 := by rw [← HNN.out, recs_none hx]; rfl
      subst hz
      have hh := hdT_le ⟨1, 1, 0, 0⟩
      have CG := Lib.hid (fun w => implGoes (hdT ⟨1, 1, 0, 0⟩) 0 0 w (by omega))
      have CT := Lib.hid (fun w => specHeadText 1 1 0 0 w)
      rw [goes_first] at CG
      obtain ⟨Hd1, hHd⟩ : ∃ Hd1, hdT ⟨1, 1, 0, 0⟩ = Hd1 := ⟨_, rfl⟩
      rw [hHd] at CG CT
      clear hHd hh RW
      go_wp2_with (fail)
      refine (CI.out _).mono ?_
      rintro e w7 ⟨⟨v7, rfl, o7⟩, b7⟩
      obtain ⟨a7, c7, rfl, _, _, _⟩ := own_form o7
      have B7 := Lib.hid (HB.out.trans (b7.mono HB.out.size))
      clear o7 b7
      go_wp2_with (fail)
      refine (CT.out _).mono ?_
      rintro e w8 ⟨rfl, b8⟩
      have B8 := Lib.hid (B7.out.trans (b8.mono B7.out.size))
      clear b8
      go_wp2_with (fail)
      refine (CG.out _).mono ?_
      rintro e w9 ⟨rfl, b9⟩
      have B9 := Lib.hid (B8.out.trans (b9.mono B8.out.size))
      clear b9
      go_wp2
      go_ret
      exact ⟨rfl, B9.out⟩
    | some h =>
      rw [hx] at x0
      rw [hdOf_some hx] at x1 x2 x3 x4
      have CT := Lib.hid (fun w => specHeadText h.v h.s h.b h.l w)
      go_wp2_with (fail)
      rw [hdOf_some hx]
      clear x0 x1 x2 x3 x4 x5 x6 x7 x8
      refine (CT.out _).mono ?_
      rintro e w7 ⟨rfl, b7⟩
      have X7 := Lib.hid (HXX.out.below b7)
      have B7 := Lib.hid (HB.out.trans (b7.mono HB.out.size))
      obtain ⟨R, O, hv, rR, rO⟩ := RW.out.below b7
      simp only [Value.agg.injEq, Array.mk.injEq, List.cons.injEq] at hv
      obtain ⟨_, _, _, _, _, rfl, rfl, _⟩ := hv
      have rO := own_ints rO
      rw [HNN.out] at rR rO
      have A1 := Lib.hid (strs.At.of_own rR)
      have A2 := Lib.hid (ints.At.of_own rO)
      have hok := okH_is.1 (rdH_some hx).2.1
      obtain ⟨L, hL⟩ := Int.eq_ofNat_of_zero_le hok.2.2.2.2.2.2.1
      have hb0 := hok.2.2.2.2.1
      have hb9 := hok.2.2.2.2.2.1
      have ET := Lib.hid (end_text hx)
      have HOF := Lib.hid (fun i o => offs_at (i := i) (o := o) hx)
      have HTX := Lib.hid (fun i hi => tx_le hx i hi)
      have HOL := Lib.hid (offs_length b)
      have HLK := Lib.hid (show linkN b = lkL L (recs b) by unfold linkN; rw [hdOf_some hx, hL, Int.toNat_natCast])
      have G1 := Lib.hid (show goesB b h.b h.l = true by unfold goesB; rw [hdOf_some hx, hx]; simp)
      have G2 := Lib.hid (show goesB b (h.b + 1) h.l = false by unfold goesB; rw [hdOf_some hx, hx]; simp; omega)
      have HD := Lib.hid (hdOf_some hx)
      have HX7 := Lib.hid (show Box w7 w2.heap.size [.bool true, .int .i64 h.v, .int .i64 h.s, .int .i64 h.b, .int .i64 h.l, .slice a1 n c1, .slice a2 n c2, .int .i64 (endN b : Int), .bool (marked b)] by
        have k := X7.out
        rw [hx, hdOf_some hx] at k
        exact k)
      have y4 := HX7.out.at 4 _ rfl
      have EHL := Lib.hid hL
      clear hok hx rR rO b7 RW HXX X7 CT hL
      go_wp2
      clear y4
      go_loopw [5, 6, 7] (fun t lk i wr => ∃ k m : Nat, k ≤ n ∧ t = .string (tx h (recs b) k) ∧ lk = .int .i64 m ∧ i = .int .i64 k ∧ Hid (lkL L ((recs b).take k) = m) ∧ Hid (Below w7.heap.size w7 wr)) (fun _ _ i _ => n - (intOf i).toNat)
      case atStart => exact ⟨0, L, Nat.zero_le _, rfl, by rw [EHL.out], rfl, Lib.hid rfl, Lib.hid (Below.refl _ _)⟩
      case round =>
        obtain ⟨k, m, hk, rfl, rfl, rfl, hz, hbw⟩ := hrel
        have Xr := HX7.out.below hbw.out
        by_cases hlt : k < n
        · obtain ⟨r, hrk⟩ : ∃ r, (recs b)[k]? = some r := ⟨_, List.getElem?_eq_getElem (by rw [HNN.out]; exact hlt)⟩
          obtain ⟨o, hok⟩ : ∃ o, (offs b)[k]? = some o := ⟨_, List.getElem?_eq_getElem (by rw [HOL.out, HNN.out]; exact hlt)⟩
          obtain ⟨g, p, rfl, hg, hc⟩ := A1.out.2.resolve_left (by omega)
          obtain ⟨g2, p2, rfl, hg2, hc2⟩ := A2.out.2.resolve_left (by omega)
          have d1 : wr.cell? ⟨g, p + k, none⟩ = some (.string r) := (hbw.out.cell (p := ⟨g, p + k, none⟩) hg).trans (hc k r hrk)
          have d2 : wr.cell? ⟨g2, p2 + k, none⟩ = some (.int .i64 (o : Int)) := (hbw.out.cell (p := ⟨g2, p2 + k, none⟩) hg2).trans (hc2 k (o : Int) (by rw [List.getElem?_map, hok]; rfl))
          have hoff := HOF.out k o hok
          have HNX := Lib.hid (tx_next (h := h) hrk)
          have HLN := Lib.hid (show lkL L ((recs b).take (k + 1)) = lkM (m : Int) r by rw [lkL_next hrk, hz.out])
          have hr60 := recs_small b r (List.mem_of_getElem? hrk)
          have hTl := HTX.out k (by rw [HNN.out]; omega)
          have CF := Lib.hid (fun w => specFrame_any h.v (h.b + (k : Int)) r w (by omega))
          have CM := Lib.hid (fun w => specLinkMore (m : Int) r w (by omega))
          have hF := frT_le h.v (h.b + (k : Int)) r
          obtain ⟨Tk, hTk⟩ : ∃ Tk, tx h (recs b) k = Tk := ⟨_, rfl⟩
          rw [hTk] at hoff hTl HNX ⊢
          obtain ⟨Fr, hFr⟩ : ∃ Fr, frT h.v (h.b + (k : Int)) r = Fr := ⟨_, rfl⟩
          rw [hFr] at CF hF HNX
          have e1 : ((o : Int) == (Tk.size : Int)) = true := by rw [beq_iff_eq]; omega
          have i0 : (0 : Int) ≤ (k : Int) := by omega
          have i1 : (k : Int) < (n : Int) := by omega
          have y5 := Xr.at 5 _ rfl
          have y6 := Xr.at 6 _ rfl
          have HBW := Lib.hid hbw.out
          have HXR := Lib.hid Xr
          have HD1 := Lib.hid d1
          clear hc hc2 hok hz hTk hFr Xr hoff hrk
          go_wp2
          clear y5 y6 d1 d2
          have d1 := Later.cell HD1.out (Nat.lt_of_lt_of_le hg HBW.out.size)
          have y1 := Later.cell (HXR.out.at 1 _ rfl) HXR.out.lt
          have y3 := Later.cell (HXR.out.at 3 _ rfl) HXR.out.lt
          have y5 := Later.cell (HXR.out.at 5 _ rfl) HXR.out.lt
          refine wp_region_later (by kernel_rfl) (by kernel_rfl) ?_
          repeat (first | go_big_quiet_skip | (go_big_quiet_want; go_big_quiet_op; go_big_quiet_on))
          go_big_quiet_want
          go_big_quiet_op
          apply Exists.intro
          refine ⟨fun x => ?_, ?_⟩
          · go_at_call 22
            exact Calls.later (CF.out x.val)
          go_big_quiet_on
          repeat (first | go_big_quiet_skip | (go_big_quiet_want; go_big_quiet_op; go_big_quiet_on))
          refine wpQuiet_nil ?_
          rintro w8 ⟨x2, hx2⟩
          have b8 : Below wr.heap.size wr w8 := hx2 ▸ x2.2
          clear hx2 x2
          clear d1 y1 y3 y5
          have d1 : w8.cell? ⟨g, p + k, none⟩ = some (.string r) := (b8.cell (p := ⟨g, p + k, none⟩) (Nat.lt_of_lt_of_le hg HBW.out.size)).trans HD1.out
          have y5 := (HXR.out.below b8).at 5 _ rfl
          go_wp2_with (fail)
          refine (CM.out _).mono ?_
          rintro e w9 ⟨rfl, b9⟩
          go_wp2
          go_roundw
          case rel => exact ⟨k + 1, _, by omega, by rw [HNX.out], rfl, by go_num, Lib.hid HLN.out, Lib.hid (HBW.out.trans ((b8.trans (b9.mono b8.size)).mono HBW.out.size))⟩
          case measure => simp [intOf]; omega
        · obtain rfl : k = n := by omega
          have et := ET.out
          rw [HNN.out] at et
          have hel := endN_le b
          have HM := Lib.hid (show linkN b = m by have q := hz.out; rw [List.take_of_length_le (by rw [HNN.out]; exact Nat.le_refl _)] at q; rw [HLK.out, q])
          have CL := Lib.hid (fun w => implLinkAfter b w hm)
          have CZ := Lib.hid (fun w => implSize b w hm)
          have CG := Lib.hid (fun w => implGoes b h.b h.l w hm)
          have CG2 := Lib.hid (fun w => implGoes b (h.b + 1) h.l w hm)
          rw [HM.out] at CL
          rw [G1.out] at CG
          rw [G2.out] at CG2
          obtain ⟨Tk, hTk⟩ : ∃ Tk, tx h (recs b) k = Tk := ⟨_, rfl⟩
          rw [hTk] at et ⊢
          obtain ⟨E, hE⟩ : ∃ E, endN b = E := ⟨_, rfl⟩
          rw [hE] at et hel CZ Xr
          obtain ⟨et1, et2⟩ := et
          have e1 : ((E : Int) == (Tk.size : Int)) = true := by rw [beq_iff_eq]; omega
          have e2 : ((b.extract 0 Tk.size).toList == Tk.toList) = true := by rw [← et2, et1]; exact beq_self_eq_true _
          have hts : Tk.size ≤ b.size := by omega
          have HXR := Lib.hid Xr
          have HBW := Lib.hid (B7.out.trans (hbw.out.mono B7.out.size))
          have y7 := Xr.at 7 _ rfl
          have y5 := Xr.at 5 _ rfl
          clear et1 et2 hTk hE Xr hz
          go_wp2_with (fail)
          refine (CL.out _).mono ?_
          rintro e w8 ⟨rfl, b8⟩
          have B8 := Lib.hid (HBW.out.trans (b8.mono HBW.out.size))
          clear y7 y5
          go_wp2_with (fail)
          refine (CZ.out _).mono ?_
          rintro e w9 ⟨rfl, b9⟩
          have B9 := Lib.hid (B8.out.trans (b9.mono B8.out.size))
          have hb89 := chain b8 b9
          have y3 := (HXR.out.below hb89).at 3 _ rfl
          have y4 := (HXR.out.below hb89).at 4 _ rfl
          go_wp2_with (fail)
          clear y3 y4
          refine (CG.out _).mono ?_
          rintro e w10 ⟨rfl, b10⟩
          have B10 := Lib.hid (B9.out.trans (b10.mono B9.out.size))
          have hb90 := chain hb89 b10
          have y3 := (HXR.out.below hb90).at 3 _ rfl
          have y4 := (HXR.out.below hb90).at 4 _ rfl
          go_wp2_with (fail)
          clear y3 y4
          refine (CG2.out _).mono ?_
          rintro e w11 ⟨rfl, b11⟩
          have B11 := Lib.hid (B10.out.trans (b11.mono B10.out.size))
          go_wp2
          go_ret
          exact ⟨rfl, B11.out⟩

end Go.Proofs.Ytbgkdngeingmnaa.sc
