/-
  The walk of laws.FnRows, over any program whose functions on rows answer as the spec's.
-/
import Derived.Test.YtiehfobcbhgfkaaGreatDoorRwT
import Derived.Test.YtiehfobcbhgfkaaGreatDoorRwRS
import Derived.Test.YtiehfobcbhgfkaaGreatDoorAppX
import Derived.Test.YtiehfobcbhgfkaaGreatDoorSlP
import Derived.Test.YtiehfobcbhgfkaaGreatDoorLater
import Derived.Test.YtiehfobcbhgfkaaGreatDoorBig
import Derived.Test.YtiehfobcbhgfkaaGreatDoorDkX
namespace Go.Proofs.YtiehfobcbhgfkaaGreatDoor.row
set_option maxRecDepth 20000
open Go.RowKit
open kit sum num burst hd fr recs sc disk kd nam

set_option maxRecDepth 20000 in
theorem rows_big (a : Option Addr) (len cap : Nat) (w : World) (h1 : 1048576 < len) :
    Calls Tryz.prog 3 #[.slice a len cap] w fun e w' => e = .returned (.bool true) ∧ Below w.heap.size w w' := by
  go_enter Tryz.func3, Tryz.ntmps3
  go_wp2_with fail
  refine (big_yes a len cap w h1).mono ?_
  rintro e w' ⟨rfl, rfl⟩
  go_wp2
  go_ret
  exact ⟨rfl, Below.refl _ _⟩

set_option linter.unusedSimpArgs false in
set_option maxHeartbeats 16000000 in
set_option maxRecDepth 100000 in
theorem rows_small {G : World → Prop} (I : ImplR G) (a : Option Addr) (len cap : Nat) (w : World) (hc : draw.CodeAt w w.heap.size a len) (hg : G w) :
    Calls Tryz.prog 3 #[.slice a len cap] w fun e w' => e = .returned (.bool true) ∧ Below w.heap.size w w' := by
  obtain ⟨i1, gi, gz0, gz1, gz2⟩ := info_parts strs.Tryz.infoStr
  have HC := Lib.hid hc
  have HG0 := Lib.hid hg
  have hlen := hc.1
  clear hc hg
  go_enter Tryz.func3, Tryz.ntmps3
  go_wp2_with (fail)
  refine (big_no a len cap w hlen).mono ?_
  rintro e w' ⟨rfl, rfl⟩
  clear hlen
  go_wp2_with (fail)
  refine (deed.drawRowOf_any a len cap w HC.out).mono ?_
  rintro e w1 ⟨u, d, rfl, od, sm, b1⟩
  have SM := Lib.hid sm
  have OK := Lib.hid (sm.ok (by decide))
  have LROW := Lib.hid (row_few sm)
  have LBAS := Lib.hid (bases_few sm)
  have LLOO := Lib.hid (loose_few sm)
  obtain ⟨aN, aE, aO, aS, cN, cE, cO, cS, rfl⟩ := deed.own_slices od
  have hd1 := Held.new od
  have al := (Below.refl w1.heap.size w1).alloc (Nat.le_refl _) (.cells #[.slice aN d.nodes.length cN, .slice aE d.ents.length cE, .slice aO d.old.length cO, .slice aS d.steps.length cS, .int .i64 d.room, .int .i64 d.next] 28)
  obtain ⟨W, hW⟩ : ∃ W, W = w1.alloc (.cells #[.slice aN d.nodes.length cN, .slice aE d.ents.length cE, .slice aO d.old.length cO, .slice aS d.steps.length cS, .int .i64 d.room, .int .i64 d.next] 28) := ⟨_, rfl⟩
  rw [← hW] at hd1 al
  have HB := Lib.hid (b1.trans (al.mono b1.size))
  have HD := Lib.hid hd1
  have HG := Lib.hid (I.keep _ _ HG0.out HB.out)
  clear od sm b1 hd1 al HG0
  have y0 := HD.out.box.at 0 _ rfl
  have y1 := HD.out.box.at 1 _ rfl
  have y2 := HD.out.box.at 2 _ rfl
  have y3 := HD.out.box.at 3 _ rfl
  have y4 := HD.out.box.at 4 _ rfl
  have y5 := HD.out.box.at 5 _ rfl
  have CR := Lib.hid (I.row _ d W OK.out HD.out.is HG.out)
  go_wp2_with (fail)
  rw [← hW]
  clear hW y0 y1 y2 y3 y4 y5
  refine CR.out.mono ?_
  rintro e w2 ⟨u2, rfl, o2, b2⟩
  have HD := Lib.hid (HD.out.below b2)
  have HG := Lib.hid (I.keep _ _ HG.out b2)
  have HB := Lib.hid (HB.out.trans (b2.mono HB.out.size))
  have ROW := Lib.hid o2
  clear o2 b2 CR
  have y0 := HD.out.box.at 0 _ rfl
  have y1 := HD.out.box.at 1 _ rfl
  have y2 := HD.out.box.at 2 _ rfl
  have y3 := HD.out.box.at 3 _ rfl
  have y4 := HD.out.box.at 4 _ rfl
  have y5 := HD.out.box.at 5 _ rfl
  have CC := Lib.hid (I.chain _ d w2 OK.out HD.out.is HG.out)
  go_wp2_with (fail)
  clear y0 y1 y2 y3 y4 y5
  refine CC.out.mono ?_
  rintro e w3 ⟨u3, rfl, o3, b3⟩
  have HD := Lib.hid (HD.out.below b3)
  have HG := Lib.hid (I.keep _ _ HG.out b3)
  have HB := Lib.hid (HB.out.trans (b3.mono HB.out.size))
  have ROW := Lib.hid (ROW.out.below b3)
  obtain ⟨nC, oC⟩ := o3
  obtain ⟨aC, cC, rfl, hl, _, _⟩ := own_form oC
  rw [List.length_map] at hl
  have hn16 : nC ≤ 16 := by rw [← hl]; exact chain_length d
  have HL := Lib.hid hl
  have CHN := Lib.hid (show OwnI _ w3 (.slice aC nC cC) (chain d) from ⟨nC, oC⟩)
  clear oC hl b3 CC
  go_wp2
  have BC := (Below.refl w3.heap.size w3).drew
  go_region_held3 (fun w' => w'.cell? ⟨w1.heap.size, 0, none⟩ = some (.slice aN d.nodes.length cN) ∧ w'.cell? ⟨w1.heap.size, 1, none⟩ = some (.slice aE d.ents.length cE) ∧ w'.cell? ⟨w1.heap.size, 2, none⟩ = some (.slice aO d.old.length cO) ∧ w'.cell? ⟨w1.heap.size, 3, none⟩ = some (.slice aS d.steps.length cS) ∧ w'.cell? ⟨w1.heap.size, 4, none⟩ = some (.int .i64 d.room) ∧ w'.cell? ⟨w1.heap.size, 5, none⟩ = some (.int .i64 d.next)) (first | exact ⟨HD.out.box.at 0 _ rfl, HD.out.box.at 1 _ rfl, HD.out.box.at 2 _ rfl, HD.out.box.at 3 _ rfl, HD.out.box.at 4 _ rfl, HD.out.box.at 5 _ rfl⟩ | exact ⟨(HD.out.below BC).box.at 0 _ rfl, (HD.out.below BC).box.at 1 _ rfl, (HD.out.below BC).box.at 2 _ rfl, (HD.out.below BC).box.at 3 _ rfl, (HD.out.below BC).box.at 4 _ rfl, (HD.out.below BC).box.at 5 _ rfl⟩) (first | (go_at_call 17; refine (sRowOf _ d _ OK.out (HD.out.below BC).is).mono ?_; rintro e wa ⟨ua, rfl, oa, hb⟩; have PX := (ROW.out.below BC).below hb; have PY := oa; have PN := LROW.out; have BC := BC.trans (hb.mono BC.size)) | (go_at_call 16; refine (sameSS _ PN PX PY).mono ?_; rintro e wb ⟨rfl, hb⟩; have BC := BC.trans (hb.mono BC.size)) | (go_at_call 19; refine (sChain _ d _ OK.out (HD.out.below BC).is).mono ?_; rintro e wc ⟨uc, rfl, oc, hb⟩; have QX := (CHN.out.below BC).below hb; have QY := oc; have QN := chain_few d; have BC := BC.trans (hb.mono BC.size)) | (go_at_call 18; refine (sameII _ QN QX QY).mono ?_; rintro e wd ⟨rfl, hb⟩; have BC := BC.trans (hb.mono BC.size)) | (go_at_call 20; refine (I.bases _ d _ OK.out (HD.out.below BC).is (I.keep _ _ HG.out BC)).mono ?_; rintro e we ⟨ue, rfl, oe, hb⟩; have QX := oe; have QN := LBAS.out; have BC := BC.trans (hb.mono BC.size)) | (go_at_call 21; refine (sBasesOn _ d _ OK.out (HD.out.below BC).is).mono ?_; rintro e wf ⟨uf, rfl, of, hb⟩; have QX := QX.below hb; have QY := of; have BC := BC.trans (hb.mono BC.size)) | (go_at_call 22; refine (I.loose _ d _ OK.out (HD.out.below BC).is (I.keep _ _ HG.out BC)).mono ?_; rintro e wg ⟨ug, rfl, og, hb⟩; have PX := og; have PN := LLOO.out; have BC := BC.trans (hb.mono BC.size)) | (go_at_call 23; refine (sLooseNames _ d _ OK.out (HD.out.below BC).is).mono ?_; rintro e wh ⟨uh, rfl, oh, hb⟩; have PX := PX.below hb; have PY := oh; have BC := BC.trans (hb.mono BC.size)))
  all_goals
    have HD := Lib.hid (HD.out.below BC)
    have HG := Lib.hid (I.keep _ _ HG.out BC)
    have HB := Lib.hid (HB.out.trans (BC.mono HB.out.size))
    have ROW := Lib.hid (ROW.out.below BC)
    have CHN := Lib.hid (CHN.out.below BC)
    clear BC
    go_wp2
    go_loopw [6, 7] (fun al i wr => ∃ k : Nat, k ≤ nC ∧ i = .int .i64 (k : Int) ∧ Hid (wr.ownsRow wb.heap.size 9 1 al (flat d ((chain d).take k)).length ((flat d ((chain d).take k)).map Value.string)) ∧ Hid (Below wb.heap.size wb wr)) (fun _ i _ => nC - (intOf i).toNat)
    case atStart => exact ⟨0, Nat.zero_le _, rfl, Lib.hid (World.ownsRow_made (base := wb.heap.size) (e := 9) (size := 1) wb #[] 0 (Nat.le_refl _) (by decide) rfl), Lib.hid ((Below.refl _ _).alloc (Nat.le_refl _) _)⟩
    case round =>
      obtain ⟨k, hk, rfl, OO, BB⟩ := hrel
      obtain ⟨aA, cA, rfl, _, _, _⟩ := own_form OO.out
      have hpn := flat_few SM.out k
      by_cases hlt : k < nC
      · obtain ⟨x, hxk⟩ : ∃ x, (chain d)[k]? = some x := ⟨_, List.getElem?_eq_getElem (by rw [HL.out]; exact hlt)⟩
        obtain ⟨hx1, hx2⟩ := chain_at hxk
        have HT := Lib.hid (flat_next (d := d) hxk)
        have hsz := Lib.hid (fun r (hr : r ∈ flat d ((chain d).take k)) => show r.size ≤ 1048576 from (by
          obtain ⟨c, _, hc⟩ := List.mem_flatMap.1 hr
          have := recs_small _ r hc
          omega))
        have hTl := tAt_le OK.out.2 x
        have hrl := recs_few OK.out.2 x
        obtain ⟨T, hTT⟩ : ∃ T, tAt d x = T := ⟨_, rfl⟩
        have CT := Lib.hid (fun v (w : World) (h : IsDisk w v d) (g : G w) => I.text v d x w (chain_in OK.out.2 x (List.mem_of_getElem? hxk)).1 (chain_in OK.out.2 x (List.mem_of_getElem? hxk)).2 OK.out h g)
        rw [hTT] at CT HT hTl hx2 hrl
        obtain ⟨ps, hps⟩ : ∃ ps, flat d ((chain d).take k) = ps := ⟨_, rfl⟩
        rw [hps] at HT hpn OO hx1 hx2 hsz ⊢
        obtain ⟨q, hq⟩ : ∃ q, ps.length = q := ⟨_, rfl⟩
        have HQ := Lib.hid hq
        rw [hq] at hpn OO hx1 ⊢
        subst hx1
        have HD2 := Lib.hid (HD.out.below BB.out)
        have HG2 := Lib.hid (I.keep _ _ HG.out BB.out)
        obtain ⟨nC', oC'⟩ := CHN.out.below BB.out
        have hC' : nC' = nC := by have := oC'.1; rw [List.length_map, HL.out] at this; omega
        subst hC'
        obtain ⟨g, p, hg0, hg, hc⟩ := (ints.At.of_own oC').2.resolve_left (by omega)
        subst hg0
        have c1 := hc k _ hxk
        have LC := Later.cell c1 hg
        have i0 : (0 : Int) ≤ (k : Int) := by omega
        have i1' : (k : Int) < (nC' : Int) := by omega
        have hq1 : (q : Int) ≤ 1048576 := by omega
        have hne : ((q : Int) != (q : Int)) = false := by simp
        have HXK := Lib.hid hxk
        have HX2 := Lib.hid hx2
        have HTL := Lib.hid hTl
        have HRL := Lib.hid hrl
        have lt := HD2.out.box.1
        have L0 := Later.cell (HD2.out.box.at 0 _ rfl) lt
        have L1 := Later.cell (HD2.out.box.at 1 _ rfl) lt
        have L2 := Later.cell (HD2.out.box.at 2 _ rfl) lt
        have L3 := Later.cell (HD2.out.box.at 3 _ rfl) lt
        have L4 := Later.cell (HD2.out.box.at 4 _ rfl) lt
        have L5 := Later.cell (HD2.out.box.at 5 _ rfl) lt
        have CL := Lib.hid (fun x : Later wr => CT.out _ x.val (HD2.out.below x.2).is (I.keep _ _ HG2.out x.2))
        have C0 := Lib.hid c1
        have HGB := Lib.hid hg
        clear hc hxk hx2 hTT hps hq hTl hrl oC' lt CT c1 hg
        go_wp2
        refine wp_region_later (by kernel_rfl) (by kernel_rfl) ?_
        repeat (first | go_big_quiet_skip | (go_big_quiet_want; go_big_quiet_op; first | go_big_quiet_on | (apply Exists.intro; refine ⟨fun x => ?_, ?_⟩; (go_at_call 24; exact Calls.later (CL.out x)); go_big_quiet_on)))
        refine wpQuiet_nil ?_
        rintro w4 ⟨x4, hx4⟩
        have b4 : Below wr.heap.size wr w4 := hx4 ▸ x4.2
        clear hx4 x4 L0 L1 L2 L3 L4 L5 LC CL
        have C1 := (b4.cell (p := ⟨g, p + k, none⟩) HGB.out).trans C0.out
        have O4 := Lib.hid (own_below OO.out b4)
        have B4 := Lib.hid (BB.out.trans (b4.mono BB.out.size))
        have CLK := Lib.hid (hd.specLinkOf aA cA q ps w4 (by omega) hsz.out (strs.At.of_own O4.out))
        have CGO := Lib.hid (fun w => specGoes T (q : Int) ((lkL 0 ps : Nat) : Int) w HTL.out)
        rw [HX2.out] at CGO
        have CRE := Lib.hid (fun w => specRecords T w HTL.out)
        obtain ⟨rs, hrs⟩ : ∃ rs, sc.recs T = rs := ⟨_, rfl⟩
        rw [hrs] at CRE HT HRL
        obtain ⟨lk, hlk⟩ : ∃ lk, lkL 0 ps = lk := ⟨_, rfl⟩
        rw [hlk] at CLK CGO
        have HRS := Lib.hid hrs
        clear hrs hlk HXK HX2 OO b4
        go_wp2_with (fail)
        refine CLK.out.mono ?_
        rintro e w5 ⟨rfl, b5⟩
        have O5 := Lib.hid (own_below O4.out b5)
        have B5 := Lib.hid (B4.out.trans (b5.mono B4.out.size))
        clear b5 O4 B4 CLK C1
        go_wp2_with (fail)
        refine (CGO.out _).mono ?_
        rintro e w6 ⟨rfl, b6⟩
        have O6 := Lib.hid (own_below O5.out b6)
        have B6 := Lib.hid (B5.out.trans (b6.mono B5.out.size))
        clear b6 O5 B5 CGO
        go_wp2_with (fail)
        refine (CRE.out _).mono ?_
        rintro e w7 ⟨⟨v7, rfl, o7⟩, b7⟩
        have O7 := Lib.hid (own_below O6.out b7)
        have B7 := Lib.hid (B6.out.trans (b7.mono B6.out.size))
        obtain ⟨aR, cR, rfl, _, _, _⟩ := own_form o7
        have AR := Lib.hid (at_cells (strs.At.of_own o7))
        have bo : wb.heap.size ≤ w7.heap.size := B7.out.size
        have bn : q + rs.length ≤ maxLen := by have := HRL.out; unfold maxLen; omega
        have bm : (q + rs.length) * 16 ≤ 140737488355328 := by have := HRL.out; omega
        clear o7 b7 O6 B6 CRE
        go_wp2_with (at_builtin; refine list_copy (by rfl) (.tmp 76) (.tmp 78) 26 (by rfl) wb.heap.size 9 i1 (.string { data := #[] }) 1 16 Tryz.underlying26 gi gz0 gz1 gz2 (by rfl) (by decide) _ q (ps.map Value.string) O7.out bo aR rs.length cR (rs.map Value.string) AR.out (oneS rs) bn bm (by rfl) (by rfl) ?_; intro v8 w8 o8 g8)
        go_roundw
        case rel =>
          refine ⟨k + 1, by omega, by go_num, Lib.hid ?_, Lib.hid ?_⟩
          · rw [HT.out, List.length_append, HQ.out, List.map_append]
            exact o8
          · exact B7.out.grown g8 B7.out.size (fun k hk => (disk.own_block_ge O7.out k hk).1)
        case measure => simp [intOf]; omega
      · obtain rfl : k = nC := by omega
        have HF : Hid (flat d ((chain d).take k) = rowOf d) := Lib.hid (by rw [← HL.out, List.take_length]; rfl)
        rw [HF.out] at OO hpn ⊢
        clear HF
        obtain ⟨qn, hqn⟩ : ∃ qn, (rowOf d).length = qn := ⟨_, rfl⟩
        rw [hqn] at OO hpn ⊢
        have HQN := Lib.hid hqn
        have HD2 := Lib.hid (HD.out.below BB.out)
        have HG2 := Lib.hid (I.keep _ _ HG.out BB.out)
        have ROW2 := Lib.hid (ROW.out.below BB.out)
        have HB2 := Lib.hid (HB.out.trans (BB.out.mono HB.out.size))
        have CN := Lib.hid (fun w => specDiskNew 500 w)
        rw [show (if (500 : Int) < 0 then (0 : Int) else 500) = 500 from rfl] at CN
        clear HD HG ROW HB BB CHN hqn
        go_wp2_with (fail)
        refine (CN.out _).mono ?_
        rintro e w4 ⟨rfl, b4⟩
        have O4 := Lib.hid (own_below OO.out b4)
        have HD4 := Lib.hid (HD2.out.below b4)
        have HG4 := Lib.hid (I.keep _ _ HG2.out b4)
        have ROW4 := Lib.hid (ROW2.out.below b4)
        have HB4 := Lib.hid (HB2.out.trans (b4.mono HB2.out.size))
        clear b4 OO HD2 HG2 ROW2 HB2 CN
        obtain ⟨dm, hdm⟩ : ∃ dm, dm = dMid := ⟨_, rfl⟩
        have SMM := Lib.hid (show deed.Sm 400 dm from (by have h := deed.sm_create (s := name0) sm_500 (by omega); rw [create_500] at h; rw [hdm]; exact h))
        have CCR : Hid (Calls Tryz.prog 28 #[.agg #[.slice none 0 0, .slice none 0 0, .slice none 0 0, .slice none 0 0, .int .i64 500, .int .i64 1], .string { data := #[115, 48, 48, 48, 48, 48, 48, 48, 48, 46, 115, 101, 103] }] w4 (deed.DeedR (dm, 0) w4)) := Lib.hid (by
          have h := deed.specCreate (.agg #[.slice none 0 0, .slice none 0 0, .slice none 0 0, .slice none 0 0, .int .i64 500, .int .i64 1]) d500 name0 w4 (sm_500.ok (by decide)) (by decide) (deed.own_newD 0 w4 500).is
          rw [create_500] at h
          rw [hdm]
          exact h)
        have HDM := Lib.hid hdm
        clear hdm
        go_wp2_with (fail)
        refine CCR.out.mono ?_
        rintro e w5 ⟨u5, rfl, o5, b5⟩
        obtain ⟨aN5, aE5, aO5, aS5, cN5, cE5, cO5, cS5, rfl⟩ := deed.own_slices o5
        have hd5 := Held.new o5
        have sx5 := sc.Box.new w5 #[.slice aN5 dm.nodes.length cN5, .slice aE5 dm.ents.length cE5, .slice aO5 dm.old.length cO5, .slice aS5 dm.steps.length cS5, .int .i64 dm.room, .int .i64 dm.next] 28
        have al := (Below.refl w5.heap.size w5).alloc (Nat.le_refl _) (.cells #[.slice aN5 dm.nodes.length cN5, .slice aE5 dm.ents.length cE5, .slice aO5 dm.old.length cO5, .slice aS5 dm.steps.length cS5, .int .i64 dm.room, .int .i64 dm.next] 28)
        obtain ⟨W5, hW5⟩ : ∃ W5, W5 = w5.alloc (.cells #[.slice aN5 dm.nodes.length cN5, .slice aE5 dm.ents.length cE5, .slice aO5 dm.old.length cO5, .slice aS5 dm.steps.length cS5, .int .i64 dm.room, .int .i64 dm.next] 28) := ⟨_, rfl⟩
        rw [← hW5] at hd5 al sx5
        have O5 := Lib.hid (own_below O4.out b5)
        have HD5 := Lib.hid (HD4.out.below b5)
        have HG5 := Lib.hid (I.keep _ _ HG4.out b5)
        have ROW5 := Lib.hid (ROW4.out.below b5)
        have HB5 := Lib.hid (HB4.out.trans (b5.mono HB4.out.size))
        have HX5 := Lib.hid hd5
        have SX5 := Lib.hid sx5
        have AL5 := Lib.hid al
        have HW5 := Lib.hid hW5
        have hlt5 : w5.heap.size < W5.heap.size := sx5.lt
        clear b5 al hd5 sx5 hW5 o5 O4 HD4 HG4 ROW4 HB4 CCR
        go_upto_region 17 with fail
        rw [← HW5.out]
        clear HW5
        have bd := (Below.refl W5.heap.size W5).drew
        have bv := bd.alloc (Nat.le_refl _) (.cells #[.string (ByteArray.mk #[97])] 9)
        have BV := Lib.hid bv
        have A1 := Lib.hid (show strs.At (W5.drew.alloc (.cells #[.string (ByteArray.mk #[97])] 9)) (some ⟨W5.heap.size, 0, none⟩) 1 oneR from at_of_cells1 W5.drew (ByteArray.mk #[97]) 9)
        obtain ⟨T1, hT1⟩ : ∃ T1, sl.slT ⟨1, 1, 0, 0⟩ oneR = T1 := ⟨_, rfl⟩
        have CSL := Lib.hid (fun V (h : strs.At V (some ⟨W5.heap.size, 0, none⟩) 1 oneR) => sl.specSeal 1 1 0 0 (some ⟨W5.heap.size, 0, none⟩) 1 1 oneR V (by omega) h)
        rw [hT1] at CSL
        obtain ⟨dx, hdx⟩ : ∃ dx, dx = dOne := ⟨_, rfl⟩
        have SMX := Lib.hid (show deed.Sm 800 dx from hdx ▸ sm_one)
        have CAP := Lib.hid (fun V (h : Held V w5.heap.size (.slice aN5 dm.nodes.length cN5) (.slice aE5 dm.ents.length cE5) (.slice aO5 dm.old.length cO5) (.slice aS5 dm.steps.length cS5) dm) => (show Calls Tryz.prog 30 #[.agg #[.slice aN5 dm.nodes.length cN5, .slice aE5 dm.ents.length cE5, .slice aO5 dm.old.length cO5, .slice aS5 dm.steps.length cS5, .int .i64 dm.room, .int .i64 dm.next], .string { data := #[115, 48, 48, 48, 48, 48, 48, 48, 48, 46, 115, 101, 103] }, .string T1] V (deed.DeedR (dx, 0) V) from (by
          have hk := deed.specAppend _ dm name0 T1 V (SMM.out.ok (by decide)) (by have := one_le; unfold oneT oneH at this; rw [hT1] at this; omega) h.is
          have e : deed.appendFile dm name0 T1 = (dx, 0) := by rw [HDM.out, ← hT1, hdx]; exact one_app
          rw [e] at hk
          exact hk)))
        have HDX := Lib.hid hdx
        have e0 := (HX5.out.below bd).box.at 0 _ rfl
        have e1 := (HX5.out.below bd).box.at 1 _ rfl
        have e2 := (HX5.out.below bd).box.at 2 _ rfl
        have e3 := (HX5.out.below bd).box.at 3 _ rfl
        have e4 := (HX5.out.below bd).box.at 4 _ rfl
        have e5 := (HX5.out.below bd).box.at 5 _ rfl
        have BW := Lib.hid (show Below W5.heap.size W5 (W5.alloc (.cells #[.string (ByteArray.mk #[97])] 9)).drew from bv)
        have s0 := (HX5.out.below BW.out).box.at 0 _ rfl
        have s1 := (HX5.out.below BW.out).box.at 1 _ rfl
        have s2 := (HX5.out.below BW.out).box.at 2 _ rfl
        have s3 := (HX5.out.below BW.out).box.at 3 _ rfl
        have s4 := (HX5.out.below BW.out).box.at 4 _ rfl
        have s5 := (HX5.out.below BW.out).box.at 5 _ rfl
        clear hT1 hdx bd bv
        go_region_law (first | (go_simp; go_at_call 31; refine (CSL.out _ A1.out).mono ?_; rintro e w6 ⟨rfl, b6⟩; have b6 := BV.out.trans (b6.mono BV.out.size); have v0 := (HX5.out.below b6).box.at 0 _ rfl; have v1 := (HX5.out.below b6).box.at 1 _ rfl; have v2 := (HX5.out.below b6).box.at 2 _ rfl; have v3 := (HX5.out.below b6).box.at 3 _ rfl; have v4 := (HX5.out.below b6).box.at 4 _ rfl; have v5 := (HX5.out.below b6).box.at 5 _ rfl; have B6 := Lib.hid b6; clear b6) | (go_simp; go_at_call 30; refine (CAP.out _ (HX5.out.below B6.out)).mono ?_; rintro e w7 ⟨u7, rfl, o7, b7⟩; obtain ⟨aN7, aE7, aO7, aS7, cN7, cE7, cO7, cS7, rfl⟩ := deed.own_slices o7; have X7 := (SX5.out.below B6.out).below b7; have p0 := X7.at 0 _ rfl; have p1 := X7.at 1 _ rfl; have p2 := X7.at 2 _ rfl; have p3 := X7.at 3 _ rfl; have p4 := X7.at 4 _ rfl; have p5 := X7.at 5 _ rfl; have r0 := X7.2 0; have r1 := X7.2 1; have r2 := X7.2 2; have r3 := X7.2 3; have r4 := X7.2 4; have r5 := X7.2 5; have B7 := Lib.hid ((AL5.out.trans (B6.out.mono AL5.out.size)).trans (b7.mono (Nat.le_trans AL5.out.size B6.out.size))); have O7 := Lib.hid o7; have H7 := Lib.hid ((HX5.out.below B6.out).below b7); have hlt6 := Nat.lt_of_lt_of_le hlt5 B6.out.size; clear X7 o7 b7))
        all_goals
          obtain ⟨W8, hW8⟩ : ∃ W8, W8 = ((((((w7.setCell ⟨w5.heap.size, 0, none⟩ (.slice aN7 dx.nodes.length cN7)).setCell ⟨w5.heap.size, 1, none⟩ (.slice aE7 dx.ents.length cE7)).setCell ⟨w5.heap.size, 2, none⟩ (.slice aO7 dx.old.length cO7)).setCell ⟨w5.heap.size, 3, none⟩ (.slice aS7 dx.steps.length cS7)).setCell ⟨w5.heap.size, 4, none⟩ (.int .i64 dx.room)).setCell ⟨w5.heap.size, 5, none⟩ (.int .i64 dx.next)) := ⟨_, rfl⟩
          have b8 : Below w5.heap.size w5 W8 := by rw [hW8]; exact deed.below_six _ _ _ _ _ _ B7.out (Nat.le_refl _)
          have hx8 : Held W8 w5.heap.size (.slice aN7 dx.nodes.length cN7) (.slice aE7 dx.ents.length cE7) (.slice aO7 dx.old.length cO7) (.slice aS7 dx.steps.length cS7) dx := by
            rw [hW8]
            exact ⟨deed.box_six _ _ _ _ _ _ H7.out.box, (deed.disk_six _ _ _ _ _ _ O7.out hlt6).is⟩
          have O8 := Lib.hid (own_below O5.out b8)
          have HD8 := Lib.hid (HD5.out.below b8)
          have HG8 := Lib.hid (I.keep _ _ HG5.out b8)
          have ROW8 := Lib.hid (ROW5.out.below b8)
          have HB8 := Lib.hid (HB5.out.trans (b8.mono HB5.out.size))
          have HX8 := Lib.hid hx8
          have HW8 := Lib.hid hW8
          clear b8 hx8 hW8 O5 HD5 HG5 ROW5 HB5 HX5 SX5 AL5 B6 B7 O7 H7 A1 BV BW CSL CAP
          try clear e0 e1 e2 e3 e4 e5
          try clear s0 s1 s2 s3 s4 s5
          try clear v0 v1 v2 v3 v4 v5
          go_wp2_with (fail)
          rw [← HW8.out]
          clear HW8 p0 p1 p2 p3 p4 p5 r0 r1 r2 r3 r4 r5
          refine (sameSS W8 LROW.out ROW8.out (show OwnSS _ W8 (.slice aA qn cA) (rowOf d) from ⟨qn, O8.out⟩)).mono ?_
          rintro e w9 ⟨rfl, b9⟩
          have O9 := Lib.hid (own_below O8.out b9)
          have HD9 := Lib.hid (HD8.out.below b9)
          have HG9 := Lib.hid (I.keep _ _ HG8.out b9)
          have HB9 := Lib.hid (HB8.out.trans (b9.mono HB8.out.size))
          have HX9 := Lib.hid (HX8.out.below b9)
          obtain ⟨lk, hlk⟩ : ∃ lk, rowLink d = lk := ⟨_, rfl⟩
          have CLN := Lib.hid (I.link _ d w9 OK.out HD9.out.is HG9.out)
          rw [hlk] at CLN
          have CLO := Lib.hid (fun V (h : V.ownsRow wb.heap.size 9 1 (.slice aA qn cA) qn ((rowOf d).map Value.string)) => hd.specLinkOf aA cA qn (rowOf d) V (by have := LROW.out; have := HQN.out; omega) (fun x hx => by have := rowOf_small d x hx; omega) (strs.At.of_own h))
          rw [show lkL 0 (rowOf d) = lk from hlk] at CLO
          have hle : ((lk : Int) == (lk : Int)) = true := by simp
          clear b9 O8 HD8 HG8 HB8 HX8 ROW8 hlk
          have y0 := HD9.out.box.at 0 _ rfl
          have y1 := HD9.out.box.at 1 _ rfl
          have y2 := HD9.out.box.at 2 _ rfl
          have y3 := HD9.out.box.at 3 _ rfl
          have y4 := HD9.out.box.at 4 _ rfl
          have y5 := HD9.out.box.at 5 _ rfl
          go_wp2_with (fail)
          refine CLN.out.mono ?_
          rintro e w10 ⟨rfl, b10⟩
          have O10 := Lib.hid (own_below O9.out b10)
          have HG10 := Lib.hid (I.keep _ _ HG9.out b10)
          have HB10 := Lib.hid (HB9.out.trans (b10.mono HB9.out.size))
          have HX10 := Lib.hid (HX9.out.below b10)
          clear b10 O9 HD9 HG9 HB9 HX9 CLN y0 y1 y2 y3 y4 y5
          go_wp2_with (fail)
          refine (CLO.out _ O10.out).mono ?_
          rintro e w11 ⟨rfl, b11⟩
          have HG11 := Lib.hid (I.keep _ _ HG10.out b11)
          have HB11 := Lib.hid (HB10.out.trans (b11.mono HB10.out.size))
          have HX11 := Lib.hid (HX10.out.below b11)
          have CCX := Lib.hid (I.chain _ dx w11 (SMX.out.ok (by decide)) HX11.out.is HG11.out)
          rw [show chain dx = [0] by rw [HDX.out]; exact chain_one] at CCX
          clear b11 O10 HG10 HB10 HX10 CLO
          have y0 := HX11.out.box.at 0 _ rfl
          have y1 := HX11.out.box.at 1 _ rfl
          have y2 := HX11.out.box.at 2 _ rfl
          have y3 := HX11.out.box.at 3 _ rfl
          have y4 := HX11.out.box.at 4 _ rfl
          have y5 := HX11.out.box.at 5 _ rfl
          go_wp2_with (fail)
          refine CCX.out.mono ?_
          rintro e w12 ⟨u12, rfl, ⟨n12, o12⟩, b12⟩
          obtain ⟨a12, c12, rfl, hl12, _, _⟩ := own_form o12
          obtain rfl : n12 = 1 := hl12.symm
          have HB12 := Lib.hid (HB11.out.trans (b12.mono HB11.out.size))
          clear o12 b12 hl12 HX11 HB11 CCX y0 y1 y2 y3 y4 y5
          go_wp2
          go_ret
          exact ⟨rfl, HB12.out⟩

end Go.Proofs.YtiehfobcbhgfkaaGreatDoor.row
