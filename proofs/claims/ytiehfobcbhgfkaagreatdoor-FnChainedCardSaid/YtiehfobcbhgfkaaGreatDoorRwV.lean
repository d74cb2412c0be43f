/-
  The walk of laws.FnChained, over any program whose functions on rows answer as the spec's.
-/
import Derived.Test.YtiehfobcbhgfkaaGreatDoorRwT
import Derived.Test.YtiehfobcbhgfkaaGreatDoorRwRS
import Derived.Test.YtiehfobcbhgfkaaGreatDoorAppX
import Derived.Test.YtiehfobcbhgfkaaGreatDoorSlP
import Derived.Test.YtiehfobcbhgfkaaGreatDoorLater
import Derived.Test.YtiehfobcbhgfkaaGreatDoorBig
import Derived.Test.YtiehfobcbhgfkaaGreatDoorDkX
namespace Go.Proofs.YtiehfobcbhgfkaaGreatDoor.row
set_option maxRecDepth 20000
open Go.RowKit
open kit sum num burst hd fr recs sc disk kd nam

set_option maxRecDepth 20000 in
theorem chained_big (a : Option Addr) (len cap : Nat) (w : World) (h1 : 1048576 < len) :
    Calls Tryz.prog 4 #[.slice a len cap] w fun e w' => e = .returned (.bool true) ∧ Below w.heap.size w w' := by
  go_enter Tryz.func4, Tryz.ntmps4
  go_wp2_with fail
  refine (big_yes a len cap w h1).mono ?_
  rintro e w' ⟨rfl, rfl⟩
  go_wp2
  go_ret
  exact ⟨rfl, Below.refl _ _⟩
theorem texts_len (d : D) : (texts d).length = (chain d).length := by unfold texts; rw [List.length_map]
theorem texts_few (d : D) : (texts d).length ≤ 1048576 := by rw [texts_len]; have := chain_length d; omega
theorem behind_few (d : D) (base : Int) : (behind d base).length ≤ maxLen := by
  have h1 := chain_length d
  have h2 := List.length_filter_le (fun b => decide (base < b)) (chain d)
  unfold behind maxLen
  omega
theorem texts_at {d : D} {k : Nat} {x : Int} (h : (chain d)[k]? = some x) : (texts d)[k]? = some (tAt d x) := by unfold texts; rw [List.getElem?_map, h]; rfl

set_option linter.unusedSimpArgs false in
set_option maxHeartbeats 16000000 in
set_option maxRecDepth 100000 in
theorem chained_small {G : World → Prop} (I : ImplC G) (a : Option Addr) (len cap : Nat) (w : World) (hc : draw.CodeAt w w.heap.size a len) (hg : G w) :
    Calls Tryz.prog 4 #[.slice a len cap] w fun e w' => e = .returned (.bool true) ∧ Below w.heap.size w w' := by
  obtain ⟨i1, gi, gz0, gz1, gz2⟩ := info_parts strs.Tryz.infoStr
  have HC := Lib.hid hc
  have HG_0 := Lib.hid (hg)
  have hlen := hc.1
  clear hc hg
  go_enter Tryz.func4, Tryz.ntmps4
  go_wp2_with (fail)
  refine (big_no a len cap w hlen).mono ?_
  rintro e w' ⟨rfl, rfl⟩
  clear hlen
  go_wp2_with (fail)
  refine (deed.drawChainTexts_any a len cap w HC.out).mono ?_
  rintro e w1 ⟨u, d, rfl, od, sm, b1⟩
  have SM := Lib.hid sm
  have OK := Lib.hid (sm.ok (by decide))
  have LROW := Lib.hid (row_few sm)
  have LTX := Lib.hid (texts_few d)
  obtain ⟨aN, aE, aO, aS, cN, cE, cO, cS, rfl⟩ := deed.own_slices od
  have hd1 := Held.new od
  have al := (Below.refl w1.heap.size w1).alloc (Nat.le_refl _) (.cells #[.slice aN d.nodes.length cN, .slice aE d.ents.length cE, .slice aO d.old.length cO, .slice aS d.steps.length cS, .int .i64 d.room, .int .i64 d.next] 28)
  obtain ⟨W, hW⟩ : ∃ W, W = w1.alloc (.cells #[.slice aN d.nodes.length cN, .slice aE d.ents.length cE, .slice aO d.old.length cO, .slice aS d.steps.length cS, .int .i64 d.room, .int .i64 d.next] 28) := ⟨_, rfl⟩
  rw [← hW] at hd1 al
  have b1 := b1.trans (al.mono b1.size)
  have HG_1 := Lib.hid (I.keep _ _ HG_0.out b1)
  clear HG_0
  have HB_1 := Lib.hid (b1)
  have HD_1 := Lib.hid (hd1)
  clear od sm b1 hd1 al
  have y0 := HD_1.out.box.at 0 _ rfl
  have y1 := HD_1.out.box.at 1 _ rfl
  have y2 := HD_1.out.box.at 2 _ rfl
  have y3 := HD_1.out.box.at 3 _ rfl
  have y4 := HD_1.out.box.at 4 _ rfl
  have y5 := HD_1.out.box.at 5 _ rfl
  have CR := Lib.hid (I.texts _ d W OK.out HD_1.out.is HG_1.out)
  go_wp2_with (fail)
  rw [← hW]
  clear hW y0 y1 y2 y3 y4 y5
  refine CR.out.mono ?_
  rintro e w2 ⟨u2, rfl, o2, b2⟩
  have HG_2 := Lib.hid (I.keep _ _ HG_1.out b2)
  have HB_2 := Lib.hid (HB_1.out.trans (b2.mono HB_1.out.size))
  have HD_2 := Lib.hid (HD_1.out.below b2)
  clear HG_1 HB_1 HD_1
  obtain ⟨nL, oL⟩ := o2
  obtain ⟨aL, cL, rfl, hl, _, _⟩ := own_form oL
  rw [List.length_map, texts_len] at hl
  have hn16 : nL ≤ 16 := by rw [← hl]; exact chain_length d
  have HL := Lib.hid hl
  have LST_2 := Lib.hid (show OwnSS _ w2 (.slice aL nL cL) (texts d) from ⟨nL, oL⟩)
  clear oL hl b2 CR
  go_wp2_with (fail)
  refine (deed.drawBasesBehind_any a len cap w2 ⟨HC.out.1, (HC.out.below HB_2.out).2.imp id fun ⟨g, o, h1, h2, h3⟩ => ⟨g, o, h1, Nat.lt_of_lt_of_le h2 HB_2.out.size, h3⟩⟩).mono ?_
  rintro e w3 ⟨u3, dE, bs, rfl, hbs, oE, smE, b3⟩
  have OKE := Lib.hid (smE.ok (by decide))
  have LBH := Lib.hid (behind_few dE bs)
  obtain ⟨aNe, aEe, aOe, aSe, cNe, cEe, cOe, cSe, rfl⟩ := deed.own_slices oE
  have he1 := Held.new oE
  have al := (Below.refl w3.heap.size w3).alloc (Nat.le_refl _) (.cells #[.slice aNe dE.nodes.length cNe, .slice aEe dE.ents.length cEe, .slice aOe dE.old.length cOe, .slice aSe dE.steps.length cSe, .int .i64 dE.room, .int .i64 dE.next] 28)
  obtain ⟨W3, hW⟩ : ∃ W, W = w3.alloc (.cells #[.slice aNe dE.nodes.length cNe, .slice aEe dE.ents.length cEe, .slice aOe dE.old.length cOe, .slice aSe dE.steps.length cSe, .int .i64 dE.room, .int .i64 dE.next] 28) := ⟨_, rfl⟩
  rw [← hW] at he1 al
  have b3 := b3.trans (al.mono b3.size)
  have HG_3 := Lib.hid (I.keep _ _ HG_2.out b3)
  have HB_3 := Lib.hid (HB_2.out.trans (b3.mono HB_2.out.size))
  have HD_3 := Lib.hid (HD_2.out.below b3)
  have LST_3 := Lib.hid (LST_2.out.below b3)
  clear HG_2 HB_2 HD_2 LST_2
  have HE_3 := Lib.hid (he1)
  clear oE smE b3 he1 al hbs
  have y0 := HE_3.out.box.at 0 _ rfl
  have y1 := HE_3.out.box.at 1 _ rfl
  have y2 := HE_3.out.box.at 2 _ rfl
  have y3 := HE_3.out.box.at 3 _ rfl
  have y4 := HE_3.out.box.at 4 _ rfl
  have y5 := HE_3.out.box.at 5 _ rfl
  have CB := Lib.hid (I.behind _ dE bs W3 OKE.out HE_3.out.is HG_3.out)
  go_wp2_with (fail)
  rw [← hW]
  clear hW y0 y1 y2 y3 y4 y5
  refine CB.out.mono ?_
  rintro e w4 ⟨u4, rfl, o4, b4⟩
  have HG_4 := Lib.hid (I.keep _ _ HG_3.out b4)
  have HB_4 := Lib.hid (HB_3.out.trans (b4.mono HB_3.out.size))
  have HD_4 := Lib.hid (HD_3.out.below b4)
  have LST_4 := Lib.hid (LST_3.out.below b4)
  have HE_4 := Lib.hid (HE_3.out.below b4)
  clear HG_3 HB_3 HD_3 LST_3 HE_3
  have MOR_4 := Lib.hid (o4)
  clear o4 b4 CB
  have y0 := HD_4.out.box.at 0 _ rfl
  have y1 := HD_4.out.box.at 1 _ rfl
  have y2 := HD_4.out.box.at 2 _ rfl
  have y3 := HD_4.out.box.at 3 _ rfl
  have y4 := HD_4.out.box.at 4 _ rfl
  have y5 := HD_4.out.box.at 5 _ rfl
  have CC := Lib.hid (sChain _ d w4 OK.out HD_4.out.is)
  go_wp2_with (fail)
  clear y0 y1 y2 y3 y4 y5
  refine CC.out.mono ?_
  rintro e w5 ⟨u5, rfl, ⟨n5, o5⟩, b5⟩
  obtain ⟨aC, cC, rfl, hl5, _, _⟩ := own_form o5
  rw [List.length_map, HL.out] at hl5
  subst hl5
  have HG_5 := Lib.hid (I.keep _ _ HG_4.out b5)
  have HB_5 := Lib.hid (HB_4.out.trans (b5.mono HB_4.out.size))
  have HD_5 := Lib.hid (HD_4.out.below b5)
  have LST_5 := Lib.hid (LST_4.out.below b5)
  have HE_5 := Lib.hid (HE_4.out.below b5)
  have MOR_5 := Lib.hid (MOR_4.out.below b5)
  clear HG_4 HB_4 HD_4 LST_4 HE_4 MOR_4
  clear o5 b5 CC
  go_wp2
  go_loopw [9, 10] (fun al i wr => ∃ k : Nat, k ≤ nL ∧ i = .int .i64 (k : Int) ∧ Hid (wr.ownsRow w5.heap.size 9 1 al (flat d ((chain d).take k)).length ((flat d ((chain d).take k)).map Value.string)) ∧ Hid (Below w5.heap.size w5 wr)) (fun _ i _ => nL - (intOf i).toNat)
  case atStart => exact ⟨0, Nat.zero_le _, rfl, Lib.hid (World.ownsRow_made (base := w5.heap.size) (e := 9) (size := 1) w5 #[] 0 (Nat.le_refl _) (by decide) rfl), Lib.hid ((Below.refl _ _).alloc (Nat.le_refl _) _)⟩
  case round =>
    obtain ⟨k, hk, rfl, OO, BB⟩ := hrel
    obtain ⟨aA, cA, rfl, _, _, _⟩ := own_form OO.out
    have hpn := flat_few SM.out k
    by_cases hlt : k < nL
    · obtain ⟨x, hxk⟩ : ∃ x, (chain d)[k]? = some x := ⟨_, List.getElem?_eq_getElem (by rw [HL.out]; exact hlt)⟩
      have HT := Lib.hid (flat_next (d := d) hxk)
      have hTl := tAt_le OK.out.2 x
      have hrl := recs_few OK.out.2 x
      have htx := texts_at hxk
      obtain ⟨T, hTT⟩ : ∃ T, tAt d x = T := ⟨_, rfl⟩
      rw [hTT] at HT hTl hrl htx
      obtain ⟨ps, hps⟩ : ∃ ps, flat d ((chain d).take k) = ps := ⟨_, rfl⟩
      rw [hps] at HT hpn OO ⊢
      obtain ⟨q, hq⟩ : ∃ q, ps.length = q := ⟨_, rfl⟩
      have HQ := Lib.hid hq
      rw [hq] at hpn OO ⊢
      obtain ⟨nL', oL'⟩ := LST_5.out.below BB.out
      have hL' : nL' = nL := by have := oL'.1; rw [List.length_map, texts_len, HL.out] at this; omega
      subst hL'
      obtain ⟨g, p, hg0, hg, hcl⟩ := (strs.At.of_own oL').2.resolve_left (by omega)
      subst hg0
      have c1 := hcl k _ htx
      have i0 : (0 : Int) ≤ (k : Int) := by omega
      have i1' : (k : Int) < (nL' : Int) := by omega
      have HRL := Lib.hid hrl
      have CRE := Lib.hid (fun w => specRecords T w hTl)
      obtain ⟨rs, hrs⟩ : ∃ rs, sc.recs T = rs := ⟨_, rfl⟩
      rw [hrs] at CRE HT HRL
      clear hcl hxk htx hTT hps hq hTl hrl oL' hrs hg
      go_wp2_with (fail)
      refine (CRE.out _).mono ?_
      rintro e w7 ⟨⟨v7, rfl, o7⟩, b7⟩
      have O7 := Lib.hid (own_below OO.out b7)
      have B7 := Lib.hid (BB.out.trans (b7.mono BB.out.size))
      obtain ⟨aR, cR, rfl, _, _, _⟩ := own_form o7
      have AR := Lib.hid (at_cells (strs.At.of_own o7))
      have bo : w5.heap.size ≤ w7.heap.size := B7.out.size
      have bn : q + rs.length ≤ maxLen := by have := HRL.out; unfold maxLen; omega
      have bm : (q + rs.length) * 16 ≤ 140737488355328 := by have := HRL.out; omega
      clear o7 b7 OO BB CRE
      go_wp2_with (at_builtin; refine list_copy (by rfl) (.tmp 36) (.tmp 41) 26 (by rfl) w5.heap.size 9 i1 (.string { data := #[] }) 1 16 Tryz.underlying26 gi gz0 gz1 gz2 (by rfl) (by decide) _ q (ps.map Value.string) O7.out bo aR rs.length cR (rs.map Value.string) AR.out (oneS rs) bn bm (by rfl) (by rfl) ?_; intro v8 w8 o8 g8)
      go_roundw
      case rel =>
        refine ⟨k + 1, by omega, by go_num, Lib.hid ?_, Lib.hid ?_⟩
        · rw [HT.out, List.length_append, HQ.out, List.map_append]
          exact o8
        · exact B7.out.grown g8 B7.out.size (fun k hk => (disk.own_block_ge O7.out k hk).1)
      case measure => simp [intOf]; omega
    · obtain rfl : k = nL := by omega
      have HF : Hid (flat d ((chain d).take k) = rowOf d) := Lib.hid (by rw [← HL.out, List.take_length]; rfl)
      rw [HF.out] at OO hpn ⊢
      clear HF
      obtain ⟨qn, hqn⟩ : ∃ qn, (rowOf d).length = qn := ⟨_, rfl⟩
      rw [hqn] at OO hpn ⊢
      have HQN := Lib.hid hqn
      have bb := BB.out
      have HG_6 := Lib.hid (I.keep _ _ HG_5.out bb)
      have HB_6 := Lib.hid (HB_5.out.trans (bb.mono HB_5.out.size))
      have HD_6 := Lib.hid (HD_5.out.below bb)
      have LST_6 := Lib.hid (LST_5.out.below bb)
      have HE_6 := Lib.hid (HE_5.out.below bb)
      have MOR_6 := Lib.hid (MOR_5.out.below bb)
      clear HG_5 HB_5 HD_5 LST_5 HE_5 MOR_5
      have OA_6 := Lib.hid (OO.out)
      have CN := Lib.hid (fun w => specDiskNew 500 w)
      rw [show (if (500 : Int) < 0 then (0 : Int) else 500) = 500 from rfl] at CN
      clear bb BB OO hqn
      go_wp2_with (fail)
      refine (CN.out _).mono ?_
      rintro e x4 ⟨rfl, b4⟩
      have HG_7 := Lib.hid (I.keep _ _ HG_6.out b4)
      have HB_7 := Lib.hid (HB_6.out.trans (b4.mono HB_6.out.size))
      have HD_7 := Lib.hid (HD_6.out.below b4)
      have LST_7 := Lib.hid (LST_6.out.below b4)
      have HE_7 := Lib.hid (HE_6.out.below b4)
      have MOR_7 := Lib.hid (MOR_6.out.below b4)
      have OA_7 := Lib.hid (own_below OA_6.out b4)
      clear HG_6 HB_6 HD_6 LST_6 HE_6 MOR_6 OA_6
      clear b4 CN
      obtain ⟨dm, hdm⟩ : ∃ dm, dm = dMid := ⟨_, rfl⟩
      have SMM := Lib.hid (show deed.Sm 400 dm from (by have h := deed.sm_create (s := name0) sm_500 (by omega); rw [create_500] at h; rw [hdm]; exact h))
      have CCR : Hid (Calls Tryz.prog 28 #[.agg #[.slice none 0 0, .slice none 0 0, .slice none 0 0, .slice none 0 0, .int .i64 500, .int .i64 1], .string { data := #[115, 48, 48, 48, 48, 48, 48, 48, 48, 46, 115, 101, 103] }] x4 (deed.DeedR (dm, 0) x4)) := Lib.hid (by
        have h := deed.specCreate (.agg #[.slice none 0 0, .slice none 0 0, .slice none 0 0, .slice none 0 0, .int .i64 500, .int .i64 1]) d500 name0 x4 (sm_500.ok (by decide)) (by decide) (deed.own_newD 0 x4 500).is
        rw [create_500] at h
        rw [hdm]
        exact h)
      have HDM := Lib.hid hdm
      clear hdm
      go_wp2_with (fail)
      refine CCR.out.mono ?_
      rintro e x5 ⟨u5, rfl, o5, b5⟩
      have HG_8 := Lib.hid (I.keep _ _ HG_7.out b5)
      have HB_8 := Lib.hid (HB_7.out.trans (b5.mono HB_7.out.size))
      have HD_8 := Lib.hid (HD_7.out.below b5)
      have LST_8 := Lib.hid (LST_7.out.below b5)
      have HE_8 := Lib.hid (HE_7.out.below b5)
      have MOR_8 := Lib.hid (MOR_7.out.below b5)
      have OA_8 := Lib.hid (own_below OA_7.out b5)
      clear HG_7 HB_7 HD_7 LST_7 HE_7 MOR_7 OA_7
      obtain ⟨aN5, aE5, aO5, aS5, cN5, cE5, cO5, cS5, rfl⟩ := deed.own_slices o5
      have hd5 := Held.new o5
      have sx5 := sc.Box.new x5 #[.slice aN5 dm.nodes.length cN5, .slice aE5 dm.ents.length cE5, .slice aO5 dm.old.length cO5, .slice aS5 dm.steps.length cS5, .int .i64 dm.room, .int .i64 dm.next] 28
      have al := (Below.refl x5.heap.size x5).alloc (Nat.le_refl _) (.cells #[.slice aN5 dm.nodes.length cN5, .slice aE5 dm.ents.length cE5, .slice aO5 dm.old.length cO5, .slice aS5 dm.steps.length cS5, .int .i64 dm.room, .int .i64 dm.next] 28)
      obtain ⟨W5, hW5⟩ : ∃ W5, W5 = x5.alloc (.cells #[.slice aN5 dm.nodes.length cN5, .slice aE5 dm.ents.length cE5, .slice aO5 dm.old.length cO5, .slice aS5 dm.steps.length cS5, .int .i64 dm.room, .int .i64 dm.next] 28) := ⟨_, rfl⟩
      rw [← hW5] at hd5 al sx5
      have HX5 := Lib.hid hd5
      have SX5 := Lib.hid sx5
      have AL5 := Lib.hid al
      have HW5 := Lib.hid hW5
      have hlt5 : x5.heap.size < W5.heap.size := sx5.lt
      clear b5 al hd5 sx5 hW5 o5 CCR
      go_upto_region 14 with fail
      rw [← HW5.out]
      clear HW5
      have bd := (Below.refl W5.heap.size W5).drew
      have bv := bd.alloc (Nat.le_refl _) (.cells #[.string (ByteArray.mk #[97])] 9)
      have BV := Lib.hid bv
      have A1 := Lib.hid (show strs.At (W5.drew.alloc (.cells #[.string (ByteArray.mk #[97])] 9)) (some ⟨W5.heap.size, 0, none⟩) 1 oneR from at_of_cells1 W5.drew (ByteArray.mk #[97]) 9)
      obtain ⟨T1, hT1⟩ : ∃ T1, sl.slT ⟨1, 1, 0, 0⟩ oneR = T1 := ⟨_, rfl⟩
      have CSL := Lib.hid (fun V (h : strs.At V (some ⟨W5.heap.size, 0, none⟩) 1 oneR) => sl.specSeal 1 1 0 0 (some ⟨W5.heap.size, 0, none⟩) 1 1 oneR V (by omega) h)
      rw [hT1] at CSL
      obtain ⟨dx, hdx⟩ : ∃ dx, dx = dOne := ⟨_, rfl⟩
      have SMX := Lib.hid (show deed.Sm 800 dx from hdx ▸ sm_one)
      have CAP := Lib.hid (fun V (h : Held V x5.heap.size (.slice aN5 dm.nodes.length cN5) (.slice aE5 dm.ents.length cE5) (.slice aO5 dm.old.length cO5) (.slice aS5 dm.steps.length cS5) dm) => (show Calls Tryz.prog 30 #[.agg #[.slice aN5 dm.nodes.length cN5, .slice aE5 dm.ents.length cE5, .slice aO5 dm.old.length cO5, .slice aS5 dm.steps.length cS5, .int .i64 dm.room, .int .i64 dm.next], .string { data := #[115, 48, 48, 48, 48, 48, 48, 48, 48, 46, 115, 101, 103] }, .string T1] V (deed.DeedR (dx, 0) V) from (by
        have hk := deed.specAppend _ dm name0 T1 V (SMM.out.ok (by decide)) (by have := one_le; unfold oneT oneH at this; rw [hT1] at this; omega) h.is
        have e : deed.appendFile dm name0 T1 = (dx, 0) := by rw [HDM.out, ← hT1, hdx]; exact one_app
        rw [e] at hk
        exact hk)))
      have HDX := Lib.hid hdx
      have e0 := (HX5.out.below bd).box.at 0 _ rfl
      have e1 := (HX5.out.below bd).box.at 1 _ rfl
      have e2 := (HX5.out.below bd).box.at 2 _ rfl
      have e3 := (HX5.out.below bd).box.at 3 _ rfl
      have e4 := (HX5.out.below bd).box.at 4 _ rfl
      have e5 := (HX5.out.below bd).box.at 5 _ rfl
      have BW := Lib.hid (show Below W5.heap.size W5 (W5.alloc (.cells #[.string (ByteArray.mk #[97])] 9)).drew from bv)
      have s0 := (HX5.out.below BW.out).box.at 0 _ rfl
      have s1 := (HX5.out.below BW.out).box.at 1 _ rfl
      have s2 := (HX5.out.below BW.out).box.at 2 _ rfl
      have s3 := (HX5.out.below BW.out).box.at 3 _ rfl
      have s4 := (HX5.out.below BW.out).box.at 4 _ rfl
      have s5 := (HX5.out.below BW.out).box.at 5 _ rfl
      clear hT1 hdx bd bv
      go_region_law (first | (go_simp; go_at_call 31; refine (CSL.out _ A1.out).mono ?_; rintro e w6 ⟨rfl, b6⟩; have b6 := BV.out.trans (b6.mono BV.out.size); have v0 := (HX5.out.below b6).box.at 0 _ rfl; have v1 := (HX5.out.below b6).box.at 1 _ rfl; have v2 := (HX5.out.below b6).box.at 2 _ rfl; have v3 := (HX5.out.below b6).box.at 3 _ rfl; have v4 := (HX5.out.below b6).box.at 4 _ rfl; have v5 := (HX5.out.below b6).box.at 5 _ rfl; have B6 := Lib.hid b6; clear b6) | (go_simp; go_at_call 30; refine (CAP.out _ (HX5.out.below B6.out)).mono ?_; rintro e w7 ⟨u7, rfl, o7, b7⟩; obtain ⟨aN7, aE7, aO7, aS7, cN7, cE7, cO7, cS7, rfl⟩ := deed.own_slices o7; have X7 := (SX5.out.below B6.out).below b7; have p0 := X7.at 0 _ rfl; have p1 := X7.at 1 _ rfl; have p2 := X7.at 2 _ rfl; have p3 := X7.at 3 _ rfl; have p4 := X7.at 4 _ rfl; have p5 := X7.at 5 _ rfl; have r0 := X7.2 0; have r1 := X7.2 1; have r2 := X7.2 2; have r3 := X7.2 3; have r4 := X7.2 4; have r5 := X7.2 5; have B7 := Lib.hid ((AL5.out.trans (B6.out.mono AL5.out.size)).trans (b7.mono (Nat.le_trans AL5.out.size B6.out.size))); have O7 := Lib.hid o7; have H7 := Lib.hid ((HX5.out.below B6.out).below b7); have hlt6 := Nat.lt_of_lt_of_le hlt5 B6.out.size; clear X7 o7 b7))
      all_goals
        obtain ⟨W8, hW8⟩ : ∃ W8, W8 = ((((((w7.setCell ⟨x5.heap.size, 0, none⟩ (.slice aN7 dx.nodes.length cN7)).setCell ⟨x5.heap.size, 1, none⟩ (.slice aE7 dx.ents.length cE7)).setCell ⟨x5.heap.size, 2, none⟩ (.slice aO7 dx.old.length cO7)).setCell ⟨x5.heap.size, 3, none⟩ (.slice aS7 dx.steps.length cS7)).setCell ⟨x5.heap.size, 4, none⟩ (.int .i64 dx.room)).setCell ⟨x5.heap.size, 5, none⟩ (.int .i64 dx.next)) := ⟨_, rfl⟩
        have b8 : Below x5.heap.size x5 W8 := by rw [hW8]; exact deed.below_six _ _ _ _ _ _ B7.out (Nat.le_refl _)
        have hx8 : Held W8 x5.heap.size (.slice aN7 dx.nodes.length cN7) (.slice aE7 dx.ents.length cE7) (.slice aO7 dx.old.length cO7) (.slice aS7 dx.steps.length cS7) dx := by
          rw [hW8]
          exact ⟨deed.box_six _ _ _ _ _ _ H7.out.box, (deed.disk_six _ _ _ _ _ _ O7.out hlt6).is⟩
        have HG_9 := Lib.hid (I.keep _ _ HG_8.out b8)
        have HB_9 := Lib.hid (HB_8.out.trans (b8.mono HB_8.out.size))
        have HD_9 := Lib.hid (HD_8.out.below b8)
        have LST_9 := Lib.hid (LST_8.out.below b8)
        have HE_9 := Lib.hid (HE_8.out.below b8)
        have MOR_9 := Lib.hid (MOR_8.out.below b8)
        have OA_9 := Lib.hid (own_below OA_8.out b8)
        clear HG_8 HB_8 HD_8 LST_8 HE_8 MOR_8 OA_8
        have HX_9 := Lib.hid (hx8)
        have HW8 := Lib.hid hW8
        clear b8 hx8 hW8 HX5 SX5 AL5 B6 B7 O7 H7 A1 BV BW CSL CAP
        try clear e0 e1 e2 e3 e4 e5
        try clear s0 s1 s2 s3 s4 s5
        try clear v0 v1 v2 v3 v4 v5
        clear p0 p1 p2 p3 p4 p5 r0 r1 r2 r3 r4 r5
        go_upto_region 15 with fail
        rw [← HW8.out]
        clear HW8
        have y0 := HD_9.out.box.at 0 _ rfl
        have y1 := HD_9.out.box.at 1 _ rfl
        have y2 := HD_9.out.box.at 2 _ rfl
        have y3 := HD_9.out.box.at 3 _ rfl
        have y4 := HD_9.out.box.at 4 _ rfl
        have y5 := HD_9.out.box.at 5 _ rfl
        go_wp2_with (fail)
        clear y0 y1 y2 y3 y4 y5
        refine (sChainTexts _ d W8 OK.out HD_9.out.is).mono ?_
        rintro e z1 ⟨t1, rfl, ot1, bz⟩
        have HG_10 := Lib.hid (I.keep _ _ HG_9.out bz)
        have HB_10 := Lib.hid (HB_9.out.trans (bz.mono HB_9.out.size))
        have HD_10 := Lib.hid (HD_9.out.below bz)
        have LST_10 := Lib.hid (LST_9.out.below bz)
        have HE_10 := Lib.hid (HE_9.out.below bz)
        have MOR_10 := Lib.hid (MOR_9.out.below bz)
        have OA_10 := Lib.hid (own_below OA_9.out bz)
        have HX_10 := Lib.hid (HX_9.out.below bz)
        clear HG_9 HB_9 HD_9 LST_9 HE_9 MOR_9 OA_9 HX_9
        have TX_10 := Lib.hid (ot1)
        clear bz ot1
        go_wp2_with (fail)
        refine (sameSS z1 LTX.out LST_10.out TX_10.out).mono ?_
        rintro e z2 ⟨rfl, bz⟩
        have HG_11 := Lib.hid (I.keep _ _ HG_10.out bz)
        have HB_11 := Lib.hid (HB_10.out.trans (bz.mono HB_10.out.size))
        have HD_11 := Lib.hid (HD_10.out.below bz)
        have HE_11 := Lib.hid (HE_10.out.below bz)
        have MOR_11 := Lib.hid (MOR_10.out.below bz)
        have OA_11 := Lib.hid (own_below OA_10.out bz)
        have HX_11 := Lib.hid (HX_10.out.below bz)
        clear TX_10 LST_10 HG_10 HB_10 HD_10 HE_10 MOR_10 OA_10 HX_10
        clear bz
        have hle : ((k : Int) == (k : Int)) = true := by simp
        have y0 := HD_11.out.box.at 0 _ rfl
        have y1 := HD_11.out.box.at 1 _ rfl
        have y2 := HD_11.out.box.at 2 _ rfl
        have y3 := HD_11.out.box.at 3 _ rfl
        have y4 := HD_11.out.box.at 4 _ rfl
        have y5 := HD_11.out.box.at 5 _ rfl
        go_wp2_with (fail)
        clear y0 y1 y2 y3 y4 y5
        refine (sRowOf _ d z2 OK.out HD_11.out.is).mono ?_
        rintro e z3 ⟨t3, rfl, ot3, bz⟩
        have HG_12 := Lib.hid (I.keep _ _ HG_11.out bz)
        have HB_12 := Lib.hid (HB_11.out.trans (bz.mono HB_11.out.size))
        have HE_12 := Lib.hid (HE_11.out.below bz)
        have MOR_12 := Lib.hid (MOR_11.out.below bz)
        have OA_12 := Lib.hid (own_below OA_11.out bz)
        have HX_12 := Lib.hid (HX_11.out.below bz)
        clear HD_11 HG_11 HB_11 HE_11 MOR_11 OA_11 HX_11
        have RW_12 := Lib.hid (ot3)
        clear bz ot3
        go_wp2_with (fail)
        refine (sameSS z3 LROW.out (show OwnSS _ z3 (.slice aA qn cA) (rowOf d) from ⟨qn, OA_12.out⟩) RW_12.out).mono ?_
        rintro e z4 ⟨rfl, bz⟩
        have HG_13 := Lib.hid (I.keep _ _ HG_12.out bz)
        have HB_13 := Lib.hid (HB_12.out.trans (bz.mono HB_12.out.size))
        have HE_13 := Lib.hid (HE_12.out.below bz)
        have MOR_13 := Lib.hid (MOR_12.out.below bz)
        have HX_13 := Lib.hid (HX_12.out.below bz)
        clear OA_12 RW_12 HG_12 HB_12 HE_12 MOR_12 HX_12
        clear bz
        have y0 := HE_13.out.box.at 0 _ rfl
        have y1 := HE_13.out.box.at 1 _ rfl
        have y2 := HE_13.out.box.at 2 _ rfl
        have y3 := HE_13.out.box.at 3 _ rfl
        have y4 := HE_13.out.box.at 4 _ rfl
        have y5 := HE_13.out.box.at 5 _ rfl
        go_wp2_with (fail)
        clear y0 y1 y2 y3 y4 y5
        refine (sBasesBehind _ dE bs z4 OKE.out HE_13.out.is).mono ?_
        rintro e z5 ⟨t5, rfl, ot5, bz⟩
        have HG_14 := Lib.hid (I.keep _ _ HG_13.out bz)
        have HB_14 := Lib.hid (HB_13.out.trans (bz.mono HB_13.out.size))
        have MOR_14 := Lib.hid (MOR_13.out.below bz)
        have HX_14 := Lib.hid (HX_13.out.below bz)
        clear HE_13 HG_13 HB_13 MOR_13 HX_13
        have BH_14 := Lib.hid (ot5)
        clear bz ot5
        go_wp2_with (fail)
        refine (sameII z5 LBH.out MOR_14.out BH_14.out).mono ?_
        rintro e z6 ⟨rfl, bz⟩
        have HG_15 := Lib.hid (I.keep _ _ HG_14.out bz)
        have HB_15 := Lib.hid (HB_14.out.trans (bz.mono HB_14.out.size))
        have HX_15 := Lib.hid (HX_14.out.below bz)
        clear MOR_14 BH_14 HG_14 HB_14 HX_14
        clear bz
        have y0 := HX_15.out.box.at 0 _ rfl
        have y1 := HX_15.out.box.at 1 _ rfl
        have y2 := HX_15.out.box.at 2 _ rfl
        have y3 := HX_15.out.box.at 3 _ rfl
        have y4 := HX_15.out.box.at 4 _ rfl
        have y5 := HX_15.out.box.at 5 _ rfl
        have CTX := Lib.hid (I.texts _ dx z6 (SMX.out.ok (by decide)) HX_15.out.is HG_15.out)
        rw [show texts dx = [oneT] by rw [HDX.out]; exact texts_one] at CTX
        go_wp2_with (fail)
        clear y0 y1 y2 y3 y4 y5
        refine (CTX.out).mono ?_
        rintro e z7 ⟨t7, rfl, ⟨n7, o7⟩, bz⟩
        have HG_16 := Lib.hid (I.keep _ _ HG_15.out bz)
        have HB_16 := Lib.hid (HB_15.out.trans (bz.mono HB_15.out.size))
        have HX_16 := Lib.hid (HX_15.out.below bz)
        clear HG_15 HB_15 HX_15
        obtain ⟨a7, c7, rfl, hl7, _, _⟩ := own_form o7
        obtain rfl : n7 = 1 := hl7.symm
        clear bz o7 hl7 CTX
        have y0 := HX_16.out.box.at 0 _ rfl
        have y1 := HX_16.out.box.at 1 _ rfl
        have y2 := HX_16.out.box.at 2 _ rfl
        have y3 := HX_16.out.box.at 3 _ rfl
        have y4 := HX_16.out.box.at 4 _ rfl
        have y5 := HX_16.out.box.at 5 _ rfl
        have CBX := Lib.hid (I.behind _ dx (-1) z7 (SMX.out.ok (by decide)) HX_16.out.is HG_16.out)
        rw [show behind dx (-1) = [0] by rw [HDX.out]; exact behind_one] at CBX
        go_wp2_with (fail)
        clear y0 y1 y2 y3 y4 y5
        refine (CBX.out).mono ?_
        rintro e z8 ⟨t8, rfl, ⟨n8, o8⟩, bz⟩
        have HG_17 := Lib.hid (I.keep _ _ HG_16.out bz)
        have HB_17 := Lib.hid (HB_16.out.trans (bz.mono HB_16.out.size))
        have HX_17 := Lib.hid (HX_16.out.below bz)
        clear HG_16 HB_16 HX_16
        obtain ⟨a8, c8, rfl, hl8, _, _⟩ := own_form o8
        obtain rfl : n8 = 1 := hl8.symm
        clear bz o8 hl8 CBX
        go_wp2
        go_ret
        exact ⟨rfl, HB_17.out⟩

end Go.Proofs.YtiehfobcbhgfkaaGreatDoor.row
