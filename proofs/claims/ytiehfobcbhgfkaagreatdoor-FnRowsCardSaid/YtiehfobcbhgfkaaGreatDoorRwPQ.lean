/-
  Draw of spec.l14Put: a disk with a file of some bytes, sure or not.
-/
import Derived.Test.YtiehfobcbhgfkaaGreatDoorDqL
import Derived.Test.YtiehfobcbhgfkaaGreatDoorScDF
import Derived.Test.YtiehfobcbhgfkaaGreatDoorHdL
import Derived.Test.YtiehfobcbhgfkaaGreatDoorAppX
import Derived.Test.YtiehfobcbhgfkaaGreatDoorNameX
import Derived.Deep.CutRange
namespace Go.Proofs.YtiehfobcbhgfkaaGreatDoor.deed
set_option maxRecDepth 20000
open Go.RowKit
open kit strs recs disk kd draw

theorem sm_setN {K t : Nat} {d : D} {k : Nat} {n m : Nod} (h : Sm K d) (hK : K ≤ 200000) (hx : d.nodes[k]? = some n) (hm : wfI m.1 ∧ wfI m.2.2) (hz : m.2.1.size ≤ n.2.1.size + t) (ht : t ≤ 1000) : Sm (K + 1000) { d with nodes := d.nodes.set k m } := by
  obtain ⟨wN, wE, wO, wS, wR, wX, m1, m2, m3, m4⟩ := h.wf
  have hb := bulkN_set (m := m) hx
  have hn := h.n
  have hs : n.2.1.size ≤ K := by
    have h1 := tot_each (d.nodes.map (·.2.1)) n.2.1 (List.mem_map.2 ⟨n, List.mem_of_getElem? hx, rfl⟩)
    unfold bulkN at hn
    omega
  refine ⟨⟨?_, wE, wO, wS, wR, wX, by simpa using m1, m2, m3, m4⟩, by omega, Nat.le_trans h.e (by omega), Nat.le_trans h.o (by omega), Nat.le_trans h.s (by omega)⟩
  intro z hz2
  rcases List.mem_or_eq_of_mem_set hz2 with hz2 | rfl
  · exact wN z hz2
  · exact ⟨hm.1, by unfold maxLen; omega, hm.2⟩
theorem sm_appendN {K : Nat} {d : D} {s t : ByteArray} (h : Sm K d) (hK : K ≤ 200000) (ht : t.size ≤ 1000) : Sm (K + 1000) (appendFile d s t).1 := by
  unfold appendFile
  split
  · exact h.mono (by omega)
  · rename_i hn
    have h1 : diskOk d = true := by cases e : diskOk d with | true => rfl | false => exact absurd (.inl e) hn
    have h2 : hasE d.ents s = true := by cases e : hasE d.ents s with | true => rfl | false => exact absurd (.inr e) hn
    have hx := node_of h1 h2
    have w := h.wf.1 _ (List.mem_of_getElem? hx)
    split
    · refine sm_setN (t := 1000) h hK hx ⟨w.1, w.2.2⟩ ?_ (Nat.le_refl _)
      show ((nodeN d s).2.1 ++ t.extract 0 _).size ≤ _
      rw [ByteArray.size_append, ByteArray.size_extract]
      omega
    · refine sm_setN (t := 1000) h hK hx ⟨w.1, w.2.2⟩ ?_ (Nat.le_refl _)
      show ((nodeN d s).2.1 ++ t).size ≤ _
      rw [ByteArray.size_append]
      omega

set_option maxHeartbeats 8000000 in
set_option maxRecDepth 100000 in
theorem put_any (K B0 c : Nat) (a : Option Addr) (len cap : Nat) (v : Value) (d : D) (s t : ByteArray) (w : World) (hK : K ≤ 100000) (hBc : B0 ≤ c) (hcw : c < w.heap.size) (hc : CodeAt w B0 a len) (hu : Cur w c a len cap) (sm : Sm K d) (hv : IsDisk w v d) (hs : s.size ≤ 100) (ht : t.size ≤ 1000) :
    Calls Tryz.prog 146 #[.pointer (some ⟨c, 0, none⟩), v, .string s, .string t] w (PostD (K + 2600) c a len cap w) := by
  have HU0 := Lib.hid hu
  have HC0 := Lib.hid hc
  have SM := Lib.hid sm
  have OK := Lib.hid (sm.ok (by omega))
  obtain ⟨aN, aE, aO, aS, nN, cN, nE, cE, nO, cO, nS, cS, rfl, h1, h2, h3, h4⟩ := hv
  obtain ⟨W, hW⟩ : ∃ W, W = (w.alloc (.cells #[.slice aN nN cN, .slice aE nE cE, .slice aO nO cO, .slice aS nS cS, .int .i64 d.room, .int .i64 d.next] 28)).alloc (.cells #[.slice none 0 0, .slice none 0 0, .slice none 0 0, .slice none 0 0, .int .i64 0, .int .i64 0] 28) := ⟨_, rfl⟩
  have hWB : Below w.heap.size w W := by rw [hW]; exact ((Below.refl _ _).alloc (Nat.le_refl _) _).alloc (by simp) _
  have hsz : W.heap.size = w.heap.size + 2 := by rw [hW]; simp
  have bx : disk.Box W w.heap.size [.slice aN nN cN, .slice aE nE cE, .slice aO nO cO, .slice aS nS cS, .int .i64 d.room, .int .i64 d.next] := by
    rw [hW]
    exact (disk.Box.new w #[.slice aN nN cN, .slice aE nE cE, .slice aO nO cO, .slice aS nS cS, .int .i64 d.room, .int .i64 d.next] _).below ((Below.refl _ _).alloc (Nat.le_refl _) _)
  have br : disk.Box W (w.heap.size + 1) [.slice none 0 0, .slice none 0 0, .slice none 0 0, .slice none 0 0, .int .i64 0, .int .i64 0] := by
    rw [hW]
    have h := disk.Box.new (w.alloc (.cells #[.slice aN nN cN, .slice aE nE cE, .slice aO nO cO, .slice aS nS cS, .int .i64 d.room, .int .i64 d.next] 28)) #[.slice none 0 0, .slice none 0 0, .slice none 0 0, .slice none 0 0, .int .i64 0, .int .i64 0] 28
    rw [World.size_alloc] at h
    exact h
  have fx : ∀ j, W.frozen? ⟨w.heap.size, j, none⟩ = false := fun j => by rw [hW]; simp
  have fr : ∀ j, W.frozen? ⟨w.heap.size + 1, j, none⟩ = false := fun j => by rw [hW]; simp
  have cW := hc.below (hWB.mono (by omega))
  have uW := hu.below (hWB.mono (by omega))
  have HV : Hid (IsDisk W (.agg #[.slice aN nN cN, .slice aE nE cE, .slice aO nO cO, .slice aS nS cS, .int .i64 d.room, .int .i64 d.next]) d) := Lib.hid ⟨aN, aE, aO, aS, nN, cN, nE, cE, nO, cO, nS, cS, rfl, h1.below hWB, h2.below hWB, h3.below hWB, h4.below hWB⟩
  have BX := Lib.hid bx
  have BR := Lib.hid br
  have FX := Lib.hid fx
  have FR := Lib.hid fr
  have HW := Lib.hid hWB
  have HSZ := Lib.hid hsz
  have CW := Lib.hid cW
  have UW := Lib.hid uW
  clear h1 h2 h3 h4 bx br fx fr hWB hsz cW uW hc hu sm
  go_enter Tryz.func146, Tryz.ntmps146
  go_wp2_with (fail)
  rw [← hW]
  clear hW
  refine (specRemove _ d s W OK.out HV.out).mono ?_
  rintro e wz ⟨u, rfl, hd, hb⟩
  obtain ⟨tN, tE, tO, tS, dN, dE, dO, dS, rfl⟩ := own_slices hd
  have SM1 := Lib.hid (sm_remove (s := s) SM.out (by omega))
  have b6 := BX.out.below hb
  have f6 := frozen_below FX.out BX.out.1 hb
  have y0 := b6.at 0 _ rfl
  have y1 := b6.at 1 _ rfl
  have y2 := b6.at 2 _ rfl
  have y3 := b6.at 3 _ rfl
  have y4 := b6.at 4 _ rfl
  have y5 := b6.at 5 _ rfl
  obtain ⟨X, HX1, DK, BL⟩ := desk_open (b := w.heap.size) (r := w.heap.size + 1) b6 f6 (BR.out.below hb) (frozen_below FR.out BR.out.1 hb) hd (by rw [HSZ.out]; omega) (by rw [HSZ.out]; omega) (by omega) hb.size w.heap.size w (HW.out.trans (hb.mono HW.out.size)) (Nat.le_refl _)
  have H1 := Lib.hid (show Drw W.heap.size B0 c a len cap w X w.heap.size (w.heap.size + 1) _ _ _ _ (removeFile d s).1 from ⟨DK, HU0.out.below (BL.mono (by omega)), HC0.out.below (BL.mono (by omega)), grown_below (grown_refl w (some c)) BL, hBc, hcw, Nat.le_refl _, by omega⟩)
  have HX1 := Lib.hid HX1
  have OK1 := Lib.hid (SM1.out.ok (by omega))
  have HB0 := Lib.hid hBc
  clear hd hb b6 DK BL HV BX BR FX FR HW CW UW OK HU0 HC0 SM
  obtain ⟨d1, hd1⟩ : ∃ d1, (removeFile d s).1 = d1 := ⟨_, rfl⟩
  rw [hd1] at SM1 H1 OK1 HX1 ⊢
  clear hd1
  go_wp2_with (fail)
  rw [HX1.out]
  clear HX1 y0 y1 y2 y3 y4 y5
  refine (specCreate _ d1 s _ OK1.out (by omega) H1.out.desk.own.is).mono ?_
  rintro e wz ⟨u, rfl, hd, hb⟩
  obtain ⟨tN, tE, tO, tS, dN, dE, dO, dS, rfl⟩ := own_slices hd
  have SM2 := Lib.hid (sm_create (s := s) SM1.out (by omega))
  have b6 := H1.out.desk.below hb
  have y0 := b6.box.at 0 _ rfl
  have y1 := b6.box.at 1 _ rfl
  have y2 := b6.box.at 2 _ rfl
  have y3 := b6.box.at 3 _ rfl
  have y4 := b6.box.at 4 _ rfl
  have y5 := b6.box.at 5 _ rfl
  have yf := b6.fz
  obtain ⟨X2, hxx, hh⟩ := H1.out.deed hb hd
  have HX2 := Lib.hid hxx
  have H2 := Lib.hid hh
  have OK2 := Lib.hid (SM2.out.ok (by omega))
  clear b6 hd hb hxx hh H1 OK1 SM1
  obtain ⟨d2, hd2⟩ : ∃ d2, (createFile d1 s).1 = d2 := ⟨_, rfl⟩
  rw [hd2] at SM2 H2 OK2 HX2 ⊢
  clear hd2
  go_wp2_with (fail)
  rw [HX2.out]
  clear HX2 y0 y1 y2 y3 y4 y5
  refine (specAppend _ d2 s t _ OK2.out (by omega) H2.out.desk.own.is).mono ?_
  rintro e wz ⟨u, rfl, hd, hb⟩
  obtain ⟨tN, tE, tO, tS, dN, dE, dO, dS, rfl⟩ := own_slices hd
  have SM3 := Lib.hid (sm_appendN (s := s) (t := t) SM2.out (by omega) ht)
  have b6 := H2.out.desk.below hb
  have y0 := b6.box.at 0 _ rfl
  have y1 := b6.box.at 1 _ rfl
  have y2 := b6.box.at 2 _ rfl
  have y3 := b6.box.at 3 _ rfl
  have y4 := b6.box.at 4 _ rfl
  have y5 := b6.box.at 5 _ rfl
  have yf := b6.fz
  obtain ⟨X3, hxx, hh⟩ := H2.out.deed hb hd
  have HX3 := Lib.hid hxx
  have H3 := Lib.hid hh
  have OK3 := Lib.hid (SM3.out.ok (by omega))
  clear b6 hd hb hxx hh H2 OK2 SM2
  obtain ⟨d3, hd3⟩ : ∃ d3, (appendFile d2 s t).1 = d3 := ⟨_, rfl⟩
  rw [hd3] at SM3 H3 OK3 HX3 ⊢
  clear hd3
  go_wp2_with (fail)
  rw [HX3.out]
  clear HX3 y0 y1 y2 y3 y4 y5 yf
  refine (once_any B0 c a len cap 4 X3 HB0.out H3.out.lt.2 H3.out.code H3.out.cur (by decide) (by decide)).mono ?_
  rintro e w4 ⟨⟨o4, rfl⟩, u4, g4⟩
  have H4 := Lib.hid (H3.out.draw g4 u4)
  have x0 := H4.out.desk.box.at 0 _ rfl
  have x1 := H4.out.desk.box.at 1 _ rfl
  have x2 := H4.out.desk.box.at 2 _ rfl
  have x3 := H4.out.desk.box.at 3 _ rfl
  have x4 := H4.out.desk.box.at 4 _ rfl
  have x5 := H4.out.desk.box.at 5 _ rfl
  clear u4 g4 H3
  cases o4 with
  | true =>
    go_wp2_with (fail)
    refine (once_any B0 c a len cap 4 w4 HB0.out H4.out.lt.2 H4.out.code H4.out.cur (by decide) (by decide)).mono ?_
    rintro e w6 ⟨⟨o6, rfl⟩, u6, g6⟩
    have H6 := Lib.hid (H4.out.draw g6 u6)
    have x0 := H6.out.desk.box.at 0 _ rfl
    have x1 := H6.out.desk.box.at 1 _ rfl
    have x2 := H6.out.desk.box.at 2 _ rfl
    have x3 := H6.out.desk.box.at 3 _ rfl
    have x4 := H6.out.desk.box.at 4 _ rfl
    have x5 := H6.out.desk.box.at 5 _ rfl
    clear u6 g6 H4
    cases o6 with
    | true =>
      obtain ⟨u0, u1, u2, u3, u4, u5, ho⟩ := H6.out.desk.out
      have q0 := ho.at 0 _ rfl
      have q1 := ho.at 1 _ rfl
      have q2 := ho.at 2 _ rfl
      have q3 := ho.at 3 _ rfl
      have q4 := ho.at 4 _ rfl
      have q5 := ho.at 5 _ rfl
      have fr2 := H6.out.desk.fr
      clear ho
      obtain ⟨Z, hZ, hbz, hdz, hcz, hgz⟩ := H6.out.ret
      have z0 := hbz.at 0 _ rfl
      have z1 := hbz.at 1 _ rfl
      have z2 := hbz.at 2 _ rfl
      have z3 := hbz.at 3 _ rfl
      have z4 := hbz.at 4 _ rfl
      have z5 := hbz.at 5 _ rfl
      have HZ := Lib.hid hZ
      clear hZ hbz
      go_wp2
      rw [HZ.out]
      refine bodyPost_ret (v := .agg #[.slice tN d3.nodes.length dN, .slice tE d3.ents.length dE, .slice tO d3.old.length dO, .slice tS d3.steps.length dS, .int .i64 d3.room, .int .i64 d3.next]) (by simp [results, Tryz.results146, go_sem, z0, z1, z2, z3, z4, z5]) rfl ⟨_, _, rfl, hdz, SM3.out.mono (by omega), hcz, hgz⟩
    | false =>
      go_wp2_with (fail)
      refine (specSyncNames _ d3 w6 OK3.out H6.out.desk.own.is).mono ?_
      rintro e wz ⟨u, rfl, hd, hb⟩
      obtain ⟨tN, tE, tO, tS, dN, dE, dO, dS, rfl⟩ := own_slices hd
      have SM7 := Lib.hid (sm_syncNames SM3.out (by omega))
      have b6 := H6.out.desk.below hb
      have y0 := b6.box.at 0 _ rfl
      have y1 := b6.box.at 1 _ rfl
      have y2 := b6.box.at 2 _ rfl
      have y3 := b6.box.at 3 _ rfl
      have y4 := b6.box.at 4 _ rfl
      have y5 := b6.box.at 5 _ rfl
      have yf := b6.fz
      obtain ⟨r0, r1, r2, r3, r4, r5, hro⟩ := b6.out
      have q0 := hro.at 0 _ rfl
      have q1 := hro.at 1 _ rfl
      have q2 := hro.at 2 _ rfl
      have q3 := hro.at 3 _ rfl
      have q4 := hro.at 4 _ rfl
      have q5 := hro.at 5 _ rfl
      have fr2 := b6.fr
      clear hro
      obtain ⟨X7, hxx, hh⟩ := H6.out.deed hb hd
      have HX7 := Lib.hid hxx
      have H7 := Lib.hid hh
      have OK7 := Lib.hid (SM7.out.ok (by omega))
      clear b6 hd hb hxx hh H6 x0 x1 x2 x3 x4 x5
      obtain ⟨d7, hd7⟩ : ∃ d7, (syncNames d3) = d7 := ⟨_, rfl⟩
      rw [hd7] at SM7 H7 OK7 HX7 ⊢
      clear hd7
      obtain ⟨Z, hZ, hbz, hdz, hcz, hgz⟩ := H7.out.ret
      have z0 := hbz.at 0 _ rfl
      have z1 := hbz.at 1 _ rfl
      have z2 := hbz.at 2 _ rfl
      have z3 := hbz.at 3 _ rfl
      have z4 := hbz.at 4 _ rfl
      have z5 := hbz.at 5 _ rfl
      have HZ := Lib.hid hZ
      clear hZ hbz
      go_wp2
      rw [HX7.out, HZ.out]
      refine bodyPost_ret (v := .agg #[.slice tN d7.nodes.length dN, .slice tE d7.ents.length dE, .slice tO d7.old.length dO, .slice tS d7.steps.length dS, .int .i64 d7.room, .int .i64 d7.next]) (by simp [results, Tryz.results146, go_sem, z0, z1, z2, z3, z4, z5]) rfl ⟨_, _, rfl, hdz, SM7.out.mono (by omega), hcz, hgz⟩
  | false =>
    go_wp2_with (fail)
    refine (specSync _ d3 s w4 OK3.out H4.out.desk.own.is).mono ?_
    rintro e wz ⟨u, rfl, hd, hb⟩
    obtain ⟨tN, tE, tO, tS, dN, dE, dO, dS, rfl⟩ := own_slices hd
    have SM5 := Lib.hid (sm_syncFile (s := s) SM3.out (by omega))
    have b6 := H4.out.desk.below hb
    have y0 := b6.box.at 0 _ rfl
    have y1 := b6.box.at 1 _ rfl
    have y2 := b6.box.at 2 _ rfl
    have y3 := b6.box.at 3 _ rfl
    have y4 := b6.box.at 4 _ rfl
    have y5 := b6.box.at 5 _ rfl
    have yf := b6.fz
    obtain ⟨X5, hxx, hh⟩ := H4.out.deed hb hd
    have HX5 := Lib.hid hxx
    have H5 := Lib.hid hh
    have OK5 := Lib.hid (SM5.out.ok (by omega))
    clear b6 hd hb hxx hh H4 x0 x1 x2 x3 x4 x5
    obtain ⟨d5, hd5⟩ : ∃ d5, (syncFile d3 s).1 = d5 := ⟨_, rfl⟩
    rw [hd5] at SM5 H5 OK5 HX5 ⊢
    clear hd5
    go_wp2_with (fail)
    rw [HX5.out]
    clear HX5 y0 y1 y2 y3 y4 y5 yf
    refine (once_any B0 c a len cap 4 X5 HB0.out H5.out.lt.2 H5.out.code H5.out.cur (by decide) (by decide)).mono ?_
    rintro e w6 ⟨⟨o6, rfl⟩, u6, g6⟩
    have H6 := Lib.hid (H5.out.draw g6 u6)
    have x0 := H6.out.desk.box.at 0 _ rfl
    have x1 := H6.out.desk.box.at 1 _ rfl
    have x2 := H6.out.desk.box.at 2 _ rfl
    have x3 := H6.out.desk.box.at 3 _ rfl
    have x4 := H6.out.desk.box.at 4 _ rfl
    have x5 := H6.out.desk.box.at 5 _ rfl
    clear u6 g6 H5
    cases o6 with
    | true =>
      obtain ⟨u0, u1, u2, u3, u4, u5, ho⟩ := H6.out.desk.out
      have q0 := ho.at 0 _ rfl
      have q1 := ho.at 1 _ rfl
      have q2 := ho.at 2 _ rfl
      have q3 := ho.at 3 _ rfl
      have q4 := ho.at 4 _ rfl
      have q5 := ho.at 5 _ rfl
      have fr2 := H6.out.desk.fr
      clear ho
      obtain ⟨Z, hZ, hbz, hdz, hcz, hgz⟩ := H6.out.ret
      have z0 := hbz.at 0 _ rfl
      have z1 := hbz.at 1 _ rfl
      have z2 := hbz.at 2 _ rfl
      have z3 := hbz.at 3 _ rfl
      have z4 := hbz.at 4 _ rfl
      have z5 := hbz.at 5 _ rfl
      have HZ := Lib.hid hZ
      clear hZ hbz
      go_wp2
      rw [HZ.out]
      refine bodyPost_ret (v := .agg #[.slice tN d5.nodes.length dN, .slice tE d5.ents.length dE, .slice tO d5.old.length dO, .slice tS d5.steps.length dS, .int .i64 d5.room, .int .i64 d5.next]) (by simp [results, Tryz.results146, go_sem, z0, z1, z2, z3, z4, z5]) rfl ⟨_, _, rfl, hdz, SM5.out.mono (by omega), hcz, hgz⟩
    | false =>
      go_wp2_with (fail)
      refine (specSyncNames _ d5 w6 OK5.out H6.out.desk.own.is).mono ?_
      rintro e wz ⟨u, rfl, hd, hb⟩
      obtain ⟨tN, tE, tO, tS, dN, dE, dO, dS, rfl⟩ := own_slices hd
      have SM7 := Lib.hid (sm_syncNames SM5.out (by omega))
      have b6 := H6.out.desk.below hb
      have y0 := b6.box.at 0 _ rfl
      have y1 := b6.box.at 1 _ rfl
      have y2 := b6.box.at 2 _ rfl
      have y3 := b6.box.at 3 _ rfl
      have y4 := b6.box.at 4 _ rfl
      have y5 := b6.box.at 5 _ rfl
      have yf := b6.fz
      obtain ⟨r0, r1, r2, r3, r4, r5, hro⟩ := b6.out
      have q0 := hro.at 0 _ rfl
      have q1 := hro.at 1 _ rfl
      have q2 := hro.at 2 _ rfl
      have q3 := hro.at 3 _ rfl
      have q4 := hro.at 4 _ rfl
      have q5 := hro.at 5 _ rfl
      have fr2 := b6.fr
      clear hro
      obtain ⟨X7, hxx, hh⟩ := H6.out.deed hb hd
      have HX7 := Lib.hid hxx
      have H7 := Lib.hid hh
      have OK7 := Lib.hid (SM7.out.ok (by omega))
      clear b6 hd hb hxx hh H6 x0 x1 x2 x3 x4 x5
      obtain ⟨d7, hd7⟩ : ∃ d7, (syncNames d5) = d7 := ⟨_, rfl⟩
      rw [hd7] at SM7 H7 OK7 HX7 ⊢
      clear hd7
      obtain ⟨Z, hZ, hbz, hdz, hcz, hgz⟩ := H7.out.ret
      have z0 := hbz.at 0 _ rfl
      have z1 := hbz.at 1 _ rfl
      have z2 := hbz.at 2 _ rfl
      have z3 := hbz.at 3 _ rfl
      have z4 := hbz.at 4 _ rfl
      have z5 := hbz.at 5 _ rfl
      have HZ := Lib.hid hZ
      clear hZ hbz
      go_wp2
      rw [HX7.out, HZ.out]
      refine bodyPost_ret (v := .agg #[.slice tN d7.nodes.length dN, .slice tE d7.ents.length dE, .slice tO d7.old.length dO, .slice tS d7.steps.length dS, .int .i64 d7.room, .int .i64 d7.next]) (by simp [results, Tryz.results146, go_sem, z0, z1, z2, z3, z4, z5]) rfl ⟨_, _, rfl, hdz, SM7.out.mono (by omega), hcz, hgz⟩

end Go.Proofs.YtiehfobcbhgfkaaGreatDoor.deed

namespace Go.Proofs.YtiehfobcbhgfkaaGreatDoor.deed
set_option maxRecDepth 20000
open Go.RowKit
open kit strs recs disk kd draw

theorem sbox_keep {w w' : World} {g c : Nat} {cs : List Value} (h : sc.Box w g cs) (k : w.grownBy w' (some c)) (hne : g ≠ c) : sc.Box w' g cs := box_kept h k hne

theorem Drw.far {B B0 c : Nat} {a : Option Addr} {len cap : Nat} {w wr w1 : World} {b r : Nat} {sN sE sO sS : Value} {d : D} {X0 : Nat} {row : Option Nat} (h : Drw B B0 c a len cap w wr b r sN sE sO sS d) (g : wr.grownBy w1 row) (hq : ∀ q, row = some q → X0 ≤ q) (hX : w.heap.size ≤ X0) (hb : b < X0) (hr : r < X0)
    (hk : ∀ k, disk.rows (.agg #[sN, sE, sO, sS, .int .i64 d.room, .int .i64 d.next]) k → k < X0) : Drw B B0 c a len cap w w1 b r sN sE sO sS d := by
  have o : Only wr w1 (fun k => X0 ≤ k) := Only.of_grown g (fun k hk => hq k hk)
  have h1 := h.hc
  have h2 := h.hBc
  have h3 := h.grow.size
  obtain ⟨u0, u1, u2, u3, u4, u5, ho⟩ := h.desk.out
  obtain ⟨i, x, c1, c2⟩ := h.cur
  refine ⟨⟨h.desk.box.only o (by omega), fun j => (World.frozen?_of_block (a := ⟨b, j, none⟩) (o.block b h.desk.box.1 (by omega))).trans (h.desk.fz j), ⟨u0, u1, u2, u3, u4, u5, ho.only o (by omega)⟩, fun j => (World.frozen?_of_block (a := ⟨r, j, none⟩) (o.block r ho.1 (by omega))).trans (h.desk.fr j), h.desk.own.only o (fun k hk' hS => by have := hk k hk'; omega), h.desk.hb, h.desk.hr, h.desk.ne, Nat.le_trans h.desk.size o.size⟩,
    ⟨i, x, c1, (o.block c h.lt.1 (by omega)).trans c2⟩, h.code.below (o.below h.lt.2 (fun k hk => by omega)), grown_below h.grow (o.below h3 (fun k hk => by omega)), h.hBc, h.hc, h.hb, h.hr⟩
theorem own_one (w : World) (e : TypeId) {B : Nat} (hB : B ≤ w.heap.size) (u : Value) : (w.alloc (.cells #[u] e)).ownsRow B e 1 (.slice (some ⟨w.heap.size, 0, none⟩) 1 1) 1 [u] :=
  ⟨rfl, .inr ⟨w.heap.size, 1, #[u], rfl, hB, heap_alloc_new w _, Nat.le_refl _, by decide, rfl, rfl⟩⟩
theorem cons_own {w : World} {B m : Nat} {e : TypeId} {v : Value} {t : ByteArray} {xs : List ByteArray} (h : w.ownsRow B e 1 v m ([.string t] ++ xs.map Value.string)) : w.ownsRow B e 1 v m ((t :: xs).map Value.string) := h
theorem cons_all {n : Nat} {t : ByteArray} {xs : List ByteArray} (h : ∀ x ∈ xs, x.size ≤ n) (ht : t.size ≤ n) : ∀ x ∈ t :: xs, x.size ≤ n := fun x hx => by
  rcases List.mem_cons.1 hx with rfl | hx
  · exact ht
  · exact h x hx
theorem own_off {w : World} {B n g : Nat} {e : TypeId} {v : Value} {xs : List Value} (h : w.ownsRow B e 1 v n xs) (hg : g < B) : v.ownBlock ≠ some g := fun q => by
  have := (h.lt g q).1
  omega
theorem seal_small {w : World} {B n : Nat} {e : TypeId} {u : Value} {xs : List ByteArray} (v s p l : Int) (h : w.ownsRow B e 1 u n (xs.map Value.string)) (hn : n ≤ 4) : (sl.slT ⟨v, s, p, l⟩ xs).size ≤ 400 := by
  have hl : xs.length = n := by simpa using h.1
  by_cases hk : sl.okS ⟨v, s, p, l⟩ xs
  · rw [sl.slT_yes hk, ByteArray.size_append]
    have h1 := sl.tx_le72 ⟨v, s, p, l⟩ xs xs.length
    have h2 := pl.ftT_le ⟨v, s, p, l⟩ (sl.offL ⟨v, s, p, l⟩ xs) ((sc.tx ⟨v, s, p, l⟩ xs xs.length).size : Int)
    rw [sl.offL_length] at h2
    omega
  · rw [sl.slT_no hk]; exact Nat.zero_le _
/-- a deed that draws has been done: what it gives is laid into the box -/
theorem Drw.deed2 {B B0 c : Nat} {a : Option Addr} {len cap : Nat} {w w1 w2 : World} {b r : Nat} {sN sE sO sS tN tE tO tS : Value} {d x : D} (h : Drw B B0 c a len cap w w1 b r sN sE sO sS d) (hb : w1.grownBy w2 (some c)) (hu : Cur w2 c a len cap)
    (hd : OwnDisk w1.heap.size w2 (.agg #[tN, tE, tO, tS, .int .i64 x.room, .int .i64 x.next]) x) :
    ∃ X, ((((((w2.setCell ⟨b, 0, none⟩ tN).setCell ⟨b, 1, none⟩ tE).setCell ⟨b, 2, none⟩ tO).setCell ⟨b, 3, none⟩ tS).setCell ⟨b, 4, none⟩ (.int .i64 x.room)).setCell ⟨b, 5, none⟩ (.int .i64 x.next)) = X ∧ Drw B B0 c a len cap w X b r tN tE tO tS x := by
  have h1 := h.hc
  have h2 := h.hb
  have h4 := h.hBc
  have h5 := h.grow.size
  have h' := h.draw hb hu
  have hs := h.desk.size
  obtain ⟨u0, u1, u2, u3, u4, u5, ho⟩ := h'.desk.out
  obtain ⟨X, hX, dk, bl⟩ := desk_open h'.desk.box h'.desk.fz ho h'.desk.fr (hd.base hs) h.desk.hb h.desk.hr h.desk.ne h'.desk.size w.heap.size w2 (Below.refl _ _) h2
  have hl := h'.lt
  exact ⟨X, hX, dk, h'.cur.below (bl.mono (by omega)), h'.code.below (bl.mono (by omega)), grown_below h'.grow bl, h.hBc, h.hc, h.hb, h.hr⟩
theorem own_six {w : World} {B n b : Nat} {e : TypeId} {v : Value} {xs : List Value} (h : w.ownsRow B e 1 v n xs) (hb : b < B) (t0 t1 t2 t3 t4 t5 : Value) : ((((((w.setCell ⟨b, 0, none⟩ t0).setCell ⟨b, 1, none⟩ t1).setCell ⟨b, 2, none⟩ t2).setCell ⟨b, 3, none⟩ t3).setCell ⟨b, 4, none⟩ t4).setCell ⟨b, 5, none⟩ t5).ownsRow B e 1 v n xs := by
  have q := own_off h hb
  exact sc.own_setOther (sc.own_setOther (sc.own_setOther (sc.own_setOther (sc.own_setOther (sc.own_setOther h _ _ _ q) _ _ _ q) _ _ _ q) _ _ _ q) _ _ _ q) _ _ _ q
theorem grown_cell (w : World) (g i : Nat) (v : Value) : w.grownBy (w.setCell ⟨g, i, none⟩ v) (some g) :=
  ⟨rfl, rfl, rfl, by simp, fun k _ hk => heap_setCell_other _ _ _ _ (fun e => hk (by rw [e]))⟩

set_option maxHeartbeats 8000000 in
set_option maxRecDepth 100000 in
theorem disk14_any (B0 c : Nat) (a : Option Addr) (len cap : Nat) (w : World) (hBc : B0 ≤ c) (hcw : c < w.heap.size) (hc : CodeAt w B0 a len) (hu : Cur w c a len cap) :
    Calls Tryz.prog 98 #[.pointer (some ⟨c, 0, none⟩)] w (PostD 13000 c a len cap w) := by
  obtain ⟨W, hW⟩ : ∃ W, W = w.alloc (.cells #[.slice none 0 0, .slice none 0 0, .slice none 0 0, .slice none 0 0, .int .i64 0, .int .i64 0] 28) := ⟨_, rfl⟩
  have hWB : Below w.heap.size w W := by rw [hW]; exact (Below.refl _ _).alloc (Nat.le_refl _) _
  have hsz : w.heap.size + 1 = W.heap.size := by rw [hW]; simp
  have br := show disk.Box W w.heap.size [.slice none 0 0, .slice none 0 0, .slice none 0 0, .slice none 0 0, .int .i64 0, .int .i64 0] from by rw [hW]; exact Box.new w #[.slice none 0 0, .slice none 0 0, .slice none 0 0, .slice none 0 0, .int .i64 0, .int .i64 0] _
  have fr : ∀ j, W.frozen? ⟨w.heap.size, j, none⟩ = false := fun j => by rw [hW]; simp
  have cW := hc.below (hWB.mono (by omega))
  have uW := hu.below (hWB.mono (by omega))
  have BR := Lib.hid br
  have FR := Lib.hid fr
  have HW := Lib.hid hWB
  clear br fr hWB hc hu
  go_enter Tryz.func98, Tryz.ntmps98
  go_wp2_with (fail)
  rw [← hW]
  clear hW
  go_wp2_with (fail)
  refine (pickInt_new B0 c 4 a len cap [6000, 6000, 6000, 900] W hBc (by omega) cW uW rfl (by decide) (by decide)).mono ?_
  rintro e w1 ⟨x, hx, rfl, u1, g1⟩
  have hx2 : 0 ≤ x ∧ x ≤ 6000 := by
    simp only [List.mem_cons, List.not_mem_nil, or_false] at hx
    omega
  have code1 := cW.grown hBc (by omega) g1
  have hs1 := g1.size
  go_wp2_with (fail)
  refine (specDiskNew x w1).mono ?_
  rw [if_neg (show ¬ x < 0 by omega)]
  rintro e w2 ⟨rfl, hb2⟩
  have HG2 := Lib.hid (grown_below g1 (hb2.mono hs1))
  have B2 := Lib.hid ((box_keep BR.out g1 (by omega)).below hb2)
  have F2 := Lib.hid (frozen_below (frozen_keep FR.out BR.out.1 g1 (by omega)) (box_keep BR.out g1 (by omega)).1 hb2)
  have C2 := Lib.hid (u1.below (hb2.mono (by omega)))
  have K2 := Lib.hid (code1.below (hb2.mono (by omega)))
  have hs2 := hb2.size
  obtain ⟨V, hV⟩ : ∃ V, V = w2.alloc (.cells #[.slice none 0 0, .slice none 0 0, .slice none 0 0, .slice none 0 0, .int .i64 x, .int .i64 1] 28) := ⟨_, rfl⟩
  have bV : Below w2.heap.size w2 V := by rw [hV]; exact (Below.refl _ _).alloc (Nat.le_refl _) _
  have sV : V.heap.size = w2.heap.size + 1 := by rw [hV]; simp
  have DW : Drw V.heap.size B0 c a len cap w V w2.heap.size w.heap.size (.slice none 0 0) (.slice none 0 0) (.slice none 0 0) (.slice none 0 0) ⟨[], [], [], [], x, 1⟩ := by
    refine ⟨⟨?_, ?_, ⟨_, _, _, _, _, _, B2.out.below bV⟩, frozen_below F2.out B2.out.1 bV, own_newD _ _ _, by omega, by omega, by omega, Nat.le_refl _⟩, C2.out.below (bV.mono (by omega)), K2.out.below (bV.mono (by omega)), ?_, hBc, hcw, by omega, Nat.le_refl _⟩
    · rw [hV]; exact Box.new w2 #[.slice none 0 0, .slice none 0 0, .slice none 0 0, .slice none 0 0, .int .i64 x, .int .i64 1] _
    · intro j; rw [hV]; simp
    · exact grown_below (grown_trans (grown_below (grown_refl w (some c)) HW.out) HG2.out) (bV.mono (by omega))
  have DW := Lib.hid DW
  have SM := Lib.hid (sm_new x (by unfold wfI; omega))
  clear B2 F2 C2 K2 HG2 u1 g1 code1 hb2 hx cW uW bV BR FR HW
  go_wp2
  rw [← hV]
  clear hV
  obtain ⟨i1, gi, gz0, gz1, gz2⟩ := info_parts strs.Tryz.infoStr
  have HBc := Lib.hid hBc
  have HCW := Lib.hid hcw
  have HV2 := Lib.hid (show c < w2.heap.size by omega)
  go_loopw [4, 5, 6, 7, 8, 9, 10] (fun bs l i _ _ _ _ wr => ∃ (k : Nat) (base link : Int) (sN sE sO sS : Value) (d : D), k ≤ 4 ∧ i = .int .i64 k ∧ bs = .int .i64 base ∧ l = .int .i64 link ∧ 0 ≤ base ∧ base ≤ 4 * (k : Int) ∧ Hid (Sm (2600 * k) d) ∧ Hid (Drw V.heap.size B0 c a len cap w wr w2.heap.size w.heap.size sN sE sO sS d)) (fun _ _ i _ _ _ _ _ => 4 - (intOf i).toNat)
  case atStart => exact ⟨0, 0, 0, _, _, _, _, _, Nat.zero_le _, rfl, rfl, rfl, by omega, by omega, SM, DW⟩
  case round =>
    clear DW SM
    obtain ⟨k, base, link, sN, sE, sO, sS, d, hk, rfl, rfl, rfl, hb0, hb1, SM, H0⟩ := hrel
    go_wp2_with (fail)
    refine (below_any B0 c a len cap 5 wr hBc H0.out.lt.2 H0.out.code H0.out.cur (by omega) (by omega)).mono ?_
    rintro e w3 ⟨⟨z, l3, m3, rfl⟩, u3, g3⟩
    have H3 := Lib.hid (H0.out.draw g3 u3)
    clear H0 g3 u3
    by_cases hlt : (k : Int) < z
    · go_wp2_with (fail)
      refine (below_any B0 c a len cap 2 w3 hBc H3.out.lt.2 H3.out.code H3.out.cur (by omega) (by omega)).mono ?_
      rintro e w4 ⟨⟨v4, l4, m4, rfl⟩, u4, g4⟩
      have H4 := Lib.hid (H3.out.draw g4 u4)
      clear H3 g4 u4
      go_wp2_with (fail)
      refine (below_any B0 c a len cap 3 w4 hBc H4.out.lt.2 H4.out.code H4.out.cur (by omega) (by omega)).mono ?_
      rintro e w5 ⟨⟨s5, l5, m5, rfl⟩, u5, g5⟩
      have H5 := Lib.hid (H4.out.draw g5 u5)
      have hc5 := H5.out.lt.1
      have HK5 := Lib.hid (fun q hq => (H5.out.desk.own.rows q hq).2)
      have hb5 := Lib.hid H5.out.desk.box.1
      have hr5 := Lib.hid (show w.heap.size < w5.heap.size by obtain ⟨u0, u1, u2, u3, u4, u5, ho⟩ := H5.out.desk.out; exact ho.1)
      clear H4 g5 u5
      have al := (Below.refl w5.heap.size w5).alloc (Nat.le_refl _) (.cells #[.int .i64 (1 + v4), .int .i64 (1 + s5), .int .i64 base, .int .i64 link] 45)
      have bg := sc.Box.new w5 #[.int .i64 (1 + v4), .int .i64 (1 + s5), .int .i64 base, .int .i64 link] 45
      obtain ⟨w6, hw6⟩ : ∃ w6, w6 = w5.alloc (.cells #[.int .i64 (1 + v4), .int .i64 (1 + s5), .int .i64 base, .int .i64 link] 45) := ⟨_, rfl⟩
      rw [← hw6] at al bg
      have sz6 := Lib.hid (show w6.heap.size = w5.heap.size + 1 by rw [hw6]; simp)
      have H6 := Lib.hid (H5.out.below al)
      have G6 := Lib.hid bg
      have HW6 := Lib.hid hw6
      clear H5 al bg hw6
      go_wp2_with (fail)
      rw [← HW6.out]
      refine (record8_any B0 c a len cap w6 hBc H6.out.lt.1 H6.out.code H6.out.cur).mono ?_
      rintro e w7 ⟨⟨t7, ht7, rfl⟩, u7, g7⟩
      have H7 := Lib.hid (H6.out.draw g7 u7)
      have G7 := Lib.hid (sbox_keep G6.out g7 (by omega))
      have s57 := Lib.hid (show w5.heap.size < w7.heap.size by have := g7.size; have := sz6.out; omega)
      clear H6 G6 g7 u7 HW6
      have al := (Below.refl w7.heap.size w7).alloc (Nat.le_refl _) (.cells #[.string t7] 9)
      have O7 := own_one w7 9 (Nat.le_refl _) (.string t7)
      obtain ⟨w7a, hw7a⟩ : ∃ w7a, w7a = w7.alloc (.cells #[.string t7] 9) := ⟨_, rfl⟩
      rw [← hw7a] at al O7
      have sz7 := Lib.hid (show w7.heap.size < w7a.heap.size by rw [hw7a]; simp)
      have H7a := Lib.hid (H7.out.below al)
      have G7a := Lib.hid (G7.out.below al)
      have gl7 := G7.out.lt
      have O7a := Lib.hid O7
      have c7 := H7.out.lt.1
      have HW7 := Lib.hid hw7a
      clear al O7 hw7a H7 G7
      go_wp2_with (fail)
      rw [← HW7.out]
      refine (records8_any B0 c a len cap 3 w7a hBc H7a.out.lt.1 H7a.out.code H7a.out.cur (by decide)).mono ?_
      rintro e w8 ⟨⟨v8, n8, xs8, rfl, hn8, hx8, ho8⟩, u8, g8⟩
      have H8 := Lib.hid (H7a.out.draw g8 u8)
      have G8 := Lib.hid (sbox_keep G7a.out g8 (by omega))
      have O8 := Lib.hid (own_keep O7a.out g8 (by omega))
      obtain ⟨av, cv, rfl, _, _, _⟩ := own_form ho8
      have AT8 := Lib.hid (at_cells (strs.At.of_own ho8))
      have s8 := Lib.hid (show w7.heap.size ≤ w8.heap.size by have := g8.size; have := sz7.out; omega)
      have HX8 := Lib.hid hx8
      clear H7a G7a O7a g8 u8 ho8 hx8 HW7
      go_wp2_with (first | (at_builtin; go_loud (refine recs.list_copy (by rfl) (.tmp 32) (.tmp 34) 26 (by rfl) w7.heap.size 9 i1 (.string { data := #[] }) 1 16 Tryz.underlying26 gi gz0 gz1 gz2 (by rfl) (by decide) _ 1 _ O8.out s8.out av n8 cv _ AT8.out (oneS xs8) (by unfold maxLen; omega) (by omega) (by rfl) (by rfl) ?_; intro v9 w9 o9 g9; obtain ⟨a9, c9, rfl, _, _, _⟩ := own_form o9; have H9 := Lib.hid (H8.out.far (X0 := w5.heap.size) g9 (fun q hq => Nat.le_trans (Nat.le_of_lt s57.out) (sc.own_block_ge O8.out q hq).1) (by have := hr5.out; omega) hb5.out hr5.out HK5.out); have s9 := Lib.hid (Nat.le_trans s8.out g9.size); have G9 := Lib.hid (G8.out.grown g9 (sc.own_not O8.out gl7)); have O9 := Lib.hid (cons_own o9))) | fail)
      have HX9 := Lib.hid (cons_all HX8.out ht7)
      have hc9 := H9.out.lt.1
      clear HX8 H8 G8 O8 AT8
      refine (once_any B0 c a len cap 20 w9 hBc H9.out.lt.2 H9.out.code H9.out.cur (by omega) (by omega)).mono ?_
      rintro e w10 ⟨⟨b10, rfl⟩, u10, g10⟩
      have H10 := Lib.hid (H9.out.draw g10 u10)
      have O10 := Lib.hid (own_keep O9.out g10 (by omega))
      have G10 := Lib.hid (sbox_keep G9.out g10 (by omega))
      have s10 := Lib.hid (Nat.le_trans s9.out g10.size)
      clear H9 O9 G9 g10 u10 hc9
      go_upto_if 37 with fail
      go_cut [8] from 15 to 79 (fun v8 wx => ∃ (n : Nat) (xs : List ByteArray) (ar : Option Addr) (cr : Nat), v8 = .slice ar n cr ∧ n ≤ 4 ∧ Hid (∀ x ∈ xs, x.size ≤ 60) ∧ Hid (wx.ownsRow w7.heap.size 9 1 (.slice ar n cr) n (xs.map Value.string)) ∧ Hid (sc.Box wx w5.heap.size [.int .i64 (1 + v4), .int .i64 (1 + s5), .int .i64 base, .int .i64 link]) ∧ Hid (Drw V.heap.size B0 c a len cap w wx w2.heap.size w.heap.size sN sE sO sS d))
      case first =>
        cases b10 with
        | true =>
          go_wp2_with (fail)
          go_meet
          exact ⟨0, [], _, _, rfl, by omega, Lib.hid (fun x hx => by cases hx), Lib.hid (World.ownsRow_made _ _ _ s10.out (by decide) rfl), Lib.hid (G10.out.below ((Below.refl _ _).alloc (Nat.le_refl _) _)), Lib.hid (H10.out.below ((Below.refl _ _).alloc (Nat.le_refl _) _))⟩
        | false =>
          go_wp2_with (fail)
          go_meet
          exact ⟨_, _, _, _, rfl, by omega, HX9, O10, G10, H10⟩
      case rest =>
      clear H10 O10 G10 HX9
      obtain ⟨n, xs, ar, cr, rfl, hn, HX, OA, GA, HA⟩ := hcut
      obtain ⟨wa, hwa⟩ : ∃ wa, wa = wc := ⟨_, rfl⟩
      subst hwa
      go_wp2_with (fail)
      refine (once_any B0 c a len cap 20 wa hBc HA.out.lt.2 HA.out.code HA.out.cur (by omega) (by omega)).mono ?_
      rintro e w11 ⟨⟨b11, rfl⟩, u11, g11⟩
      have H11 := Lib.hid (HA.out.draw g11 u11)
      have O11 := Lib.hid (own_keep OA.out g11 (by omega))
      have G11 := Lib.hid (sbox_keep GA.out g11 (by omega))
      clear HA OA GA g11 u11
      have gl11 := G11.out.lt
      have x3 := G11.out.at 3 _ rfl
      have xf := G11.out.2
      go_upto_if 40 with fail
      go_cut [] from 15 to 79 (fun wx => ∃ lk : Int, Hid (sc.Box wx w5.heap.size [.int .i64 (1 + v4), .int .i64 (1 + s5), .int .i64 base, .int .i64 lk]) ∧ Hid (wx.ownsRow w7.heap.size 9 1 (.slice ar n cr) n (xs.map Value.string)) ∧ Hid (Drw V.heap.size B0 c a len cap w wx w2.heap.size w.heap.size sN sE sO sS d))
      case first =>
        cases b11 with
        | true =>
          go_wp2_with (fail)
          go_meet
          exact ⟨_, Lib.hid (G11.out.set 3 _ (by simp)), Lib.hid (sc.own_setOther O11.out _ _ _ (own_off O11.out s57.out)), Lib.hid (H11.out.far (X0 := w5.heap.size) (grown_cell w11 w5.heap.size 3 _) (fun q hq => by cases hq; exact Nat.le_refl _) (by have := hr5.out; omega) hb5.out hr5.out HK5.out)⟩
        | false =>
          go_wp2_with (fail)
          go_meet
          exact ⟨_, G11, O11, H11⟩
      case rest =>
      clear H11 O11 G11 x3 xf gl11
      obtain ⟨lk, GB, OB, HB⟩ := hcut
      obtain ⟨wb, hwb⟩ : ∃ wb, wb = wc := ⟨_, rfl⟩
      subst hwb
      have x0 := GB.out.at 0 _ rfl
      have x1 := GB.out.at 1 _ rfl
      have x2 := GB.out.at 2 _ rfl
      have x3 := GB.out.at 3 _ rfl
      have glb := GB.out.lt
      go_wp2_with (fail)
      refine (sl.specSeal (1 + v4) (1 + s5) base lk ar cr n xs wb (by omega) (strs.At.of_own OB.out)).mono ?_
      have zT := seal_small (1 + v4) (1 + s5) base lk OB.out hn
      obtain ⟨T13, hT13⟩ : ∃ T, sl.slT ⟨1 + v4, 1 + s5, base, lk⟩ xs = T := ⟨_, rfl⟩
      rw [hT13] at zT ⊢
      clear hT13
      rintro e w13 ⟨rfl, b13⟩
      have H13 := Lib.hid (HB.out.below b13)
      have O13 := Lib.hid (own_below OB.out b13)
      have G13 := Lib.hid (GB.out.below b13)
      clear HB OB GB b13 x0 x1 x2 x3 glb
      go_wp2_with (fail)
      refine (once_any B0 c a len cap 4 w13 hBc H13.out.lt.2 H13.out.code H13.out.cur (by omega) (by omega)).mono ?_
      rintro e w14 ⟨⟨b14, rfl⟩, u14, g14⟩
      have H14 := Lib.hid (H13.out.draw g14 u14)
      have O14 := Lib.hid (own_keep O13.out g14 (by omega))
      have G14 := Lib.hid (sbox_keep G13.out g14 (by omega))
      clear H13 O13 G13 g14 u14
      go_upto_if 49 with fail
      go_cut [9] from 15 to 79 (fun vt wx => ∃ t : ByteArray, vt = .string t ∧ t.size ≤ 400 ∧ Hid (wx.ownsRow w7.heap.size 9 1 (.slice ar n cr) n (xs.map Value.string)) ∧ Hid (Drw V.heap.size B0 c a len cap w wx w2.heap.size w.heap.size sN sE sO sS d))
      case first =>
        cases b14 with
        | true =>
          have x0 := G14.out.at 0 _ rfl
          have x1 := G14.out.at 1 _ rfl
          have x2 := G14.out.at 2 _ rfl
          have x3 := G14.out.at 3 _ rfl
          have gl := G14.out.lt
          go_wp2_with (fail)
          refine (sc.frames10_any (1 + v4) (1 + s5) base lk ar cr n xs w14 (by omega) HX.out (strs.At.of_own O14.out)).mono ?_
          rintro e w15 ⟨⟨t15, z15, rfl⟩, b15⟩
          go_wp2_with (fail)
          go_meet
          exact ⟨t15, rfl, by omega, Lib.hid (own_below O14.out b15), Lib.hid (H14.out.below b15)⟩
        | false =>
          go_wp2_with (fail)
          go_meet
          exact ⟨_, rfl, zT, O14, H14⟩
      case rest =>
      clear H14 O14 G14 zT
      obtain ⟨T15, rfl, zT, OC, HC⟩ := hcut
      obtain ⟨wd, hwd⟩ : ∃ wd, wd = wc := ⟨_, rfl⟩
      subst hwd
      go_wp2_with (fail)
      refine (once_any B0 c a len cap 6 wd hBc HC.out.lt.2 HC.out.code HC.out.cur (by omega) (by omega)).mono ?_
      rintro e w16 ⟨⟨b16, rfl⟩, u16, g16⟩
      have H16 := Lib.hid (HC.out.draw g16 u16)
      have O16 := Lib.hid (own_keep OC.out g16 (by omega))
      clear HC OC g16 u16
      go_upto_if 54 with fail
      go_cut [9] from 15 to 79 (fun vt wx => ∃ t : ByteArray, vt = .string t ∧ t.size ≤ 404 ∧ Hid (wx.ownsRow w7.heap.size 9 1 (.slice ar n cr) n (xs.map Value.string)) ∧ Hid (Drw V.heap.size B0 c a len cap w wx w2.heap.size w.heap.size sN sE sO sS d))
      case first =>
        cases b16 with
        | true =>
          go_wp2_with (fail)
          refine (bent8_any B0 c a len cap T15 w16 hBc H16.out.lt.1 H16.out.code H16.out.cur (by omega)).mono ?_
          rintro e w17 ⟨⟨t17, z17, rfl⟩, u17, g17⟩
          go_wp2_with (fail)
          go_meet
          exact ⟨t17, rfl, by omega, Lib.hid (own_keep O16.out g17 (by omega)), Lib.hid (H16.out.draw g17 u17)⟩
        | false =>
          go_wp2_with (fail)
          go_meet
          exact ⟨_, rfl, by omega, O16, H16⟩
      case rest =>
      clear H16 O16 zT T15
      obtain ⟨T18, rfl, zT, OD, HD⟩ := hcut
      obtain ⟨we, hwe⟩ : ∃ we, we = wc := ⟨_, rfl⟩
      subst hwe
      have hbw := Lib.hid (show w2.heap.size < w7.heap.size from Nat.lt_trans hb5.out s57.out)
      have hz2 := nam.segI_size base
      go_upto_region 18 with fail
      go_cut [] from 15 to 79 (fun wx => ∃ (tN tE tO tS : Value) (d2 : D), Hid (Sm (2600 * (k + 1)) d2) ∧ Hid (wx.ownsRow w7.heap.size 9 1 (.slice ar n cr) n (xs.map Value.string)) ∧ Hid (Drw V.heap.size B0 c a len cap w wx w2.heap.size w.heap.size tN tE tO tS d2))
      case first =>
        obtain ⟨aN, aE, aO, aS, cN, cE, cO, cS, rfl, rfl, rfl, rfl, _, _, _, _⟩ := HD.out.desk.shapes
        have x0 := HD.out.desk.box.at 0 _ rfl; have x1 := HD.out.desk.box.at 1 _ rfl; have x2 := HD.out.desk.box.at 2 _ rfl; have x3 := HD.out.desk.box.at 3 _ rfl; have x4 := HD.out.desk.box.at 4 _ rfl; have x5 := HD.out.desk.box.at 5 _ rfl
        have zle := HD.out.desk.box.1
        have HDd := Lib.hid (HD.out.below ((Below.refl we.heap.size we).drew))
        have ODd := Lib.hid (own_below OD.out ((Below.refl we.heap.size we).drew))
        go_region_law (first | (go_simp; go_at_call 104; refine (nam.specSeg_any base we.drew).mono ?_; rintro e w20 ⟨rfl, b20⟩; have H20 := Lib.hid (HDd.out.below b20); have O20 := Lib.hid (own_below ODd.out b20); have v0 := H20.out.desk.box.at 0 _ rfl; have v1 := H20.out.desk.box.at 1 _ rfl; have v2 := H20.out.desk.box.at 2 _ rfl; have v3 := H20.out.desk.box.at 3 _ rfl; have v4 := H20.out.desk.box.at 4 _ rfl; have v5 := H20.out.desk.box.at 5 _ rfl; clear b20) | (go_simp; go_at_call 146; refine (put_any (2600 * k) B0 c a len cap _ d (nam.segI base) T18 w20 (by omega) hBc H20.out.lt.1 H20.out.code H20.out.cur SM.out H20.out.desk.own.is (by omega) (by omega)).mono ?_; rintro e w9x ⟨u, d2, rfl, hd, sm2, u9x, g9x⟩; obtain ⟨tN, tE, tO, tS, dN, dE, dO, dS, rfl⟩ := own_slices hd; have SM2 := Lib.hid (sm2.mono (show 2600 * k + 2600 ≤ 2600 * (k + 1) by omega)); have b9 := (H20.out.draw g9x u9x).desk; have y0 := b9.box.at 0 _ rfl; have y1 := b9.box.at 1 _ rfl; have y2 := b9.box.at 2 _ rfl; have y3 := b9.box.at 3 _ rfl; have y4 := b9.box.at 4 _ rfl; have y5 := b9.box.at 5 _ rfl; have yf := b9.fz; have OX := Lib.hid (own_six (own_keep O20.out g9x (by omega)) hbw.out (.slice tN d2.nodes.length dN) (.slice tE d2.ents.length dE) (.slice tO d2.old.length dO) (.slice tS d2.steps.length dS) (.int .i64 d2.room) (.int .i64 d2.next)); obtain ⟨_, rfl, HX2⟩ := H20.out.deed2 g9x u9x hd; have HX2 := Lib.hid HX2; clear b9 hd sm2 g9x u9x))
        all_goals
          go_wp2_with (fail)
          go_meet
          exact ⟨_, _, _, _, _, SM2, OX, HX2⟩
      case rest =>
      clear HD OD SM
      obtain ⟨tN, tE, tO, tS, d2, SM2, OE, HE⟩ := hcut
      obtain ⟨wf, hwf⟩ : ∃ wf, wf = wc := ⟨_, rfl⟩
      subst hwf
      go_wp2
      go_loopw [5, 10] (fun l i wx => ∃ (j : Nat) (lj : Int), j ≤ n ∧ i = .int .i64 j ∧ l = .int .i64 lj ∧ Hid (wx.ownsRow w7.heap.size 9 1 (.slice ar n cr) n (xs.map Value.string)) ∧ Hid (Drw V.heap.size B0 c a len cap w wx w2.heap.size w.heap.size tN tE tO tS d2)) (fun _ i _ => n - (intOf i).toNat)
      case atStart => exact ⟨0, _, Nat.zero_le _, rfl, rfl, OE, HE⟩
      case round =>
        clear OE HE
        obtain ⟨j, lj, hj, rfl, rfl, OE, HE⟩ := hrel
        by_cases hlt2 : j < n
        · have AT := strs.At.of_own OE.out
          obtain ⟨x, hxk⟩ : ∃ x, xs[j]? = some x := ⟨_, List.getElem?_eq_getElem (by have := AT.1; omega)⟩
          obtain ⟨g, o, rfl, hg, hc⟩ := AT.2.resolve_left (by omega)
          have hx60 := HX.out x (List.mem_of_getElem? hxk)
          have c1 := hc j x hxk
          have i0 : (0 : Int) ≤ (j : Int) := by omega
          have i1 : (j : Int) < (n : Int) := by omega
          clear hxk hc AT
          go_wp2_with (fail)
          refine (hd.specLinkMore lj x _ (by omega)).mono ?_
          rintro e wL ⟨rfl, bL⟩
          have HL := Lib.hid (HE.out.below bL)
          have OL := Lib.hid (own_below OE.out bL)
          clear HE OE bL
          go_wp2
          go_roundw
          case rel => exact ⟨j + 1, _, by omega, by go_num, rfl, OL, HL⟩
          case measure => simp [intOf]; omega
        · go_wp2
          go_roundw
          case rel => exact ⟨k + 1, base + n, lj, tN, tE, tO, tS, d2, by omega, by go_num, by go_num, rfl, by omega, by omega, SM2, HE⟩
          case measure => simp [intOf]; omega
    · go_wp2_with (fail)
      refine (below_any B0 c a len cap 6 w3 hBc H3.out.lt.2 H3.out.code H3.out.cur (by omega) (by omega)).mono ?_
      rintro e w30 ⟨⟨y, l30, m30, rfl⟩, u30, g30⟩
      have H30 := Lib.hid (H3.out.draw g30 u30)
      clear H3 g30 u30
      rcases (show y = 0 ∨ y = 1 ∨ y = 2 ∨ (¬ y = 0 ∧ ¬ y = 1 ∧ ¬ y = 2) by omega) with rfl | rfl | rfl | ⟨n0, n1, n2⟩
      · obtain ⟨aN, aE, aO, aS, cN, cE, cO, cS, rfl, rfl, rfl, rfl, _, _, _, _⟩ := H30.out.desk.shapes
        have x0 := H30.out.desk.box.at 0 _ rfl; have x1 := H30.out.desk.box.at 1 _ rfl; have x2 := H30.out.desk.box.at 2 _ rfl; have x3 := H30.out.desk.box.at 3 _ rfl; have x4 := H30.out.desk.box.at 4 _ rfl; have x5 := H30.out.desk.box.at 5 _ rfl
        have zle := H30.out.desk.box.1
        have H30d := Lib.hid (H30.out.below ((Below.refl w30.heap.size w30).drew))
        go_wp2_with (fail)
        go_region_law (first | (go_simp; go_at_call 139; refine (below_any B0 c a len cap 4 w30.drew hBc H30d.out.lt.2 H30d.out.code H30d.out.cur (by omega) (by omega)).mono ?_; rintro e w31 ⟨⟨y31, l31, m31, rfl⟩, u31, g31⟩; have H31 := Lib.hid (H30d.out.draw g31 u31); have v0 := H31.out.desk.box.at 0 _ rfl; have v1 := H31.out.desk.box.at 1 _ rfl; have v2 := H31.out.desk.box.at 2 _ rfl; have v3 := H31.out.desk.box.at 3 _ rfl; have v4 := H31.out.desk.box.at 4 _ rfl; have v5 := H31.out.desk.box.at 5 _ rfl; clear u31 g31) | (go_simp; go_at_call 110; refine (nam.specTemp_any y31 w31).mono ?_; rintro e w32 ⟨rfl, b32⟩; have H32 := Lib.hid (H31.out.below b32); have s0 := H32.out.desk.box.at 0 _ rfl; have s1 := H32.out.desk.box.at 1 _ rfl; have s2 := H32.out.desk.box.at 2 _ rfl; have s3 := H32.out.desk.box.at 3 _ rfl; have s4 := H32.out.desk.box.at 4 _ rfl; have s5 := H32.out.desk.box.at 5 _ rfl; clear b32) | (go_simp; go_at_call 146; refine (put_any (2600 * k) B0 c a len cap _ d (nam.tmpI y31) { data := #[104, 97, 108, 102] } w32 (by omega) hBc H32.out.lt.1 H32.out.code H32.out.cur SM.out H32.out.desk.own.is (by have := nam.tmpI_size y31; omega) (by decide)).mono ?_; rintro e w9x ⟨u, d2, rfl, hd, sm2, u9x, g9x⟩; obtain ⟨tN, tE, tO, tS, dN, dE, dO, dS, rfl⟩ := own_slices hd; have SM2 := Lib.hid (sm2.mono (show 2600 * k + 2600 ≤ 2600 * (k + 1) by omega)); have b9 := (H32.out.draw g9x u9x).desk; have y0 := b9.box.at 0 _ rfl; have y1 := b9.box.at 1 _ rfl; have y2 := b9.box.at 2 _ rfl; have y3 := b9.box.at 3 _ rfl; have y4 := b9.box.at 4 _ rfl; have y5 := b9.box.at 5 _ rfl; have yf := b9.fz; obtain ⟨_, rfl, HX2⟩ := H32.out.deed2 g9x u9x hd; have HX2 := Lib.hid HX2; clear b9 hd sm2 g9x u9x))
        all_goals
          have HS := Lib.hid (SM2.out.mono (show _ ≤ 13000 by omega))
          have r0 := HX2.out.desk.box.at 0 _ rfl
          have r1 := HX2.out.desk.box.at 1 _ rfl
          have r2 := HX2.out.desk.box.at 2 _ rfl
          have r3 := HX2.out.desk.box.at 3 _ rfl
          have r4 := HX2.out.desk.box.at 4 _ rfl
          have r5 := HX2.out.desk.box.at 5 _ rfl
          obtain ⟨e0, e1, e2, e3, e4, e5, ho⟩ := HX2.out.desk.out
          have q0 := ho.at 0 _ rfl
          have q1 := ho.at 1 _ rfl
          have q2 := ho.at 2 _ rfl
          have q3 := ho.at 3 _ rfl
          have q4 := ho.at 4 _ rfl
          have q5 := ho.at 5 _ rfl
          have fr2 := HX2.out.desk.fr
          obtain ⟨Z, hZ, hbz, hdz, hcz, hgz⟩ := HX2.out.ret
          have z0 := hbz.at 0 _ rfl
          have z1 := hbz.at 1 _ rfl
          have z2 := hbz.at 2 _ rfl
          have z3 := hbz.at 3 _ rfl
          have z4 := hbz.at 4 _ rfl
          have z5 := hbz.at 5 _ rfl
          have HZ := Lib.hid hZ
          clear hZ hbz ho
          go_wp2
          rw [HZ.out]
          refine bodyPost_ret (v := .agg #[.slice tN d2.nodes.length dN, .slice tE d2.ents.length dE, .slice tO d2.old.length dO, .slice tS d2.steps.length dS, .int .i64 d2.room, .int .i64 d2.next]) (by simp [results, Tryz.results98, go_sem, z0, z1, z2, z3, z4, z5]) rfl ⟨_, _, rfl, hdz, HS.out, hcz, hgz⟩
      · obtain ⟨aN, aE, aO, aS, cN, cE, cO, cS, rfl, rfl, rfl, rfl, _, _, _, _⟩ := H30.out.desk.shapes
        have x0 := H30.out.desk.box.at 0 _ rfl; have x1 := H30.out.desk.box.at 1 _ rfl; have x2 := H30.out.desk.box.at 2 _ rfl; have x3 := H30.out.desk.box.at 3 _ rfl; have x4 := H30.out.desk.box.at 4 _ rfl; have x5 := H30.out.desk.box.at 5 _ rfl
        have zle := H30.out.desk.box.1
        have H30d := Lib.hid (H30.out.below ((Below.refl w30.heap.size w30).drew))
        go_wp2_with (fail)
        go_region_law (first | (go_simp; go_at_call 139; refine (below_any B0 c a len cap 9 w30.drew hBc H30d.out.lt.2 H30d.out.code H30d.out.cur (by omega) (by omega)).mono ?_; rintro e w31 ⟨⟨y31, l31, m31, rfl⟩, u31, g31⟩; have H31 := Lib.hid (H30d.out.draw g31 u31); have v0 := H31.out.desk.box.at 0 _ rfl; have v1 := H31.out.desk.box.at 1 _ rfl; have v2 := H31.out.desk.box.at 2 _ rfl; have v3 := H31.out.desk.box.at 3 _ rfl; have v4 := H31.out.desk.box.at 4 _ rfl; have v5 := H31.out.desk.box.at 5 _ rfl; clear u31 g31) | (go_simp; go_at_call 104; refine (nam.specSeg_any (IntKind.i64.wrap (20 + y31)) w31).mono ?_; rintro e w32 ⟨rfl, b32⟩; have H32 := Lib.hid (H31.out.below b32); have s0 := H32.out.desk.box.at 0 _ rfl; have s1 := H32.out.desk.box.at 1 _ rfl; have s2 := H32.out.desk.box.at 2 _ rfl; have s3 := H32.out.desk.box.at 3 _ rfl; have s4 := H32.out.desk.box.at 4 _ rfl; have s5 := H32.out.desk.box.at 5 _ rfl; clear b32) | (go_simp; go_at_call 147; refine (file10_any B0 c a len cap w32 hBc H32.out.lt.1 H32.out.code H32.out.cur).mono ?_; rintro e w33 ⟨⟨t33, z33, rfl⟩, u33, g33⟩; have H33 := Lib.hid (H32.out.draw g33 u33); have t0 := H33.out.desk.box.at 0 _ rfl; have t1 := H33.out.desk.box.at 1 _ rfl; have t2 := H33.out.desk.box.at 2 _ rfl; have t3 := H33.out.desk.box.at 3 _ rfl; have t4 := H33.out.desk.box.at 4 _ rfl; have t5 := H33.out.desk.box.at 5 _ rfl; clear u33 g33) | (go_simp; go_at_call 146; refine (put_any (2600 * k) B0 c a len cap _ d (nam.segI (IntKind.i64.wrap (20 + y31))) t33 w33 (by omega) hBc H33.out.lt.1 H33.out.code H33.out.cur SM.out H33.out.desk.own.is (Nat.le_trans (nam.segI_size _) (by decide)) (by omega)).mono ?_; rintro e w9x ⟨u, d2, rfl, hd, sm2, u9x, g9x⟩; obtain ⟨tN, tE, tO, tS, dN, dE, dO, dS, rfl⟩ := own_slices hd; have SM2 := Lib.hid (sm2.mono (show 2600 * k + 2600 ≤ 2600 * (k + 1) by omega)); have b9 := (H33.out.draw g9x u9x).desk; have y0 := b9.box.at 0 _ rfl; have y1 := b9.box.at 1 _ rfl; have y2 := b9.box.at 2 _ rfl; have y3 := b9.box.at 3 _ rfl; have y4 := b9.box.at 4 _ rfl; have y5 := b9.box.at 5 _ rfl; have yf := b9.fz; obtain ⟨_, rfl, HX2⟩ := H33.out.deed2 g9x u9x hd; have HX2 := Lib.hid HX2; clear b9 hd sm2 g9x u9x))
        all_goals
          have HS := Lib.hid (SM2.out.mono (show _ ≤ 13000 by omega))
          have r0 := HX2.out.desk.box.at 0 _ rfl
          have r1 := HX2.out.desk.box.at 1 _ rfl
          have r2 := HX2.out.desk.box.at 2 _ rfl
          have r3 := HX2.out.desk.box.at 3 _ rfl
          have r4 := HX2.out.desk.box.at 4 _ rfl
          have r5 := HX2.out.desk.box.at 5 _ rfl
          obtain ⟨e0, e1, e2, e3, e4, e5, ho⟩ := HX2.out.desk.out
          have q0 := ho.at 0 _ rfl
          have q1 := ho.at 1 _ rfl
          have q2 := ho.at 2 _ rfl
          have q3 := ho.at 3 _ rfl
          have q4 := ho.at 4 _ rfl
          have q5 := ho.at 5 _ rfl
          have fr2 := HX2.out.desk.fr
          obtain ⟨Z, hZ, hbz, hdz, hcz, hgz⟩ := HX2.out.ret
          have z0 := hbz.at 0 _ rfl
          have z1 := hbz.at 1 _ rfl
          have z2 := hbz.at 2 _ rfl
          have z3 := hbz.at 3 _ rfl
          have z4 := hbz.at 4 _ rfl
          have z5 := hbz.at 5 _ rfl
          have HZ := Lib.hid hZ
          clear hZ hbz ho
          go_wp2
          rw [HZ.out]
          refine bodyPost_ret (v := .agg #[.slice tN d2.nodes.length dN, .slice tE d2.ents.length dE, .slice tO d2.old.length dO, .slice tS d2.steps.length dS, .int .i64 d2.room, .int .i64 d2.next]) (by simp [results, Tryz.results98, go_sem, z0, z1, z2, z3, z4, z5]) rfl ⟨_, _, rfl, hdz, HS.out, hcz, hgz⟩
      · obtain ⟨aN, aE, aO, aS, cN, cE, cO, cS, rfl, rfl, rfl, rfl, _, _, _, _⟩ := H30.out.desk.shapes
        have x0 := H30.out.desk.box.at 0 _ rfl; have x1 := H30.out.desk.box.at 1 _ rfl; have x2 := H30.out.desk.box.at 2 _ rfl; have x3 := H30.out.desk.box.at 3 _ rfl; have x4 := H30.out.desk.box.at 4 _ rfl; have x5 := H30.out.desk.box.at 5 _ rfl
        have zle := H30.out.desk.box.1
        have H30d := Lib.hid (H30.out.below ((Below.refl w30.heap.size w30).drew))
        go_wp2_with (fail)
        refine (put_any (2600 * k) B0 c a len cap _ d _ _ w30 (by omega) hBc H30.out.lt.1 H30.out.code H30.out.cur SM.out H30.out.desk.own.is (by decide) (by decide)).mono ?_
        rintro e w9x ⟨u, d2, rfl, hd, sm2, u9x, g9x⟩
        obtain ⟨tN, tE, tO, tS, dN, dE, dO, dS, rfl⟩ := own_slices hd
        have SM2 := Lib.hid sm2
        have b9 := (H30.out.draw g9x u9x).desk
        have y0 := b9.box.at 0 _ rfl
        have y1 := b9.box.at 1 _ rfl
        have y2 := b9.box.at 2 _ rfl
        have y3 := b9.box.at 3 _ rfl
        have y4 := b9.box.at 4 _ rfl
        have y5 := b9.box.at 5 _ rfl
        have yf := b9.fz
        obtain ⟨_, rfl, HX2⟩ := H30.out.deed2 g9x u9x hd
        have HX2 := Lib.hid HX2
        clear b9 hd sm2 g9x u9x x0 x1 x2 x3 x4 x5
        have HS := Lib.hid (SM2.out.mono (show _ ≤ 13000 by omega))
        have r0 := HX2.out.desk.box.at 0 _ rfl
        have r1 := HX2.out.desk.box.at 1 _ rfl
        have r2 := HX2.out.desk.box.at 2 _ rfl
        have r3 := HX2.out.desk.box.at 3 _ rfl
        have r4 := HX2.out.desk.box.at 4 _ rfl
        have r5 := HX2.out.desk.box.at 5 _ rfl
        obtain ⟨e0, e1, e2, e3, e4, e5, ho⟩ := HX2.out.desk.out
        have q0 := ho.at 0 _ rfl
        have q1 := ho.at 1 _ rfl
        have q2 := ho.at 2 _ rfl
        have q3 := ho.at 3 _ rfl
        have q4 := ho.at 4 _ rfl
        have q5 := ho.at 5 _ rfl
        have fr2 := HX2.out.desk.fr
        obtain ⟨Z, hZ, hbz, hdz, hcz, hgz⟩ := HX2.out.ret
        have z0 := hbz.at 0 _ rfl
        have z1 := hbz.at 1 _ rfl
        have z2 := hbz.at 2 _ rfl
        have z3 := hbz.at 3 _ rfl
        have z4 := hbz.at 4 _ rfl
        have z5 := hbz.at 5 _ rfl
        have HZ := Lib.hid hZ
        clear hZ hbz ho
        go_wp2
        rw [HZ.out]
        refine bodyPost_ret (v := .agg #[.slice tN d2.nodes.length dN, .slice tE d2.ents.length dE, .slice tO d2.old.length dO, .slice tS d2.steps.length dS, .int .i64 d2.room, .int .i64 d2.next]) (by simp [results, Tryz.results98, go_sem, z0, z1, z2, z3, z4, z5]) rfl ⟨_, _, rfl, hdz, HS.out, hcz, hgz⟩
      · have HS := Lib.hid (SM.out.mono (show _ ≤ 13000 by omega))
        obtain ⟨pN, pE, pO, pS, qN, qE, qO, qS, rfl, rfl, rfl, rfl, _, _, _, _⟩ := H30.out.desk.shapes
        have r0 := H30.out.desk.box.at 0 _ rfl
        have r1 := H30.out.desk.box.at 1 _ rfl
        have r2 := H30.out.desk.box.at 2 _ rfl
        have r3 := H30.out.desk.box.at 3 _ rfl
        have r4 := H30.out.desk.box.at 4 _ rfl
        have r5 := H30.out.desk.box.at 5 _ rfl
        obtain ⟨e0, e1, e2, e3, e4, e5, ho⟩ := H30.out.desk.out
        have q0 := ho.at 0 _ rfl
        have q1 := ho.at 1 _ rfl
        have q2 := ho.at 2 _ rfl
        have q3 := ho.at 3 _ rfl
        have q4 := ho.at 4 _ rfl
        have q5 := ho.at 5 _ rfl
        have fr2 := H30.out.desk.fr
        obtain ⟨Z, hZ, hbz, hdz, hcz, hgz⟩ := H30.out.ret
        have z0 := hbz.at 0 _ rfl
        have z1 := hbz.at 1 _ rfl
        have z2 := hbz.at 2 _ rfl
        have z3 := hbz.at 3 _ rfl
        have z4 := hbz.at 4 _ rfl
        have z5 := hbz.at 5 _ rfl
        have HZ := Lib.hid hZ
        clear hZ hbz ho
        go_wp2
        rw [HZ.out]
        refine bodyPost_ret (v := .agg #[.slice pN d.nodes.length qN, .slice pE d.ents.length qE, .slice pO d.old.length qO, .slice pS d.steps.length qS, .int .i64 d.room, .int .i64 d.next]) (by simp [results, Tryz.results98, go_sem, z0, z1, z2, z3, z4, z5]) rfl ⟨_, _, rfl, hdz, HS.out, hcz, hgz⟩

end Go.Proofs.YtiehfobcbhgfkaaGreatDoor.deed
