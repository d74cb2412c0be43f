/-
  Drawn disks: what is sure is in order, too. Facts.
-/
import Derived.Test.YtdacdbidennjhaaGreatDoorDqW
import Derived.Test.YtdacdbidennjhaaGreatDoorDrX
namespace Go.Proofs.YtdacdbidennjhaaGreatDoor.deed
open Go.RowKit
open kit strs recs disk kd draw

/-- a name ahead of "z" -/
def Lz (s : ByteArray) : Prop := lessB s { data := #[122] } = true
structure Sz (K : Nat) (d : D) : Prop where
  sm : Sm K d
  srt : ik.Srt d.old
  nok : ik.Nok d.old
  lo : ∀ e ∈ d.old, Lz e.1
  le : ∀ e ∈ d.ents, Lz e.1
structure Sy (K : Nat) (d : D) : Prop where
  sm : Sm K d
  srt : ik.Srt d.old
  nok : ik.Nok d.old
theorem Sz.ok {K : Nat} {d : D} (h : Sz K d) (hK : K ≤ 200000) : okD d := h.sm.ok hK
theorem Sz.mono {K L : Nat} {d : D} (h : Sz K d) (hK : K ≤ L) : Sz L d := ⟨h.sm.mono hK, h.srt, h.nok, h.lo, h.le⟩
theorem Sz.y {K : Nat} {d : D} (h : Sz K d) : Sy K d := ⟨h.sm, h.srt, h.nok⟩
theorem Sy.mono {K L : Nat} {d : D} (h : Sy K d) (hK : K ≤ L) : Sy L d := ⟨h.sm.mono hK, h.srt, h.nok⟩
theorem sz_of {K L : Nat} {d x : D} (h : Sz K d) (hx : Sm L x) (ho : x.old = d.old) (he : ∀ e ∈ x.ents, Lz e.1) : Sz L x :=
  ⟨hx, by rw [ho]; exact h.srt, by rw [ho]; exact h.nok, by rw [ho]; exact h.lo, he⟩
theorem sz_new (x : Int) (h : wfI x) : Sz 0 ⟨[], [], [], [], x, 1⟩ := ⟨sm_new x h, List.Pairwise.nil, (fun _ h => by cases h), (fun _ h => by cases h), (fun _ h => by cases h)⟩
theorem sz_remove {K : Nat} {d : D} {s : ByteArray} (h : Sz K d) (hK : K ≤ 200000) : Sz (K + 400) (removeFile d s).1 := by
  refine sz_of h (sm_remove h.sm hK) ?_ ?_
  · unfold removeFile; split <;> rfl
  · unfold removeFile
    split
    · exact h.le
    · intro e he
      exact h.le e (List.mem_filter.1 (show e ∈ dropE d.ents s from he)).1
theorem sz_rename {K : Nat} {d : D} {s t : ByteArray} (h : Sz K d) (hK : K ≤ 200000) (ht : Lz t) : Sz (K + 400) (renameFile d s t).1 := by
  refine sz_of h (sm_rename h.sm hK) ?_ ?_
  · unfold renameFile; repeat' split
    all_goals rfl
  · unfold renameFile
    repeat' split
    · exact h.le
    · exact h.le
    · intro e he
      rcases putE_mem (show e ∈ putE (dropE d.ents s) (t, idE d.ents s) from he) with rfl | he
      · exact ht
      · exact h.le e (List.mem_filter.1 he).1
theorem sz_create {K : Nat} {d : D} {s : ByteArray} (h : Sz K d) (hK : K ≤ 200000) (hs : Lz s) : Sz (K + 400) (createFile d s).1 := by
  refine sz_of h (sm_create h.sm hK) ?_ ?_
  · unfold createFile; repeat' split
    all_goals rfl
  · unfold createFile
    repeat' split
    · exact h.le
    · exact h.le
    · exact h.le
    · exact h.le
    · intro e he
      rcases putE_mem (show e ∈ putE d.ents (s, d.next) from he) with rfl | he
      · exact hs
      · exact h.le e he
theorem sz_syncFile {K : Nat} {d : D} {s : ByteArray} (h : Sz K d) (hK : K ≤ 200000) : Sz (K + 400) (syncFile d s).1 := by
  refine sz_of h (sm_syncFile h.sm hK) ?_ ?_
  · unfold syncFile; split <;> rfl
  · unfold syncFile; split <;> exact h.le
theorem sz_append {K : Nat} {d : D} {s t : ByteArray} (h : Sz K d) (hK : K ≤ 200000) (ht : t.size ≤ 400) : Sz (K + 400) (appendFile d s t).1 := by
  refine sz_of h (sm_append h.sm hK ht) ?_ ?_
  · unfold appendFile; repeat' split
    all_goals rfl
  · unfold appendFile; repeat' split
    all_goals exact h.le
theorem sz_syncNames {K : Nat} {d : D} (h : Sz K d) (hK : K ≤ 200000) : Sz (K + 400) (syncNames d) := by
  have hm := sm_syncNames h.sm hK
  by_cases hd : diskOk d = false
  · have e : syncNames d = d := by unfold syncNames; rw [if_pos hd]
    rw [e] at hm ⊢
    exact ⟨hm, h.srt, h.nok, h.lo, h.le⟩
  · have e : syncNames d = clean { d with old := d.ents, steps := [] } := by unfold syncNames; rw [if_neg hd]
    rw [e] at hm ⊢
    have hr := right_srt (d := d) (by simpa using hd)
    exact ⟨hm, hr.1, hr.2, h.le, h.le⟩
theorem sy_room {K : Nat} {d : D} {x : Int} (h : Sz K d) (hx : wfI x) : Sy K { d with room := x } := ⟨sm_room h.sm hx, h.srt, h.nok⟩
theorem sy_next {K : Nat} {d : D} {x : Int} (h : Sz K d) (hx : wfI x) : Sy K { d with next := x } := ⟨sm_next h.sm hx, h.srt, h.nok⟩
theorem sy_ents {K : Nat} {d : D} {e : Ent} (h : Sz K d) (hK : K ≤ 200000) (he : e.1.size ≤ 20 ∧ wfI e.2) : Sy (K + 400) { d with ents := d.ents ++ [e] } := ⟨sm_ents h.sm hK he, h.srt, h.nok⟩
theorem sy_steps {K : Nat} {d : D} {s : ByteArray} (h : Sz K d) (hK : K ≤ 200000) (hs : s.size ≤ 20) : Sy (K + 400) { d with steps := d.steps ++ [s] } := ⟨sm_steps h.sm hK hs, h.srt, h.nok⟩
theorem sy_set {K t : Nat} {d : D} {k : Nat} {n m : Nod} (h : Sz K d) (hK : K ≤ 200000) (hx : d.nodes[k]? = some n) (hm : wfI m.1 ∧ wfI m.2.2) (hz : m.2.1.size ≤ n.2.1.size + t) (ht : t ≤ 400) : Sy (K + 400) { d with nodes := d.nodes.set k m } := ⟨sm_set h.sm hK hx hm hz ht, h.srt, h.nok⟩
theorem z_nok : nam.nok { data := #[122] } = true := by decide +kernel
theorem sy_old {K : Nat} {d : D} {i : Int} (h : Sz K d) (hK : K ≤ 200000) (he : (({ data := #[122] }, i) : Ent).1.size ≤ 20 ∧ wfI (({ data := #[122] }, i) : Ent).2) : Sy (K + 400) { d with old := d.old ++ [({ data := #[122] }, i)] } := by
  refine ⟨sm_old h.sm hK he, ?_, ?_⟩
  · refine List.pairwise_append.2 ⟨h.srt, List.pairwise_singleton _ _, fun a ha b hb => ?_⟩
    rw [List.mem_singleton] at hb
    subst hb
    exact h.lo a ha
  · intro e he
    rcases List.mem_append.1 he with he | he
    · exact h.nok e he
    · rw [List.mem_singleton] at he
      subst he
      exact z_nok

end Go.Proofs.YtdacdbidennjhaaGreatDoor.deed

namespace Go.Proofs.YtdacdbidennjhaaGreatDoor.deed
open Go.RowKit
open kit strs recs disk kd draw

def PostDz (K c : Nat) (a : Option Addr) (len cap : Nat) (w : World) (e : Ending) (w' : World) : Prop :=
  ∃ u d, e = .returned u ∧ OwnDisk w.heap.size w' u d ∧ Sz K d ∧ Cur w' c a len cap ∧ w.grownBy w' (some c)
def PostDy (K c : Nat) (a : Option Addr) (len cap : Nat) (w : World) (e : Ending) (w' : World) : Prop :=
  ∃ u d, e = .returned u ∧ OwnDisk w.heap.size w' u d ∧ Sy K d ∧ Cur w' c a len cap ∧ w.grownBy w' (some c)

set_option maxHeartbeats 16000000 in
set_option maxRecDepth 100000 in
theorem disk_anyz (B0 c : Nat) (a : Option Addr) (len cap : Nat) (w : World) (hBc : B0 ≤ c) (hcw : c < w.heap.size) (hc : CodeAt w B0 a len) (hu : Cur w c a len cap) :
    Calls Tryz.prog 124 #[.pointer (some ⟨c, 0, none⟩)] w (PostDz 6400 c a len cap w) := by
  obtain ⟨W, hW⟩ : ∃ W, W = w.alloc (.cells #[.slice none 0 0, .slice none 0 0, .slice none 0 0, .slice none 0 0, .int .i64 0, .int .i64 0] 28) := ⟨_, rfl⟩
  have hWB : Below w.heap.size w W := by rw [hW]; exact (Below.refl _ _).alloc (Nat.le_refl _) _
  have hsz : w.heap.size + 1 = W.heap.size := by rw [hW]; simp
  have br := show disk.Box W w.heap.size [.slice none 0 0, .slice none 0 0, .slice none 0 0, .slice none 0 0, .int .i64 0, .int .i64 0] from by rw [hW]; exact Box.new w #[.slice none 0 0, .slice none 0 0, .slice none 0 0, .slice none 0 0, .int .i64 0, .int .i64 0] _
  have fr : ∀ j, W.frozen? ⟨w.heap.size, j, none⟩ = false := fun j => by rw [hW]; simp
  have cW := hc.below (hWB.mono (by omega))
  have uW := hu.below (hWB.mono (by omega))
  have BR := Lib.hid br
  have FR := Lib.hid fr
  have HW := Lib.hid hWB
  clear br fr hWB hc hu
  go_enter Tryz.func124, Tryz.ntmps124
  go_wp2_with (fail)
  rw [← hW]
  clear hW
  go_wp2_with (fail)
  refine (pickInt_new B0 c 5 a len cap [4000, 4000, 4000, 300, 100] W hBc (by omega) cW uW rfl (by decide) (by decide)).mono ?_
  rintro e w1 ⟨x, hx, rfl, u1, g1⟩
  have hx2 : 0 ≤ x ∧ x ≤ 4000 := by
    simp only [List.mem_cons, List.not_mem_nil, or_false] at hx
    omega
  have code1 := cW.grown hBc (by omega) g1
  have hs1 := g1.size
  go_wp2_with (fail)
  refine (specDiskNew x w1).mono ?_
  rw [if_neg (show ¬ x < 0 by omega)]
  rintro e w2 ⟨rfl, hb2⟩
  have HG2 := Lib.hid (grown_below g1 (hb2.mono hs1))
  have B2 := Lib.hid ((box_keep BR.out g1 (by omega)).below hb2)
  have F2 := Lib.hid (frozen_below (frozen_keep FR.out BR.out.1 g1 (by omega)) (box_keep BR.out g1 (by omega)).1 hb2)
  have C2 := Lib.hid (u1.below (hb2.mono (by omega)))
  have K2 := Lib.hid (code1.below (hb2.mono (by omega)))
  have hs2 := hb2.size
  obtain ⟨V, hV⟩ : ∃ V, V = w2.alloc (.cells #[.slice none 0 0, .slice none 0 0, .slice none 0 0, .slice none 0 0, .int .i64 x, .int .i64 1] 28) := ⟨_, rfl⟩
  have bV : Below w2.heap.size w2 V := by rw [hV]; exact (Below.refl _ _).alloc (Nat.le_refl _) _
  have sV : V.heap.size = w2.heap.size + 1 := by rw [hV]; simp
  have DW : Drw V.heap.size B0 c a len cap w V w2.heap.size w.heap.size (.slice none 0 0) (.slice none 0 0) (.slice none 0 0) (.slice none 0 0) ⟨[], [], [], [], x, 1⟩ := by
    refine ⟨⟨?_, ?_, ⟨_, _, _, _, _, _, B2.out.below bV⟩, frozen_below F2.out B2.out.1 bV, own_newD _ _ _, by omega, by omega, by omega, Nat.le_refl _⟩, C2.out.below (bV.mono (by omega)), K2.out.below (bV.mono (by omega)), ?_, hBc, hcw, by omega, Nat.le_refl _⟩
    · rw [hV]; exact Box.new w2 #[.slice none 0 0, .slice none 0 0, .slice none 0 0, .slice none 0 0, .int .i64 x, .int .i64 1] _
    · intro j; rw [hV]; simp
    · exact grown_below (grown_trans (grown_below (grown_refl w (some c)) HW.out) HG2.out) (bV.mono (by omega))
  have DW := Lib.hid DW
  have SM := Lib.hid (sz_new x (by unfold wfI; omega))
  clear B2 F2 C2 K2 HG2 u1 g1 code1 hb2 hx cW uW bV BR FR HW
  go_wp2
  rw [← hV]
  clear hV
  go_loopw [4] (fun i wr => ∃ (k : Nat) (sN sE sO sS : Value) (d : D), k ≤ 8 ∧ i = .int .i64 k ∧ Hid (Sz (800 * k) d) ∧ Hid (Drw V.heap.size B0 c a len cap w wr w2.heap.size w.heap.size sN sE sO sS d)) (fun i _ => 8 - (intOf i).toNat)
  case atStart => exact ⟨0, _, _, _, _, _, Nat.zero_le _, rfl, SM, DW⟩
  case round =>
    clear DW SM
    obtain ⟨k, sN, sE, sO, sS, d, hk, rfl, SM, H0⟩ := hrel
    go_wp2_with (fail)
    refine (below_any B0 c a len cap 9 wr hBc H0.out.lt.2 H0.out.code H0.out.cur (by omega) (by omega)).mono ?_
    rintro e w3 ⟨⟨z, l3, m3, rfl⟩, u3, g3⟩
    have H1 := Lib.hid (H0.out.draw g3 u3)
    clear H0 g3 u3
    obtain ⟨aN, aE, aO, aS, cN, cE, cO, cS, rfl, rfl, rfl, rfl, _, _, _, _⟩ := H1.out.desk.shapes
    by_cases hlt : (k : Int) < z
    · have OK := Lib.hid (SM.out.ok (by omega))
      go_wp2_with (fail)
      refine (pick_new B0 c 6 a len cap [{ data := #[97] }, { data := #[98] }, { data := #[115, 48, 48, 48, 48, 48, 48, 48, 48, 46, 115, 101, 103] }, { data := #[115, 48, 48, 48, 48, 48, 48, 48, 51, 46, 115, 101, 103] }, { data := #[115, 48, 48, 48, 48, 48, 48, 48, 48, 46, 115, 101, 103, 46, 116, 109, 112] }, { data := #[99] }] w3 hBc H1.out.lt.1 H1.out.code H1.out.cur rfl (by decide) (by decide)).mono ?_
      rintro e w4 ⟨s, hs, rfl, u4, g4⟩
      have hlz : Lz s := by
        simp only [List.mem_cons, List.not_mem_nil, or_false] at hs
        rcases hs with rfl | rfl | rfl | rfl | rfl | rfl <;> (unfold Lz; decide +kernel)
      have hsz2 : s.size ≤ 17 := by
        simp only [List.mem_cons, List.not_mem_nil, or_false] at hs
        rcases hs with rfl | rfl | rfl | rfl | rfl | rfl <;> decide
      have H2 := Lib.hid (H1.out.draw g4 u4)
      clear H1 g4 u4 hs
      go_wp2_with (fail)
      refine (below_any B0 c a len cap 8 w4 hBc H2.out.lt.2 H2.out.code H2.out.cur (by omega) (by omega)).mono ?_
      rintro e w5 ⟨⟨y, l5, m5, rfl⟩, u5, g5⟩
      have H3 := Lib.hid (H2.out.draw g5 u5)
      clear H2 g5 u5
      have x0 := H3.out.desk.box.at 0 _ rfl
      have x1 := H3.out.desk.box.at 1 _ rfl
      have x2 := H3.out.desk.box.at 2 _ rfl
      have x3 := H3.out.desk.box.at 3 _ rfl
      have x4 := H3.out.desk.box.at 4 _ rfl
      have x5 := H3.out.desk.box.at 5 _ rfl
      have fz := H3.out.desk.fz
      rcases (show y = 0 ∨ y = 1 ∨ y = 2 ∨ y = 3 ∨ y = 4 ∨ y = 5 ∨ (¬ y = 0 ∧ ¬ y = 1 ∧ ¬ y = 2 ∧ ¬ y = 3 ∧ ¬ y = 4 ∧ ¬ y = 5) by omega) with rfl | rfl | rfl | rfl | rfl | rfl | ⟨n0, n1, n2, n3, n4, n5⟩
      · go_wp2_with (fail)
        refine (specRemove _ d s w5 OK.out H3.out.desk.own.is).mono ?_
        rintro e w6 ⟨u, rfl, hd, hb⟩
        obtain ⟨tN, tE, tO, tS, dN, dE, dO, dS, rfl⟩ := own_slices hd
        have SM2 := Lib.hid ((sz_remove (s := s) SM.out (by omega)).mono (show 800 * k + 400 ≤ 800 * (k + 1) by omega))
        have b6 := H3.out.desk.below hb
        have y0 := b6.box.at 0 _ rfl
        have y1 := b6.box.at 1 _ rfl
        have y2 := b6.box.at 2 _ rfl
        have y3 := b6.box.at 3 _ rfl
        have y4 := b6.box.at 4 _ rfl
        have y5 := b6.box.at 5 _ rfl
        have yf := b6.fz
        obtain ⟨_, rfl, HX⟩ := H3.out.deed hb hd
        have HX := Lib.hid HX
        clear b6 hd hb x0 x1 x2 x3 x4 x5 fz
        go_wp2
        go_roundw
        case rel => exact ⟨k + 1, _, _, _, _, _, by omega, by go_num, SM2, HX⟩
        case measure => simp [intOf]; omega
      · go_wp2_with (fail)
        refine (specSyncNames _ d w5 OK.out H3.out.desk.own.is).mono ?_
        rintro e w6 ⟨u, rfl, hd, hb⟩
        obtain ⟨tN, tE, tO, tS, dN, dE, dO, dS, rfl⟩ := own_slices hd
        have SM2 := Lib.hid ((sz_syncNames SM.out (by omega)).mono (show 800 * k + 400 ≤ 800 * (k + 1) by omega))
        have b6 := H3.out.desk.below hb
        have y0 := b6.box.at 0 _ rfl
        have y1 := b6.box.at 1 _ rfl
        have y2 := b6.box.at 2 _ rfl
        have y3 := b6.box.at 3 _ rfl
        have y4 := b6.box.at 4 _ rfl
        have y5 := b6.box.at 5 _ rfl
        have yf := b6.fz
        obtain ⟨_, rfl, HX⟩ := H3.out.deed hb hd
        have HX := Lib.hid HX
        clear b6 hd hb x0 x1 x2 x3 x4 x5 fz
        go_wp2
        go_roundw
        case rel => exact ⟨k + 1, _, _, _, _, _, by omega, by go_num, SM2, HX⟩
        case measure => simp [intOf]; omega
      · go_wp2_with (fail)
        refine (specSync _ d s w5 OK.out H3.out.desk.own.is).mono ?_
        rintro e w6 ⟨u, rfl, hd, hb⟩
        obtain ⟨tN, tE, tO, tS, dN, dE, dO, dS, rfl⟩ := own_slices hd
        have SM2 := Lib.hid ((sz_syncFile (s := s) SM.out (by omega)).mono (show 800 * k + 400 ≤ 800 * (k + 1) by omega))
        have b6 := H3.out.desk.below hb
        have y0 := b6.box.at 0 _ rfl
        have y1 := b6.box.at 1 _ rfl
        have y2 := b6.box.at 2 _ rfl
        have y3 := b6.box.at 3 _ rfl
        have y4 := b6.box.at 4 _ rfl
        have y5 := b6.box.at 5 _ rfl
        have yf := b6.fz
        obtain ⟨_, rfl, HX⟩ := H3.out.deed hb hd
        have HX := Lib.hid HX
        clear b6 hd hb x0 x1 x2 x3 x4 x5 fz
        go_wp2
        go_roundw
        case rel => exact ⟨k + 1, _, _, _, _, _, by omega, by go_num, SM2, HX⟩
        case measure => simp [intOf]; omega
      · have H3d := Lib.hid (H3.out.below ((Below.refl w5.heap.size w5).drew))
        have zl5 := H3.out.desk.box.1
        go_wp2
        go_region_law (first | (go_simp; go_at_call 125; refine (pick_new B0 c 3 a len cap [{ data := #[98] }, { data := #[120] }, { data := #[115, 48, 48, 48, 48, 48, 48, 48, 51, 46, 115, 101, 103] }] w5.drew hBc H3d.out.lt.1 H3d.out.code H3d.out.cur rfl (by decide) (by decide)).mono ?_; rintro e w6 ⟨t, ht, rfl, u6, g6⟩; have hltz : Lz t := (by simp only [List.mem_cons, List.not_mem_nil, or_false] at ht; rcases ht with rfl | rfl | rfl <;> (unfold Lz; decide +kernel)); have htz : t.size ≤ 17 := (by simp only [List.mem_cons, List.not_mem_nil, or_false] at ht; rcases ht with rfl | rfl | rfl <;> decide); have H4 := Lib.hid (H3d.out.draw g6 u6); have v0 := H4.out.desk.box.at 0 _ rfl; have v1 := H4.out.desk.box.at 1 _ rfl; have v2 := H4.out.desk.box.at 2 _ rfl; have v3 := H4.out.desk.box.at 3 _ rfl; have v4 := H4.out.desk.box.at 4 _ rfl; have v5 := H4.out.desk.box.at 5 _ rfl; clear ht) | (go_simp; go_at_call 24; refine (specRename _ d s t w6 OK.out (by omega) H4.out.desk.own.is).mono ?_; rintro e w7 ⟨u, rfl, hd, hb⟩; obtain ⟨tN, tE, tO, tS, dN, dE, dO, dS, rfl⟩ := own_slices hd; have SM2 := Lib.hid ((sz_rename (s := s) (t := t) SM.out (by omega) hltz).mono (show 800 * k + 400 ≤ 800 * (k + 1) by omega)); have b6 := H4.out.desk.below hb; have y0 := b6.box.at 0 _ rfl; have y1 := b6.box.at 1 _ rfl; have y2 := b6.box.at 2 _ rfl; have y3 := b6.box.at 3 _ rfl; have y4 := b6.box.at 4 _ rfl; have y5 := b6.box.at 5 _ rfl; have yf := b6.fz; obtain ⟨_, rfl, HX⟩ := H4.out.deed hb hd; have HX := Lib.hid HX; clear b6 hd hb))
        all_goals
          go_wp2
          go_roundw
          case rel => exact ⟨k + 1, _, _, _, _, _, by omega, by go_num, SM2, HX⟩
          case measure => simp [intOf]; omega
      · go_wp2_with (fail)
        refine (specCreate _ d s w5 OK.out (by omega) H3.out.desk.own.is).mono ?_
        rintro e w6 ⟨u, rfl, hd, hb⟩
        obtain ⟨tN, tE, tO, tS, dN, dE, dO, dS, rfl⟩ := own_slices hd
        have SM2 := Lib.hid ((sz_create (s := s) SM.out (by omega) hlz).mono (show 800 * k + 400 ≤ 800 * (k + 1) by omega))
        have b6 := H3.out.desk.below hb
        have y0 := b6.box.at 0 _ rfl
        have y1 := b6.box.at 1 _ rfl
        have y2 := b6.box.at 2 _ rfl
        have y3 := b6.box.at 3 _ rfl
        have y4 := b6.box.at 4 _ rfl
        have y5 := b6.box.at 5 _ rfl
        have yf := b6.fz
        obtain ⟨_, rfl, HX⟩ := H3.out.deed hb hd
        have HX := Lib.hid HX
        clear b6 hd hb x0 x1 x2 x3 x4 x5 fz
        go_wp2
        go_roundw
        case rel => exact ⟨k + 1, _, _, _, _, _, by omega, by go_num, SM2, HX⟩
        case measure => simp [intOf]; omega
      · go_wp2_with (fail)
        refine (specCreate _ d s w5 OK.out (by omega) H3.out.desk.own.is).mono ?_
        rintro e w6 ⟨u, rfl, hd, hb⟩
        obtain ⟨tN, tE, tO, tS, dN, dE, dO, dS, rfl⟩ := own_slices hd
        have SM2 := Lib.hid ((sz_create (s := s) SM.out (by omega) hlz).mono (show 800 * k + 400 ≤ 800 * (k + 1) by omega))
        have b6 := H3.out.desk.below hb
        have y0 := b6.box.at 0 _ rfl
        have y1 := b6.box.at 1 _ rfl
        have y2 := b6.box.at 2 _ rfl
        have y3 := b6.box.at 3 _ rfl
        have y4 := b6.box.at 4 _ rfl
        have y5 := b6.box.at 5 _ rfl
        have yf := b6.fz
        obtain ⟨_, rfl, HX⟩ := H3.out.deed hb hd
        have HX := Lib.hid HX
        clear b6 hd hb x0 x1 x2 x3 x4 x5 fz
        go_wp2
        go_roundw
        case rel => exact ⟨k + 1, _, _, _, _, _, by omega, by go_num, SM2, HX⟩
        case measure => simp [intOf]; omega
      · go_wp2_with (fail)
        refine (specCreate _ d s w5 OK.out (by omega) H3.out.desk.own.is).mono ?_
        rintro e w6 ⟨u, rfl, hd, hb⟩
        obtain ⟨tN, tE, tO, tS, dN, dE, dO, dS, rfl⟩ := own_slices hd
        have SM1 := Lib.hid (sz_create SM.out (by omega) (s := s) hlz)
        generalize (createFile d s).1 = d1 at hd SM1 ⊢
        have b6 := H3.out.desk.below hb
        have y0 := b6.box.at 0 _ rfl
        have y1 := b6.box.at 1 _ rfl
        have y2 := b6.box.at 2 _ rfl
        have y3 := b6.box.at 3 _ rfl
        have y4 := b6.box.at 4 _ rfl
        have y5 := b6.box.at 5 _ rfl
        have yf := b6.fz
        obtain ⟨X, hX, HX0⟩ := H3.out.deed hb hd
        have HX0 := Lib.hid HX0
        have HX1 := Lib.hid hX
        have OK1 := Lib.hid (SM1.out.ok (by omega))
        clear b6 hd hb x0 x1 x2 x3 x4 x5 fz hX
        go_wp2
        rw [HX1.out]
        clear HX1 y0 y1 y2 y3 y4 y5 yf
        have x0 := HX0.out.desk.box.at 0 _ rfl
        have x1 := HX0.out.desk.box.at 1 _ rfl
        have x2 := HX0.out.desk.box.at 2 _ rfl
        have x3 := HX0.out.desk.box.at 3 _ rfl
        have x4 := HX0.out.desk.box.at 4 _ rfl
        have x5 := HX0.out.desk.box.at 5 _ rfl
        have zlX := HX0.out.desk.box.1
        have HXd := Lib.hid (HX0.out.below ((Below.refl X.heap.size X).drew))
        go_region_law (first | (go_simp; go_at_call 59; refine (below_any B0 c a len cap 12 X.drew hBc HXd.out.lt.2 HXd.out.code HXd.out.cur (by omega) (by omega)).mono ?_; rintro e w7 ⟨⟨q, l7, m7, rfl⟩, u7, g7⟩; obtain ⟨n, rfl⟩ := Int.eq_ofNat_of_zero_le l7; have H7 := Lib.hid (HXd.out.draw g7 u7); have v0 := H7.out.desk.box.at 0 _ rfl; have v1 := H7.out.desk.box.at 1 _ rfl; have v2 := H7.out.desk.box.at 2 _ rfl; have v3 := H7.out.desk.box.at 3 _ rfl; have v4 := H7.out.desk.box.at 4 _ rfl; have v5 := H7.out.desk.box.at 5 _ rfl) | (go_simp; go_at_call 60; refine (text_any B0 c a len cap n w7 hBc H7.out.lt.1 H7.out.code H7.out.cur (by omega)).mono ?_; rintro e w8 ⟨⟨t, htz, rfl⟩, u8, g8⟩; have H8 := Lib.hid (H7.out.draw g8 u8); have r0 := H8.out.desk.box.at 0 _ rfl; have r1 := H8.out.desk.box.at 1 _ rfl; have r2 := H8.out.desk.box.at 2 _ rfl; have r3 := H8.out.desk.box.at 3 _ rfl; have r4 := H8.out.desk.box.at 4 _ rfl; have r5 := H8.out.desk.box.at 5 _ rfl) | (go_simp; go_at_call 14; refine (specAppend _ d1 s t w8 OK1.out (by omega) H8.out.desk.own.is).mono ?_; rintro e w9 ⟨u, rfl, hd, hb⟩; obtain ⟨tN, tE, tO, tS, dN, dE, dO, dS, rfl⟩ := own_slices hd; have SM2 := Lib.hid ((sz_append (s := s) (t := t) SM1.out (by omega) (show t.size ≤ 400 by omega)).mono (show 800 * k + 400 + 400 ≤ 800 * (k + 1) by omega)); have b6 := H8.out.desk.below hb; have y0 := b6.box.at 0 _ rfl; have y1 := b6.box.at 1 _ rfl; have y2 := b6.box.at 2 _ rfl; have y3 := b6.box.at 3 _ rfl; have y4 := b6.box.at 4 _ rfl; have y5 := b6.box.at 5 _ rfl; have yf := b6.fz; obtain ⟨_, rfl, HX⟩ := H8.out.deed hb hd; have HX := Lib.hid HX; clear b6 hd hb))
        all_goals
          go_wp2
          go_roundw
          case rel => exact ⟨k + 1, _, _, _, _, _, by omega, by go_num, SM2, HX⟩
          case measure => simp [intOf]; omega
    · have HS := Lib.hid (SM.out.mono (show 800 * k ≤ 6400 by omega))
      have x0 := H1.out.desk.box.at 0 _ rfl
      have x1 := H1.out.desk.box.at 1 _ rfl
      have x2 := H1.out.desk.box.at 2 _ rfl
      have x3 := H1.out.desk.box.at 3 _ rfl
      have x4 := H1.out.desk.box.at 4 _ rfl
      have x5 := H1.out.desk.box.at 5 _ rfl
      obtain ⟨u0, u1, u2, u3, u4, u5, ho⟩ := H1.out.desk.out
      have q0 := ho.at 0 _ rfl
      have q1 := ho.at 1 _ rfl
      have q2 := ho.at 2 _ rfl
      have q3 := ho.at 3 _ rfl
      have q4 := ho.at 4 _ rfl
      have q5 := ho.at 5 _ rfl
      have fr2 := H1.out.desk.fr
      obtain ⟨Z, hZ, hbz, hdz, hcz, hgz⟩ := H1.out.ret
      have z0 := hbz.at 0 _ rfl
      have z1 := hbz.at 1 _ rfl
      have z2 := hbz.at 2 _ rfl
      have z3 := hbz.at 3 _ rfl
      have z4 := hbz.at 4 _ rfl
      have z5 := hbz.at 5 _ rfl
      have HZ := Lib.hid hZ
      clear hZ hbz ho
      go_wp2
      rw [HZ.out]
      refine bodyPost_ret (v := .agg #[.slice aN d.nodes.length cN, .slice aE d.ents.length cE, .slice aO d.old.length cO, .slice aS d.steps.length cS, .int .i64 d.room, .int .i64 d.next]) (by simp [results, Tryz.results124, go_sem, z0, z1, z2, z3, z4, z5]) rfl ⟨_, _, rfl, hdz, HS.out, hcz, hgz⟩

end Go.Proofs.YtdacdbidennjhaaGreatDoor.deed

namespace Go.Proofs.YtdacdbidennjhaaGreatDoor.deed
open Go.RowKit
open kit strs recs disk kd draw

set_option maxHeartbeats 16000000 in
set_option maxRecDepth 100000 in
theorem any_anyz (B0 c : Nat) (a : Option Addr) (len cap : Nat) (w : World) (hBc : B0 ≤ c) (hcw : c < w.heap.size) (hc : CodeAt w B0 a len) (hu : Cur w c a len cap) :
    Calls Tryz.prog 55 #[.pointer (some ⟨c, 0, none⟩)] w (PostDy 6800 c a len cap w) := by
  obtain ⟨W, hW⟩ : ∃ W, W = w.alloc (.cells #[.slice none 0 0, .slice none 0 0, .slice none 0 0, .slice none 0 0, .int .i64 0, .int .i64 0] 28) := ⟨_, rfl⟩
  have hWB : Below w.heap.size w W := by rw [hW]; exact (Below.refl _ _).alloc (Nat.le_refl _) _
  have hsz : w.heap.size + 1 = W.heap.size := by rw [hW]; simp
  have br := show disk.Box W w.heap.size [.slice none 0 0, .slice none 0 0, .slice none 0 0, .slice none 0 0, .int .i64 0, .int .i64 0] from by rw [hW]; exact Box.new w #[.slice none 0 0, .slice none 0 0, .slice none 0 0, .slice none 0 0, .int .i64 0, .int .i64 0] _
  have fr : ∀ j, W.frozen? ⟨w.heap.size, j, none⟩ = false := fun j => by rw [hW]; simp
  have cW := hc.below (hWB.mono (by omega))
  have uW := hu.below (hWB.mono (by omega))
  have BR := Lib.hid br
  have FR := Lib.hid fr
  have HW := Lib.hid hWB
  clear br fr hWB hc hu
  go_enter Tryz.func55, Tryz.ntmps55
  go_wp2_with (fail)
  rw [← hW]
  clear hW
  refine (disk_anyz B0 c a len cap W hBc (by omega) cW uW).mono ?_
  rintro e w1 ⟨u, d, rfl, hd, sm, u1, g1⟩
  have code1 := cW.grown hBc (by omega) g1
  have hs1 := g1.size
  obtain ⟨aN, aE, aO, aS, cN, cE, cO, cS, rfl⟩ := own_slices hd
  obtain ⟨V, hV⟩ : ∃ V, V = w1.alloc (.cells #[.slice aN d.nodes.length cN, .slice aE d.ents.length cE, .slice aO d.old.length cO, .slice aS d.steps.length cS, .int .i64 d.room, .int .i64 d.next] 28) := ⟨_, rfl⟩
  have bV : Below w1.heap.size w1 V := by rw [hV]; exact (Below.refl _ _).alloc (Nat.le_refl _) _
  have sV : V.heap.size = w1.heap.size + 1 := by rw [hV]; simp
  have br1 := box_keep BR.out g1 (by omega)
  have fr1 := frozen_keep FR.out BR.out.1 g1 (by omega)
  have H0 : Rig W.heap.size B0 c a len cap w V w1.heap.size w.heap.size (.slice aN d.nodes.length cN) (.slice aE d.ents.length cE) (.slice aO d.old.length cO) (.slice aS d.steps.length cS) d := by
    refine ⟨?_, ?_, ⟨_, by rw [hV]; exact heap_alloc_new w1 _⟩, ⟨_, _, _, _, _, _, br1.below bV⟩, frozen_below fr1 br1.1 bV, disk_below hd bV, u1.below (bV.mono (by omega)), code1.below (bV.mono (by omega)), grown_below (grown_trans (grown_below (grown_refl w (some c)) HW.out) g1) (bV.mono (by omega)), by omega, by omega, Nat.le_refl _, by omega, by omega, by omega, hBc, hcw⟩
    · rw [hV]; exact Box.new w1 #[.slice aN d.nodes.length cN, .slice aE d.ents.length cE, .slice aO d.old.length cO, .slice aS d.steps.length cS, .int .i64 d.room, .int .i64 d.next] _
    · intro j; rw [hV]; simp
  have H0 := Lib.hid H0
  have SM := Lib.hid sm
  clear hd u1 g1 code1 bV br1 fr1 BR FR HW cW uW sm
  go_wp2_with (fail)
  rw [← hV]
  clear hV
  refine (below_any B0 c a len cap 16 V hBc H0.out.lt.2 H0.out.code H0.out.cur (by omega) (by omega)).mono ?_
  rintro e w3 ⟨⟨y, l3, m3, rfl⟩, u3, g3⟩
  have H := Lib.hid (H0.out.draw g3 u3)
  clear H0 g3 u3
  have x0 := H.out.box.at 0 _ rfl
  have x1 := H.out.box.at 1 _ rfl
  have x2 := H.out.box.at 2 _ rfl
  have x3 := H.out.box.at 3 _ rfl
  have x4 := H.out.box.at 4 _ rfl
  have x5 := H.out.box.at 5 _ rfl
  have xf := H.out.fz
  obtain ⟨u0, u1, u2, u3, u4, u5, ho⟩ := H.out.out
  have q0 := ho.at 0 _ rfl
  have q1 := ho.at 1 _ rfl
  have q2 := ho.at 2 _ rfl
  have q3 := ho.at 3 _ rfl
  have q4 := ho.at 4 _ rfl
  have q5 := ho.at 5 _ rfl
  have qf := H.out.fr
  clear ho
  have zb := H.out.box.1
  have hnb : ¬ w1.heap.size = w.heap.size := H.out.ne
  have hnb2 : ¬ w.heap.size = w1.heap.size := fun e => H.out.ne e.symm
  have LL : d.nodes.length ≤ 6400 ∧ d.ents.length ≤ 6400 ∧ d.old.length ≤ 6400 ∧ d.steps.length ≤ 6400 := by
    have h1 := SM.out.sm.n
    have h2 := SM.out.sm.e
    have h3 := SM.out.sm.o
    have h4 := SM.out.sm.s
    unfold bulkN at h1
    unfold bulkE at h2 h3
    simp only [List.length_map] at h1 h2 h3
    omega
  have HLL := Lib.hid LL
  clear LL
  rcases (show y = 0 ∨ y = 1 ∨ y = 2 ∨ y = 3 ∨ y = 4 ∨ y = 5 ∨ y = 6 ∨ (¬ y = 0 ∧ ¬ y = 1 ∧ ¬ y = 2 ∧ ¬ y = 3 ∧ ¬ y = 4 ∧ ¬ y = 5 ∧ ¬ y = 6) by omega) with rfl | rfl | rfl | rfl | rfl | rfl | rfl | ⟨n0, n1, n2, n3, n4, n5, n6⟩
  · go_wp2_with (fail)
    refine (pickInt_new B0 c 4 a len cap [-1, 0, 5, 1000000001] w3 hBc H.out.lt.1 H.out.code H.out.cur rfl (by decide) (by decide)).mono ?_
    rintro e w4 ⟨x, hx, rfl, u4, g4⟩
    have hx2 : wfI x := by
      unfold wfI
      simp only [List.mem_cons, List.not_mem_nil, or_false] at hx
      omega
    have H4 := Lib.hid (H.out.draw g4 u4)
    clear x0 x1 x2 x3 x4 x5 xf q0 q1 q2 q3 q4 q5 qf u4 g4 hx
    have x0 := H4.out.box.at 0 _ rfl
    have x1 := H4.out.box.at 1 _ rfl
    have x2 := H4.out.box.at 2 _ rfl
    have x3 := H4.out.box.at 3 _ rfl
    have x4 := H4.out.box.at 4 _ rfl
    have x5 := H4.out.box.at 5 _ rfl
    have xf := H4.out.fz
    obtain ⟨u0, u1, u2, u3, u4, u5, ho⟩ := H4.out.out
    have q0 := ho.at 0 _ rfl
    have q1 := ho.at 1 _ rfl
    have q2 := ho.at 2 _ rfl
    have q3 := ho.at 3 _ rfl
    have q4 := ho.at 4 _ rfl
    have q5 := ho.at 5 _ rfl
    have qf := H4.out.fr
    clear ho
    have H5 := Lib.hid (H4.out.room x)
    have SM2 := Lib.hid ((sy_room SM.out hx2).mono (show 6400 ≤ 6800 by decide))
    obtain ⟨Z, hZ, hbz, hdz, hcz, hgz⟩ : ∃ Z, ((((((w4.setCell ⟨w1.heap.size, 4, none⟩ (.int .i64 x)).setCell ⟨w.heap.size, 0, none⟩ (.slice aN d.nodes.length cN)).setCell ⟨w.heap.size, 1, none⟩ (.slice aE d.ents.length cE)).setCell ⟨w.heap.size, 2, none⟩ (.slice aO d.old.length cO)).setCell ⟨w.heap.size, 3, none⟩ (.slice aS d.steps.length cS)).setCell ⟨w.heap.size, 4, none⟩ (.int .i64 x)).setCell ⟨w.heap.size, 5, none⟩ (.int .i64 d.next) = Z ∧ disk.Box Z w.heap.size [.slice aN d.nodes.length cN, .slice aE d.ents.length cE, .slice aO d.old.length cO, .slice aS d.steps.length cS, .int .i64 x, .int .i64 d.next] ∧ OwnDisk w.heap.size Z (.agg #[.slice aN d.nodes.length cN, .slice aE d.ents.length cE, .slice aO d.old.length cO, .slice aS d.steps.length cS, .int .i64 x, .int .i64 d.next]) ({ d with room := x }) ∧ Cur Z c a len cap ∧ w.grownBy Z (some c) := H5.out.ret
    have z0 := hbz.at 0 _ rfl
    have z1 := hbz.at 1 _ rfl
    have z2 := hbz.at 2 _ rfl
    have z3 := hbz.at 3 _ rfl
    have z4 := hbz.at 4 _ rfl
    have z5 := hbz.at 5 _ rfl
    have HZ := Lib.hid hZ
    clear hZ hbz
    go_wp2
    rw [HZ.out]
    refine bodyPost_ret (v := .agg #[.slice aN d.nodes.length cN, .slice aE d.ents.length cE, .slice aO d.old.length cO, .slice aS d.steps.length cS, .int .i64 x, .int .i64 d.next]) (by simp [results, Tryz.results55, go_sem, z0, z1, z2, z3, z4, z5]) rfl ⟨_, _, rfl, hdz, SM2.out, hcz, by first | exact hgz | exact ⟨hgz.os, hgz.tape, hgz.output, hgz.size, hgz.block⟩⟩
  · go_wp2_with (fail)
    refine (pickInt_new B0 c 5 a len cap [0, 1, 2, -1, 9223372036854775807] w3 hBc H.out.lt.1 H.out.code H.out.cur rfl (by decide) (by decide)).mono ?_
    rintro e w4 ⟨x, hx, rfl, u4, g4⟩
    have hx2 : wfI x := by
      unfold wfI
      simp only [List.mem_cons, List.not_mem_nil, or_false] at hx
      omega
    have H4 := Lib.hid (H.out.draw g4 u4)
    clear x0 x1 x2 x3 x4 x5 xf q0 q1 q2 q3 q4 q5 qf u4 g4 hx
    have x0 := H4.out.box.at 0 _ rfl
    have x1 := H4.out.box.at 1 _ rfl
    have x2 := H4.out.box.at 2 _ rfl
    have x3 := H4.out.box.at 3 _ rfl
    have x4 := H4.out.box.at 4 _ rfl
    have x5 := H4.out.box.at 5 _ rfl
    have xf := H4.out.fz
    obtain ⟨u0, u1, u2, u3, u4, u5, ho⟩ := H4.out.out
    have q0 := ho.at 0 _ rfl
    have q1 := ho.at 1 _ rfl
    have q2 := ho.at 2 _ rfl
    have q3 := ho.at 3 _ rfl
    have q4 := ho.at 4 _ rfl
    have q5 := ho.at 5 _ rfl
    have qf := H4.out.fr
    clear ho
    have H5 := Lib.hid (H4.out.next x)
    have SM2 := Lib.hid ((sy_next SM.out hx2).mono (show 6400 ≤ 6800 by decide))
    obtain ⟨Z, hZ, hbz, hdz, hcz, hgz⟩ : ∃ Z, ((((((w4.setCell ⟨w1.heap.size, 5, none⟩ (.int .i64 x)).setCell ⟨w.heap.size, 0, none⟩ (.slice aN d.nodes.length cN)).setCell ⟨w.heap.size, 1, none⟩ (.slice aE d.ents.length cE)).setCell ⟨w.heap.size, 2, none⟩ (.slice aO d.old.length cO)).setCell ⟨w.heap.size, 3, none⟩ (.slice aS d.steps.length cS)).setCell ⟨w.heap.size, 4, none⟩ (.int .i64 d.room)).setCell ⟨w.heap.size, 5, none⟩ (.int .i64 x) = Z ∧ disk.Box Z w.heap.size [.slice aN d.nodes.length cN, .slice aE d.ents.length cE, .slice aO d.old.length cO, .slice aS d.steps.length cS, .int .i64 d.room, .int .i64 x] ∧ OwnDisk w.heap.size Z (.agg #[.slice aN d.nodes.length cN, .slice aE d.ents.length cE, .slice aO d.old.length cO, .slice aS d.steps.length cS, .int .i64 d.room, .int .i64 x]) ({ d with next := x }) ∧ Cur Z c a len cap ∧ w.grownBy Z (some c) := H5.out.ret
    have z0 := hbz.at 0 _ rfl
    have z1 := hbz.at 1 _ rfl
    have z2 := hbz.at 2 _ rfl
    have z3 := hbz.at 3 _ rfl
    have z4 := hbz.at 4 _ rfl
    have z5 := hbz.at 5 _ rfl
    have HZ := Lib.hid hZ
    clear hZ hbz
    go_wp2
    rw [HZ.out]
    refine bodyPost_ret (v := .agg #[.slice aN d.nodes.length cN, .slice aE d.ents.length cE, .slice aO d.old.length cO, .slice aS d.steps.length cS, .int .i64 d.room, .int .i64 x]) (by simp [results, Tryz.results55, go_sem, z0, z1, z2, z3, z4, z5]) rfl ⟨_, _, rfl, hdz, SM2.out, hcz, by first | exact hgz | exact ⟨hgz.os, hgz.tape, hgz.output, hgz.size, hgz.block⟩⟩
  · obtain ⟨i0, hi, hz0, hz1, hz2⟩ := info_parts Tryz.infoEnt
    have bn : d.ents.length + 1 ≤ maxLen := by have := HLL.out; unfold maxLen; omega
    have bm : (d.ents.length + 1) * 24 ≤ 140737488355328 := by have := HLL.out; omega
    have Hd := Lib.hid (H.out.below ((Below.refl w3.heap.size w3).drew))
    go_wp2
    go_region_law (first | (go_simp; go_at_call 59; refine (below_any B0 c a len cap 4 w3.drew hBc Hd.out.lt.2 Hd.out.code Hd.out.cur (by omega) (by omega)).mono ?_; rintro e w4 ⟨⟨q, l7, m7, rfl⟩, u4, g4⟩; have H4 := Lib.hid (Hd.out.draw g4 u4); have v0 := H4.out.box.at 0 _ rfl; have v1 := H4.out.box.at 1 _ rfl; have v2 := H4.out.box.at 2 _ rfl; have v3 := H4.out.box.at 3 _ rfl; have v4 := H4.out.box.at 4 _ rfl; have v5 := H4.out.box.at 5 _ rfl; have zb4 := H4.out.box.1; have hya := (Below.refl w4.heap.size w4).alloc (Nat.le_refl _) (.cells #[.string { data := #[122] }, .int .i64 q] 53); have Ha := Lib.hid (H4.out.below hya); have RS := Lib.hid Ha.out.rowE; have ZS := Lib.hid Ha.out.hs; clear hya; have CS := Lib.hid (cells_new2 w4 (.string { data := #[122] }) (.int .i64 q) 53)) | (refine step_copy2 (by rfl) (.tmp 23) (.tmp 27) 25 (by rfl) W.heap.size 53 i0 (.agg #[.string { data := #[] }, .int .i64 0]) 2 24 Tryz.underlying25 hi hz0 hz1 hz2 (by rfl) (by decide) _ d.ents.length (cellsE d.ents) RS.out ZS.out ⟨w4.heap.size, 0, none⟩ 1 1 [.string { data := #[122] }, .int .i64 q] CS.out (two_one _ _) (by decide) bn bm (by rfl) (by rfl) ?_; intro v6 w6 hown6 hg6 hf6; obtain ⟨a6, c6, rfl, _, _⟩ := own_shape hown6; have m6 := Ha.out.mid RS.out (by decide) hg6; have e0 := m6.1.at 0 _ rfl; have e1 := m6.1.at 1 _ rfl; have e2 := m6.1.at 2 _ rfl; have e3 := m6.1.at 3 _ rfl; have e4 := m6.1.at 4 _ rfl; have e5 := m6.1.at 5 _ rfl; have ef := m6.2; have H5 := Lib.hid (Ha.out.ents (es := d.ents ++ [({ data := #[122] }, q)]) hg6 (by rw [cellsE_app]; exact hown6) (by rw [cellsE_app]; exact hf6)); clear m6 hown6 hg6 hf6))
    all_goals
      have SM2 := Lib.hid ((sy_ents (e := ({ data := #[122] }, q)) SM.out (by decide) ⟨(show ({ data := #[122] } : ByteArray).size ≤ 20 by decide), by unfold wfI; omega⟩).mono (show 6400 + 400 ≤ 6800 by decide))
      clear q0 q1 q2 q3 q4 q5 qf
      obtain ⟨u0, u1, u2, u3, u4, u5, ho⟩ := H5.out.out
      have q0 := ho.at 0 _ rfl
      have q1 := ho.at 1 _ rfl
      have q2 := ho.at 2 _ rfl
      have q3 := ho.at 3 _ rfl
      have q4 := ho.at 4 _ rfl
      have q5 := ho.at 5 _ rfl
      have qf := H5.out.fr
      clear ho
      obtain ⟨Z, hZ, hbz, hdz, hcz, hgz⟩ : ∃ Z, ((((((w6.setCell ⟨w1.heap.size, 1, none⟩ (.slice a6 (d.ents.length + 1) c6)).setCell ⟨w.heap.size, 0, none⟩ (.slice aN d.nodes.length cN)).setCell ⟨w.heap.size, 1, none⟩ (.slice a6 (d.ents.length + 1) c6)).setCell ⟨w.heap.size, 2, none⟩ (.slice aO d.old.length cO)).setCell ⟨w.heap.size, 3, none⟩ (.slice aS d.steps.length cS)).setCell ⟨w.heap.size, 4, none⟩ (.int .i64 d.room)).setCell ⟨w.heap.size, 5, none⟩ (.int .i64 d.next) = Z ∧ disk.Box Z w.heap.size [.slice aN d.nodes.length cN, .slice a6 (d.ents.length + 1) c6, .slice aO d.old.length cO, .slice aS d.steps.length cS, .int .i64 d.room, .int .i64 d.next] ∧ OwnDisk w.heap.size Z (.agg #[.slice aN d.nodes.length cN, .slice a6 (d.ents.length + 1) c6, .slice aO d.old.length cO, .slice aS d.steps.length cS, .int .i64 d.room, .int .i64 d.next]) ({ d with ents := d.ents ++ [({ data := #[122] }, q)] }) ∧ Cur Z c a len cap ∧ w.grownBy Z (some c) := H5.out.ret
      have z0 := hbz.at 0 _ rfl
      have z1 := hbz.at 1 _ rfl
      have z2 := hbz.at 2 _ rfl
      have z3 := hbz.at 3 _ rfl
      have z4 := hbz.at 4 _ rfl
      have z5 := hbz.at 5 _ rfl
      have HZ := Lib.hid hZ
      clear hZ hbz
      go_wp2
      rw [HZ.out]
      refine bodyPost_ret (v := .agg #[.slice aN d.nodes.length cN, .slice a6 (d.ents.length + 1) c6, .slice aO d.old.length cO, .slice aS d.steps.length cS, .int .i64 d.room, .int .i64 d.next]) (by simp [results, Tryz.results55, go_sem, z0, z1, z2, z3, z4, z5]) rfl ⟨_, _, rfl, hdz, SM2.out, hcz, by first | exact hgz | exact ⟨hgz.os, hgz.tape, hgz.output, hgz.size, hgz.block⟩⟩
  · obtain ⟨i0, hi, hz0, hz1, hz2⟩ := info_parts Tryz.infoEnt
    have bn : d.old.length + 1 ≤ maxLen := by have := HLL.out; unfold maxLen; omega
    have bm : (d.old.length + 1) * 24 ≤ 140737488355328 := by have := HLL.out; omega
    have hya := (Below.refl w3.heap.size w3).alloc (Nat.le_refl _) (.cells #[.string { data := #[122] }, .int .i64 1] 53)
    have Ha := Lib.hid (H.out.below hya)
    have RS := Lib.hid Ha.out.rowO
    have ZS := Lib.hid Ha.out.hs
    have CS := Lib.hid (cells_new2 w3 (.string { data := #[122] }) (.int .i64 1) 53)
    clear hya
    go_wp2_with (first | (at_builtin; refine list_copy2 (by rfl) (.tmp 33) (.tmp 35) 25 (by rfl) W.heap.size 53 i0 (.agg #[.string { data := #[] }, .int .i64 0]) 2 24 Tryz.underlying25 hi hz0 hz1 hz2 (by rfl) (by decide) _ d.old.length (cellsE d.old) RS.out ZS.out ⟨w3.heap.size, 0, none⟩ 1 1 [.string { data := #[122] }, .int .i64 1] CS.out (two_one _ _) (by decide) bn bm (by rfl) (by rfl) ?_; intro v6 w6 hown6 hg6 hf6; obtain ⟨a6, c6, rfl, _, _⟩ := own_shape hown6; have m6 := Ha.out.mid RS.out (by decide) hg6; have e0 := m6.1.at 0 _ rfl; have e1 := m6.1.at 1 _ rfl; have e2 := m6.1.at 2 _ rfl; have e3 := m6.1.at 3 _ rfl; have e4 := m6.1.at 4 _ rfl; have e5 := m6.1.at 5 _ rfl; have ef := m6.2; have H5 := Lib.hid (Ha.out.old (es := d.old ++ [({ data := #[122] }, 1)]) hg6 (by rw [cellsE_app]; exact hown6) (by rw [cellsE_app]; exact hf6)); clear m6 hown6 hg6 hf6 q0 q1 q2 q3 q4 q5 qf; obtain ⟨u0, u1, u2, u3, u4, u5, ho⟩ := H5.out.out; have q0 := ho.at 0 _ rfl; have q1 := ho.at 1 _ rfl; have q2 := ho.at 2 _ rfl; have q3 := ho.at 3 _ rfl; have q4 := ho.at 4 _ rfl; have q5 := ho.at 5 _ rfl; have qf := H5.out.fr; clear ho) | fail)
    have SM2 := Lib.hid ((sy_old (i := 1) SM.out (by decide) ⟨(show ({ data := #[122] } : ByteArray).size ≤ 20 by decide), (show wfI 1 from ⟨by decide, by decide⟩)⟩).mono (show 6400 + 400 ≤ 6800 by decide))
    obtain ⟨Z, hZ, hbz, hdz, hcz, hgz⟩ : ∃ Z, ((((((w6.setCell ⟨w1.heap.size, 2, none⟩ (.slice a6 (d.old.length + 1) c6)).setCell ⟨w.heap.size, 0, none⟩ (.slice aN d.nodes.length cN)).setCell ⟨w.heap.size, 1, none⟩ (.slice aE d.ents.length cE)).setCell ⟨w.heap.size, 2, none⟩ (.slice a6 (d.old.length + 1) c6)).setCell ⟨w.heap.size, 3, none⟩ (.slice aS d.steps.length cS)).setCell ⟨w.heap.size, 4, none⟩ (.int .i64 d.room)).setCell ⟨w.heap.size, 5, none⟩ (.int .i64 d.next) = Z ∧ disk.Box Z w.heap.size [.slice aN d.nodes.length cN, .slice aE d.ents.length cE, .slice a6 (d.old.length + 1) c6, .slice aS d.steps.length cS, .int .i64 d.room, .int .i64 d.next] ∧ OwnDisk w.heap.size Z (.agg #[.slice aN d.nodes.length cN, .slice aE d.ents.length cE, .slice a6 (d.old.length + 1) c6, .slice aS d.steps.length cS, .int .i64 d.room, .int .i64 d.next]) ({ d with old := d.old ++ [({ data := #[122] }, 1)] }) ∧ Cur Z c a len cap ∧ w.grownBy Z (some c) := H5.out.ret
    have z0 := hbz.at 0 _ rfl
    have z1 := hbz.at 1 _ rfl
    have z2 := hbz.at 2 _ rfl
    have z3 := hbz.at 3 _ rfl
    have z4 := hbz.at 4 _ rfl
    have z5 := hbz.at 5 _ rfl
    have HZ := Lib.hid hZ
    clear hZ hbz
    skip
    rw [HZ.out]
    refine bodyPost_ret (v := .agg #[.slice aN d.nodes.length cN, .slice aE d.ents.length cE, .slice a6 (d.old.length + 1) c6, .slice aS d.steps.length cS, .int .i64 d.room, .int .i64 d.next]) (by simp [results, Tryz.results55, go_sem, z0, z1, z2, z3, z4, z5]) rfl ⟨_, _, rfl, hdz, SM2.out, hcz, by first | exact hgz | exact ⟨hgz.os, hgz.tape, hgz.output, hgz.size, hgz.block⟩⟩
  · obtain ⟨i0, hi, hz0, hz1, hz2⟩ := info_parts strs.Tryz.infoStr
    have bn : d.steps.length + 1 ≤ maxLen := by have := HLL.out; unfold maxLen; omega
    have bm : (d.steps.length + 1) * 16 ≤ 140737488355328 := by have := HLL.out; omega
    have Hd := Lib.hid (H.out.below ((Below.refl w3.heap.size w3).drew))
    go_wp2
    go_region_law (first | (go_simp; go_at_call 125; refine (pick_new B0 c 8 a len cap [{ data := #[45, 97] }, { data := #[43, 113, 58, 49] }, { data := #[120] }, { data := #[] }, { data := #[43, 113, 58, 57] }, { data := #[45, 122, 122] }, { data := #[43, 58, 49] }, { data := #[43, 113, 58] }] w3.drew hBc Hd.out.lt.1 Hd.out.code Hd.out.cur rfl (by decide) (by decide)).mono ?_; rintro e w4 ⟨s, hs, rfl, u4, g4⟩; have hsz2 : s.size ≤ 20 := (by simp only [List.mem_cons, List.not_mem_nil, or_false] at hs; rcases hs with rfl | rfl | rfl | rfl | rfl | rfl | rfl | rfl <;> decide); have H4 := Lib.hid (Hd.out.draw g4 u4); have v0 := H4.out.box.at 0 _ rfl; have v1 := H4.out.box.at 1 _ rfl; have v2 := H4.out.box.at 2 _ rfl; have v3 := H4.out.box.at 3 _ rfl; have v4 := H4.out.box.at 4 _ rfl; have v5 := H4.out.box.at 5 _ rfl; have zb4 := H4.out.box.1; have hya := (Below.refl w4.heap.size w4).alloc (Nat.le_refl _) (.cells #[.string s] 9); have Ha := Lib.hid (H4.out.below hya); have RS := Lib.hid Ha.out.rowS; have ZS := Lib.hid Ha.out.hs; clear hya; have CS := Lib.hid (cells_new w4 (.string s) 9); clear hs) | (refine step_copy2 (by rfl) (.tmp 41) (.tmp 45) 26 (by rfl) W.heap.size 9 i0 (.string { data := #[] }) 1 16 Tryz.underlying26 hi hz0 hz1 hz2 (by rfl) (by decide) _ d.steps.length (d.steps.map Value.string) RS.out ZS.out ⟨w4.heap.size, 0, none⟩ 1 1 [.string s] CS.out (one_str _) (by decide) bn bm (by rfl) (by rfl) ?_; intro v6 w6 hown6 hg6 hf6; obtain ⟨a6, c6, rfl, _, _⟩ := own_shape hown6; have m6 := Ha.out.mid RS.out (by decide) hg6; have e0 := m6.1.at 0 _ rfl; have e1 := m6.1.at 1 _ rfl; have e2 := m6.1.at 2 _ rfl; have e3 := m6.1.at 3 _ rfl; have e4 := m6.1.at 4 _ rfl; have e5 := m6.1.at 5 _ rfl; have ef := m6.2; have H5 := Lib.hid (Ha.out.steps (ss := d.steps ++ [s]) hg6 (by rw [List.map_append]; exact hown6)); clear m6 hown6 hg6 hf6))
    all_goals
      have SM2 := Lib.hid ((sy_steps (s := s) SM.out (by decide) hsz2).mono (show 6400 + 400 ≤ 6800 by decide))
      clear q0 q1 q2 q3 q4 q5 qf
      obtain ⟨u0, u1, u2, u3, u4, u5, ho⟩ := H5.out.out
      have q0 := ho.at 0 _ rfl
      have q1 := ho.at 1 _ rfl
      have q2 := ho.at 2 _ rfl
      have q3 := ho.at 3 _ rfl
      have q4 := ho.at 4 _ rfl
      have q5 := ho.at 5 _ rfl
      have qf := H5.out.fr
      clear ho
      obtain ⟨Z, hZ, hbz, hdz, hcz, hgz⟩ : ∃ Z, ((((((w6.setCell ⟨w1.heap.size, 3, none⟩ (.slice a6 (d.steps.length + 1) c6)).setCell ⟨w.heap.size, 0, none⟩ (.slice aN d.nodes.length cN)).setCell ⟨w.heap.size, 1, none⟩ (.slice aE d.ents.length cE)).setCell ⟨w.heap.size, 2, none⟩ (.slice aO d.old.length cO)).setCell ⟨w.heap.size, 3, none⟩ (.slice a6 (d.steps.length + 1) c6)).setCell ⟨w.heap.size, 4, none⟩ (.int .i64 d.room)).setCell ⟨w.heap.size, 5, none⟩ (.int .i64 d.next) = Z ∧ disk.Box Z w.heap.size [.slice aN d.nodes.length cN, .slice aE d.ents.length cE, .slice aO d.old.length cO, .slice a6 (d.steps.length + 1) c6, .int .i64 d.room, .int .i64 d.next] ∧ OwnDisk w.heap.size Z (.agg #[.slice aN d.nodes.length cN, .slice aE d.ents.length cE, .slice aO d.old.length cO, .slice a6 (d.steps.length + 1) c6, .int .i64 d.room, .int .i64 d.next]) ({ d with steps := d.steps ++ [s] }) ∧ Cur Z c a len cap ∧ w.grownBy Z (some c) := H5.out.ret
      have z0 := hbz.at 0 _ rfl
      have z1 := hbz.at 1 _ rfl
      have z2 := hbz.at 2 _ rfl
      have z3 := hbz.at 3 _ rfl
      have z4 := hbz.at 4 _ rfl
      have z5 := hbz.at 5 _ rfl
      have HZ := Lib.hid hZ
      clear hZ hbz
      go_wp2
      rw [HZ.out]
      refine bodyPost_ret (v := .agg #[.slice aN d.nodes.length cN, .slice aE d.ents.length cE, .slice aO d.old.length cO, .slice a6 (d.steps.length + 1) c6, .int .i64 d.room, .int .i64 d.next]) (by simp [results, Tryz.results55, go_sem, z0, z1, z2, z3, z4, z5]) rfl ⟨_, _, rfl, hdz, SM2.out, hcz, by first | exact hgz | exact ⟨hgz.os, hgz.tape, hgz.output, hgz.size, hgz.block⟩⟩
  · by_cases hn : 0 < d.nodes.length
    · have i1 : (0 : Int) < (d.nodes.length : Int) := by omega
      obtain ⟨gi, hgi, hge, hgl⟩ : ∃ g, aN = some ⟨g, 0, none⟩ ∧ W.heap.size ≤ g ∧ g < w3.heap.size := by
        obtain ⟨a', c', he, _, h0⟩ := own_shape H.out.rowN
        simp only [Value.slice.injEq] at he
        obtain ⟨rfl, _⟩ := he
        exact h0.resolve_left (by omega)
      subst hgi
      obtain ⟨nd, hx0⟩ : ∃ nd, d.nodes[0]? = some nd := ⟨_, List.getElem?_eq_getElem hn⟩
      have HX0 := Lib.hid hx0
      have Hd := Lib.hid (H.out.below ((Below.refl w3.heap.size w3).drew))
      clear hx0
      go_wp2
      go_region_law (first | (go_simp; go_at_call 87; refine (pickInt_new B0 c 3 a len cap [-1, 0, 99] w3.drew hBc Hd.out.lt.1 Hd.out.code Hd.out.cur rfl (by decide) (by decide)).mono ?_; rintro e w4 ⟨x, hx, rfl, u4, g4⟩; have hx2 : wfI x := (by unfold wfI; simp only [List.mem_cons, List.not_mem_nil, or_false] at hx; omega); have H4 := Lib.hid (Hd.out.draw g4 u4); have v0 := H4.out.box.at 0 _ rfl; obtain ⟨gj, oj, hgj, _, _, c00, c01, c02⟩ := H4.out.atN.nth HX0.out; obtain ⟨rfl, rfl⟩ : gi = gj ∧ 0 = oj := (by simpa using hgj); simp only [Nat.zero_add, Nat.zero_mul] at c00 c01 c02; have f2 := H4.out.rowN.frozenAt 2; clear hx))
      all_goals
        have SM2 := Lib.hid ((sy_set (t := 0) (k := 0) (m := (nd.1, nd.2.1, x)) SM.out (by decide) HX0.out ⟨(SM.out.sm.wf.1 _ (List.mem_of_getElem? HX0.out)).1, hx2⟩ (Nat.le_refl _) (Nat.zero_le _)).mono (show 6400 + 400 ≤ 6800 by decide))
        obtain ⟨Y, hY, H5⟩ : ∃ Y, w4.setCell ⟨gi, 2, none⟩ (.int .i64 x) = Y ∧ Rig W.heap.size B0 c a len cap w Y w1.heap.size w.heap.size (.slice (some ⟨gi, 0, none⟩) d.nodes.length cN) (.slice aE d.ents.length cE) (.slice aO d.old.length cO) (.slice aS d.steps.length cS) { d with nodes := d.nodes.set 0 (nd.1, nd.2.1, x) } := ⟨_, rfl, H4.out.node (j := 2) (cellsN_sure d.nodes 0 nd x HX0.out)⟩
        have H5 := Lib.hid H5
        rw [hY]
        clear hY x0 x1 x2 x3 x4 x5 xf q0 q1 q2 q3 q4 q5 qf v0
        have x0 := H5.out.box.at 0 _ rfl
        have x1 := H5.out.box.at 1 _ rfl
        have x2 := H5.out.box.at 2 _ rfl
        have x3 := H5.out.box.at 3 _ rfl
        have x4 := H5.out.box.at 4 _ rfl
        have x5 := H5.out.box.at 5 _ rfl
        have xf := H5.out.fz
        obtain ⟨u0, u1, u2, u3, u4, u5, ho⟩ := H5.out.out
        have q0 := ho.at 0 _ rfl
        have q1 := ho.at 1 _ rfl
        have q2 := ho.at 2 _ rfl
        have q3 := ho.at 3 _ rfl
        have q4 := ho.at 4 _ rfl
        have q5 := ho.at 5 _ rfl
        have qf := H5.out.fr
        clear ho
        obtain ⟨Z, hZ, hbz, hdz, hcz, hgz⟩ : ∃ Z, ((((((Y).setCell ⟨w.heap.size, 0, none⟩ (.slice (some ⟨gi, 0, none⟩) d.nodes.length cN)).setCell ⟨w.heap.size, 1, none⟩ (.slice aE d.ents.length cE)).setCell ⟨w.heap.size, 2, none⟩ (.slice aO d.old.length cO)).setCell ⟨w.heap.size, 3, none⟩ (.slice aS d.steps.length cS)).setCell ⟨w.heap.size, 4, none⟩ (.int .i64 d.room)).setCell ⟨w.heap.size, 5, none⟩ (.int .i64 d.next) = Z ∧ disk.Box Z w.heap.size [.slice (some ⟨gi, 0, none⟩) d.nodes.length cN, .slice aE d.ents.length cE, .slice aO d.old.length cO, .slice aS d.steps.length cS, .int .i64 d.room, .int .i64 d.next] ∧ OwnDisk w.heap.size Z (.agg #[.slice (some ⟨gi, 0, none⟩) d.nodes.length cN, .slice aE d.ents.length cE, .slice aO d.old.length cO, .slice aS d.steps.length cS, .int .i64 d.room, .int .i64 d.next]) ({ d with nodes := d.nodes.set 0 (nd.1, nd.2.1, x) }) ∧ Cur Z c a len cap ∧ w.grownBy Z (some c) := H5.out.ret
        have z0 := hbz.at 0 _ rfl
        have z1 := hbz.at 1 _ rfl
        have z2 := hbz.at 2 _ rfl
        have z3 := hbz.at 3 _ rfl
        have z4 := hbz.at 4 _ rfl
        have z5 := hbz.at 5 _ rfl
        have HZ := Lib.hid hZ
        clear hZ hbz
        go_wp2
        rw [HZ.out]
        refine bodyPost_ret (v := .agg #[.slice (some ⟨gi, 0, none⟩) d.nodes.length cN, .slice aE d.ents.length cE, .slice aO d.old.length cO, .slice aS d.steps.length cS, .int .i64 d.room, .int .i64 d.next]) (by simp [results, Tryz.results55, go_sem, z0, z1, z2, z3, z4, z5]) rfl ⟨_, _, rfl, hdz, SM2.out, hcz, by first | exact hgz | exact ⟨hgz.os, hgz.tape, hgz.output, hgz.size, hgz.block⟩⟩
    · have i1 : ¬ (0 : Int) < (d.nodes.length : Int) := by omega
      obtain ⟨Z, hZ, hbz, hdz, hcz, hgz⟩ : ∃ Z, ((((((w3).setCell ⟨w.heap.size, 0, none⟩ (.slice aN d.nodes.length cN)).setCell ⟨w.heap.size, 1, none⟩ (.slice aE d.ents.length cE)).setCell ⟨w.heap.size, 2, none⟩ (.slice aO d.old.length cO)).setCell ⟨w.heap.size, 3, none⟩ (.slice aS d.steps.length cS)).setCell ⟨w.heap.size, 4, none⟩ (.int .i64 d.room)).setCell ⟨w.heap.size, 5, none⟩ (.int .i64 d.next) = Z ∧ disk.Box Z w.heap.size [.slice aN d.nodes.length cN, .slice aE d.ents.length cE, .slice aO d.old.length cO, .slice aS d.steps.length cS, .int .i64 d.room, .int .i64 d.next] ∧ OwnDisk w.heap.size Z (.agg #[.slice aN d.nodes.length cN, .slice aE d.ents.length cE, .slice aO d.old.length cO, .slice aS d.steps.length cS, .int .i64 d.room, .int .i64 d.next]) (d) ∧ Cur Z c a len cap ∧ w.grownBy Z (some c) := H.out.ret
      have z0 := hbz.at 0 _ rfl
      have z1 := hbz.at 1 _ rfl
      have z2 := hbz.at 2 _ rfl
      have z3 := hbz.at 3 _ rfl
      have z4 := hbz.at 4 _ rfl
      have z5 := hbz.at 5 _ rfl
      have HZ := Lib.hid hZ
      clear hZ hbz
      go_wp2
      rw [HZ.out]
      refine bodyPost_ret (v := .agg #[.slice aN d.nodes.length cN, .slice aE d.ents.length cE, .slice aO d.old.length cO, .slice aS d.steps.length cS, .int .i64 d.room, .int .i64 d.next]) (by simp [results, Tryz.results55, go_sem, z0, z1, z2, z3, z4, z5]) rfl ⟨_, _, rfl, hdz, (SM.out.y.mono (show 6400 ≤ 6800 by decide)), hcz, by first | exact hgz | exact ⟨hgz.os, hgz.tape, hgz.output, hgz.size, hgz.block⟩⟩
  · by_cases hn : 1 < d.nodes.length
    · have i1 : (1 : Int) < (d.nodes.length : Int) := by omega
      have i2 : (0 : Int) < (d.nodes.length : Int) := by omega
      obtain ⟨gi, hgi, hge, hgl⟩ : ∃ g, aN = some ⟨g, 0, none⟩ ∧ W.heap.size ≤ g ∧ g < w3.heap.size := by
        obtain ⟨a', c', he, _, h0⟩ := own_shape H.out.rowN
        simp only [Value.slice.injEq] at he
        obtain ⟨rfl, _⟩ := he
        exact h0.resolve_left (by omega)
      subst hgi
      obtain ⟨nd, hx0⟩ : ∃ nd, d.nodes[0]? = some nd := ⟨_, List.getElem?_eq_getElem (by omega)⟩
      obtain ⟨ne, hx1⟩ : ∃ ne, d.nodes[1]? = some ne := ⟨_, List.getElem?_eq_getElem hn⟩
      have HX0 := Lib.hid hx0
      have HX1 := Lib.hid hx1
      clear hx0 hx1
      obtain ⟨gj, oj, hgj, _, _, c00, c01, c02⟩ := H.out.atN.nth HX0.out; obtain ⟨rfl, rfl⟩ : gi = gj ∧ 0 = oj := (by simpa using hgj); simp only [Nat.zero_add, Nat.zero_mul] at c00 c01 c02
      obtain ⟨gj, oj, hgj, _, _, c10, c11, c12⟩ := H.out.atN.nth HX1.out; obtain ⟨rfl, rfl⟩ : gi = gj ∧ 0 = oj := (by simpa using hgj); simp only [Nat.zero_add, Nat.one_mul] at c10 c11 c12
      have f3 := H.out.rowN.frozenAt 3
      have SM2 := Lib.hid ((sy_set (t := 0) (k := 1) (m := (nd.1, ne.2.1, ne.2.2)) SM.out (by decide) HX1.out ⟨(SM.out.sm.wf.1 _ (List.mem_of_getElem? HX0.out)).1, (SM.out.sm.wf.1 _ (List.mem_of_getElem? HX1.out)).2.2⟩ (Nat.le_refl _) (Nat.zero_le _)).mono (show 6400 + 400 ≤ 6800 by decide))
      obtain ⟨Y, hY, H5⟩ : ∃ Y, w3.setCell ⟨gi, 3, none⟩ (.int .i64 nd.1) = Y ∧ Rig W.heap.size B0 c a len cap w Y w1.heap.size w.heap.size (.slice (some ⟨gi, 0, none⟩) d.nodes.length cN) (.slice aE d.ents.length cE) (.slice aO d.old.length cO) (.slice aS d.steps.length cS) { d with nodes := d.nodes.set 1 (nd.1, ne.2.1, ne.2.2) } := ⟨_, rfl, H.out.node (j := 3) (cellsN_id d.nodes 1 ne nd.1 HX1.out)⟩
      have H5 := Lib.hid H5
      have HY := Lib.hid hY
      clear hY
      go_wp2
      go_region
      rw [HY.out]
      clear x0 x1 x2 x3 x4 x5 xf q0 q1 q2 q3 q4 q5 qf
      have x0 := H5.out.box.at 0 _ rfl
      have x1 := H5.out.box.at 1 _ rfl
      have x2 := H5.out.box.at 2 _ rfl
      have x3 := H5.out.box.at 3 _ rfl
      have x4 := H5.out.box.at 4 _ rfl
      have x5 := H5.out.box.at 5 _ rfl
      have xf := H5.out.fz
      obtain ⟨u0, u1, u2, u3, u4, u5, ho⟩ := H5.out.out
      have q0 := ho.at 0 _ rfl
      have q1 := ho.at 1 _ rfl
      have q2 := ho.at 2 _ rfl
      have q3 := ho.at 3 _ rfl
      have q4 := ho.at 4 _ rfl
      have q5 := ho.at 5 _ rfl
      have qf := H5.out.fr
      clear ho
      obtain ⟨Z, hZ, hbz, hdz, hcz, hgz⟩ : ∃ Z, ((((((Y).setCell ⟨w.heap.size, 0, none⟩ (.slice (some ⟨gi, 0, none⟩) d.nodes.length cN)).setCell ⟨w.heap.size, 1, none⟩ (.slice aE d.ents.length cE)).setCell ⟨w.heap.size, 2, none⟩ (.slice aO d.old.length cO)).setCell ⟨w.heap.size, 3, none⟩ (.slice aS d.steps.length cS)).setCell ⟨w.heap.size, 4, none⟩ (.int .i64 d.room)).setCell ⟨w.heap.size, 5, none⟩ (.int .i64 d.next) = Z ∧ disk.Box Z w.heap.size [.slice (some ⟨gi, 0, none⟩) d.nodes.length cN, .slice aE d.ents.length cE, .slice aO d.old.length cO, .slice aS d.steps.length cS, .int .i64 d.room, .int .i64 d.next] ∧ OwnDisk w.heap.size Z (.agg #[.slice (some ⟨gi, 0, none⟩) d.nodes.length cN, .slice aE d.ents.length cE, .slice aO d.old.length cO, .slice aS d.steps.length cS, .int .i64 d.room, .int .i64 d.next]) ({ d with nodes := d.nodes.set 1 (nd.1, ne.2.1, ne.2.2) }) ∧ Cur Z c a len cap ∧ w.grownBy Z (some c) := H5.out.ret
      have z0 := hbz.at 0 _ rfl
      have z1 := hbz.at 1 _ rfl
      have z2 := hbz.at 2 _ rfl
      have z3 := hbz.at 3 _ rfl
      have z4 := hbz.at 4 _ rfl
      have z5 := hbz.at 5 _ rfl
      have HZ := Lib.hid hZ
      clear hZ hbz
      go_wp2
      rw [HZ.out]
      refine bodyPost_ret (v := .agg #[.slice (some ⟨gi, 0, none⟩) d.nodes.length cN, .slice aE d.ents.length cE, .slice aO d.old.length cO, .slice aS d.steps.length cS, .int .i64 d.room, .int .i64 d.next]) (by simp [results, Tryz.results55, go_sem, z0, z1, z2, z3, z4, z5]) rfl ⟨_, _, rfl, hdz, SM2.out, hcz, by first | exact hgz | exact ⟨hgz.os, hgz.tape, hgz.output, hgz.size, hgz.block⟩⟩
    · have i1 : ¬ (1 : Int) < (d.nodes.length : Int) := by omega
      obtain ⟨Z, hZ, hbz, hdz, hcz, hgz⟩ : ∃ Z, ((((((w3).setCell ⟨w.heap.size, 0, none⟩ (.slice aN d.nodes.length cN)).setCell ⟨w.heap.size, 1, none⟩ (.slice aE d.ents.length cE)).setCell ⟨w.heap.size, 2, none⟩ (.slice aO d.old.length cO)).setCell ⟨w.heap.size, 3, none⟩ (.slice aS d.steps.length cS)).setCell ⟨w.heap.size, 4, none⟩ (.int .i64 d.room)).setCell ⟨w.heap.size, 5, none⟩ (.int .i64 d.next) = Z ∧ disk.Box Z w.heap.size [.slice aN d.nodes.length cN, .slice aE d.ents.length cE, .slice aO d.old.length cO, .slice aS d.steps.length cS, .int .i64 d.room, .int .i64 d.next] ∧ OwnDisk w.heap.size Z (.agg #[.slice aN d.nodes.length cN, .slice aE d.ents.length cE, .slice aO d.old.length cO, .slice aS d.steps.length cS, .int .i64 d.room, .int .i64 d.next]) (d) ∧ Cur Z c a len cap ∧ w.grownBy Z (some c) := H.out.ret
      have z0 := hbz.at 0 _ rfl
      have z1 := hbz.at 1 _ rfl
      have z2 := hbz.at 2 _ rfl
      have z3 := hbz.at 3 _ rfl
      have z4 := hbz.at 4 _ rfl
      have z5 := hbz.at 5 _ rfl
      have HZ := Lib.hid hZ
      clear hZ hbz
      go_wp2
      rw [HZ.out]
      refine bodyPost_ret (v := .agg #[.slice aN d.nodes.length cN, .slice aE d.ents.length cE, .slice aO d.old.length cO, .slice aS d.steps.length cS, .int .i64 d.room, .int .i64 d.next]) (by simp [results, Tryz.results55, go_sem, z0, z1, z2, z3, z4, z5]) rfl ⟨_, _, rfl, hdz, (SM.out.y.mono (show 6400 ≤ 6800 by decide)), hcz, by first | exact hgz | exact ⟨hgz.os, hgz.tape, hgz.output, hgz.size, hgz.block⟩⟩
  · obtain ⟨Z, hZ, hbz, hdz, hcz, hgz⟩ : ∃ Z, ((((((w3).setCell ⟨w.heap.size, 0, none⟩ (.slice aN d.nodes.length cN)).setCell ⟨w.heap.size, 1, none⟩ (.slice aE d.ents.length cE)).setCell ⟨w.heap.size, 2, none⟩ (.slice aO d.old.length cO)).setCell ⟨w.heap.size, 3, none⟩ (.slice aS d.steps.length cS)).setCell ⟨w.heap.size, 4, none⟩ (.int .i64 d.room)).setCell ⟨w.heap.size, 5, none⟩ (.int .i64 d.next) = Z ∧ disk.Box Z w.heap.size [.slice aN d.nodes.length cN, .slice aE d.ents.length cE, .slice aO d.old.length cO, .slice aS d.steps.length cS, .int .i64 d.room, .int .i64 d.next] ∧ OwnDisk w.heap.size Z (.agg #[.slice aN d.nodes.length cN, .slice aE d.ents.length cE, .slice aO d.old.length cO, .slice aS d.steps.length cS, .int .i64 d.room, .int .i64 d.next]) (d) ∧ Cur Z c a len cap ∧ w.grownBy Z (some c) := H.out.ret
    have z0 := hbz.at 0 _ rfl
    have z1 := hbz.at 1 _ rfl
    have z2 := hbz.at 2 _ rfl
    have z3 := hbz.at 3 _ rfl
    have z4 := hbz.at 4 _ rfl
    have z5 := hbz.at 5 _ rfl
    have HZ := Lib.hid hZ
    clear hZ hbz
    go_wp2
    rw [HZ.out]
    refine bodyPost_ret (v := .agg #[.slice aN d.nodes.length cN, .slice aE d.ents.length cE, .slice aO d.old.length cO, .slice aS d.steps.length cS, .int .i64 d.room, .int .i64 d.next]) (by simp [results, Tryz.results55, go_sem, z0, z1, z2, z3, z4, z5]) rfl ⟨_, _, rfl, hdz, (SM.out.y.mono (show 6400 ≤ 6800 by decide)), hcz, by first | exact hgz | exact ⟨hgz.os, hgz.tape, hgz.output, hgz.size, hgz.block⟩⟩

end Go.Proofs.YtdacdbidennjhaaGreatDoor.deed

namespace Go.Proofs.YtdacdbidennjhaaGreatDoor.deed
open Go.RowKit
open kit strs recs disk kd draw num

theorem pickInt_drew (B c m g : Nat) (a : Option Addr) (len cap : Nat) (xs : List Int) (w : World) (hgw : g = w.heap.size) (hBc : B ≤ c) (hcw : c < w.heap.size) (hc : CodeAt w B a len) (hu : Cur w c a len cap) (hm : xs.length = m) (h0 : 0 < m) (h1 : m ≤ 1000) :
    Calls Tryz.prog 87 #[.pointer (some ⟨c, 0, none⟩), .slice (some ⟨g, 0, none⟩) m m] ((w.alloc (.cells (xs.map (Value.int .i64)).toArray 3)).drew) fun e w' => ∃ s, s ∈ xs ∧ e = .returned (.int .i64 s) ∧ Cur w' c a len cap ∧ w.grownBy w' (some c) := by
  subst hgw
  have bd : Below w.heap.size w ((w.alloc (.cells (xs.map (Value.int .i64)).toArray 3)).drew) := ((Below.refl _ _).alloc (Nat.le_refl _) _).drew
  have hz : w.heap.size < ((w.alloc (.cells (xs.map (Value.int .i64)).toArray 3)).drew).heap.size := by show _ < (w.alloc _).heap.size; simp
  refine (pickInt_any B c w.heap.size m m a len cap xs _ hBc (by omega) (hc.below (bd.mono (by omega))) (hu.below (bd.mono (by omega))) hz (by omega) hm h0 h1 (fun j hj => ?_)).mono ?_
  · show (w.alloc _).cell? _ = _
    rw [cell_of_row _ w.heap.size j _ 3 (0, 0) (heap_alloc_new w _)]
    rw [List.getElem?_toArray]
  · rintro e w2 ⟨⟨v, hv, rfl⟩, u2, g2⟩
    obtain ⟨s, hs, rfl⟩ := List.mem_map.1 hv
    exact ⟨s, hs, rfl, u2, grown_trans (grown_below (grown_refl w (some c)) (bd.mono (Nat.le_refl _))) g2⟩
def PostSt (w : World) (e : Ending) (w' : World) : Prop :=
  ∃ (aO aS : Option Addr) (cO cS : Nat) (d : D) (m : Int), e = .returned (.tuple #[.slice aO d.old.length cO, .slice aS d.steps.length cS, .int .i64 m]) ∧ AtE w' aO d.old.length d.old ∧ strs.At w' aS d.steps.length d.steps ∧ d.steps.length ≤ cS ∧ Sy 6800 d ∧ Below w.heap.size w w'
theorem own_cap {B : Nat} {w : World} {a : Option Addr} {n c : Nat} {c0 c1 c2 x y : Value} {d : D} (h : OwnDisk B w (.agg #[c0, c1, c2, .slice a n c, x, y]) d) : n ≤ c := by
  obtain ⟨sN, sE, sO, sS, nN, nE, nO, nS, hv, _, _, _, hS, _⟩ := h
  simp only [Value.agg.injEq, Array.mk.injEq, List.cons.injEq] at hv
  obtain ⟨_, _, _, rfl, _⟩ := hv
  rcases hS.2 with ⟨h1, h2⟩ | ⟨g, cap, cur, h1, _, _, h2, _⟩
  · simp only [Value.slice.injEq] at h1
    omega
  · simp only [Value.slice.injEq] at h1
    omega

set_option maxHeartbeats 4000000 in
set_option maxRecDepth 100000 in
theorem steps_any (a : Option Addr) (len cap : Nat) (w : World) (hc : CodeAt w w.heap.size a len) :
    Calls Tryz.prog 25 #[.slice a len cap] w (PostSt w) := by
  have HC := Lib.hid hc
  clear hc
  go_enter Tryz.func25, Tryz.ntmps25
  go_wp2_with (fail)
  refine (new_any w.heap.size a len cap w (by omega) HC.out).mono ?_
  rintro e w1 ⟨rfl, u1, b1, s1⟩
  have code1 := HC.out.below b1
  go_wp2_with (fail)
  refine (any_anyz w.heap.size w.heap.size a len cap w1 (Nat.le_refl _) (by omega) code1 u1).mono ?_
  rintro e w2 ⟨u, d, rfl, hd, sm, u2, g2⟩
  obtain ⟨aN, aE, aO, aS, cN, cE, cO, cS, rfl⟩ := own_slices hd
  have b2 : Below w.heap.size w w2 := b1.grown g2 (by omega) (fun k hk => by injection hk with hk; omega)
  have code2 := code1.grown (Nat.le_refl _) (by omega) g2
  have s2 := g2.size
  obtain ⟨V, hV⟩ : ∃ V, V = w2.alloc (.cells #[.slice aN d.nodes.length cN, .slice aE d.ents.length cE, .slice aO d.old.length cO, .slice aS d.steps.length cS, .int .i64 d.room, .int .i64 d.next] 28) := ⟨_, rfl⟩
  have bV : Below w2.heap.size w2 V := by rw [hV]; exact (Below.refl _ _).alloc (Nat.le_refl _) _
  have sV : V.heap.size = w2.heap.size + 1 := by rw [hV]; simp
  have bxV := show disk.Box V w2.heap.size [.slice aN d.nodes.length cN, .slice aE d.ents.length cE, .slice aO d.old.length cO, .slice aS d.steps.length cS, .int .i64 d.room, .int .i64 d.next] from by rw [hV]; exact Box.new w2 #[.slice aN d.nodes.length cN, .slice aE d.ents.length cE, .slice aO d.old.length cO, .slice aS d.steps.length cS, .int .i64 d.room, .int .i64 d.next] _
  have hdV := disk_below hd bV
  have CV := Lib.hid (code2.below (bV.mono (by omega)))
  have UV := Lib.hid (u2.below (bV.mono (by omega)))
  have HD := Lib.hid hdV
  have SM := Lib.hid sm
  have HB := Lib.hid (b2.trans (bV.mono (by omega)))
  have BD := Lib.hid ((Below.refl V.heap.size V).drew)
  have BXd := Lib.hid (bxV.below BD.out)
  have HCAP := Lib.hid (own_cap hdV)
  have zV : w2.heap.size < V.drew.heap.size := by show _ < V.heap.size; omega
  have zc : w.heap.size < V.heap.size := by omega
  have HSV := Lib.hid sV
  have BXV := Lib.hid bxV
  have HZ := Lib.hid zc
  have HW2 := Lib.hid (show w.heap.size < w2.heap.size by omega)
  have hA : ∀ o, Below V.heap.size V ((V.alloc o).drew) := fun o => ((Below.refl _ _).alloc (Nat.le_refl _) _).drew
  have hA2 : ∀ o, Below V.heap.size V (V.alloc o) := fun o => (Below.refl _ _).alloc (Nat.le_refl _) _
  have zv : w2.heap.size < V.heap.size := by omega
  have x2 := bxV.at 2 _ rfl
  have x3 := bxV.at 3 _ rfl
  have d2 := BXd.out.at 2 _ rfl
  have d3 := BXd.out.at 3 _ rfl
  have LS := Lib.hid (show d.steps.length ≤ 6800 from by have h := sm.sm.s; omega)
  clear hd u1 b1 u2 g2 b2 bV bxV hdV code1 code2 sm
  go_wp2
  rw [← hV]
  clear hV
  go_region_held3 (fun w' => w'.cell? ⟨w2.heap.size, 2, none⟩ = some (.slice aO d.old.length cO) ∧ w'.cell? ⟨w2.heap.size, 3, none⟩ = some (.slice aS d.steps.length cS)) (first | with_reducible exact ⟨x2, x3⟩ | with_reducible exact ⟨d2, d3⟩ | with_reducible exact ⟨y2, y3⟩ | with_reducible exact ⟨((hA _).cell (p := ⟨w2.heap.size, 2, none⟩) zv).trans x2, ((hA _).cell (p := ⟨w2.heap.size, 3, none⟩) zv).trans x3⟩ | with_reducible exact ⟨((hA2 _).cell (p := ⟨w2.heap.size, 2, none⟩) zv).trans x2, ((hA2 _).cell (p := ⟨w2.heap.size, 3, none⟩) zv).trans x3⟩) (first | (go_at_call 87; refine (pickInt_drew w.heap.size w.heap.size 7 (w2.heap.size + 1) a len cap [0, 1, 2, 5, (d.steps.length : Int), -1, 9223372036854775807] V HSV.out.symm (Nat.le_refl _) HZ.out CV.out UV.out rfl (by decide) (by decide)).mono ?_; rintro e w4 ⟨m, hm, rfl, u4, g4⟩; have BX4 := Lib.hid (box_keep BXV.out g4 (by have := HW2.out; omega)); have y2 := BX4.out.at 2 _ rfl; have y3 := BX4.out.at 3 _ rfl; have HD4 := Lib.hid (disk_keep HD.out g4 (by have := s1; omega)); have HB4 := Lib.hid (HB.out.grown g4 (Nat.le_of_lt HZ.out) (fun k hk => by injection hk with hk; omega)); clear u4 g4))
  all_goals
    go_wp2
    refine bodyPost_ret (v := .tuple #[.slice aO d.old.length cO, .slice aS d.steps.length cS, .int .i64 m]) (by simp [results, Tryz.results25, go_sem]) rfl ⟨aO, aS, cO, cS, d, m, rfl, ?_, ?_, HCAP.out, SM.out, ?_⟩
    · obtain ⟨_, _, _, _, _, _, _, _, _, _, _, _, hv, h1, h2, h3, h4⟩ := HD4.out.is
      simp only [Value.agg.injEq, Array.mk.injEq, List.cons.injEq, Value.slice.injEq] at hv
      obtain ⟨_, _, ⟨rfl, rfl, rfl⟩, _⟩ := hv
      exact h3
    · obtain ⟨_, _, _, _, _, _, _, _, _, _, _, _, hv, h1, h2, h3, h4⟩ := HD4.out.is
      simp only [Value.agg.injEq, Array.mk.injEq, List.cons.injEq, Value.slice.injEq] at hv
      obtain ⟨_, _, _, ⟨rfl, rfl, rfl⟩, _⟩ := hv
      exact h4
    · exact HB4.out

end Go.Proofs.YtdacdbidennjhaaGreatDoor.deed
