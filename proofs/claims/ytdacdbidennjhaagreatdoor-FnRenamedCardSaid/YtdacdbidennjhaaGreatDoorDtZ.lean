/-
  What is read behind a new name, and behind names that are sure: the facts that FnRenamed asks for.
-/
import Derived.Test.YtdacdbidennjhaaGreatDoorDtW
import Derived.Test.YtdacdbidennjhaaGreatDoorDqW
import Derived.Test.YtdacdbidennjhaaGreatDoorDzX
namespace Go.Proofs.YtdacdbidennjhaaGreatDoor.deed
open Go.RowKit
open kit strs recs disk kd

theorem ids_over {next : Int} : ∀ {l : List Nod} {p : Int}, ik.idsFrom next p l = true → ∀ n ∈ l, p < n.1
  | [], _, _, n, hn => by cases hn
  | x :: r, p, h, n, hn => by
    unfold ik.idsFrom at h
    rw [Bool.and_eq_true, decide_eq_true_eq] at h
    rcases List.mem_cons.1 hn with rfl | hn
    · exact h.1.1
    · have := ids_over h.2 n hn
      omega
theorem ids_one {next : Int} : ∀ {l : List Nod} {p : Int}, ik.idsFrom next p l = true → ∀ n ∈ l, ∀ m ∈ l, n.1 = m.1 → n = m
  | [], _, _, n, hn, _, _, _ => by cases hn
  | x :: r, p, h, n, hn, m, hm, e => by
    unfold ik.idsFrom at h
    rw [Bool.and_eq_true, decide_eq_true_eq] at h
    rcases List.mem_cons.1 hn with rfl | hn'
    · rcases List.mem_cons.1 hm with rfl | hm'
      · rfl
      · have := ids_over h.2 m hm'
        omega
    · rcases List.mem_cons.1 hm with rfl | hm'
      · have := ids_over h.2 n hn'
        omega
      · exact ids_one h.2 n hn' m hm' e
theorem rename_facts {d : D} {s t : ByteArray} (h : diskOk d = true) :
    ∃ x n, renameFile d s t = (x, n) ∧ diskOk x = true ∧ (n = 0 → hasE d.ents s = true ∧ (nodeAt x t).isSome = true ∧ textR (nodeAt x t) = textR (nodeAt d s) ∧ (nodeAt x s).isSome = false) := by
  unfold renameFile
  by_cases hs : hasE d.ents s = false
  · rw [if_pos (.inr hs)]
    exact ⟨d, 3, rfl, h, fun e => by cases e⟩
  have hs : hasE d.ents s = true := by simpa using hs
  rw [if_neg (by rw [h, hs]; simp)]
  by_cases ht : nam.nok t = false ∨ s = t
  · rw [if_pos ht]
    exact ⟨d, 1, rfl, h, fun e => by cases e⟩
  rw [if_neg ht]
  have hn : nam.nok t = true := by
    cases e : nam.nok t with
    | true => rfl
    | false => exact absurd (.inl e) ht
  have hne : ¬ s = t := fun e => ht (.inr e)
  obtain ⟨h1, h2, h3⟩ := right_rename h hs hn hne
  have hc : diskOk (clean (renameMid d s t)) = true := clean_right h1 h2 h3
  have hsr := (right_srt h).1
  have hall : ∀ z, entAt (clean (renameMid d s t)).ents z = if t = z then some (idE d.ents s) else entAt (dropE d.ents s) z := fun z => by
    show entAt (putE (dropE d.ents s) (t, idE d.ents s)) z = _
    rw [ik.putE_ins _ (ik.drop_srt s hsr), ik.ins_at]
  have hat := hall t
  rw [if_pos rfl] at hat
  have hhas : hasE (clean (renameMid d s t)).ents t = true := by unfold hasE; rw [hat]; rfl
  have hid : idE (clean (renameMid d s t)).ents t = idE d.ents s := by unfold idE; rw [hat]; rfl
  obtain ⟨r1, r2, _, r4⟩ := right_at hc hhas
  obtain ⟨q1, q2, _, q4⟩ := right_at h hs
  have hmem : nodeN (clean (renameMid d s t)) t ∈ d.nodes := (List.mem_filter.1 (List.mem_of_getElem? r2)).1
  have b := (right_parts h).2.1
  rw [ik.ids_none] at b
  have hsame := ids_one b _ hmem _ (List.mem_of_getElem? q2) (by rw [r4, hid, q4])
  refine ⟨_, _, rfl, hc, fun _ => ⟨hs, ?_, ?_, ?_⟩⟩
  · show (nodeAt (clean (renameMid d s t)) t).isSome = true
    rw [r1]; rfl
  · show textR (nodeAt (clean (renameMid d s t)) t) = _
    rw [r1, q1, hsame]
  · show (nodeAt (clean (renameMid d s t)) s).isSome = false
    have hg := hall s
    rw [if_neg (fun e => hne e.symm), ik.drop_at, if_pos rfl] at hg
    rw [nodeAt_none hg]
    rfl
theorem names_facts {x : D} (h : diskOk x = true) : diskOk (syncNames x) = true ∧ (syncNames x).steps = [] ∧ (syncNames x).old = x.ents ∧ (syncNames x).ents = x.ents := by
  obtain ⟨h1, h2, h3⟩ := right_sync h
  have e : syncNames x = clean (syncMid x) := by
    unfold syncNames
    rw [if_neg (by rw [h]; simp)]
    rfl
  rw [e]
  exact ⟨clean_right h1 h2 h3, rfl, rfl, rfl⟩

end Go.Proofs.YtdacdbidennjhaaGreatDoor.deed

namespace Go.Proofs.YtdacdbidennjhaaGreatDoor.deed
open Go.RowKit
open kit strs recs disk kd draw num

def PostDSS (w : World) (e : Ending) (w' : World) : Prop := ∃ u d s t, e = .returned (.tuple #[u, .string s, .string t]) ∧ s.size ≤ 20 ∧ t.size ≤ 20 ∧ OwnDisk w.heap.size w' u d ∧ Sm 6800 d ∧ Below w.heap.size w w'

set_option maxHeartbeats 4000000 in
set_option maxRecDepth 100000 in
theorem rename_any (a : Option Addr) (len cap : Nat) (w : World) (hc : CodeAt w w.heap.size a len) :
    Calls Tryz.prog 22 #[.slice a len cap] w (PostDSS w) := by
  obtain ⟨W, hW⟩ : ∃ W, W = w.alloc (.cells #[.slice none 0 0, .slice none 0 0, .slice none 0 0, .slice none 0 0, .int .i64 0, .int .i64 0] 28) := ⟨_, rfl⟩
  have hWB : Below w.heap.size w W := by rw [hW]; exact (Below.refl _ _).alloc (Nat.le_refl _) _
  have hsz : w.heap.size + 1 = W.heap.size := by rw [hW]; simp
  have br := show disk.Box W w.heap.size [.slice none 0 0, .slice none 0 0, .slice none 0 0, .slice none 0 0, .int .i64 0, .int .i64 0] from by rw [hW]; exact Box.new w #[.slice none 0 0, .slice none 0 0, .slice none 0 0, .slice none 0 0, .int .i64 0, .int .i64 0] _
  have fr : ∀ j, W.frozen? ⟨w.heap.size, j, none⟩ = false := fun j => by rw [hW]; simp
  have cW := hc.below hWB
  have BR := Lib.hid br
  have FR := Lib.hid fr
  have HW := Lib.hid hWB
  clear br fr hWB hc
  go_enter Tryz.func22, Tryz.ntmps22
  go_wp2_with (fail)
  rw [← hW]
  clear hW
  refine (new_any w.heap.size a len cap W (by omega) cW).mono ?_
  rintro e w1 ⟨rfl, u1, b1, s1⟩
  have code1 := cW.below (b1.mono (by omega))
  go_wp2_with (fail)
  refine (any_any w.heap.size W.heap.size a len cap w1 (by omega) (by omega) code1 u1).mono ?_
  rintro e w2 ⟨u, d, rfl, hd, sm, u2, g2⟩
  obtain ⟨aN, aE, aO, aS, cN, cE, cO, cS, rfl⟩ := own_slices hd
  have b2 : Below W.heap.size W w2 := b1.grown g2 (by omega) (fun k hk => by injection hk with hk; omega)
  have code2 := code1.grown (by omega) (by omega) g2
  have s2 := g2.size
  obtain ⟨V, hV⟩ : ∃ V, V = w2.alloc (.cells #[.slice aN d.nodes.length cN, .slice aE d.ents.length cE, .slice aO d.old.length cO, .slice aS d.steps.length cS, .int .i64 d.room, .int .i64 d.next] 28) := ⟨_, rfl⟩
  have bV : Below w2.heap.size w2 V := by rw [hV]; exact (Below.refl _ _).alloc (Nat.le_refl _) _
  have sV : V.heap.size = w2.heap.size + 1 := by rw [hV]; simp
  have bxV := show disk.Box V w2.heap.size [.slice aN d.nodes.length cN, .slice aE d.ents.length cE, .slice aO d.old.length cO, .slice aS d.steps.length cS, .int .i64 d.room, .int .i64 d.next] from by rw [hV]; exact Box.new w2 #[.slice aN d.nodes.length cN, .slice aE d.ents.length cE, .slice aO d.old.length cO, .slice aS d.steps.length cS, .int .i64 d.room, .int .i64 d.next] _
  have brV := (BR.out.below b2).below bV
  have frV := frozen_below (frozen_below FR.out BR.out.1 b2) (BR.out.below b2).1 bV
  have hdV := disk_below hd bV
  have cV := code2.below (bV.mono (by omega))
  have uV := u2.below (bV.mono (by omega))
  have BX := Lib.hid bxV
  have BR2 := Lib.hid brV
  have FR2 := Lib.hid frV
  have HD := Lib.hid hdV
  have CV := Lib.hid cV
  have UV := Lib.hid uV
  have SM := Lib.hid sm
  have HB := Lib.hid (HW.out.trans ((b2.trans (bV.mono (by omega))).mono (by omega)))
  have x0 := bxV.at 0 _ rfl
  have x1 := bxV.at 1 _ rfl
  have x2 := bxV.at 2 _ rfl
  have x3 := bxV.at 3 _ rfl
  have x4 := bxV.at 4 _ rfl
  have x5 := bxV.at 5 _ rfl
  clear hd u1 b1 u2 g2 b2 bV bxV brV frV hdV cV uV code1 code2 cW sm BR FR HW
  go_wp2
  rw [← hV]
  clear hV
  go_region_law (first | (go_simp; go_at_call 56; refine (name5_any w.heap.size W.heap.size a len cap V.drew (by omega) (by show _ < V.heap.size; omega) (CV.out.below (Below.refl _ _).drew) (UV.out.below (Below.refl _ _).drew)).mono ?_; rintro e w3 ⟨s, hs, rfl, u3, g3⟩; have bx3 := box_keep (BX.out.below (Below.refl _ _).drew) g3 (by omega); have y0 := bx3.at 0 _ rfl; have y1 := bx3.at 1 _ rfl; have y2 := bx3.at 2 _ rfl; have y3 := bx3.at 3 _ rfl; have y4 := bx3.at 4 _ rfl; have y5 := bx3.at 5 _ rfl; have br3 := box_keep (BR2.out.below (Below.refl _ _).drew) g3 (by omega); have fr3 := frozen_keep (frozen_below FR2.out BR2.out.1 (Below.refl _ _).drew) (BR2.out.below (Below.refl _ _).drew).1 g3 (by omega); have q0 := br3.at 0 _ rfl; have q1 := br3.at 1 _ rfl; have q2 := br3.at 2 _ rfl; have q3 := br3.at 3 _ rfl; have q4 := br3.at 4 _ rfl; have q5 := br3.at 5 _ rfl; have hd3 := Lib.hid (disk_keep (disk_below HD.out (Below.refl _ _).drew) g3 (by omega)); have hb3 := Lib.hid (HB.out.drew.grown g3 (by have := HB.out.size; show _ ≤ V.heap.size; omega) (fun k hk => by injection hk with hk; omega)); have BR3 := Lib.hid br3; have c3 := Lib.hid ((CV.out.below (Below.refl _ V).drew).grown (by first | omega | (show _ ≤ V.heap.size; omega)) (by first | omega | (show _ ≤ V.heap.size; omega)) g3); have BX3 := Lib.hid bx3; have FR3 := Lib.hid fr3; have U3 := Lib.hid u3; have S3 := Lib.hid g3.size; clear bx3 u3 g3 br3) | (go_simp; go_at_call 56; refine (name5_any w.heap.size W.heap.size a len cap w3 (by omega) (Nat.lt_of_lt_of_le (show _ < V.heap.size by omega) S3.out) c3.out U3.out).mono ?_; rintro e w4 ⟨s2, hs2, rfl, u4, g4⟩; have bx4 := box_keep BX3.out g4 (by omega); have p0 := bx4.at 0 _ rfl; have p1 := bx4.at 1 _ rfl; have p2 := bx4.at 2 _ rfl; have p3 := bx4.at 3 _ rfl; have p4 := bx4.at 4 _ rfl; have p5 := bx4.at 5 _ rfl; have br4 := box_keep BR3.out g4 (by omega); have fr4 := frozen_keep FR3.out BR3.out.1 g4 (by omega); have r0 := br4.at 0 _ rfl; have r1 := br4.at 1 _ rfl; have r2 := br4.at 2 _ rfl; have r3 := br4.at 3 _ rfl; have r4 := br4.at 4 _ rfl; have r5 := br4.at 5 _ rfl; have hd4 := Lib.hid (disk_keep hd3.out g4 (by omega)); have hb4 := Lib.hid (hb3.out.grown g4 (Nat.le_trans (show _ ≤ V.heap.size by have := HB.out.size; omega) S3.out) (fun k hk => by injection hk with hk; omega)); have BR4 := Lib.hid br4; clear bx4 u4 g4 br4))
  all_goals
    obtain ⟨Z, hZ, hbz, hdz, hlz⟩ := six_ret BR4.out (show w.heap.size < w1.heap.size by omega) hd4.out w.heap.size w hb4.out (Nat.le_refl _)
    have z0 := hbz.at 0 _ rfl
    have z1 := hbz.at 1 _ rfl
    have z2 := hbz.at 2 _ rfl
    have z3 := hbz.at 3 _ rfl
    have z4 := hbz.at 4 _ rfl
    have z5 := hbz.at 5 _ rfl
    rw [hZ]
    clear hZ hbz x0 x1 x2 x3 x4 x5 y0 y1 y2 y3 y4 y5 q0 q1 q2 q3 q4 q5 p0 p1 p2 p3 p4 p5 r0 r1 r2 r3 r4 r5
    go_wp2
    first
      | exact bodyPost_ret (v := .tuple #[.agg #[.slice aN d.nodes.length cN, .slice aE d.ents.length cE, .slice aO d.old.length cO, .slice aS d.steps.length cS, .int .i64 d.room, .int .i64 d.next], .string s, .string s2]) (by simp [results, Tryz.results22, go_sem, z0, z1, z2, z3, z4, z5]) rfl ⟨_, _, s, s2, rfl, hs, hs2, hdz.base (by omega), SM.out, hlz⟩
      | exact bodyPost_ret (v := .tuple #[.agg #[.slice aN d.nodes.length cN, .slice aE d.ents.length cE, .slice aO d.old.length cO, .slice aS d.steps.length cS, .int .i64 d.room, .int .i64 d.next], .string s2, .string s]) (by simp [results, Tryz.results22, go_sem, z0, z1, z2, z3, z4, z5]) rfl ⟨_, _, s2, s, rfl, hs2, hs, hdz.base (by omega), SM.out, hlz⟩

end Go.Proofs.YtdacdbidennjhaaGreatDoor.deed

namespace Go.Proofs.YtdacdbidennjhaaGreatDoor.deed
open Go.RowKit
open kit strs recs disk kd draw num

theorem sameEs2 (a b : Option Addr) (c d n m : Nat) (xs : List Ent) (w : World) (hnm : n = m) (hm : n ≤ 2000000) (ha : AtE w a n xs) (hb : AtE w b m xs) :
    Calls Tryz.prog 28 #[.slice a n c, .slice b m d] w fun e w' => e = .returned (.bool true) ∧ Below w.heap.size w w' := by
  subst hnm
  exact sameEs a b c d n xs w hm ha hb
theorem Held.atE {w : World} {g n c : Nat} {a : Option Addr} {c0 c2 c3 : Value} {d : D} (h : Held w g c0 (.slice a n c) c2 c3 d) : AtE w a n d.ents := by
  obtain ⟨_, _, _, _, _, _, _, _, _, _, _, _, hv, h1, h2, h3, h4⟩ := h.is
  simp only [Value.agg.injEq, Array.mk.injEq, List.cons.injEq, Value.slice.injEq] at hv
  obtain ⟨_, ⟨rfl, rfl, rfl⟩, _⟩ := hv
  exact h2
theorem Held.atO {w : World} {g n c : Nat} {a : Option Addr} {c0 c1 c3 : Value} {d : D} (h : Held w g c0 c1 (.slice a n c) c3 d) : AtE w a n d.old := by
  obtain ⟨_, _, _, _, _, _, _, _, _, _, _, _, hv, h1, h2, h3, h4⟩ := h.is
  simp only [Value.agg.injEq, Array.mk.injEq, List.cons.injEq, Value.slice.injEq] at hv
  obtain ⟨_, _, ⟨rfl, rfl, rfl⟩, _⟩ := hv
  exact h3
theorem step_small2 {K : Nat} {d : D} (h : Sm K d) (hK : K ≤ 200000) : ∀ s ∈ d.steps, s.size ≤ 1048576 := fun s hs => by
  have h1 := tot_each d.steps s hs
  have h2 := h.s
  omega

set_option maxRecDepth 20000 in
theorem renamed_big (a : Option Addr) (len cap : Nat) (w : World) (h1 : 1048576 < len) :
    Calls Tryz.prog 4 #[.slice a len cap] w fun e w' => e = .returned (.bool true) ∧ Below w.heap.size w w' := by
  go_enter Tryz.func4, Tryz.ntmps4
  go_wp2_with fail
  refine (big_yes a len cap w h1).mono ?_
  rintro e w' ⟨rfl, rfl⟩
  go_wp2
  go_ret
  exact ⟨rfl, Below.refl _ _⟩

set_option linter.unusedSimpArgs false in
set_option maxHeartbeats 16000000 in
set_option maxRecDepth 100000 in
theorem renamed_small (a : Option Addr) (len cap : Nat) (w : World) (hc : CodeAt w w.heap.size a len) (hg : ik.GD w) :
    Calls Tryz.prog 4 #[.slice a len cap] w fun e w' => e = .returned (.bool true) ∧ Below w.heap.size w w' := by
  have HC := Lib.hid hc
  have HG := Lib.hid hg
  have hlen := hc.1
  have HB := Lib.hid (Below.refl w.heap.size w)
  clear hc hg
  go_enter Tryz.func4, Tryz.ntmps4
  go_wp2_with (fail)
  refine (big_no a len cap w hlen).mono ?_
  rintro e w' ⟨rfl, rfl⟩
  clear hlen
  go_wp2_with (fail)
  refine (rename_any a len cap w HC.out).mono ?_
  rintro e w1 ⟨u, d, s, t, rfl, hs, ht, hd, sm, b1⟩
  have HB := Lib.hid b1
  have SD := Lib.hid sm
  have HS := Lib.hid hs
  have HT := Lib.hid ht
  obtain ⟨aN1, aE1, aO1, aS1, cN1, cE1, cO1, cS1, rfl⟩ := own_slices hd
  obtain ⟨V1, hV1⟩ : ∃ V, V = w1.alloc (.cells #[.slice aN1 (d).nodes.length cN1, .slice aE1 (d).ents.length cE1, .slice aO1 (d).old.length cO1, .slice aS1 (d).steps.length cS1, .int .i64 (d).room, .int .i64 (d).next] 28) := ⟨_, rfl⟩
  have bV1 : Below w1.heap.size w1 V1 := by rw [hV1]; exact (Below.refl _ _).alloc (Nat.le_refl _) _
  have HB := Lib.hid (HB.out.trans (bV1.mono HB.out.size))
  have ED := Lib.hid (show Held V1 w1.heap.size (.slice aN1 (d).nodes.length cN1) (.slice aE1 (d).ents.length cE1) (.slice aO1 (d).old.length cO1) (.slice aS1 (d).steps.length cS1) (d) from ⟨by rw [hV1]; exact Box.new _ _ _, hd.is.below bV1⟩)
  clear hd sm hs ht b1
  obtain ⟨old, hold⟩ : ∃ x, x = textR (nodeAt d s) := ⟨_, rfl⟩
  obtain ⟨has, hhas⟩ : ∃ x, x = (nodeAt d s).isSome := ⟨_, rfl⟩
  have C := Lib.hid (specReadFile _ d s V1 (SD.out.ok (by decide)).1 ED.out.is)
  rw [← hold, ← hhas] at C
  have HOLD := Lib.hid hold
  have HHAS := Lib.hid hhas
  clear hold hhas
  have y0 := ED.out.box.at 0 _ rfl
  have y1 := ED.out.box.at 1 _ rfl
  have y2 := ED.out.box.at 2 _ rfl
  have y3 := ED.out.box.at 3 _ rfl
  have y4 := ED.out.box.at 4 _ rfl
  have y5 := ED.out.box.at 5 _ rfl
  go_wp2_with (fail)
  rw [← hV1]
  clear hV1 bV1
  refine C.out.mono ?_
  rintro e w2 ⟨rfl, hb⟩
  clear C
  clear y0 y1 y2 y3 y4 y5
  have ED := Lib.hid (ED.out.below hb)
  have HB := Lib.hid (HB.out.trans (hb.mono HB.out.size))
  clear hb
  obtain ⟨r, hr⟩ : ∃ r, r = renameFile d s t := ⟨_, rfl⟩
  have HR := Lib.hid hr
  have SX := Lib.hid (show Sm 7200 r.1 by rw [hr]; exact sm_rename SD.out (by decide))
  have C := Lib.hid (ik.implRenameFile _ d s t w2 (SD.out.ok (by decide)) (by have := HT.out; omega) ED.out.is (HG.out.below HB.out))
  have C2 := Lib.hid (fun (w3 : World) (h : IsDisk w3 (.agg #[.slice aN1 d.nodes.length cN1, .slice aE1 d.ents.length cE1, .slice aO1 d.old.length cO1, .slice aS1 d.steps.length cS1, .int .i64 d.room, .int .i64 d.next]) d) => specRename _ d s t w3 (SD.out.ok (by decide)) (by have := HT.out; omega) h)
  rw [← hr] at C C2
  obtain ⟨x, n⟩ := r
  clear hr
  have y0 := ED.out.box.at 0 _ rfl
  have y1 := ED.out.box.at 1 _ rfl
  have y2 := ED.out.box.at 2 _ rfl
  have y3 := ED.out.box.at 3 _ rfl
  have y4 := ED.out.box.at 4 _ rfl
  have y5 := ED.out.box.at 5 _ rfl
  go_wp2_with (fail)
  refine C.out.mono ?_
  rintro e w3 ⟨u, rfl, hd, hb⟩
  clear C
  clear y0 y1 y2 y3 y4 y5
  have ED := Lib.hid (ED.out.below hb)
  have HB := Lib.hid (HB.out.trans (hb.mono HB.out.size))
  clear hb
  replace hd : OwnDisk w2.heap.size w3 u x := hd
  have y0 := ED.out.box.at 0 _ rfl
  have y1 := ED.out.box.at 1 _ rfl
  have y2 := ED.out.box.at 2 _ rfl
  have y3 := ED.out.box.at 3 _ rfl
  have y4 := ED.out.box.at 4 _ rfl
  have y5 := ED.out.box.at 5 _ rfl
  have zl := ED.out.box.1
  obtain ⟨aN2, aE2, aO2, aS2, cN2, cE2, cO2, cS2, rfl⟩ := own_slices hd
  obtain ⟨V2, hV2⟩ : ∃ V, V = w3.alloc (.cells #[.slice aN2 (x).nodes.length cN2, .slice aE2 (x).ents.length cE2, .slice aO2 (x).old.length cO2, .slice aS2 (x).steps.length cS2, .int .i64 (x).room, .int .i64 (x).next] 28) := ⟨_, rfl⟩
  have bV2 : Below w3.heap.size w3 V2 := by rw [hV2]; exact (Below.refl _ _).alloc (Nat.le_refl _) _
  have ED := Lib.hid (ED.out.below bV2)
  have HB := Lib.hid (HB.out.trans (bV2.mono HB.out.size))
  have EX := Lib.hid (show Held V2 w3.heap.size (.slice aN2 (x).nodes.length cN2) (.slice aE2 (x).ents.length cE2) (.slice aO2 (x).old.length cO2) (.slice aS2 (x).steps.length cS2) (x) from ⟨by rw [hV2]; exact Box.new _ _ _, hd.is.below bV2⟩)
  clear hd
  have C := Lib.hid (C2.out V2 ED.out.is)
  clear C2
  go_wp2_with (fail)
  rw [← hV2]
  clear hV2 bV2 zl
  refine C.out.mono ?_
  rintro e w4 ⟨u, rfl, hd, hb⟩
  clear C
  clear y0 y1 y2 y3 y4 y5
  have ED := Lib.hid (ED.out.below hb)
  have EX := Lib.hid (EX.out.below hb)
  have HB := Lib.hid (HB.out.trans (hb.mono HB.out.size))
  clear hb
  replace hd : OwnDisk V2.heap.size w4 u x := hd
  have y0 := EX.out.box.at 0 _ rfl
  have y1 := EX.out.box.at 1 _ rfl
  have y2 := EX.out.box.at 2 _ rfl
  have y3 := EX.out.box.at 3 _ rfl
  have y4 := EX.out.box.at 4 _ rfl
  have y5 := EX.out.box.at 5 _ rfl
  have zl := EX.out.box.1
  obtain ⟨aN3, aE3, aO3, aS3, cN3, cE3, cO3, cS3, rfl⟩ := own_slices hd
  obtain ⟨V3, hV3⟩ : ∃ V, V = w4.alloc (.cells #[.slice aN3 (x).nodes.length cN3, .slice aE3 (x).ents.length cE3, .slice aO3 (x).old.length cO3, .slice aS3 (x).steps.length cS3, .int .i64 (x).room, .int .i64 (x).next] 28) := ⟨_, rfl⟩
  have bV3 : Below w4.heap.size w4 V3 := by rw [hV3]; exact (Below.refl _ _).alloc (Nat.le_refl _) _
  have ED := Lib.hid (ED.out.below bV3)
  have EX := Lib.hid (EX.out.below bV3)
  have HB := Lib.hid (HB.out.trans (bV3.mono HB.out.size))
  have EW := Lib.hid (show Held V3 w4.heap.size (.slice aN3 (x).nodes.length cN3) (.slice aE3 (x).ents.length cE3) (.slice aO3 (x).old.length cO3) (.slice aS3 (x).steps.length cS3) (x) from ⟨by rw [hV3]; exact Box.new _ _ _, hd.is.below bV3⟩)
  clear hd
  obtain ⟨l1, l2, l3, l4⟩ := sm_lens SX.out (by decide)
  have C := Lib.hid (sameD _ _ x V3 l1 l2 l3 l4 EX.out.is EW.out.is)
  have hnn : (n != n) = false := bne_self_eq_false n
  clear l1 l2 l3 l4
  go_wp2_with (fail)
  rw [← hV3]
  clear hV3 bV3 zl
  refine C.out.mono ?_
  rintro e w5 ⟨rfl, hb⟩
  clear C hnn
  clear y0 y1 y2 y3 y4 y5
  have ED := Lib.hid (ED.out.below hb)
  have EX := Lib.hid (EX.out.below hb)
  have EW := Lib.hid (EW.out.below hb)
  have HB := Lib.hid (HB.out.trans (hb.mono HB.out.size))
  clear hb EW
  go_wp2_with (fail)
  refine (steps_any a len cap w5 ((HC.out.below HB.out).raise HB.out.size)).mono ?_
  rintro e w6 ⟨aP, aQ, cP, cQ, d2, m, rfl, hP, hQ, hcap, sy, hb⟩
  have SY := Lib.hid sy
  have HP := Lib.hid hP
  have HQ := Lib.hid hQ
  have HCAP := Lib.hid hcap
  clear sy hP hQ hcap
  have ED := Lib.hid (ED.out.below hb)
  have EX := Lib.hid (EX.out.below hb)
  have HB := Lib.hid (HB.out.trans (hb.mono HB.out.size))
  clear hb
  obtain ⟨q, hq⟩ : ∃ q, q = stepsDone d2.old d2.steps m := ⟨_, rfl⟩
  have HQL := Lib.hid (show (q.getD []).length ≤ 20000 by
    have h1 := stepsDone_length d2.old d2.steps m
    have h2 := SY.out.sm.o
    have h3 := SY.out.sm.s
    have h4 := bulkE_len d2.old
    rw [hq]
    omega)
  have C := Lib.hid (ik.implStepsDone aP aQ d2.old.length cP d2.steps.length cQ d2.old d2.steps m w6 (by have h2 := SY.out.sm.o; have h4 := bulkE_len d2.old; omega) (by have h3 := SY.out.sm.s; omega) HCAP.out (step_small2 SY.out.sm (by decide)) HP.out HQ.out SY.out.sm.wf.2.2.1 SY.out.srt SY.out.nok (HG.out.below HB.out))
  have C2 := Lib.hid (fun (w7 : World) (h : Below w6.heap.size w6 w7) => specSteps aP aQ d2.old.length cP d2.steps.length cQ d2.old d2.steps m w7 (by have h2 := SY.out.sm.o; have h4 := bulkE_len d2.old; omega) (by have h3 := SY.out.sm.s; omega) (fun s hs => Nat.le_trans (step_small2 SY.out.sm (by decide) s hs) (by decide)) (HP.out.below h) (HQ.out.below h))
  rw [← hq] at C C2
  clear hq
  go_wp2_with (fail)
  refine C.out.mono ?_
  rintro e w7 ⟨v1, rfl, ⟨q1, ho1⟩, hb⟩
  clear C
  obtain ⟨a1, c1, rfl, _, _⟩ := own_shape ho1
  have A1 := Lib.hid (show AtE w7 a1 q1 (q.getD []) from own_cells ho1)
  have C := Lib.hid (C2.out w7 hb)
  clear C2 ho1
  have ED := Lib.hid (ED.out.below hb)
  have EX := Lib.hid (EX.out.below hb)
  have HB := Lib.hid (HB.out.trans (hb.mono HB.out.size))
  clear hb
  go_wp2_with (fail)
  refine C.out.mono ?_
  rintro e w8 ⟨v2, rfl, ⟨q2, ho2⟩, hb⟩
  clear C
  obtain ⟨a2, c2, rfl, _, _⟩ := own_shape ho2
  have C := Lib.hid (sameEs2 a1 a2 c1 c2 q1 q2 (q.getD []) w8 (by rw [← A1.out.len]; exact (show AtE w8 a2 q2 (q.getD []) from own_cells ho2).len) (by rw [← A1.out.len]; have := HQL.out; omega) (A1.out.below hb) (own_cells ho2))
  obtain ⟨qb, hqb⟩ : ∃ b, b = q.isSome := ⟨_, rfl⟩
  rw [← hqb]
  have hbb : (qb != qb) = false := bne_self_eq_false qb
  clear ho2 hqb
  have ED := Lib.hid (ED.out.below hb)
  have EX := Lib.hid (EX.out.below hb)
  have HB := Lib.hid (HB.out.trans (hb.mono HB.out.size))
  clear hb
  go_wp2_with (fail)
  refine C.out.mono ?_
  rintro e w9 ⟨rfl, hb⟩
  clear C hbb A1
  have ED := Lib.hid (ED.out.below hb)
  have EX := Lib.hid (EX.out.below hb)
  have HB := Lib.hid (HB.out.trans (hb.mono HB.out.size))
  clear hb
  obtain ⟨y, hy⟩ : ∃ y, y = syncNames x := ⟨_, rfl⟩
  have SYY := Lib.hid (show Sm 7600 y by rw [hy]; exact sm_syncNames SX.out (by decide))
  have C := Lib.hid (ik.implSyncNames _ x w9 (SX.out.ok (by decide)) EX.out.is (HG.out.below HB.out))
  rw [← hy] at C
  have HY := Lib.hid hy
  clear hy
  have y0 := EX.out.box.at 0 _ rfl
  have y1 := EX.out.box.at 1 _ rfl
  have y2 := EX.out.box.at 2 _ rfl
  have y3 := EX.out.box.at 3 _ rfl
  have y4 := EX.out.box.at 4 _ rfl
  have y5 := EX.out.box.at 5 _ rfl
  go_wp2_with (fail)
  refine C.out.mono ?_
  rintro e w10 ⟨u, rfl, hd, hb⟩
  clear C
  clear y0 y1 y2 y3 y4 y5
  have ED := Lib.hid (ED.out.below hb)
  have EX := Lib.hid (EX.out.below hb)
  have HB := Lib.hid (HB.out.trans (hb.mono HB.out.size))
  clear hb
  have y0 := ED.out.box.at 0 _ rfl
  have y1 := ED.out.box.at 1 _ rfl
  have y2 := ED.out.box.at 2 _ rfl
  have y3 := ED.out.box.at 3 _ rfl
  have y4 := ED.out.box.at 4 _ rfl
  have y5 := ED.out.box.at 5 _ rfl
  have zl := ED.out.box.1
  obtain ⟨aN4, aE4, aO4, aS4, cN4, cE4, cO4, cS4, rfl⟩ := own_slices hd
  obtain ⟨V4, hV4⟩ : ∃ V, V = w10.alloc (.cells #[.slice aN4 (y).nodes.length cN4, .slice aE4 (y).ents.length cE4, .slice aO4 (y).old.length cO4, .slice aS4 (y).steps.length cS4, .int .i64 (y).room, .int .i64 (y).next] 28) := ⟨_, rfl⟩
  have bV4 : Below w10.heap.size w10 V4 := by rw [hV4]; exact (Below.refl _ _).alloc (Nat.le_refl _) _
  have ED := Lib.hid (ED.out.below bV4)
  have EX := Lib.hid (EX.out.below bV4)
  have HB := Lib.hid (HB.out.trans (bV4.mono HB.out.size))
  have EY := Lib.hid (show Held V4 w10.heap.size (.slice aN4 (y).nodes.length cN4) (.slice aE4 (y).ents.length cE4) (.slice aO4 (y).old.length cO4) (.slice aS4 (y).steps.length cS4) (y) from ⟨by rw [hV4]; exact Box.new _ _ _, hd.is.below bV4⟩)
  clear hd
  have C := Lib.hid (specDiskOk _ d V4 (okD.loose (SD.out.ok (by decide))) ED.out.is)
  go_wp2_with (fail)
  rw [← hV4]
  clear hV4 bV4 zl
  refine C.out.mono ?_
  rintro e w11 ⟨rfl, hb⟩
  clear C
  clear y0 y1 y2 y3 y4 y5
  have ED := Lib.hid (ED.out.below hb)
  have EX := Lib.hid (EX.out.below hb)
  have EY := Lib.hid (EY.out.below hb)
  have HB := Lib.hid (HB.out.trans (hb.mono HB.out.size))
  clear hb
  cases hdk : diskOk d with
  | false =>
    have hno : renameFile d s t = (d, 3) := by unfold renameFile; rw [if_pos (.inl hdk)]
    obtain ⟨rfl, rfl⟩ : x = d ∧ n = 3 := by have h := HR.out.trans hno; simp only [Prod.mk.injEq] at h; exact h
    obtain rfl : y = x := by rw [HY.out]; unfold syncNames; rw [if_pos hdk]
    obtain ⟨l1, l2, l3, l4⟩ := sm_lens SX.out (by decide)
    have C := Lib.hid (sameD _ _ y w11 l1 l2 l3 l4 EX.out.is ED.out.is)
    have C2 := Lib.hid (fun (w12 : World) (h : Below w11.heap.size w11 w12) => sameD _ _ y w12 l1 l2 l3 l4 (EY.out.is.below h) (ED.out.is.below h))
    clear l1 l2 l3 l4 hno hdk
    have y0 := EX.out.box.at 0 _ rfl
    have y1 := EX.out.box.at 1 _ rfl
    have y2 := EX.out.box.at 2 _ rfl
    have y3 := EX.out.box.at 3 _ rfl
    have y4 := EX.out.box.at 4 _ rfl
    have y5 := EX.out.box.at 5 _ rfl
    have z0 := ED.out.box.at 0 _ rfl
    have z1 := ED.out.box.at 1 _ rfl
    have z2 := ED.out.box.at 2 _ rfl
    have z3 := ED.out.box.at 3 _ rfl
    have z4 := ED.out.box.at 4 _ rfl
    have z5 := ED.out.box.at 5 _ rfl
    go_wp2_with (fail)
    refine C.out.mono ?_
    rintro e w12 ⟨rfl, hb⟩
    have C := Lib.hid (C2.out w12 hb)
    clear C2
    clear y0 y1 y2 y3 y4 y5
    clear z0 z1 z2 z3 z4 z5
    have ED := Lib.hid (ED.out.below hb)
    have EX := Lib.hid (EX.out.below hb)
    have EY := Lib.hid (EY.out.below hb)
    have HB := Lib.hid (HB.out.trans (hb.mono HB.out.size))
    clear hb
    have y0 := EY.out.box.at 0 _ rfl
    have y1 := EY.out.box.at 1 _ rfl
    have y2 := EY.out.box.at 2 _ rfl
    have y3 := EY.out.box.at 3 _ rfl
    have y4 := EY.out.box.at 4 _ rfl
    have y5 := EY.out.box.at 5 _ rfl
    have z0 := ED.out.box.at 0 _ rfl
    have z1 := ED.out.box.at 1 _ rfl
    have z2 := ED.out.box.at 2 _ rfl
    have z3 := ED.out.box.at 3 _ rfl
    have z4 := ED.out.box.at 4 _ rfl
    have z5 := ED.out.box.at 5 _ rfl
    go_wp2_with (fail)
    refine C.out.mono ?_
    rintro e w13 ⟨rfl, hb⟩
    go_wp2
    go_ret
    exact ⟨rfl, HB.out.trans (hb.mono HB.out.size)⟩
  | true =>
    obtain ⟨x', n', h1, dx, hx⟩ := rename_facts (s := s) (t := t) hdk
    obtain ⟨rfl, rfl⟩ : x = x' ∧ n = n' := by have h := HR.out.trans h1; simp only [Prod.mk.injEq] at h; exact h
    have DX := Lib.hid dx
    obtain ⟨dy, ys, yo, ye⟩ := names_facts dx
    rw [← HY.out] at dy ys yo ye
    have DY := Lib.hid dy
    have YS := Lib.hid ys
    have YO := Lib.hid yo
    have YE := Lib.hid ye
    have HX := Lib.hid hx
    have hy0 : ((y.steps.length : Int) == 0) = true := by rw [ys]; rfl
    have hy1 : decide (y.steps.length = 0) = true := by rw [ys]; rfl
    have hy2 : y.steps.length = 0 := by rw [ys]; rfl
    have HY0 := Lib.hid (And.intro hy0 (And.intro hy1 hy2))
    clear h1 dx hx dy ys yo ye hdk hy0 hy1 hy2
    by_cases hn : n = 0
    · subst hn
      obtain ⟨g1, g2, g3, g4⟩ := HX.out rfl
      obtain ⟨b1, hb1⟩ : ∃ b, b = (nodeAt x t).isSome := ⟨_, rfl⟩
      have C := Lib.hid (disk.implReadFile _ x t w11 (SX.out.ok (by decide)).1 EX.out.is)
      rw [g3, ← HOLD.out, ← hb1] at C
      obtain rfl : b1 = true := hb1.trans g2
      have C2 := Lib.hid (fun (w12 : World) (h : Below w11.heap.size w11 w12) => disk.implReadFile _ x s w12 (SX.out.ok (by decide)).1 (EX.out.is.below h))
      rw [g4] at C2
      have hhas2 : has = true := by
        rw [HHAS.out]
        cases e : nodeAt d s with
        | some nd => rfl
        | none =>
          exfalso
          have hdk : diskOk d = true := by
            cases h : diskOk d with
            | true => rfl
            | false =>
              have h2 := HR.out
              unfold renameFile at h2
              rw [if_pos (.inl h)] at h2
              simp only [Prod.mk.injEq] at h2
              exact absurd h2.2 (by decide)
          rw [(right_at hdk g1).1] at e
          cases e
      subst hhas2
      obtain ⟨tz, htz⟩ : ∃ z, z = textR (nodeAt x s) := ⟨_, rfl⟩
      simp only [← htz] at C2
      have hob : (old.toList == old.toList) = true := beq_self_eq_true _
      have hoc : (old.toList != old.toList) = false := bne_self_eq_false _
      clear g1 g2 g3 g4 hb1 htz
      have y0 := EX.out.box.at 0 _ rfl
      have y1 := EX.out.box.at 1 _ rfl
      have y2 := EX.out.box.at 2 _ rfl
      have y3 := EX.out.box.at 3 _ rfl
      have y4 := EX.out.box.at 4 _ rfl
      have y5 := EX.out.box.at 5 _ rfl
      go_wp2_with (fail)
      refine C.out.mono ?_
      rintro e w12 ⟨rfl, hb⟩
      have C := Lib.hid (C2.out w12 hb)
      clear C2
      clear y0 y1 y2 y3 y4 y5
      have ED := Lib.hid (ED.out.below hb)
      have EX := Lib.hid (EX.out.below hb)
      have EY := Lib.hid (EY.out.below hb)
      have HB := Lib.hid (HB.out.trans (hb.mono HB.out.size))
      clear hb
      have y0 := EX.out.box.at 0 _ rfl
      have y1 := EX.out.box.at 1 _ rfl
      have y2 := EX.out.box.at 2 _ rfl
      have y3 := EX.out.box.at 3 _ rfl
      have y4 := EX.out.box.at 4 _ rfl
      have y5 := EX.out.box.at 5 _ rfl
      go_wp2_with (fail)
      refine C.out.mono ?_
      rintro e w13 ⟨rfl, hb⟩
      clear C
      clear y0 y1 y2 y3 y4 y5
      have ED := Lib.hid (ED.out.below hb)
      have EX := Lib.hid (EX.out.below hb)
      have EY := Lib.hid (EY.out.below hb)
      have HB := Lib.hid (HB.out.trans (hb.mono HB.out.size))
      clear hb
      have C := Lib.hid (specDiskOk _ x w13 (okD.loose (SX.out.ok (by decide))) EX.out.is)
      rw [DX.out] at C
      have y0 := EX.out.box.at 0 _ rfl
      have y1 := EX.out.box.at 1 _ rfl
      have y2 := EX.out.box.at 2 _ rfl
      have y3 := EX.out.box.at 3 _ rfl
      have y4 := EX.out.box.at 4 _ rfl
      have y5 := EX.out.box.at 5 _ rfl
      go_wp2_with (fail)
      refine C.out.mono ?_
      rintro e w14 ⟨rfl, hb⟩
      clear C
      clear y0 y1 y2 y3 y4 y5
      have ED := Lib.hid (ED.out.below hb)
      have EX := Lib.hid (EX.out.below hb)
      have EY := Lib.hid (EY.out.below hb)
      have HB := Lib.hid (HB.out.trans (hb.mono HB.out.size))
      clear hb
      have C := Lib.hid (specDiskOk _ y w14 (okD.loose (SYY.out.ok (by decide))) EY.out.is)
      rw [DY.out] at C
      have y0 := EY.out.box.at 0 _ rfl
      have y1 := EY.out.box.at 1 _ rfl
      have y2 := EY.out.box.at 2 _ rfl
      have y3 := EY.out.box.at 3 _ rfl
      have y4 := EY.out.box.at 4 _ rfl
      have y5 := EY.out.box.at 5 _ rfl
      go_wp2_with (fail)
      refine C.out.mono ?_
      rintro e w15 ⟨rfl, hb⟩
      clear C
      clear y0 y1 y2 y3 y4 y5
      have ED := Lib.hid (ED.out.below hb)
      have EX := Lib.hid (EX.out.below hb)
      have EY := Lib.hid (EY.out.below hb)
      have HB := Lib.hid (HB.out.trans (hb.mono HB.out.size))
      clear hb
      have A2 := Lib.hid EX.out.atE
      have C := Lib.hid (sameEs2 aO4 aE2 cO4 cE2 y.old.length x.ents.length x.ents w15 (by rw [YO.out]) (by rw [YO.out]; have := (sm_lens SX.out (by decide)).2.1; omega) (by have h := EY.out.atO; rw [YO.out] at h ⊢; exact h) A2.out)
      have C2 := Lib.hid (fun (w0 : World) (h : Below w15.heap.size w15 w0) => sameEs2 aE4 aE2 cE4 cE2 y.ents.length x.ents.length x.ents w0 (by rw [YE.out]) (by rw [YE.out]; have := (sm_lens SX.out (by decide)).2.1; omega) (by have h := EY.out.atE; rw [YE.out] at h ⊢; exact h.below (by assumption)) (A2.out.below h))
      obtain ⟨hy0, hy1, hy2⟩ := HY0.out
      have y0 := EY.out.box.at 0 _ rfl
      have y1 := EY.out.box.at 1 _ rfl
      have y2 := EY.out.box.at 2 _ rfl
      have y3 := EY.out.box.at 3 _ rfl
      have y4 := EY.out.box.at 4 _ rfl
      have y5 := EY.out.box.at 5 _ rfl
      have z0 := EX.out.box.at 0 _ rfl
      have z1 := EX.out.box.at 1 _ rfl
      have z2 := EX.out.box.at 2 _ rfl
      have z3 := EX.out.box.at 3 _ rfl
      have z4 := EX.out.box.at 4 _ rfl
      have z5 := EX.out.box.at 5 _ rfl
      go_wp2_with (fail)
      refine C.out.mono ?_
      rintro e w16 ⟨rfl, hb⟩
      have C := Lib.hid (C2.out w16 hb)
      clear C2 hy0 hy1 hy2
      clear y0 y1 y2 y3 y4 y5
      clear z0 z1 z2 z3 z4 z5
      have ED := Lib.hid (ED.out.below hb)
      have EX := Lib.hid (EX.out.below hb)
      have EY := Lib.hid (EY.out.below hb)
      have HB := Lib.hid (HB.out.trans (hb.mono HB.out.size))
      clear hb
      have y0 := EY.out.box.at 0 _ rfl
      have y1 := EY.out.box.at 1 _ rfl
      have y2 := EY.out.box.at 2 _ rfl
      have y3 := EY.out.box.at 3 _ rfl
      have y4 := EY.out.box.at 4 _ rfl
      have y5 := EY.out.box.at 5 _ rfl
      have z0 := EX.out.box.at 0 _ rfl
      have z1 := EX.out.box.at 1 _ rfl
      have z2 := EX.out.box.at 2 _ rfl
      have z3 := EX.out.box.at 3 _ rfl
      have z4 := EX.out.box.at 4 _ rfl
      have z5 := EX.out.box.at 5 _ rfl
      go_wp2_with (fail)
      refine C.out.mono ?_
      rintro e w17 ⟨rfl, hb⟩
      go_wp2
      go_ret
      exact ⟨rfl, HB.out.trans (hb.mono HB.out.size)⟩
    · have hn1 : (n == 0) = false := by simpa using hn
      have HN := Lib.hid hn
      clear hn
      have C := Lib.hid (specDiskOk _ x w11 (okD.loose (SX.out.ok (by decide))) EX.out.is)
      rw [DX.out] at C
      have y0 := EX.out.box.at 0 _ rfl
      have y1 := EX.out.box.at 1 _ rfl
      have y2 := EX.out.box.at 2 _ rfl
      have y3 := EX.out.box.at 3 _ rfl
      have y4 := EX.out.box.at 4 _ rfl
      have y5 := EX.out.box.at 5 _ rfl
      go_wp2_with (fail)
      refine C.out.mono ?_
      rintro e w14 ⟨rfl, hb⟩
      clear C
      clear y0 y1 y2 y3 y4 y5
      have ED := Lib.hid (ED.out.below hb)
      have EX := Lib.hid (EX.out.below hb)
      have EY := Lib.hid (EY.out.below hb)
      have HB := Lib.hid (HB.out.trans (hb.mono HB.out.size))
      clear hb
      have C := Lib.hid (specDiskOk _ y w14 (okD.loose (SYY.out.ok (by decide))) EY.out.is)
      rw [DY.out] at C
      have y0 := EY.out.box.at 0 _ rfl
      have y1 := EY.out.box.at 1 _ rfl
      have y2 := EY.out.box.at 2 _ rfl
      have y3 := EY.out.box.at 3 _ rfl
      have y4 := EY.out.box.at 4 _ rfl
      have y5 := EY.out.box.at 5 _ rfl
      go_wp2_with (fail)
      refine C.out.mono ?_
      rintro e w15 ⟨rfl, hb⟩
      clear C
      clear y0 y1 y2 y3 y4 y5
      have ED := Lib.hid (ED.out.below hb)
      have EX := Lib.hid (EX.out.below hb)
      have EY := Lib.hid (EY.out.below hb)
      have HB := Lib.hid (HB.out.trans (hb.mono HB.out.size))
      clear hb
      have A2 := Lib.hid EX.out.atE
      have C := Lib.hid (sameEs2 aO4 aE2 cO4 cE2 y.old.length x.ents.length x.ents w15 (by rw [YO.out]) (by rw [YO.out]; have := (sm_lens SX.out (by decide)).2.1; omega) (by have h := EY.out.atO; rw [YO.out] at h ⊢; exact h) A2.out)
      have C2 := Lib.hid (fun (w0 : World) (h : Below w15.heap.size w15 w0) => sameEs2 aE4 aE2 cE4 cE2 y.ents.length x.ents.length x.ents w0 (by rw [YE.out]) (by rw [YE.out]; have := (sm_lens SX.out (by decide)).2.1; omega) (by have h := EY.out.atE; rw [YE.out] at h ⊢; exact h.below (by assumption)) (A2.out.below h))
      obtain ⟨hy0, hy1, hy2⟩ := HY0.out
      have y0 := EY.out.box.at 0 _ rfl
      have y1 := EY.out.box.at 1 _ rfl
      have y2 := EY.out.box.at 2 _ rfl
      have y3 := EY.out.box.at 3 _ rfl
      have y4 := EY.out.box.at 4 _ rfl
      have y5 := EY.out.box.at 5 _ rfl
      have z0 := EX.out.box.at 0 _ rfl
      have z1 := EX.out.box.at 1 _ rfl
      have z2 := EX.out.box.at 2 _ rfl
      have z3 := EX.out.box.at 3 _ rfl
      have z4 := EX.out.box.at 4 _ rfl
      have z5 := EX.out.box.at 5 _ rfl
      go_wp2_with (fail)
      refine C.out.mono ?_
      rintro e w16 ⟨rfl, hb⟩
      have C := Lib.hid (C2.out w16 hb)
      clear C2 hy0 hy1 hy2
      clear y0 y1 y2 y3 y4 y5
      clear z0 z1 z2 z3 z4 z5
      have ED := Lib.hid (ED.out.below hb)
      have EX := Lib.hid (EX.out.below hb)
      have EY := Lib.hid (EY.out.below hb)
      have HB := Lib.hid (HB.out.trans (hb.mono HB.out.size))
      clear hb
      have y0 := EY.out.box.at 0 _ rfl
      have y1 := EY.out.box.at 1 _ rfl
      have y2 := EY.out.box.at 2 _ rfl
      have y3 := EY.out.box.at 3 _ rfl
      have y4 := EY.out.box.at 4 _ rfl
      have y5 := EY.out.box.at 5 _ rfl
      have z0 := EX.out.box.at 0 _ rfl
      have z1 := EX.out.box.at 1 _ rfl
      have z2 := EX.out.box.at 2 _ rfl
      have z3 := EX.out.box.at 3 _ rfl
      have z4 := EX.out.box.at 4 _ rfl
      have z5 := EX.out.box.at 5 _ rfl
      go_wp2_with (fail)
      refine C.out.mono ?_
      rintro e w17 ⟨rfl, hb⟩
      go_wp2
      go_ret
      exact ⟨rfl, HB.out.trans (hb.mono HB.out.size)⟩

end Go.Proofs.YtdacdbidennjhaaGreatDoor.deed
