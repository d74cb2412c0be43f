/-
  The landed program's methods on its own disk: nodeOf, dropLostNodes, takeStep.
-/
import Derived.Test.YtdacdbidennjhaaGreatDoorDrY
import Derived.Deep.RegionLaw
namespace Go.Proofs.YtdacdbidennjhaaGreatDoor.ik
open Go.RowKit Go.Maps Go.WideMaps
open kit strs recs disk deed kd

/-- where a node lies -/
def nodePtr : Option Addr → Option Nat → Option Addr
  | some ad, some k => some ⟨ad.block, ad.off + k * 3, none⟩
  | _, _ => none

set_option maxHeartbeats 2000000 in
set_option maxRecDepth 100000 in
theorem implNodeOf (B b c : Nat) (aN : Option Addr) (sE sO sS : Value) (d : D) (s : ByteArray) (w : World) (h : Pen B w b (.slice aN d.nodes.length c) sE sO sS d) (hm : d.nodes.length ≤ 2000000) (hm2 : d.ents.length ≤ 2000000) :
    Calls Tryz.prog 127 #[.pointer (some ⟨b, 0, none⟩), .string s] w fun e w' => e = .returned (.pointer (nodePtr aN (nodeIx d.nodes (idE d.ents s)))) ∧ Below w.heap.size w w' := by
  obtain ⟨aN', aE, aO, aS, cN', cE, cO, cS, hsN, rfl, rfl, rfl, hN, hE, hO, hS⟩ := h.shapes
  simp only [Value.slice.injEq] at hsN
  obtain ⟨rfl, _, rfl⟩ := hsN
  have hbx := h.box
  have x0 := hbx.at 0 _ rfl
  have x1 := hbx.at 1 _ rfl
  have HX := Lib.hid hbx
  have HN := Lib.hid hN
  have CE := Lib.hid (implEntryAt aE cE d.ents.length d.ents s w (by unfold maxLen; omega) hE)
  obtain ⟨id, hid⟩ : ∃ id, id = idE d.ents s := ⟨_, rfl⟩
  rw [← hid] at CE ⊢
  obtain ⟨n, hn⟩ : ∃ n, n = d.nodes.length := ⟨_, rfl⟩
  rw [← hn] at HN HX x0 hm
  clear h hN hE hO hS hid hbx hn
  go_enter Tryz.func127, Tryz.ntmps127
  go_wp2_with (fail)
  refine CE.out.mono ?_
  rintro e w1 ⟨rfl, hb1⟩
  clear x0 x1
  have x0 := (HX.out.below hb1).at 0 _ rfl
  have HB1 := Lib.hid hb1
  clear hb1
  go_wp2
  go_loopw [6, 18] (fun _ i wr => ∃ k : Nat, k ≤ n ∧ i = .int .i64 k ∧ Hid (nodeIx d.nodes id = (nodeIx (d.nodes.drop k) id).map (· + k)) ∧ Hid (Below w.heap.size w wr)) (fun _ i _ => n - (intOf i).toNat)
  case atStart => exact ⟨0, Nat.zero_le _, rfl, Lib.hid (by simp), HB1⟩
  case round =>
    obtain ⟨k, hk, rfl, hf, hb⟩ := hrel
    have y0 := (HX.out.below hb.out).at 0 _ rfl
    by_cases hlt : k < n
    · obtain ⟨i, t, jj, g, o, hx, rfl, hg, c1, c2, c3⟩ := (HN.out.below hb.out).get hlt
      have i0 : (0 : Int) ≤ (k : Int) := by omega
      have i1 : (k : Int) < (n : Int) := by omega
      by_cases e : i = id
      · have HE := Lib.hid (show nodePtr (some ⟨g, o, none⟩) (nodeIx d.nodes id) = some ⟨g, o + k * 3, none⟩ by
          rw [hf.out, nodeIx_yes hx e]
          simp [nodePtr])
        have he : (i == id) = true := by simpa using e
        clear hx e hf
        go_wp2
        go_ret
        exact ⟨by rw [HE.out]; rfl, hb.out⟩
      · have HE := Lib.hid (show nodeIx d.nodes id = (nodeIx (d.nodes.drop (k + 1)) id).map (· + (k + 1)) by
          rw [hf.out, nodeIx_no hx e, Option.map_map]
          congr 1
          funext y
          simp
          omega)
        have he : (i == id) = false := by simpa using e
        clear hx e hf
        go_wp2
        refine ⟨?rel, ?measure⟩
        case rel =>
          first
            | exact ⟨k + 1, by omega, by go_num, HE, hb⟩
            | (iterate 100 (try apply Exists.intro)
               refine ⟨?r2, rfl⟩
               exact ⟨k + 1, by omega, by go_num, HE, hb⟩)
        case measure => simp [intOf]; omega
    · obtain rfl : k = n := by omega
      have HE := Lib.hid (show nodePtr aN (nodeIx d.nodes id) = none by
        rw [hf.out, drop_end HN.out.len]
        simp [nodeIx, nodePtr])
      clear hf
      go_wp2
      go_ret
      exact ⟨by rw [HE.out]; rfl, hb.out⟩

set_option maxHeartbeats 4000000 in
set_option maxRecDepth 100000 in
/-- nodes that nothing stands for are left out -/
theorem implLost (B b : Nat) (sN sE sO sS : Value) (d : D) (w : World) (h : Pen B w b sN sE sO sS d) (hall : AllSteps d.old d.steps) (hk : okL d) (hz : ∀ s ∈ d.steps, s.size ≤ 1048576) (hg : GD w) :
    Calls Tryz.prog 140 #[.pointer (some ⟨b, 0, none⟩)] w fun e w' => (∃ v, e = .returned v) ∧ PenR B b (clean d) w w' := by
  obtain ⟨l1, l2, l3, l4⟩ := okL_lens hk
  obtain ⟨aN, aE, aO, aS, cN, cE, cO, cS, rfl, rfl, rfl, rfl, hN, hE, hO, hS⟩ := h.shapes
  have hbx := h.box
  have hwB := h.hs
  have CN := Lib.hid (fun (w1 : World) (hb : Below w.heap.size w w1) => implNamed aO aS d.old.length cO d.steps.length cS d.old d.steps w1 (by omega) hz (hO.below hb) (hS.below hb) hk.1.2.2.1 hall (hg.below hb))
  have x2 := hbx.at 2 _ rfl
  have x3 := hbx.at 3 _ rfl
  have hlt := hbx.1
  have HH := Lib.hid h
  have HWN := Lib.hid hk.1.1
  clear hbx h hN hE hO hS hall hz hg hk
  go_enter Tryz.func140, Tryz.ntmps140
  go_wp2
  have bD : Below w.heap.size w w.drew := (Below.refl _ _).drew
  go_region_law (first | (go_simp; go_at_call 171; refine (CN.out _ (by first | exact bD | exact bD.alloc (Nat.le_refl _) _)).mono ?_; rintro e w1 ⟨bI, q, rfl, hI, hlo, hb1⟩; have vb := hb1.cell (p := ⟨w.heap.size, 0, none⟩); have vf := hb1.frozen (p := ⟨w.heap.size, 0, none⟩); simp at vb vf))
  all_goals first
    | (obtain ⟨X, hX⟩ : ∃ X, X = w1.alloc (.cells #[.map (some bI)] 150) := ⟨_, rfl⟩
       obtain ⟨gB, hgB⟩ : ∃ gB, gB = w1.heap.size := ⟨_, rfl⟩
       rw [← hX, ← hgB]
       have hz1 := hb1.size
       simp at hz1 hlo
       have hBX : Below w.heap.size w X := by
         rw [hX]
         exact (bD.trans (hb1.mono (by simp))).alloc (by omega) _
       have hc : X.cell? ⟨gB, 0, none⟩ = some (.map (some bI)) := by rw [hX, hgB]; simp
       have hgl : w.heap.size ≤ gB := by omega
       have HI := Lib.hid (show MapI X bI q (namedK d.old d.steps d.steps.length) by rw [hX]; exact hI.below ((Below.refl _ _).alloc (Nat.le_refl _) _))
       have hbl : w.heap.size ≤ bI := by omega)
    | (obtain ⟨X, hX⟩ : ∃ X, X = w1.setCell ⟨w.heap.size, 0, none⟩ (.map (some bI)) := ⟨_, rfl⟩
       obtain ⟨gB, hgB⟩ : ∃ gB, gB = w.heap.size := ⟨_, rfl⟩
       rw [← hX]
       rw [← hgB]
       have hz1 := hb1.size
       simp at hz1 hlo
       have hBX : Below w.heap.size w X := by
         rw [hX]
         refine Below.setCell (p := ⟨w.heap.size, 0, none⟩) ?_ (Nat.le_refl _) _
         refine Below.trans ?_ (hb1.mono (by simp))
         first
           | exact bD.alloc (Nat.le_refl _) _
           | exact ((Below.refl _ _).alloc (Nat.le_refl _) _).drew
       have hc : X.cell? ⟨gB, 0, none⟩ = some (.map (some bI)) := by
         rw [hX, hgB]
         exact set_same _ vb
       have hgl : w.heap.size ≤ gB := by omega
       have HI := Lib.hid (show MapI X bI q (namedK d.old d.steps d.steps.length) by
         rw [hX]
         exact hI.kept (grownBy_setCell' w1 w.heap.size _) (fun e => by have := Option.some.inj e; omega))
       have hbl : w.heap.size ≤ bI := by omega)
  all_goals
    have HX := Lib.hid (HH.out.below hBX)
    have hrow := HX.out.rowN
    have HRW := Lib.hid hrow
    have hge : ∀ g, (Value.slice aN d.nodes.length cN).ownBlock = some g → B ≤ g ∧ g < w.heap.size := fun g hg => own_block_ge HH.out.rowN g hg
    have CD := Lib.hid (delN aN B cN d.nodes.length gB bI q d.nodes (namedK d.old d.steps d.steps.length) X (by omega) hrow (fun e he => wf_lit (HWN.out e he).1) hc HI.out (fun h => by have := (hge _ h).2; omega) (fun h => by have := (hge _ h).2; omega))
    have x0 := HX.out.box.at 0 _ rfl
    have HBX := Lib.hid hBX
    clear hX hgB hb1 hI hlo hc vb vf HI hBX hrow x2 x3 bD
    go_wp2_with (fail)
    refine CD.out.mono ?_
    rintro e2 w2 ⟨u2, q2, rfl, hown2, hg2⟩
    obtain ⟨a2, c2, rfl, _, _⟩ := own_shape hown2
    obtain ⟨m1, m2⟩ := HX.out.mid HRW.out (by decide) hg2
    have y0 := m1.at 0 _ rfl
    have y1 := m2 0
    have HP := Lib.hid (HX.out.setN (ns := d.nodes.filter (usedN d)) hg2 hown2)
    have HBW := Lib.hid (((HBX.out.mono hwB).grown hg2 (Nat.le_trans hwB HBX.out.size) (fun g hg => (hge g hg).1)).setCell (p := ⟨b, 0, none⟩) HH.out.hb (.slice a2 q2 c2))
    clear hown2 hg2 m1 m2
    go_wp2
    go_end0
    exact ⟨⟨_, rfl⟩, _, _, _, _, HP.out, HBW.out⟩

end Go.Proofs.YtdacdbidennjhaaGreatDoor.ik

namespace Go.Proofs.YtdacdbidennjhaaGreatDoor.ik
open Go.RowKit Go.Maps Go.WideMaps
open kit strs recs disk deed kd

/-- what steps want of a world, and that it stays while all below B does -/
def GB (B : Nat) (w : World) : Prop := ∃ w0, GD w0 ∧ w0.heap.size ≤ B ∧ Below w0.heap.size w0 w
theorem GB.gd {B : Nat} {w : World} (h : GB B w) : GD w := by
  obtain ⟨w0, h1, _, h3⟩ := h
  exact h1.below h3
theorem GB.next {B : Nat} {w w' : World} (h : GB B w) (hb : Below B w w') : GB B w' := by
  obtain ⟨w0, h1, h2, h3⟩ := h
  exact ⟨w0, h1, h2, h3.trans (hb.mono h2)⟩
theorem at_one (w : World) (s : ByteArray) : strs.At (w.alloc (.cells #[.string s] 9)) (some ⟨w.heap.size, 0, none⟩) 1 [s] := by
  refine ⟨rfl, .inr ⟨w.heap.size, 0, rfl, by simp, fun j x hx => ?_⟩⟩
  have hj : j = 0 := by
    have := (List.getElem?_eq_some_iff.1 hx).1
    simp at this
    omega
  subst hj
  simp at hx
  subst hx
  simp
theorem step_one {l l' : List Ent} {s : ByteArray} (h : doStep l s = some l') : stepsDone l [s] 1 = some l' := by
  unfold stepsDone
  rw [show clampN 1 [s].length = 1 from rfl]
  show (doStep l s).bind (fun l' => stepsTo l' []) = some l'
  rw [h]
  rfl

set_option maxHeartbeats 4000000 in
set_option maxRecDepth 100000 in
theorem implTake (B b : Nat) (sN sE sO sS : Value) (d : D) (s : ByteArray) (l' : List Ent) (w : World) (h : Pen B w b sN sE sO sS d) (hd : doStep d.ents s = some l') (hr : Srt d.ents ∧ Nok d.ents) (he : d.ents.length ≤ 16) (hs : s.size ≤ 1048576)
    (hall : AllSteps d.old (d.steps ++ [s])) (hk : okL { d with ents := l', steps := d.steps ++ [s] }) (hz : ∀ x ∈ d.steps ++ [s], x.size ≤ 1048576) (hw : recs.wfE d.ents) (hg : GB B w) :
    Calls Tryz.prog 130 #[.pointer (some ⟨b, 0, none⟩), .string s] w fun e w' => (∃ v, e = .returned v) ∧ PenR B b (clean { d with ents := l', steps := d.steps ++ [s] }) w w' := by
  obtain ⟨i0, hi, hz0, hz1, hz2⟩ := info_parts Tryz.infoStr
  obtain ⟨l1, l2, l3, l4⟩ := okL_lens hk
  simp only [List.length_append, List.length_singleton] at l4
  obtain ⟨aN, aE, aO, aS, cN, cE, cO, cS, rfl, rfl, rfl, rfl, hN, hE, hO, hS⟩ := h.shapes
  clear hN hE hO hS
  have hy := (Below.refl w.heap.size w).alloc (Nat.le_refl _) (.cells #[.string s] 9)
  have h1 := h.below hy
  have RS := Lib.hid h1.rowS
  have HY := Lib.hid h1
  have ZS := Lib.hid h1.hs
  have CS := Lib.hid (cells_new w (.string s) 9)
  have bn : d.steps.length + 1 ≤ maxLen := by unfold maxLen; omega
  have bm : (d.steps.length + 1) * 16 ≤ 140737488355328 := by omega
  have hbx := h.box
  have x1 := hbx.at 1 _ rfl
  have x3 := hbx.at 3 _ rfl
  have fz := h.fz 3
  have HB := Lib.hid h.hb
  have HS0 := Lib.hid h.hs
  have HG := Lib.hid hg
  have HALL := Lib.hid hall
  have HK := Lib.hid hk
  have HZ := Lib.hid hz
  have HW := Lib.hid hw
  have HD := Lib.hid hd
  have HRR := Lib.hid hr
  have HBY := Lib.hid ((Below.refl B w).alloc h.hs (.cells #[.string s] 9))
  have HBW := Lib.hid hy
  clear h h1 hbx hall hk hz hw hd hr hg l1 l2 l3 hy
  go_enter Tryz.func130, Tryz.ntmps130
  go_wp2_with (at_builtin; refine list_copy (by rfl) (.tmp 8) (.tmp 10) 26 (by rfl) B 9 i0 (.string { data := #[] }) 1 16 Tryz.underlying26 hi hz0 hz1 hz2 (by rfl) (by decide) _ d.steps.length (d.steps.map Value.string) RS.out ZS.out (some ⟨w.heap.size, 0, none⟩) 1 1 [.string s] CS.out (one_str _) bn bm (by rfl) (by rfl) ?_; intro v1 w1 hown1 hg1; obtain ⟨a1, c1, rfl, _, _⟩ := own_shape hown1; obtain ⟨m1, m2⟩ := HY.out.mid RS.out (by decide) hg1; have y3 := m1.at 3 _ rfl; have yf := m2 3; have H2 := Lib.hid (HY.out.setS (ss := d.steps ++ [s]) hg1 (by rw [List.map_append]; exact hown1)); have HB2 := Lib.hid ((HBY.out.grown hg1 ZS.out (fun g hg => (own_block_ge RS.out g hg).1)).setCell (p := ⟨b, 3, none⟩) HB.out (.slice a1 (d.steps.length + 1) c1)); have n1 := m1.at 1 _ rfl; clear x1 x3 fz m1 m2 hown1 hg1)
  obtain ⟨W2, hW2⟩ : ∃ W2, W2 = w1.setCell ⟨b, 3, none⟩ (.slice a1 (d.steps.length + 1) c1) := ⟨_, rfl⟩
  have hsz2 : W2.heap.size = w1.heap.size := by rw [hW2]; simp
  rw [← hsz2, ← hW2]
  rw [← hW2] at H2 HB2
  clear hW2 y3 yf n1 hsz2
  have hy3 := (Below.refl W2.heap.size W2).alloc (Nat.le_refl _) (.cells #[.string s] 9)
  have H3 := Lib.hid (H2.out.below hy3)
  have hbs2 := H2.out.hs
  have HB3 := Lib.hid (HB2.out.trans (hy3.mono hbs2))
  obtain ⟨W3, hW3⟩ : ∃ W3, W3 = W2.alloc (.cells #[.string s] 9) := ⟨_, rfl⟩
  have A1 := Lib.hid (show strs.At W3 (some ⟨W2.heap.size, 0, none⟩) 1 [s] by rw [hW3]; exact at_one W2 s)
  rw [← hW3]
  rw [← hW3] at H3 HB3
  clear hW3 hy3
  have AE := Lib.hid (show AtE W3 aE d.ents.length d.ents by
    obtain ⟨_, bE, _, _, _, _, _, _, _, h2, _, _, _, h4, _⟩ := H3.out.shapes
    simp only [Value.slice.injEq] at h2
    obtain ⟨rfl, _, _⟩ := h2
    exact h4)
  refine (implStepsDone aE (some ⟨W2.heap.size, 0, none⟩) d.ents.length cE 1 1 d.ents [s] 1 W3 (by omega) (by omega) (by omega) (fun x hx => by simp at hx; rw [hx]; exact hs) AE.out A1.out HW.out HRR.out.1 HRR.out.2 (HG.out.next HB3.out).gd).mono ?_
  rintro e4 w4 ⟨v4, he4, ho4, hb4⟩
  rw [step_one HD.out] at he4 ho4
  subst he4
  have ho4 : OwnE W3.heap.size w4 v4 l' := ho4
  obtain ⟨q4, o4⟩ := ho4
  obtain ⟨a4, c4, rfl, _, _⟩ := own_shape o4
  have P4 := H3.out.below hb4
  have y1 := P4.box.at 1 _ rfl
  have yf := P4.fz 1
  have HP5 := Lib.hid (H3.out.setE hb4 ⟨q4, o4⟩)
  have HB5 := Lib.hid ((HB3.out.trans (hb4.mono H3.out.hs)).setCell (p := ⟨b, 1, none⟩) HB.out (.slice a4 q4 c4))
  clear o4 hb4 P4
  go_wp2_with (fail)
  obtain ⟨W5, hW5⟩ : ∃ W5, W5 = w4.setCell ⟨b, 1, none⟩ (.slice a4 q4 c4) := ⟨_, rfl⟩
  rw [← hW5]
  rw [← hW5] at HP5 HB5
  clear hW5 y1 yf
  refine (implLost B b _ _ _ _ _ W5 HP5.out HALL.out HK.out HZ.out (HG.out.next HB5.out).gd).mono ?_
  rintro e6 w6 ⟨⟨v6, rfl⟩, tN, tE, tO, tS, hp6, hb6⟩
  go_wp2
  go_end0
  exact ⟨⟨_, rfl⟩, _, _, _, _, hp6, HB5.out.trans hb6⟩

end Go.Proofs.YtdacdbidennjhaaGreatDoor.ik

namespace Go.Proofs.YtdacdbidennjhaaGreatDoor.ik
open Go.RowKit Go.Maps Go.WideMaps
open kit strs recs disk deed kd

/-- what a deed's method leaves: its code, and another disk in the same box -/
def DeedP (B b : Nat) (r : D × Int) (w : World) (e : Ending) (w' : World) : Prop := e = .returned (.int .i64 r.2) ∧ PenR B b r.1 w w'
theorem ids_more {next : Int} : ∀ {l : List Nod} {p : Int}, idsFrom next p l = true → ∀ n ∈ l, p < n.1
  | [], _, _, n, hn => by cases hn
  | x :: r, p, h, n, hn => by
    unfold idsFrom at h
    rw [Bool.and_eq_true, decide_eq_true_eq] at h
    rcases List.mem_cons.1 hn with rfl | hn
    · exact h.1.1
    · have := ids_more h.2 n hn
      omega
theorem ptr_none {d : D} {s : ByteArray} (h : diskOk d = true) (hs : hasE d.ents s = false) : nodeIx d.nodes (idE d.ents s) = none := by
  have h0 : idE d.ents s = 0 := by
    unfold idE
    rw [has_no hs]
    rfl
  have hb := (right_parts h).2.1
  rw [ids_none] at hb
  rw [h0]
  have : (nodeIx d.nodes 0).isSome = false := by
    rw [nodeIx_mem, List.any_eq_false]
    intro n hn
    have := ids_more hb n hn
    simp
    omega
  cases e : nodeIx d.nodes 0 with
  | none => rfl
  | some k => rw [e] at this; cases this
theorem ptr_some {B b c : Nat} {aN : Option Addr} {sE sO sS : Value} {d : D} {s : ByteArray} {w : World} (hp : Pen B w b (.slice aN d.nodes.length c) sE sO sS d) (h : diskOk d = true) (hs : hasE d.ents s = true) :
    ∃ g, aN = some ⟨g, 0, none⟩ ∧ nodePtr aN (nodeIx d.nodes (idE d.ents s)) = some ⟨g, nodeK d s * 3, none⟩ ∧ d.nodes[nodeK d s]? = some (nodeN d s) := by
  obtain ⟨k, nd, h1, h2⟩ := right_node h hs
  have hk := (List.getElem?_eq_some_iff.1 h2).1
  rcases hp.rowN.2 with ⟨_, h0⟩ | ⟨g, cap, cur, hv, _⟩
  · omega
  · simp only [Value.slice.injEq] at hv
    obtain ⟨rfl, _⟩ := hv
    refine ⟨g, rfl, ?_, node_of h hs⟩
    rw [h1, nodeK_is h1]
    simp [nodePtr]
theorem step_ok {d : D} {s : ByteArray} (h : okD d) (hs : s.size ≤ 1048576) : ∀ x ∈ d.steps ++ [s], x.size ≤ 1048576 := fun x hx => by
  rcases List.mem_append.1 hx with hx | hx
  · exact step_size h x hx
  · rw [List.mem_singleton] at hx
    rw [hx]
    exact hs

set_option maxHeartbeats 2000000 in
set_option maxRecDepth 100000 in
theorem implRemoveM (B b : Nat) (sN sE sO sS : Value) (d : D) (s : ByteArray) (w : World) (h : Pen B w b sN sE sO sS d) (hd : diskOk d = true) (hk : okD d) (hs : s.size ≤ 1048576) (hg : GB B w) :
    Calls Tryz.prog 78 #[.pointer (some ⟨b, 0, none⟩), .string s] w (DeedP B b (removeFile d s) w) := by
  obtain ⟨l1, l2, l3, l4⟩ := okL_lens (okD.loose hk)
  have h0 := h
  obtain ⟨aN, aE, aO, aS, cN, cE, cO, cS, rfl, rfl, rfl, rfl, _, _, _, _⟩ := h.shapes
  have CO := Lib.hid (implNodeOf B b cN aN _ _ _ d s w h0 (by omega) (by omega))
  cases hh : hasE d.ents s with
  | false =>
    have HF := Lib.hid (show removeFile d s = (d, 3) by unfold removeFile; rw [if_pos (.inr hh)])
    rw [ptr_none hd hh] at CO
    rw [show nodePtr aN none = none by cases aN <;> rfl] at CO
    have HH := Lib.hid h0
    clear h h0 hh hd hk hg
    go_enter Tryz.func78, Tryz.ntmps78
    go_wp2_with (fail)
    refine CO.out.mono ?_
    rintro e w1 ⟨rfl, hb1⟩
    go_wp2
    go_ret
    exact ⟨by rw [HF.out]; rfl, by rw [HF.out]; exact ⟨_, _, _, _, HH.out.below hb1, hb1.mono HH.out.hs⟩⟩
  | true =>
    obtain ⟨g, _, hptr, _⟩ := ptr_some h0 hd hh
    rw [hptr] at CO
    have hz := has_small hd hh
    have hrr := right_srt hd
    obtain ⟨_, _, hq3⟩ := right_remove hd hh
    have CT := Lib.hid (fun (w1 : World) (hb : Below w.heap.size w w1) => implTake B b _ _ _ _ d (minusStep s) (dropE d.ents s) w1 (h0.below hb) (do_minus hrr.2 hh) hrr (ents_len hd) (by rw [minus_size]; omega) (AllSteps.of hq3) ((more_remove hk hz).ok hk) (step_ok hk (by rw [minus_size]; omega)) hk.1.2.1 (hg.next (hb.mono h0.hs)))
    have HF := Lib.hid (show removeFile d s = (clean (removeMid d s), 0) by unfold removeFile; rw [if_neg (by rw [hd, hh]; simp)]; rfl)
    have HH := Lib.hid h0
    have l9 : ¬ 9223372036854775807 < 1 + s.size := by omega
    clear h h0 hh hd hk hg hptr hrr hq3
    go_enter Tryz.func78, Tryz.ntmps78
    go_wp2_with (fail)
    refine CO.out.mono ?_
    rintro e w1 ⟨rfl, hb1⟩
    go_wp2_with (fail)
    refine (CT.out w1 hb1).mono ?_
    rintro e w2 ⟨⟨v2, rfl⟩, tN, tE, tO, tS, hp2, hb2⟩
    go_wp2
    go_ret
    exact ⟨by rw [HF.out]; rfl, by rw [HF.out]; exact ⟨_, _, _, _, hp2, (hb1.mono HH.out.hs).trans hb2⟩⟩

set_option maxHeartbeats 2000000 in
set_option maxRecDepth 100000 in
theorem implRenameM (B b : Nat) (sN sE sO sS : Value) (d : D) (s t : ByteArray) (w : World) (h : Pen B w b sN sE sO sS d) (hd : diskOk d = true) (hk : okD d) (ht : t.size ≤ 1048576) (hg : GB B w) :
    Calls Tryz.prog 82 #[.pointer (some ⟨b, 0, none⟩), .string s, .string t] w (DeedP B b (renameFile d s t) w) := by
  obtain ⟨l1, l2, l3, l4⟩ := okL_lens (okD.loose hk)
  have h0 := h
  obtain ⟨aN, aE, aO, aS, cN, cE, cO, cS, rfl, rfl, rfl, rfl, _, _, _, _⟩ := h.shapes
  have CO := Lib.hid (implNodeOf B b cN aN _ _ _ d s w h0 (by omega) (by omega))
  cases hh : hasE d.ents s with
  | false =>
    have HF := Lib.hid (show renameFile d s t = (d, 3) by unfold renameFile; rw [if_pos (.inr hh)])
    rw [ptr_none hd hh] at CO
    rw [show nodePtr aN none = none by cases aN <;> rfl] at CO
    have HH := Lib.hid h0
    clear h h0 hh hd hk hg
    go_enter Tryz.func82, Tryz.ntmps82
    go_wp2_with (fail)
    refine CO.out.mono ?_
    rintro e w1 ⟨rfl, hb1⟩
    go_wp2
    go_ret
    exact ⟨by rw [HF.out]; rfl, by rw [HF.out]; exact ⟨_, _, _, _, HH.out.below hb1, hb1.mono HH.out.hs⟩⟩
  | true =>
    obtain ⟨g, _, hptr, _⟩ := ptr_some h0 hd hh
    rw [hptr] at CO
    have hz := has_small hd hh
    have hrr := right_srt hd
    have CNm := Lib.hid (fun (w1 : World) (hb : Below w.heap.size w w1) => nam.implOk_any t w1 ht (hg.next (hb.mono h0.hs)).gd.hand)
    have HH := Lib.hid h0
    by_cases hst : s = t
    · have HF := Lib.hid (show renameFile d s t = (d, 1) by unfold renameFile; rw [if_neg (by rw [hd, hh]; simp), if_pos (.inr hst)])
      have hbe := bytes_eq hst
      clear h h0 hh hd hk hg hptr hrr hst CNm
      go_enter Tryz.func82, Tryz.ntmps82
      go_wp2_with (fail)
      refine CO.out.mono ?_
      rintro e w1 ⟨rfl, hb1⟩
      go_wp2
      go_ret
      exact ⟨by rw [HF.out]; rfl, by rw [HF.out]; exact ⟨_, _, _, _, HH.out.below hb1, hb1.mono HH.out.hs⟩⟩
    · have hbe := bytes_ne hst
      cases hn : nam.nok t with
      | false =>
        rw [hn] at CNm
        have HF := Lib.hid (show renameFile d s t = (d, 1) by unfold renameFile; rw [if_neg (by rw [hd, hh]; simp), if_pos (.inl hn)])
        clear h h0 hh hd hk hg hptr hrr hst hn
        go_enter Tryz.func82, Tryz.ntmps82
        go_wp2_with (fail)
        refine CO.out.mono ?_
        rintro e w1 ⟨rfl, hb1⟩
        go_wp2_with (fail)
        refine (CNm.out w1 hb1).mono ?_
        rintro e w2 ⟨rfl, hb2⟩
        have HB2 := Lib.hid (hb1.trans (hb2.mono hb1.size))
        clear hb1 hb2
        go_wp2
        go_ret
        exact ⟨by rw [HF.out]; rfl, by rw [HF.out]; exact ⟨_, _, _, _, HH.out.below HB2.out, HB2.out.mono HH.out.hs⟩⟩
      | true =>
        rw [hn] at CNm
        have htz := nok_small hn
        obtain ⟨_, _, hq3⟩ := right_rename hd hh hn hst
        have CT := Lib.hid (fun (w1 : World) (hb : Below w.heap.size w w1) => implTake B b _ _ _ _ d (moveStep s t) (putE (dropE d.ents s) (t, idE d.ents s)) w1 (h0.below hb) (do_move hrr.1 hrr.2 hh hn hst) hrr (ents_len hd) (by rw [deed.move_size]; omega) (AllSteps.of hq3) ((more_rename hk hz htz).ok hk) (step_ok hk (by rw [deed.move_size]; omega)) hk.1.2.1 (hg.next (hb.mono h0.hs)))
        have HF := Lib.hid (show renameFile d s t = (clean (renameMid d s t), 0) by unfold renameFile; rw [if_neg (by rw [hd, hh]; simp), if_neg (by rw [hn]; simp [hst])]; rfl)
        have l9 : ¬ 9223372036854775807 < 1 + s.size := by omega
        have l10 : ¬ 9223372036854775807 < 1 + s.size + 1 := by omega
        have l11 : ¬ 9223372036854775807 < 1 + s.size + 1 + t.size := by omega
        clear h h0 hh hd hk hg hptr hrr hst hn hq3
        go_enter Tryz.func82, Tryz.ntmps82
        go_wp2_with (fail)
        refine CO.out.mono ?_
        rintro e w1 ⟨rfl, hb1⟩
        go_wp2_with (fail)
        refine (CNm.out w1 hb1).mono ?_
        rintro e w2 ⟨rfl, hb2⟩
        have HB2 := Lib.hid (hb1.trans (hb2.mono hb1.size))
        clear hb1 hb2
        go_wp2_with (fail)
        refine (CT.out w2 HB2.out).mono ?_
        rintro e w3 ⟨⟨v3, rfl⟩, tN, tE, tO, tS, hp3, hb3⟩
        go_wp2
        go_ret
        exact ⟨by rw [HF.out]; rfl, by rw [HF.out]; exact ⟨_, _, _, _, hp3, (HB2.out.mono HH.out.hs).trans hb3⟩⟩

set_option maxHeartbeats 2000000 in
set_option maxRecDepth 100000 in
theorem implSureM (B b : Nat) (sN sE sO sS : Value) (d : D) (w : World) (h : Pen B w b sN sE sO sS d) (hd : diskOk d = true) (hk : okD d) (hg : GB B w) :
    Calls Tryz.prog 95 #[.pointer (some ⟨b, 0, none⟩)] w (DeedP B b (syncNames d, 0) w) := by
  obtain ⟨l1, l2, l3, l4⟩ := okL_lens (okD.loose hk)
  have h0 := h
  obtain ⟨aN, aE, aO, aS, cN, cE, cO, cS, rfl, rfl, rfl, rfl, hN, hE, hO, hS⟩ := h.shapes
  have CC := Lib.hid (cloneE aE cE d.ents.length d.ents w (by omega) hE)
  have x1 := h.box.at 1 _ rfl
  have hlt := h.box.1
  have HH := Lib.hid h
  have HF := Lib.hid (show syncNames d = clean (syncMid d) by unfold syncNames; rw [if_neg (by rw [hd]; simp)]; rfl)
  have HQ := Lib.hid (AllSteps.of (right_sync hd).2.2)
  have HM := Lib.hid ((more_sync hk hd).ok hk)
  have HG := Lib.hid hg
  clear h h0 hd hk hN hE hO hS hg
  go_enter Tryz.func95, Tryz.ntmps95
  go_wp2_with (fail)
  refine CC.out.mono ?_
  rintro e w1 ⟨u1, rfl, ⟨q1, o1⟩, hb1⟩
  obtain ⟨a1, c1, rfl, _, _⟩ := own_shape o1
  have P1 := HH.out.below hb1
  have y2 := P1.box.at 2 _ rfl
  have y2f := P1.fz 2
  have y3 := P1.box.at 3 _ rfl
  have y3f := P1.fz 3
  have P2 := HH.out.setO hb1 ⟨q1, o1⟩
  have HP3 := Lib.hid P2.setS0
  have HB3 := Lib.hid ((((hb1.mono HH.out.hs).setCell (p := ⟨b, 2, none⟩) HH.out.hb (.slice a1 q1 c1))).setCell (p := ⟨b, 3, none⟩) HH.out.hb (.slice none 0 0))
  clear o1 hb1 P1 P2
  go_wp2_with (fail)
  obtain ⟨W3, hW3⟩ : ∃ W3, W3 = (w1.setCell ⟨b, 2, none⟩ (.slice a1 q1 c1)).setCell ⟨b, 3, none⟩ (.slice none 0 0) := ⟨_, rfl⟩
  rw [← hW3]
  rw [← hW3] at HP3 HB3
  clear hW3 y2 y2f y3 y3f
  refine (implLost B b _ _ _ _ _ W3 HP3.out HQ.out HM.out (fun x hx => by cases hx) (HG.out.next HB3.out).gd).mono ?_
  rintro e w4 ⟨⟨v4, rfl⟩, tN, tE, tO, tS, hp4, hb4⟩
  go_wp2
  go_ret
  exact ⟨rfl, by show PenR B b (syncNames d) w w4; rw [HF.out]; exact ⟨_, _, _, _, hp4, HB3.out.trans hb4⟩⟩

set_option maxHeartbeats 2000000 in
set_option maxRecDepth 100000 in
theorem implMakeSureM (B b : Nat) (sN sE sO sS : Value) (d : D) (s : ByteArray) (w : World) (h : Pen B w b sN sE sO sS d) (hd : diskOk d = true) (hk : okD d) :
    Calls Tryz.prog 76 #[.pointer (some ⟨b, 0, none⟩), .string s] w (DeedP B b (syncFile d s) w) := by
  obtain ⟨l1, l2, l3, l4⟩ := okL_lens (okD.loose hk)
  have h0 := h
  obtain ⟨aN, aE, aO, aS, cN, cE, cO, cS, rfl, rfl, rfl, rfl, _, _, _, _⟩ := h.shapes
  have CO := Lib.hid (implNodeOf B b cN aN _ _ _ d s w h0 (by omega) (by omega))
  cases hh : hasE d.ents s with
  | false =>
    have HF := Lib.hid (show syncFile d s = (d, 3) by unfold syncFile; rw [if_pos (.inr hh)])
    rw [ptr_none hd hh] at CO
    rw [show nodePtr aN none = none by cases aN <;> rfl] at CO
    have HH := Lib.hid h0
    clear h h0 hh hd hk
    go_enter Tryz.func76, Tryz.ntmps76
    go_wp2_with (fail)
    refine CO.out.mono ?_
    rintro e w1 ⟨rfl, hb1⟩
    go_wp2
    go_ret
    exact ⟨by rw [HF.out]; rfl, by rw [HF.out]; exact ⟨_, _, _, _, HH.out.below hb1, hb1.mono HH.out.hs⟩⟩
  | true =>
    obtain ⟨g, rfl, hptr, hx⟩ := ptr_some h0 hd hh
    rw [hptr] at CO
    have HF := Lib.hid (show syncFile d s = (setNode d (nodeK d s) ((nodeN d s).1, (nodeN d s).2.1, ((nodeN d s).2.1.size : Int)), 0) by unfold syncFile; rw [if_neg (by rw [hd, hh]; simp)])
    have HH := Lib.hid h0
    have HX := Lib.hid hx
    obtain ⟨k, hkk⟩ : ∃ k, k = nodeK d s := ⟨_, rfl⟩
    obtain ⟨nd, hnd⟩ : ∃ nd, nd = nodeN d s := ⟨_, rfl⟩
    rw [← hkk, ← hnd] at HF HX
    rw [← hkk] at CO
    clear h h0 hh hd hk hptr hx hkk hnd
    go_enter Tryz.func76, Tryz.ntmps76
    go_wp2_with (fail)
    refine CO.out.mono ?_
    rintro e w1 ⟨rfl, hb1⟩
    have P1 := HH.out.below hb1
    obtain ⟨aN', _, _, _, _, _, _, _, hsN, _, _, _, hat, _, _, _⟩ := P1.shapes
    simp only [Value.slice.injEq] at hsN
    obtain ⟨rfl, _, _⟩ := hsN
    obtain ⟨g2, o2, hg2, hgl, _, c0, c1, c2⟩ := hat.nth HX.out
    simp only [Option.some.injEq, Addr.mk.injEq, and_true] at hg2
    obtain ⟨rfl, rfl⟩ := hg2
    simp only [Nat.zero_add] at c0 c1 c2
    have cf := P1.rowN.frozenAt (k * 3 + 2)
    have HP := Lib.hid (P1.node (u := .int .i64 (nd.2.1.size : Int)) (cellsN_sure d.nodes k nd _ HX.out))
    have HBB := Lib.hid (hb1.mono HH.out.hs)
    clear P1 hat hb1
    go_wp2
    go_ret
    exact ⟨by rw [HF.out]; rfl, by rw [HF.out]; exact ⟨_, _, _, _, HP.out.1, HBB.out.setCell (p := ⟨g, k * 3 + 2, none⟩) HP.out.2 _⟩⟩

end Go.Proofs.YtdacdbidennjhaaGreatDoor.ik

namespace Go.Proofs.YtdacdbidennjhaaGreatDoor.ik
open Go.RowKit Go.Maps Go.WideMaps
open kit strs recs disk deed kd

theorem ext_all (t : ByteArray) : t.extract 0 t.size = t := by
  apply ByteArray.ext
  rw [ByteArray.data_extract]
  exact Array.extract_size

set_option maxHeartbeats 4000000 in
set_option maxRecDepth 100000 in
theorem implLayM (B b : Nat) (sN sE sO sS : Value) (d : D) (s t : ByteArray) (w : World) (h : Pen B w b sN sE sO sS d) (hd : diskOk d = true) (hk : okD d) (ht : t.size ≤ 1000000000) :
    Calls Tryz.prog 64 #[.pointer (some ⟨b, 0, none⟩), .string s, .string t] w (DeedP B b (appendFile d s t) w) := by
  obtain ⟨l1, l2, l3, l4⟩ := okL_lens (okD.loose hk)
  have h0 := h
  obtain ⟨aN, aE, aO, aS, cN, cE, cO, cS, rfl, rfl, rfl, rfl, _, _, _, _⟩ := h.shapes
  have CO := Lib.hid (implNodeOf B b cN aN _ _ _ d s w h0 (by omega) (by omega))
  cases hh : hasE d.ents s with
  | false =>
    have HF := Lib.hid (show appendFile d s t = (d, 3) by unfold appendFile; rw [if_pos (.inr hh)])
    rw [ptr_none hd hh] at CO
    rw [show nodePtr aN none = none by cases aN <;> rfl] at CO
    have HH := Lib.hid h0
    clear h h0 hh hd hk
    go_enter Tryz.func64, Tryz.ntmps64
    go_wp2_with (fail)
    refine CO.out.mono ?_
    rintro e w1 ⟨rfl, hb1⟩
    go_wp2
    go_ret
    exact ⟨by rw [HF.out]; rfl, by rw [HF.out]; exact ⟨_, _, _, _, HH.out.below hb1, hb1.mono HH.out.hs⟩⟩
  | true =>
    obtain ⟨g, rfl, hptr, hx⟩ := ptr_some h0 hd hh
    rw [hptr] at CO
    obtain ⟨r1, r2, r3⟩ := right_room hd
    obtain ⟨U, hU⟩ : ∃ U, U = usedOn d := ⟨_, rfl⟩
    have HH := Lib.hid h0
    have HX := Lib.hid hx
    obtain ⟨k, hkk⟩ : ∃ k, k = nodeK d s := ⟨_, rfl⟩
    obtain ⟨nd, hnd⟩ : ∃ nd, nd = nodeN d s := ⟨_, rfl⟩
    have HF := Lib.hid (show appendFile d s t = if d.room - (U : Int) < (t.size : Int) then (setNode d k (nd.1, nd.2.1 ++ t.extract 0 (d.room - (U : Int)).toNat, nd.2.2), 5) else (setNode d k (nd.1, nd.2.1 ++ t, nd.2.2), 0) by
      rw [hU, hkk, hnd]
      unfold appendFile
      rw [if_neg (by rw [hd, hh]; simp)])
    rw [← hkk, ← hnd] at HX
    rw [← hkk] at CO
    rw [← hU] at r1
    have ndz : nd.2.1.size ≤ U := by
      rw [hU]
      unfold usedOn
      exact tot_each _ _ (List.mem_map.2 ⟨nd, List.mem_of_getElem? HX.out, rfl⟩)
    have CU := Lib.hid (fun (v : Value) (w' : World) (h : IsDisk w' v d) => implUsedOn v d w' (by have := used_le hk.2; omega) hk.1 h)
    rw [← hU] at CU
    have sw : IntKind.i64.wrap (d.room - (U : Int)) = d.room - (U : Int) := by rw [IntKind.wrap_i64]; omega
    have s0 : -9223372036854775808 ≤ d.room - (U : Int) := by omega
    have s1 : d.room - (U : Int) ≤ 9223372036854775807 := by omega
    obtain ⟨L, hL⟩ : ∃ L : Nat, d.room - (U : Int) = (L : Int) := Int.eq_ofNat_of_zero_le (by omega)
    have HLL := Lib.hid hL
    obtain ⟨M, hM⟩ : ∃ M : Nat, M = if L < t.size then L else t.size := ⟨_, rfl⟩
    have hML : M ≤ t.size := by rw [hM]; split <;> omega
    have hMU : (M : Int) ≤ L := by rw [hM]; split <;> omega
    have hmin : min (t.size : Int) (L : Int) = (M : Int) := by rw [hM]; split <;> omega
    have HFM := Lib.hid (show appendFile d s t = (setNode d k (nd.1, nd.2.1 ++ t.extract 0 M, nd.2.2), if M < t.size then 5 else 0) by
      rw [HF.out, hL, hM]
      by_cases hlt : L < t.size
      · rw [if_pos (by omega), if_pos hlt, if_pos hlt]
        rfl
      · rw [if_neg (by omega), if_neg hlt, if_neg (by omega), ext_all])
    clear h h0 hh hd hk hptr hx hkk hnd hU HF hM
    go_enter Tryz.func64, Tryz.ntmps64
    go_wp2_with (fail)
    refine CO.out.mono ?_
    rintro e w1 ⟨rfl, hb1⟩
    have P1 := Lib.hid (HH.out.below hb1)
    have x0 := P1.out.box.at 0 _ rfl
    have x1 := P1.out.box.at 1 _ rfl
    have x2 := P1.out.box.at 2 _ rfl
    have x3 := P1.out.box.at 3 _ rfl
    have x4 := P1.out.box.at 4 _ rfl
    have x5 := P1.out.box.at 5 _ rfl
    have y0 := Later.cell x0 P1.out.box.1
    have y1 := Later.cell x1 P1.out.box.1
    have y2 := Later.cell x2 P1.out.box.1
    have y3 := Later.cell x3 P1.out.box.1
    have y4 := Later.cell x4 P1.out.box.1
    have y5 := Later.cell x5 P1.out.box.1
    have CUL := Lib.hid (fun (x : Later w1) => CU.out _ x.val (P1.out.is.below x.2))
    have HBB := Lib.hid (hb1.mono HH.out.hs)
    clear hb1
    go_wp2
    refine wp_region_later (by kernel_rfl) (by kernel_rfl) ?_
    repeat (first | go_big_quiet_skip | (go_big_quiet_want; go_big_quiet_op; first | go_big_quiet_on | (apply Exists.intro; refine ⟨fun x => ?_, ?_⟩; (first | (go_at_call 128; exact Calls.later (CUL.out x))); go_big_quiet_on)))
    refine wpQuiet_nil ?_
    rintro w2 ⟨z2, hz2⟩
    have hb2 : Below w1.heap.size w1 w2 := hz2 ▸ z2.2
    clear hz2 z2
    have P2 := P1.out.below hb2
    obtain ⟨aN', _, _, _, _, _, _, _, hsN, _, _, _, hat, _, _, _⟩ := P2.shapes
    simp only [Value.slice.injEq] at hsN
    obtain ⟨rfl, _, _⟩ := hsN
    obtain ⟨g2, o2, hg2, hgl, _, c0, c1, c2⟩ := hat.nth HX.out
    simp only [Option.some.injEq, Addr.mk.injEq, and_true] at hg2
    obtain ⟨rfl, rfl⟩ := hg2
    simp only [Nat.zero_add] at c0 c1 c2
    have cf := P2.rowN.frozenAt (k * 3 + 1)
    have HP := Lib.hid (P2.node (u := .string (nd.2.1 ++ t.extract 0 M)) (cellsN_text d.nodes k nd _ HX.out))
    have HB2 := Lib.hid ((HBB.out.trans (hb2.mono P1.out.hs)).setCell (p := ⟨g, k * 3 + 1, none⟩) HP.out.2 (.string (nd.2.1 ++ t.extract 0 M)))
    have e0 : (0 : Int) ≤ (M : Int) := by omega
    have e1 : (M : Int) ≤ (t.size : Int) := by omega
    have esz : (t.extract 0 M).size ≤ t.size := by rw [ByteArray.size_extract]; omega
    have l1 : ¬ 9223372036854775807 < nd.2.1.size + (t.extract 0 M).size := by omega
    clear P2 hat x0 x1 x2 x3 x4 x5 y0 y1 y2 y3 y4 y5 hb2 sw s0 s1 hL hmin hMU c0 c2
    by_cases hlt : M < t.size
    · have HF2 := Lib.hid (show appendFile d s t = (setNode d k (nd.1, nd.2.1 ++ t.extract 0 M, nd.2.2), 5) by rw [HFM.out, if_pos hlt])
      have g1 : (M : Int) < (t.size : Int) := by omega
      go_wp2
      go_region
      go_wp2
      go_ret
      exact ⟨by rw [HF2.out]; rfl, by rw [HF2.out]; first | exact ⟨_, _, _, _, HP.out.1, HB2.out⟩ | exact ⟨_, _, _, _, HP.out.1.below (Below.refl _ _).drew, HB2.out.drew⟩⟩
    · have HF2 := Lib.hid (show appendFile d s t = (setNode d k (nd.1, nd.2.1 ++ t.extract 0 M, nd.2.2), 0) by rw [HFM.out, if_neg hlt])
      have g1 : ¬ (M : Int) < (t.size : Int) := by omega
      go_wp2
      go_region
      go_wp2
      go_ret
      exact ⟨by rw [HF2.out]; rfl, by rw [HF2.out]; first | exact ⟨_, _, _, _, HP.out.1, HB2.out⟩ | exact ⟨_, _, _, _, HP.out.1.below (Below.refl _ _).drew, HB2.out.drew⟩⟩

end Go.Proofs.YtdacdbidennjhaaGreatDoor.ik

namespace Go.Proofs.YtdacdbidennjhaaGreatDoor.ik
open Go.RowKit Go.Maps Go.WideMaps
open kit strs recs disk deed kd

theorem ok_next {d : D} {x : Int} (h : okL d) (hx : recs.wfI x) : okL { d with next := x } := by
  obtain ⟨⟨wN, wE, wO, wS, wR, wX, m1, m2, m3, m4⟩, hb⟩ := h
  exact ⟨⟨wN, wE, wO, wS, wR, hx, m1, m2, m3, m4⟩, hb⟩
theorem one_nod (i : Int) (s : ByteArray) (j : Int) : ∀ u ∈ ([.int .i64 i, .string s, .int .i64 j] : List Value), u.oneCell' = true := by simp [Value.oneCell']
def withNode (d : D) : D := { d with nodes := d.nodes ++ [(d.next, { data := #[] }, 0)] }
theorem create_next (d : D) (s : ByteArray) : { clean { withNode d with ents := putE d.ents (s, d.next), steps := d.steps ++ [plusStep s d.next] } with next := d.next + 1 } = clean (createMid d s) := rfl

set_option maxHeartbeats 4000000 in
set_option maxRecDepth 100000 in
theorem implCreateM (B b : Nat) (sN sE sO sS : Value) (d : D) (s : ByteArray) (w : World) (h : Pen B w b sN sE sO sS d) (hd : diskOk d = true) (hk : okD d) (hs : s.size ≤ 1048576) (hg : GB B w) :
    Calls Tryz.prog 80 #[.pointer (some ⟨b, 0, none⟩), .string s] w (DeedP B b (createFile d s) w) := by
  obtain ⟨j0, ji0, jz0, jz1, jz2⟩ := info_parts Tryz.infoNod
  obtain ⟨l1, l2, l3, l4⟩ := okL_lens (okD.loose hk)
  have h0 := h
  obtain ⟨aN, aE, aO, aS, cN, cE, cO, cS, rfl, rfl, rfl, rfl, _, _, _, _⟩ := h.shapes
  have HH := Lib.hid h0
  have CNm := Lib.hid (nam.implOk_any s w hs hg.gd.hand)
  cases hn : nam.nok s with
  | false =>
    rw [hn] at CNm
    have HF := Lib.hid (show createFile d s = (d, 1) by unfold createFile; rw [if_neg (by rw [hd]; simp), if_pos hn])
    clear h h0 hd hk hg hn
    go_enter Tryz.func80, Tryz.ntmps80
    go_wp2_with (fail)
    refine CNm.out.mono ?_
    rintro e w1 ⟨rfl, hb1⟩
    go_wp2
    go_ret
    exact ⟨by rw [HF.out]; rfl, by rw [HF.out]; exact ⟨_, _, _, _, HH.out.below hb1, hb1.mono HH.out.hs⟩⟩
  | true =>
    rw [hn] at CNm
    have CO := Lib.hid (fun (w1 : World) (hb : Below w.heap.size w w1) => implNodeOf B b cN aN _ _ _ d s w1 (h0.below hb) (by omega) (by omega))
    cases hh : hasE d.ents s with
    | true =>
      obtain ⟨g, _, hptr, _⟩ := ptr_some h0 hd hh
      rw [hptr] at CO
      have HF := Lib.hid (show createFile d s = (d, 2) by unfold createFile; rw [if_neg (by rw [hd]; simp), if_neg (by rw [hn]; simp), if_pos hh])
      clear h h0 hd hk hg hn hh hptr
      go_enter Tryz.func80, Tryz.ntmps80
      go_wp2_with (fail)
      refine CNm.out.mono ?_
      rintro e w1 ⟨rfl, hb1⟩
      go_wp2_with (fail)
      refine (CO.out w1 hb1).mono ?_
      rintro e w2 ⟨rfl, hb2⟩
      have HB2 := Lib.hid (hb1.trans (hb2.mono hb1.size))
      clear hb1 hb2
      go_wp2
      go_ret
      exact ⟨by rw [HF.out]; rfl, by rw [HF.out]; exact ⟨_, _, _, _, HH.out.below HB2.out, HB2.out.mono HH.out.hs⟩⟩
    | false =>
      rw [ptr_none hd hh] at CO
      rw [show nodePtr aN none = none by cases aN <;> rfl] at CO
      by_cases hmany : 16 ≤ d.ents.length ∨ 64 ≤ d.nodes.length ∨ 1000000000 ≤ d.next
      · have HF := Lib.hid (show createFile d s = (d, 4) by unfold createFile; rw [if_neg (by rw [hd]; simp), if_neg (by rw [hn]; simp), if_neg (by rw [hh]; simp), if_pos hmany])
        by_cases m1 : 16 ≤ d.ents.length
        · have g1 : (16 : Int) ≤ (d.ents.length : Int) := by omega
          clear h h0 hd hk hg hn hh hmany
          go_enter Tryz.func80, Tryz.ntmps80
          go_wp2_with (fail)
          refine CNm.out.mono ?_
          rintro e w1 ⟨rfl, hb1⟩
          go_wp2_with (fail)
          refine (CO.out w1 hb1).mono ?_
          rintro e w2 ⟨rfl, hb2⟩
          have HB2 := Lib.hid (hb1.trans (hb2.mono hb1.size))
          clear hb1 hb2
          have bx := (HH.out.below HB2.out).box
          have x0 := bx.at 0 _ rfl
          have x1 := bx.at 1 _ rfl
          have x5 := bx.at 5 _ rfl
          go_wp2
          go_ret
          exact ⟨by rw [HF.out]; rfl, by rw [HF.out]; exact ⟨_, _, _, _, HH.out.below HB2.out, HB2.out.mono HH.out.hs⟩⟩
        · have g1 : ¬ (16 : Int) ≤ (d.ents.length : Int) := by omega
          by_cases m2 : 64 ≤ d.nodes.length
          · have g2 : (64 : Int) ≤ (d.nodes.length : Int) := by omega
            clear h h0 hd hk hg hn hh hmany
            go_enter Tryz.func80, Tryz.ntmps80
            go_wp2_with (fail)
            refine CNm.out.mono ?_
            rintro e w1 ⟨rfl, hb1⟩
            go_wp2_with (fail)
            refine (CO.out w1 hb1).mono ?_
            rintro e w2 ⟨rfl, hb2⟩
            have HB2 := Lib.hid (hb1.trans (hb2.mono hb1.size))
            clear hb1 hb2
            have bx := (HH.out.below HB2.out).box
            have x0 := bx.at 0 _ rfl
            have x1 := bx.at 1 _ rfl
            have x5 := bx.at 5 _ rfl
            go_wp2
            go_ret
            exact ⟨by rw [HF.out]; rfl, by rw [HF.out]; exact ⟨_, _, _, _, HH.out.below HB2.out, HB2.out.mono HH.out.hs⟩⟩
          · have g2 : ¬ (64 : Int) ≤ (d.nodes.length : Int) := by omega
            have g3 : (1000000000 : Int) ≤ d.next := by omega
            clear h h0 hd hk hg hn hh hmany
            go_enter Tryz.func80, Tryz.ntmps80
            go_wp2_with (fail)
            refine CNm.out.mono ?_
            rintro e w1 ⟨rfl, hb1⟩
            go_wp2_with (fail)
            refine (CO.out w1 hb1).mono ?_
            rintro e w2 ⟨rfl, hb2⟩
            have HB2 := Lib.hid (hb1.trans (hb2.mono hb1.size))
            clear hb1 hb2
            have bx := (HH.out.below HB2.out).box
            have x0 := bx.at 0 _ rfl
            have x1 := bx.at 1 _ rfl
            have x5 := bx.at 5 _ rfl
            go_wp2
            go_ret
            exact ⟨by rw [HF.out]; rfl, by rw [HF.out]; exact ⟨_, _, _, _, HH.out.below HB2.out, HB2.out.mono HH.out.hs⟩⟩
      · have HF := Lib.hid (show createFile d s = (clean (createMid d s), 0) by unfold createFile; rw [if_neg (by rw [hd]; simp), if_neg (by rw [hn]; simp), if_neg (by rw [hh]; simp), if_neg hmany]; rfl)
        have g1 : ¬ (16 : Int) ≤ (d.ents.length : Int) := by omega
        have g2 : ¬ (64 : Int) ≤ (d.nodes.length : Int) := by omega
        have g3 : ¬ (1000000000 : Int) ≤ d.next := by omega
        obtain ⟨nx1, nx2⟩ := right_next hd
        have hz := nok_small hn
        have hrr := right_srt hd
        have hit := itoa_small d.next nx1 nx2
        obtain ⟨_, _, hq3⟩ := right_create hd hn (by omega) (by omega) (by omega)
        have hps : (plusStep s d.next).size ≤ 60 := by rw [plus_size]; omega
        have CT := Lib.hid (fun (u0 u1 u2 u3 : Value) (w1 : World) (hp : Pen B w1 b u0 u1 u2 u3 (withNode d)) (hgb : GB B w1) => implTake B b u0 u1 u2 u3 (withNode d) (plusStep s d.next) (putE d.ents (s, d.next)) w1 hp (do_plus hrr.1 hn (by omega) nx2) hrr (show (withNode d).ents.length ≤ 16 from @ents_len d hd) (by omega) (AllSteps.of hq3) (ok_next (x := d.next) ((more_create hk hz nx1 nx2 hit).ok hk) hk.1.2.2.2.2.2.1) (show ∀ x ∈ (withNode d).steps ++ [plusStep s d.next], x.size ≤ 1048576 from @step_ok d _ hk (by omega)) hk.1.2.1 hgb)
        have HG := Lib.hid hg
        have NXW := Lib.hid (next_wf nx1 nx2)
        have bn : d.nodes.length + 1 ≤ maxLen := by unfold maxLen; omega
        have bm : (d.nodes.length + 1) * 32 ≤ 140737488355328 := by omega
        obtain ⟨t, ht⟩ : ∃ t : ByteArray, t = ⟨(Lib.itoa d.next).toArray⟩ := ⟨_, rfl⟩
        have tsz : t.size ≤ 20 := by rw [ht]; show (Lib.itoa d.next).toArray.size ≤ 20; rw [List.size_toArray]; exact hit
        have HPS := Lib.hid (show ((({ data := #[43] } : ByteArray) ++ s) ++ { data := #[58] }) ++ t = plusStep s d.next by rw [ht]; rfl)
        have CD := Lib.hid (fun (w' : World) (hgb : GB B w') => rd.implDec_any d.next w' NXW.out hgb.gd.pow)
        rw [← ht] at CD
        have l5 : ¬ 9223372036854775807 < 1 + s.size := by omega
        have l6 : ¬ 9223372036854775807 < 1 + s.size + 1 := by omega
        have l7 : ¬ 9223372036854775807 < 1 + s.size + 1 + t.size := by omega
        clear h h0 hd hk hg hn hh hmany hrr hit hq3 ht hps
        go_enter Tryz.func80, Tryz.ntmps80
        go_wp2_with (fail)
        refine CNm.out.mono ?_
        rintro e w1 ⟨rfl, hb1⟩
        go_wp2_with (fail)
        refine (CO.out w1 hb1).mono ?_
        rintro e w2 ⟨rfl, hb2⟩
        have HB2 := Lib.hid ((hb1.trans (hb2.mono hb1.size)).mono HH.out.hs)
        have H2 := Lib.hid (HH.out.below (hb1.trans (hb2.mono hb1.size)))
        clear hb1 hb2
        have x0 := H2.out.box.at 0 _ rfl
        have x1 := H2.out.box.at 1 _ rfl
        have x5 := H2.out.box.at 5 _ rfl
        have zl := H2.out.box.1
        have fz := H2.out.fz 0
        have hyD : Below w2.heap.size w2 w2.drew := (Below.refl _ _).drew
        have hyA : Below w2.heap.size w2 (w2.drew.alloc (.cells #[.int .i64 d.next, .string { data := #[] }, .int .i64 0] 51)) := hyD.alloc (Nat.le_refl _) _
        have HA := Lib.hid (H2.out.below hyA)
        have RN := Lib.hid HA.out.rowN
        have ZN := Lib.hid HA.out.hs
        have CC := Lib.hid (cells_new3 w2.drew (.int .i64 d.next) (.string { data := #[] }) (.int .i64 0) 51)
        have HBA := Lib.hid (HB2.out.trans (hyA.mono H2.out.hs))
        clear hyD hyA
        go_wp2
        go_region_law (first | (refine step_copy (by rfl) (.tmp 40) (.tmp 46) 24 (by rfl) B 51 j0 (.agg #[.int .i64 0, .string { data := #[] }, .int .i64 0]) 3 32 Tryz.underlying24 ji0 jz0 jz1 jz2 (by rfl) (by decide) _ d.nodes.length (cellsN d.nodes) RN.out ZN.out (some ⟨w2.heap.size, 0, none⟩) 1 1 [.int .i64 d.next, .string { data := #[] }, .int .i64 0] CC.out (one_nod _ _ _) bn bm (by rfl) (by rfl) ?_; intro v3 w3 hown3 hg3; obtain ⟨a3, c3, rfl, _, _⟩ := own_shape hown3; obtain ⟨m1, m2⟩ := HA.out.mid RN.out (by decide) hg3; have y0 := m1.at 0 _ rfl; have y5 := m1.at 5 _ rfl; have yf := m2 0; have H3 := Lib.hid (show Pen B (w3.setCell ⟨b, 0, none⟩ (.slice a3 (d.nodes.length + 1) c3)) b _ _ _ _ (withNode d) from HA.out.setN (ns := d.nodes ++ [(d.next, { data := #[] }, 0)]) hg3 (by rw [cellsN_app]; exact hown3)); have HB3 := Lib.hid ((HBA.out.grown hg3 ZN.out (fun g hg => (own_block_ge RN.out g hg).1)).setCell (p := ⟨b, 0, none⟩) HH.out.hb (.slice a3 (d.nodes.length + 1) c3)); clear m1 m2 hown3 hg3))
        all_goals
          obtain ⟨W4, hW4⟩ : ∃ W4, W4 = w3.setCell ⟨b, 0, none⟩ (.slice a3 (d.nodes.length + 1) c3) := ⟨_, rfl⟩
          rw [← hW4]
          rw [← hW4] at H3 HB3
          clear hW4 y0 y5 yf x0 x1 x5 fz
          have y5 : W4.cell? ⟨b, 5, none⟩ = some (.int .i64 d.next) := H3.out.box.at 5 _ rfl
          go_wp2_with (fail)
          refine (CD.out W4 (HG.out.next HB3.out)).mono ?_
          rintro e w5 ⟨rfl, hb5⟩
          have HB5 := Lib.hid (HB3.out.trans (hb5.mono H3.out.hs))
          have H5 := Lib.hid (H3.out.below hb5)
          clear hb5 y5
          go_wp2_with (fail)
          rw [HPS.out]
          refine (CT.out _ _ _ _ w5 H5.out (HG.out.next HB5.out)).mono ?_
          rintro e w6 ⟨⟨v6, rfl⟩, tN, tE, tO, tS, hp6, hb6⟩
          have q5 : w6.cell? ⟨b, 5, none⟩ = some (.int .i64 d.next) := hp6.box.at 5 _ rfl
          have qf := hp6.fz 5
          have HP7 := Lib.hid (show Pen B (w6.setCell ⟨b, 5, none⟩ (.int .i64 (d.next + 1))) b tN tE tO tS (clean (createMid d s)) from hp6.setX (x := d.next + 1))
          have HB7 := Lib.hid ((HB5.out.trans hb6).setCell (p := ⟨b, 5, none⟩) HH.out.hb (.int .i64 (d.next + 1)))
          clear hp6 hb6
          go_wp2
          go_ret
          exact ⟨by rw [HF.out]; rfl, by rw [HF.out]; exact ⟨_, _, _, _, HP7.out, HB7.out⟩⟩

end Go.Proofs.YtdacdbidennjhaaGreatDoor.ik

namespace Go.Proofs.YtdacdbidennjhaaGreatDoor.ik
open Go.RowKit Go.Maps Go.WideMaps
open kit strs recs disk deed kd

/-- a box under the line stays as it was -/
theorem box_low {B b : Nat} {w w' : World} {l : List Value} (h : disk.Box w b l) (hb : b < B) (g : Below B w w') : disk.Box w' b l :=
  ⟨Nat.lt_of_lt_of_le h.1 g.size, fun i v hi => (g.cell (p := ⟨b, i, none⟩) hb).trans (h.2 i v hi)⟩
theorem frozen_low {B b : Nat} {w w' : World} (h : ∀ j, w.frozen? ⟨b, j, none⟩ = false) (hb : b < B) (g : Below B w w') : ∀ j, w'.frozen? ⟨b, j, none⟩ = false := fun j =>
  (g.frozen (p := ⟨b, j, none⟩) hb).trans (h j)

set_option maxHeartbeats 4000000 in
set_option maxRecDepth 100000 in
theorem implDoToNo (g : Nat) (lb : Array Value) (v : Value) (d : D) (w : World) (hk : okD d) (hv : IsDisk w v d) (hg : GD w)
    (hdk : diskOk d = false) :
    Calls Tryz.prog 62 #[v, .func (.func g) #[] lb] w (DeedR (d, 3) w) := by
  have hv0 := hv
  obtain ⟨aN, aE, aO, aS, nN, cN, nE, cE, nO, cO, nS, cS, rfl, _, _, _, _⟩ := hv
  obtain ⟨W, hW⟩ : ∃ W, W = (w.alloc (.cells #[.slice aN nN cN, .slice aE nE cE, .slice aO nO cO, .slice aS nS cS, .int .i64 d.room, .int .i64 d.next] 28)).alloc (.cells #[.slice none 0 0, .slice none 0 0, .slice none 0 0, .slice none 0 0, .int .i64 0, .int .i64 0] 28) := ⟨_, rfl⟩
  have hW1 : Below w.heap.size w (w.alloc (.cells #[.slice aN nN cN, .slice aE nE cE, .slice aO nO cO, .slice aS nS cS, .int .i64 d.room, .int .i64 d.next] 28)) := (Below.refl _ _).alloc (Nat.le_refl _) _
  have hWB : Below w.heap.size w W := by rw [hW]; exact hW1.alloc hW1.size _
  have br0 := show disk.Box W (w.heap.size + 1) [.slice none 0 0, .slice none 0 0, .slice none 0 0, .slice none 0 0, .int .i64 0, .int .i64 0] from by
    rw [hW]
    have := Box.new (w.alloc (.cells #[.slice aN nN cN, .slice aE nE cE, .slice aO nO cO, .slice aS nS cS, .int .i64 d.room, .int .i64 d.next] 28)) #[.slice none 0 0, .slice none 0 0, .slice none 0 0, .slice none 0 0, .int .i64 0, .int .i64 0] 28
    simpa using this
  have hWs : W.heap.size = w.heap.size + 2 := by rw [hW]; simp
  have fr0 : ∀ j, W.frozen? ⟨w.heap.size + 1, j, none⟩ = false := fun j => by rw [hW]; simp
  have CC := Lib.hid (copied _ d W hk (hv0.below hWB))
  have COK := Lib.hid (fun (u : Value) (w1 : World) (h : IsDisk w1 u d) (hb : Below w.heap.size w w1) => implDiskOk u d w1 hk h (hg.below hb))
  have BR0 := Lib.hid br0
  have FR0 := Lib.hid fr0
  have HB := Lib.hid hWB
  have HWs := Lib.hid hWs
  have HK := Lib.hid hdk
  clear hW1 hWB br0 fr0 hv0 hk hg hWs hdk
  go_enter Tryz.func62, Tryz.ntmps62
  go_wp2_with (fail)
  rw [← hW]
  clear hW
  refine CC.out.mono ?_
  rintro e w1 ⟨u, rfl, hd1, hb1⟩
  obtain ⟨a1, a2, a3, a4, m1, m2, m3, m4, rfl⟩ := own_slices hd1
  obtain ⟨W2, hW2⟩ : ∃ W2, W2 = w1.alloc (.cells #[.slice a1 d.nodes.length m1, .slice a2 d.ents.length m2, .slice a3 d.old.length m3, .slice a4 d.steps.length m4, .int .i64 d.room, .int .i64 d.next] 28) := ⟨_, rfl⟩
  have hy2 : Below w1.heap.size w1 W2 := by rw [hW2]; exact (Below.refl _ _).alloc (Nat.le_refl _) _
  have HB2 := Lib.hid (HB.out.trans ((hb1.trans (hy2.mono hb1.size)).mono HB.out.size))
  have HP2 := Lib.hid (show Pen W.heap.size W2 w1.heap.size (.slice a1 d.nodes.length m1) (.slice a2 d.ents.length m2) (.slice a3 d.old.length m3) (.slice a4 d.steps.length m4) d from
    ⟨by rw [hW2]; exact Box.new _ _ _, fun j => by rw [hW2]; simp, ⟨_, by rw [hW2]; exact World.alloc_heap_new _ _⟩, disk_below hd1 hy2, hb1.size, by have := hy2.size; have := hb1.size; omega⟩)
  have BR2 := Lib.hid ((BR0.out.below hb1).below hy2)
  have FR2 := Lib.hid (frozen_below (frozen_below FR0.out BR0.out.1 hb1) (BR0.out.below hb1).1 hy2)
  obtain ⟨b, hb⟩ : ∃ b, b = w1.heap.size := ⟨_, rfl⟩
  rw [← hb] at HP2
  have x0 := HP2.out.box.at 0 _ rfl
  have x1 := HP2.out.box.at 1 _ rfl
  have x2 := HP2.out.box.at 2 _ rfl
  have x3 := HP2.out.box.at 3 _ rfl
  have x4 := HP2.out.box.at 4 _ rfl
  have x5 := HP2.out.box.at 5 _ rfl
  clear hd1 hb1 hy2
  go_wp2_with (fail)
  rw [← hW2, ← hb]
  clear hW2 hb
  refine (COK.out _ W2 HP2.out.is HB2.out).mono ?_
  rintro e w3 ⟨rfl, hb3⟩
  have HP3 := Lib.hid (HP2.out.below hb3)
  have HB3 := Lib.hid (HB2.out.trans (hb3.mono HB2.out.size))
  have BR3 := Lib.hid (BR2.out.below hb3)
  have FR3 := Lib.hid (frozen_below FR2.out BR2.out.1 hb3)
  clear hb3 x0 x1 x2 x3 x4 x5 HP2 FR2 HB2 BR2
  rw [HK.out]
  have x0 := HP3.out.box.at 0 _ rfl
  have x1 := HP3.out.box.at 1 _ rfl
  have x2 := HP3.out.box.at 2 _ rfl
  have x3 := HP3.out.box.at 3 _ rfl
  have x4 := HP3.out.box.at 4 _ rfl
  have x5 := HP3.out.box.at 5 _ rfl
  have r0 := BR3.out.at 0 _ rfl
  have r1 := BR3.out.at 1 _ rfl
  have r2 := BR3.out.at 2 _ rfl
  have r3 := BR3.out.at 3 _ rfl
  have r4 := BR3.out.at 4 _ rfl
  have r5 := BR3.out.at 5 _ rfl
  have k0 := FR3.out 0
  have k1 := FR3.out 1
  have k2 := FR3.out 2
  have k3 := FR3.out 3
  have k4 := FR3.out 4
  have k5 := FR3.out 5
  clear COK CC
  go_wp2
  obtain ⟨X, hX, hbX, hdX, hlX⟩ := six_ret BR3.out (by have := HWs.out; omega) HP3.out.own w.heap.size w HB3.out (Nat.le_succ _)
  rw [hX]
  have p0 := hbX.at 0 _ rfl
  have p1 := hbX.at 1 _ rfl
  have p2 := hbX.at 2 _ rfl
  have p3 := hbX.at 3 _ rfl
  have p4 := hbX.at 4 _ rfl
  have p5 := hbX.at 5 _ rfl
  refine bodyPost_ret (v := .tuple #[.agg #[.slice a1 d.nodes.length m1, .slice a2 d.ents.length m2, .slice a3 d.old.length m3, .slice a4 d.steps.length m4, .int .i64 d.room, .int .i64 d.next], .int .i64 3]) (by simp [results, Tryz.results62, go_sem, p0, p1, p2, p3, p4, p5]) rfl ⟨_, rfl, hdX.base (by have := HWs.out; omega), hlX⟩

end Go.Proofs.YtdacdbidennjhaaGreatDoor.ik

namespace Go.Proofs.YtdacdbidennjhaaGreatDoor.ik
open Go.RowKit Go.Maps Go.WideMaps
open kit strs recs disk deed kd

set_option maxHeartbeats 4000000 in
set_option maxRecDepth 100000 in
theorem implDoToYes (g : Nat) (lb : Array Value) (eg : ∀ args w, (callFunc g args).run Tryz.prog w = .ok (.enter g args) w) (v : Value) (d : D) (r : D × Int) (w : World) (hk : okD d) (hv : IsDisk w v d) (hg : GD w)
    (hdk : diskOk d = true)
    (hdeed : ∀ (B b : Nat) (W : World) (sN sE sO sS : Value), Below w.heap.size w W → w.heap.size ≤ B → Pen B W b sN sE sO sS d → Calls Tryz.prog g (#[.pointer (some ⟨b, 0, none⟩)] ++ lb) W (DeedP B b r W)) :
    Calls Tryz.prog 62 #[v, .func (.func g) #[] lb] w (DeedR r w) := by
  have hv0 := hv
  obtain ⟨aN, aE, aO, aS, nN, cN, nE, cE, nO, cO, nS, cS, rfl, _, _, _, _⟩ := hv
  obtain ⟨W, hW⟩ : ∃ W, W = (w.alloc (.cells #[.slice aN nN cN, .slice aE nE cE, .slice aO nO cO, .slice aS nS cS, .int .i64 d.room, .int .i64 d.next] 28)).alloc (.cells #[.slice none 0 0, .slice none 0 0, .slice none 0 0, .slice none 0 0, .int .i64 0, .int .i64 0] 28) := ⟨_, rfl⟩
  have hW1 : Below w.heap.size w (w.alloc (.cells #[.slice aN nN cN, .slice aE nE cE, .slice aO nO cO, .slice aS nS cS, .int .i64 d.room, .int .i64 d.next] 28)) := (Below.refl _ _).alloc (Nat.le_refl _) _
  have hWB : Below w.heap.size w W := by rw [hW]; exact hW1.alloc hW1.size _
  have br0 := show disk.Box W (w.heap.size + 1) [.slice none 0 0, .slice none 0 0, .slice none 0 0, .slice none 0 0, .int .i64 0, .int .i64 0] from by
    rw [hW]
    have := Box.new (w.alloc (.cells #[.slice aN nN cN, .slice aE nE cE, .slice aO nO cO, .slice aS nS cS, .int .i64 d.room, .int .i64 d.next] 28)) #[.slice none 0 0, .slice none 0 0, .slice none 0 0, .slice none 0 0, .int .i64 0, .int .i64 0] 28
    simpa using this
  have hWs : W.heap.size = w.heap.size + 2 := by rw [hW]; simp
  have fr0 : ∀ j, W.frozen? ⟨w.heap.size + 1, j, none⟩ = false := fun j => by rw [hW]; simp
  have CC := Lib.hid (copied _ d W hk (hv0.below hWB))
  have COK := Lib.hid (fun (u : Value) (w1 : World) (h : IsDisk w1 u d) (hb : Below w.heap.size w w1) => implDiskOk u d w1 hk h (hg.below hb))
  have BR0 := Lib.hid br0
  have FR0 := Lib.hid fr0
  have HB := Lib.hid hWB
  have HWs := Lib.hid hWs
  have HD := Lib.hid hdeed
  have HK := Lib.hid hdk
  clear hW1 hWB br0 fr0 hv0 hk hg hdeed hWs hdk
  go_enter Tryz.func62, Tryz.ntmps62
  go_wp2_with (fail)
  rw [← hW]
  clear hW
  refine CC.out.mono ?_
  rintro e w1 ⟨u, rfl, hd1, hb1⟩
  obtain ⟨a1, a2, a3, a4, m1, m2, m3, m4, rfl⟩ := own_slices hd1
  obtain ⟨W2, hW2⟩ : ∃ W2, W2 = w1.alloc (.cells #[.slice a1 d.nodes.length m1, .slice a2 d.ents.length m2, .slice a3 d.old.length m3, .slice a4 d.steps.length m4, .int .i64 d.room, .int .i64 d.next] 28) := ⟨_, rfl⟩
  have hy2 : Below w1.heap.size w1 W2 := by rw [hW2]; exact (Below.refl _ _).alloc (Nat.le_refl _) _
  have HB2 := Lib.hid (HB.out.trans ((hb1.trans (hy2.mono hb1.size)).mono HB.out.size))
  have HP2 := Lib.hid (show Pen W.heap.size W2 w1.heap.size (.slice a1 d.nodes.length m1) (.slice a2 d.ents.length m2) (.slice a3 d.old.length m3) (.slice a4 d.steps.length m4) d from
    ⟨by rw [hW2]; exact Box.new _ _ _, fun j => by rw [hW2]; simp, ⟨_, by rw [hW2]; exact World.alloc_heap_new _ _⟩, disk_below hd1 hy2, hb1.size, by have := hy2.size; have := hb1.size; omega⟩)
  have BR2 := Lib.hid ((BR0.out.below hb1).below hy2)
  have FR2 := Lib.hid (frozen_below (frozen_below FR0.out BR0.out.1 hb1) (BR0.out.below hb1).1 hy2)
  obtain ⟨b, hb⟩ : ∃ b, b = w1.heap.size := ⟨_, rfl⟩
  rw [← hb] at HP2
  have x0 := HP2.out.box.at 0 _ rfl
  have x1 := HP2.out.box.at 1 _ rfl
  have x2 := HP2.out.box.at 2 _ rfl
  have x3 := HP2.out.box.at 3 _ rfl
  have x4 := HP2.out.box.at 4 _ rfl
  have x5 := HP2.out.box.at 5 _ rfl
  clear hd1 hb1 hy2
  go_wp2_with (fail)
  rw [← hW2, ← hb]
  clear hW2 hb
  refine (COK.out _ W2 HP2.out.is HB2.out).mono ?_
  rintro e w3 ⟨rfl, hb3⟩
  have HP3 := Lib.hid (HP2.out.below hb3)
  have HB3 := Lib.hid (HB2.out.trans (hb3.mono HB2.out.size))
  have BR3 := Lib.hid (BR2.out.below hb3)
  have FR3 := Lib.hid (frozen_below FR2.out BR2.out.1 hb3)
  clear hb3 x0 x1 x2 x3 x4 x5 HP2 FR2 HB2 BR2
  rw [HK.out]
  have CG := Lib.hid (HD.out W.heap.size b w3 _ _ _ _ HB3.out (by have := HWs.out; omega) HP3.out)
  clear HD COK CC
  go_wp2_with (fail)
  refine CG.out.mono ?_
  rintro e w4 ⟨rfl, tN, tE, tO, tS, hp4, hb4⟩
  obtain ⟨t1, t2, t3, t4, n1, n2, n3, n4, rfl, rfl, rfl, rfl, _, _, _, _⟩ := hp4.shapes
  have HP4 := Lib.hid hp4
  have BR4 := Lib.hid (show disk.Box w4 (w.heap.size + 1) _ from box_low BR3.out (by have := HWs.out; omega) hb4)
  have FR4 := Lib.hid (show ∀ j, w4.frozen? ⟨w.heap.size + 1, j, none⟩ = false from frozen_low FR3.out (by have := HWs.out; omega) hb4)
  have HB4 := Lib.hid (HB3.out.trans (hb4.mono (by have := HWs.out; omega)))
  clear hp4 hb4 CG HP3 BR3 FR3 HB3
  have x0 := HP4.out.box.at 0 _ rfl
  have x1 := HP4.out.box.at 1 _ rfl
  have x2 := HP4.out.box.at 2 _ rfl
  have x3 := HP4.out.box.at 3 _ rfl
  have x4 := HP4.out.box.at 4 _ rfl
  have x5 := HP4.out.box.at 5 _ rfl
  have r0 := BR4.out.at 0 _ rfl
  have r1 := BR4.out.at 1 _ rfl
  have r2 := BR4.out.at 2 _ rfl
  have r3 := BR4.out.at 3 _ rfl
  have r4 := BR4.out.at 4 _ rfl
  have r5 := BR4.out.at 5 _ rfl
  have k0 := FR4.out 0
  have k1 := FR4.out 1
  have k2 := FR4.out 2
  have k3 := FR4.out 3
  have k4 := FR4.out 4
  have k5 := FR4.out 5
  go_wp2
  obtain ⟨X, hX, hbX, hdX, hlX⟩ := six_ret BR4.out (by have := HWs.out; omega) HP4.out.own w.heap.size w HB4.out (Nat.le_succ _)
  rw [hX]
  have p0 := hbX.at 0 _ rfl
  have p1 := hbX.at 1 _ rfl
  have p2 := hbX.at 2 _ rfl
  have p3 := hbX.at 3 _ rfl
  have p4 := hbX.at 4 _ rfl
  have p5 := hbX.at 5 _ rfl
  refine bodyPost_ret (v := .tuple #[.agg #[.slice t1 r.1.nodes.length n1, .slice t2 r.1.ents.length n2, .slice t3 r.1.old.length n3, .slice t4 r.1.steps.length n4, .int .i64 r.1.room, .int .i64 r.1.next], .int .i64 r.2]) (by simp [results, Tryz.results62, go_sem, p0, p1, p2, p3, p4, p5]) rfl ⟨_, rfl, hdX.base (by have := HWs.out; omega), hlX⟩

end Go.Proofs.YtdacdbidennjhaaGreatDoor.ik

namespace Go.Proofs.YtdacdbidennjhaaGreatDoor.ik
open Go.RowKit Go.Maps Go.WideMaps
open kit strs recs disk deed kd

set_option maxHeartbeats 1000000 in
set_option maxRecDepth 100000 in
theorem doCreateFile (B b : Nat) (p : Nat) (sN sE sO sS : Value) (d : D) (s : ByteArray) (w : World) (h : Pen B w b sN sE sO sS d) (hd : diskOk d = true) (hk : okD d) (hs : s.size ≤ 1048576) (hg : GB B w) (hp : w.cell? ⟨p, 0, none⟩ = some (.string s)) :
    Calls Tryz.prog 79 (#[.pointer (some ⟨b, 0, none⟩)] ++ #[.pointer (some ⟨p, 0, none⟩)]) w (DeedP B b (createFile d s) w) := by
  have CM := Lib.hid (implCreateM B b sN sE sO sS d s w h hd hk hs hg)
  clear h hd hk hg hs
  refine (show Calls Tryz.prog 79 #[.pointer (some ⟨b, 0, none⟩), .pointer (some ⟨p, 0, none⟩)] w (DeedP B b (createFile d s) w) from ?_)
  go_enter Tryz.func79, Tryz.ntmps79
  go_wp2_with (fail)
  refine CM.out.mono ?_
  rintro e w1 ⟨rfl, hp1⟩
  go_wp2
  go_ret
  exact ⟨rfl, hp1⟩

set_option maxHeartbeats 2000000 in
set_option maxRecDepth 100000 in
theorem implCreateFile (v : Value) (d : D) (s : ByteArray) (w : World) (hk : okD d) (hs : s.size ≤ 1048576) (hv : IsDisk w v d) (hg : GD w) :
    Calls Tryz.prog 20 #[v, .string s] w (DeedR (createFile d s) w) := by
  have hv0 := hv
  obtain ⟨aN, aE, aO, aS, nN, cN, nE, cE, nO, cO, nS, cS, rfl, _, _, _, _⟩ := hv
  obtain ⟨W, hW⟩ : ∃ W, W = (((w.alloc (.cells #[.slice aN nN cN, .slice aE nE cE, .slice aO nO cO, .slice aS nS cS, .int .i64 d.room, .int .i64 d.next] 28)).alloc (.cells #[.string s] 9)).alloc (.cells #[.slice none 0 0, .slice none 0 0, .slice none 0 0, .slice none 0 0, .int .i64 0, .int .i64 0] 28)) := ⟨_, rfl⟩
  have b1 : Below w.heap.size w (w.alloc (.cells #[.slice aN nN cN, .slice aE nE cE, .slice aO nO cO, .slice aS nS cS, .int .i64 d.room, .int .i64 d.next] 28)) := (Below.refl _ _).alloc (Nat.le_refl _) _
  have b2 : Below w.heap.size w ((w.alloc (.cells #[.slice aN nN cN, .slice aE nE cE, .slice aO nO cO, .slice aS nS cS, .int .i64 d.room, .int .i64 d.next] 28)).alloc (.cells #[.string s] 9)) := b1.alloc b1.size _
  have b3 : Below w.heap.size w (((w.alloc (.cells #[.slice aN nN cN, .slice aE nE cE, .slice aO nO cO, .slice aS nS cS, .int .i64 d.room, .int .i64 d.next] 28)).alloc (.cells #[.string s] 9)).alloc (.cells #[.slice none 0 0, .slice none 0 0, .slice none 0 0, .slice none 0 0, .int .i64 0, .int .i64 0] 28)) := b2.alloc b2.size _
  have hWB : Below w.heap.size w W := by rw [hW]; exact b3
  have br0 : disk.Box W (w.heap.size + 2) [.slice none 0 0, .slice none 0 0, .slice none 0 0, .slice none 0 0, .int .i64 0, .int .i64 0] := by
    rw [hW]
    have := Box.new ((w.alloc (.cells #[.slice aN nN cN, .slice aE nE cE, .slice aO nO cO, .slice aS nS cS, .int .i64 d.room, .int .i64 d.next] 28)).alloc (.cells #[.string s] 9)) #[.slice none 0 0, .slice none 0 0, .slice none 0 0, .slice none 0 0, .int .i64 0, .int .i64 0] 28
    simpa [Nat.add_assoc] using this
  have hWs : W.heap.size = w.heap.size + 3 := by rw [hW]; simp
  have fr0 : ∀ j, W.frozen? ⟨w.heap.size + 2, j, none⟩ = false := fun j => by
    rw [hW]
    exact World.frozen?_alloc_at _ _ _ _ (by simp)
  have c0 : W.cell? ⟨w.heap.size + 1, 0, none⟩ = some (.string s) := by
    rw [hW]
    have hn := Box.new (w.alloc (.cells #[.slice aN nN cN, .slice aE nE cE, .slice aO nO cO, .slice aS nS cS, .int .i64 d.room, .int .i64 d.next] 28)) #[.string s] 9
    have hm : Below ((w.alloc (.cells #[.slice aN nN cN, .slice aE nE cE, .slice aO nO cO, .slice aS nS cS, .int .i64 d.room, .int .i64 d.next] 28)).alloc (.cells #[.string s] 9)).heap.size ((w.alloc (.cells #[.slice aN nN cN, .slice aE nE cE, .slice aO nO cO, .slice aS nS cS, .int .i64 d.room, .int .i64 d.next] 28)).alloc (.cells #[.string s] 9)) (((w.alloc (.cells #[.slice aN nN cN, .slice aE nE cE, .slice aO nO cO, .slice aS nS cS, .int .i64 d.room, .int .i64 d.next] 28)).alloc (.cells #[.string s] 9)).alloc (.cells #[.slice none 0 0, .slice none 0 0, .slice none 0 0, .slice none 0 0, .int .i64 0, .int .i64 0] 28)) := by
      have hm := Below.refl ((w.alloc (.cells #[.slice aN nN cN, .slice aE nE cE, .slice aO nO cO, .slice aS nS cS, .int .i64 d.room, .int .i64 d.next] 28)).alloc (.cells #[.string s] 9)).heap.size ((w.alloc (.cells #[.slice aN nN cN, .slice aE nE cE, .slice aO nO cO, .slice aS nS cS, .int .i64 d.room, .int .i64 d.next] 28)).alloc (.cells #[.string s] 9))

      exact hm.alloc hm.size _
    have hx := (hn.below hm).at 0 _ rfl
    simpa [Nat.add_assoc] using hx
  have hvW := hv0.below hWB
  have hgW := hg.below hWB
  have cdo : Calls Tryz.prog 62 #[.agg #[.slice aN nN cN, .slice aE nE cE, .slice aO nO cO, .slice aS nS cS, .int .i64 d.room, .int .i64 d.next], .func (.func 79) #[] #[.pointer (some ⟨w.heap.size + 1, 0, none⟩)]] W (DeedR (createFile d s) W) := by
    cases hdk : diskOk d with
    | false =>
      rw [show createFile d s = (d, 3) by unfold createFile; simp [hdk]]
      exact implDoToNo 79 #[.pointer (some ⟨w.heap.size + 1, 0, none⟩)] _ d W hk hvW hgW hdk
    | true => exact implDoToYes 79 #[.pointer (some ⟨w.heap.size + 1, 0, none⟩)] (enters_of Tryz.func79 (by kernel_rfl) rfl) _ d (createFile d s) W hk hvW hgW hdk (fun B b W' sN sE sO sS hb hB hp => doCreateFile B b (w.heap.size + 1) sN sE sO sS d s W' hp hdk hk hs ⟨W, hgW, hB, hb⟩ ((hb.cell (p := ⟨w.heap.size + 1, 0, none⟩) (show w.heap.size + 1 < W.heap.size by omega)).trans c0))
  obtain ⟨r, hr⟩ : ∃ r, r = createFile d s := ⟨_, rfl⟩
  rw [← hr] at cdo
  rw [← hr]
  clear hr
  have CD := Lib.hid cdo
  have BR0 := Lib.hid br0
  have FR0 := Lib.hid fr0
  have HB := Lib.hid hWB
  have HWs := Lib.hid hWs
  clear b1 b2 b3 c0 hWB br0 fr0 hv0 hk hg hWs hvW hgW cdo hs
  go_enter Tryz.func20, Tryz.ntmps20
  go_wp2_with (fail)
  rw [← hW]
  clear hW
  refine CD.out.mono ?_
  rintro e w4 ⟨u, rfl, hd4, hb4⟩
  obtain ⟨t1, t2, t3, t4, n1, n2, n3, n4, rfl⟩ := own_slices hd4
  have HD := Lib.hid hd4
  have BR4 := Lib.hid (BR0.out.below hb4)
  have FR4 := Lib.hid (frozen_below FR0.out BR0.out.1 hb4)
  have HB4 := Lib.hid (HB.out.trans (hb4.mono HB.out.size))
  clear hd4 hb4 CD FR0 BR0 HB
  have r0 := BR4.out.at 0 _ rfl
  have r1 := BR4.out.at 1 _ rfl
  have r2 := BR4.out.at 2 _ rfl
  have r3 := BR4.out.at 3 _ rfl
  have r4 := BR4.out.at 4 _ rfl
  have r5 := BR4.out.at 5 _ rfl
  have k0 := FR4.out 0
  have k1 := FR4.out 1
  have k2 := FR4.out 2
  have k3 := FR4.out 3
  have k4 := FR4.out 4
  have k5 := FR4.out 5
  go_wp2
  obtain ⟨X, hX, hbX, hdX, hlX⟩ := six_ret BR4.out (by have := HWs.out; omega) HD.out w.heap.size w HB4.out (by omega)
  rw [hX]
  have p0 := hbX.at 0 _ rfl
  have p1 := hbX.at 1 _ rfl
  have p2 := hbX.at 2 _ rfl
  have p3 := hbX.at 3 _ rfl
  have p4 := hbX.at 4 _ rfl
  have p5 := hbX.at 5 _ rfl
  refine bodyPost_ret (v := .tuple #[.agg #[.slice t1 r.1.nodes.length n1, .slice t2 r.1.ents.length n2, .slice t3 r.1.old.length n3, .slice t4 r.1.steps.length n4, .int .i64 r.1.room, .int .i64 r.1.next], .int .i64 r.2]) (by simp [results, Tryz.results20, go_sem, p0, p1, p2, p3, p4, p5]) rfl ⟨_, rfl, hdX.base (by have := HWs.out; omega), hlX⟩

end Go.Proofs.YtdacdbidennjhaaGreatDoor.ik

namespace Go.Proofs.YtdacdbidennjhaaGreatDoor.ik
open Go.RowKit Go.Maps Go.WideMaps
open kit strs recs disk deed kd

set_option maxHeartbeats 1000000 in
set_option maxRecDepth 100000 in
theorem doRemoveFile (B b : Nat) (p : Nat) (sN sE sO sS : Value) (d : D) (s : ByteArray) (w : World) (h : Pen B w b sN sE sO sS d) (hd : diskOk d = true) (hk : okD d) (hs : s.size ≤ 1048576) (hg : GB B w) (hp : w.cell? ⟨p, 0, none⟩ = some (.string s)) :
    Calls Tryz.prog 77 (#[.pointer (some ⟨b, 0, none⟩)] ++ #[.pointer (some ⟨p, 0, none⟩)]) w (DeedP B b (removeFile d s) w) := by
  have CM := Lib.hid (implRemoveM B b sN sE sO sS d s w h hd hk hs hg)
  clear h hd hk hg hs
  refine (show Calls Tryz.prog 77 #[.pointer (some ⟨b, 0, none⟩), .pointer (some ⟨p, 0, none⟩)] w (DeedP B b (removeFile d s) w) from ?_)
  go_enter Tryz.func77, Tryz.ntmps77
  go_wp2_with (fail)
  refine CM.out.mono ?_
  rintro e w1 ⟨rfl, hp1⟩
  go_wp2
  go_ret
  exact ⟨rfl, hp1⟩

set_option maxHeartbeats 2000000 in
set_option maxRecDepth 100000 in
theorem implRemoveFile (v : Value) (d : D) (s : ByteArray) (w : World) (hk : okD d) (hs : s.size ≤ 1048576) (hv : IsDisk w v d) (hg : GD w) :
    Calls Tryz.prog 19 #[v, .string s] w (DeedR (removeFile d s) w) := by
  have hv0 := hv
  obtain ⟨aN, aE, aO, aS, nN, cN, nE, cE, nO, cO, nS, cS, rfl, _, _, _, _⟩ := hv
  obtain ⟨W, hW⟩ : ∃ W, W = (((w.alloc (.cells #[.slice aN nN cN, .slice aE nE cE, .slice aO nO cO, .slice aS nS cS, .int .i64 d.room, .int .i64 d.next] 28)).alloc (.cells #[.string s] 9)).alloc (.cells #[.slice none 0 0, .slice none 0 0, .slice none 0 0, .slice none 0 0, .int .i64 0, .int .i64 0] 28)) := ⟨_, rfl⟩
  have b1 : Below w.heap.size w (w.alloc (.cells #[.slice aN nN cN, .slice aE nE cE, .slice aO nO cO, .slice aS nS cS, .int .i64 d.room, .int .i64 d.next] 28)) := (Below.refl _ _).alloc (Nat.le_refl _) _
  have b2 : Below w.heap.size w ((w.alloc (.cells #[.slice aN nN cN, .slice aE nE cE, .slice aO nO cO, .slice aS nS cS, .int .i64 d.room, .int .i64 d.next] 28)).alloc (.cells #[.string s] 9)) := b1.alloc b1.size _
  have b3 : Below w.heap.size w (((w.alloc (.cells #[.slice aN nN cN, .slice aE nE cE, .slice aO nO cO, .slice aS nS cS, .int .i64 d.room, .int .i64 d.next] 28)).alloc (.cells #[.string s] 9)).alloc (.cells #[.slice none 0 0, .slice none 0 0, .slice none 0 0, .slice none 0 0, .int .i64 0, .int .i64 0] 28)) := b2.alloc b2.size _
  have hWB : Below w.heap.size w W := by rw [hW]; exact b3
  have br0 : disk.Box W (w.heap.size + 2) [.slice none 0 0, .slice none 0 0, .slice none 0 0, .slice none 0 0, .int .i64 0, .int .i64 0] := by
    rw [hW]
    have := Box.new ((w.alloc (.cells #[.slice aN nN cN, .slice aE nE cE, .slice aO nO cO, .slice aS nS cS, .int .i64 d.room, .int .i64 d.next] 28)).alloc (.cells #[.string s] 9)) #[.slice none 0 0, .slice none 0 0, .slice none 0 0, .slice none 0 0, .int .i64 0, .int .i64 0] 28
    simpa [Nat.add_assoc] using this
  have hWs : W.heap.size = w.heap.size + 3 := by rw [hW]; simp
  have fr0 : ∀ j, W.frozen? ⟨w.heap.size + 2, j, none⟩ = false := fun j => by
    rw [hW]
    exact World.frozen?_alloc_at _ _ _ _ (by simp)
  have c0 : W.cell? ⟨w.heap.size + 1, 0, none⟩ = some (.string s) := by
    rw [hW]
    have hn := Box.new (w.alloc (.cells #[.slice aN nN cN, .slice aE nE cE, .slice aO nO cO, .slice aS nS cS, .int .i64 d.room, .int .i64 d.next] 28)) #[.string s] 9
    have hm : Below ((w.alloc (.cells #[.slice aN nN cN, .slice aE nE cE, .slice aO nO cO, .slice aS nS cS, .int .i64 d.room, .int .i64 d.next] 28)).alloc (.cells #[.string s] 9)).heap.size ((w.alloc (.cells #[.slice aN nN cN, .slice aE nE cE, .slice aO nO cO, .slice aS nS cS, .int .i64 d.room, .int .i64 d.next] 28)).alloc (.cells #[.string s] 9)) (((w.alloc (.cells #[.slice aN nN cN, .slice aE nE cE, .slice aO nO cO, .slice aS nS cS, .int .i64 d.room, .int .i64 d.next] 28)).alloc (.cells #[.string s] 9)).alloc (.cells #[.slice none 0 0, .slice none 0 0, .slice none 0 0, .slice none 0 0, .int .i64 0, .int .i64 0] 28)) := by
      have hm := Below.refl ((w.alloc (.cells #[.slice aN nN cN, .slice aE nE cE, .slice aO nO cO, .slice aS nS cS, .int .i64 d.room, .int .i64 d.next] 28)).alloc (.cells #[.string s] 9)).heap.size ((w.alloc (.cells #[.slice aN nN cN, .slice aE nE cE, .slice aO nO cO, .slice aS nS cS, .int .i64 d.room, .int .i64 d.next] 28)).alloc (.cells #[.string s] 9))

      exact hm.alloc hm.size _
    have hx := (hn.below hm).at 0 _ rfl
    simpa [Nat.add_assoc] using hx
  have hvW := hv0.below hWB
  have hgW := hg.below hWB
  have cdo : Calls Tryz.prog 62 #[.agg #[.slice aN nN cN, .slice aE nE cE, .slice aO nO cO, .slice aS nS cS, .int .i64 d.room, .int .i64 d.next], .func (.func 77) #[] #[.pointer (some ⟨w.heap.size + 1, 0, none⟩)]] W (DeedR (removeFile d s) W) := by
    cases hdk : diskOk d with
    | false =>
      rw [show removeFile d s = (d, 3) by unfold removeFile; simp [hdk]]
      exact implDoToNo 77 #[.pointer (some ⟨w.heap.size + 1, 0, none⟩)] _ d W hk hvW hgW hdk
    | true => exact implDoToYes 77 #[.pointer (some ⟨w.heap.size + 1, 0, none⟩)] (enters_of Tryz.func77 (by kernel_rfl) rfl) _ d (removeFile d s) W hk hvW hgW hdk (fun B b W' sN sE sO sS hb hB hp => doRemoveFile B b (w.heap.size + 1) sN sE sO sS d s W' hp hdk hk hs ⟨W, hgW, hB, hb⟩ ((hb.cell (p := ⟨w.heap.size + 1, 0, none⟩) (show w.heap.size + 1 < W.heap.size by omega)).trans c0))
  obtain ⟨r, hr⟩ : ∃ r, r = removeFile d s := ⟨_, rfl⟩
  rw [← hr] at cdo
  rw [← hr]
  clear hr
  have CD := Lib.hid cdo
  have BR0 := Lib.hid br0
  have FR0 := Lib.hid fr0
  have HB := Lib.hid hWB
  have HWs := Lib.hid hWs
  clear b1 b2 b3 c0 hWB br0 fr0 hv0 hk hg hWs hvW hgW cdo hs
  go_enter Tryz.func19, Tryz.ntmps19
  go_wp2_with (fail)
  rw [← hW]
  clear hW
  refine CD.out.mono ?_
  rintro e w4 ⟨u, rfl, hd4, hb4⟩
  obtain ⟨t1, t2, t3, t4, n1, n2, n3, n4, rfl⟩ := own_slices hd4
  have HD := Lib.hid hd4
  have BR4 := Lib.hid (BR0.out.below hb4)
  have FR4 := Lib.hid (frozen_below FR0.out BR0.out.1 hb4)
  have HB4 := Lib.hid (HB.out.trans (hb4.mono HB.out.size))
  clear hd4 hb4 CD FR0 BR0 HB
  have r0 := BR4.out.at 0 _ rfl
  have r1 := BR4.out.at 1 _ rfl
  have r2 := BR4.out.at 2 _ rfl
  have r3 := BR4.out.at 3 _ rfl
  have r4 := BR4.out.at 4 _ rfl
  have r5 := BR4.out.at 5 _ rfl
  have k0 := FR4.out 0
  have k1 := FR4.out 1
  have k2 := FR4.out 2
  have k3 := FR4.out 3
  have k4 := FR4.out 4
  have k5 := FR4.out 5
  go_wp2
  obtain ⟨X, hX, hbX, hdX, hlX⟩ := six_ret BR4.out (by have := HWs.out; omega) HD.out w.heap.size w HB4.out (by omega)
  rw [hX]
  have p0 := hbX.at 0 _ rfl
  have p1 := hbX.at 1 _ rfl
  have p2 := hbX.at 2 _ rfl
  have p3 := hbX.at 3 _ rfl
  have p4 := hbX.at 4 _ rfl
  have p5 := hbX.at 5 _ rfl
  refine bodyPost_ret (v := .tuple #[.agg #[.slice t1 r.1.nodes.length n1, .slice t2 r.1.ents.length n2, .slice t3 r.1.old.length n3, .slice t4 r.1.steps.length n4, .int .i64 r.1.room, .int .i64 r.1.next], .int .i64 r.2]) (by simp [results, Tryz.results19, go_sem, p0, p1, p2, p3, p4, p5]) rfl ⟨_, rfl, hdX.base (by have := HWs.out; omega), hlX⟩


set_option maxHeartbeats 1000000 in
set_option maxRecDepth 100000 in
theorem doRenameFile (B b : Nat) (p q : Nat) (sN sE sO sS : Value) (d : D) (s t : ByteArray) (w : World) (h : Pen B w b sN sE sO sS d) (hd : diskOk d = true) (hk : okD d) (ht : t.size ≤ 1048576) (hg : GB B w) (hp : w.cell? ⟨p, 0, none⟩ = some (.string s)) (hq : w.cell? ⟨q, 0, none⟩ = some (.string t)) :
    Calls Tryz.prog 81 (#[.pointer (some ⟨b, 0, none⟩)] ++ #[.pointer (some ⟨p, 0, none⟩), .pointer (some ⟨q, 0, none⟩)]) w (DeedP B b (renameFile d s t) w) := by
  have CM := Lib.hid (implRenameM B b sN sE sO sS d s t w h hd hk ht hg)
  clear h hd hk hg ht
  refine (show Calls Tryz.prog 81 #[.pointer (some ⟨b, 0, none⟩), .pointer (some ⟨p, 0, none⟩), .pointer (some ⟨q, 0, none⟩)] w (DeedP B b (renameFile d s t) w) from ?_)
  go_enter Tryz.func81, Tryz.ntmps81
  go_wp2_with (fail)
  refine CM.out.mono ?_
  rintro e w1 ⟨rfl, hp1⟩
  go_wp2
  go_ret
  exact ⟨rfl, hp1⟩

set_option maxHeartbeats 2000000 in
set_option maxRecDepth 100000 in
theorem implRenameFile (v : Value) (d : D) (s t : ByteArray) (w : World) (hk : okD d) (ht : t.size ≤ 1048576) (hv : IsDisk w v d) (hg : GD w) :
    Calls Tryz.prog 23 #[v, .string s, .string t] w (DeedR (renameFile d s t) w) := by
  have hv0 := hv
  obtain ⟨aN, aE, aO, aS, nN, cN, nE, cE, nO, cO, nS, cS, rfl, _, _, _, _⟩ := hv
  obtain ⟨W, hW⟩ : ∃ W, W = ((((w.alloc (.cells #[.slice aN nN cN, .slice aE nE cE, .slice aO nO cO, .slice aS nS cS, .int .i64 d.room, .int .i64 d.next] 28)).alloc (.cells #[.string s] 9)).alloc (.cells #[.string t] 9)).alloc (.cells #[.slice none 0 0, .slice none 0 0, .slice none 0 0, .slice none 0 0, .int .i64 0, .int .i64 0] 28)) := ⟨_, rfl⟩
  have b1 : Below w.heap.size w (w.alloc (.cells #[.slice aN nN cN, .slice aE nE cE, .slice aO nO cO, .slice aS nS cS, .int .i64 d.room, .int .i64 d.next] 28)) := (Below.refl _ _).alloc (Nat.le_refl _) _
  have b2 : Below w.heap.size w ((w.alloc (.cells #[.slice aN nN cN, .slice aE nE cE, .slice aO nO cO, .slice aS nS cS, .int .i64 d.room, .int .i64 d.next] 28)).alloc (.cells #[.string s] 9)) := b1.alloc b1.size _
  have b3 : Below w.heap.size w (((w.alloc (.cells #[.slice aN nN cN, .slice aE nE cE, .slice aO nO cO, .slice aS nS cS, .int .i64 d.room, .int .i64 d.next] 28)).alloc (.cells #[.string s] 9)).alloc (.cells #[.string t] 9)) := b2.alloc b2.size _
  have b4 : Below w.heap.size w ((((w.alloc (.cells #[.slice aN nN cN, .slice aE nE cE, .slice aO nO cO, .slice aS nS cS, .int .i64 d.room, .int .i64 d.next] 28)).alloc (.cells #[.string s] 9)).alloc (.cells #[.string t] 9)).alloc (.cells #[.slice none 0 0, .slice none 0 0, .slice none 0 0, .slice none 0 0, .int .i64 0, .int .i64 0] 28)) := b3.alloc b3.size _
  have hWB : Below w.heap.size w W := by rw [hW]; exact b4
  have br0 : disk.Box W (w.heap.size + 3) [.slice none 0 0, .slice none 0 0, .slice none 0 0, .slice none 0 0, .int .i64 0, .int .i64 0] := by
    rw [hW]
    have := Box.new (((w.alloc (.cells #[.slice aN nN cN, .slice aE nE cE, .slice aO nO cO, .slice aS nS cS, .int .i64 d.room, .int .i64 d.next] 28)).alloc (.cells #[.string s] 9)).alloc (.cells #[.string t] 9)) #[.slice none 0 0, .slice none 0 0, .slice none 0 0, .slice none 0 0, .int .i64 0, .int .i64 0] 28
    simpa [Nat.add_assoc] using this
  have hWs : W.heap.size = w.heap.size + 4 := by rw [hW]; simp
  have fr0 : ∀ j, W.frozen? ⟨w.heap.size + 3, j, none⟩ = false := fun j => by
    rw [hW]
    exact World.frozen?_alloc_at _ _ _ _ (by simp)
  have c0 : W.cell? ⟨w.heap.size + 1, 0, none⟩ = some (.string s) := by
    rw [hW]
    have hn := Box.new (w.alloc (.cells #[.slice aN nN cN, .slice aE nE cE, .slice aO nO cO, .slice aS nS cS, .int .i64 d.room, .int .i64 d.next] 28)) #[.string s] 9
    have hm : Below ((w.alloc (.cells #[.slice aN nN cN, .slice aE nE cE, .slice aO nO cO, .slice aS nS cS, .int .i64 d.room, .int .i64 d.next] 28)).alloc (.cells #[.string s] 9)).heap.size ((w.alloc (.cells #[.slice aN nN cN, .slice aE nE cE, .slice aO nO cO, .slice aS nS cS, .int .i64 d.room, .int .i64 d.next] 28)).alloc (.cells #[.string s] 9)) ((((w.alloc (.cells #[.slice aN nN cN, .slice aE nE cE, .slice aO nO cO, .slice aS nS cS, .int .i64 d.room, .int .i64 d.next] 28)).alloc (.cells #[.string s] 9)).alloc (.cells #[.string t] 9)).alloc (.cells #[.slice none 0 0, .slice none 0 0, .slice none 0 0, .slice none 0 0, .int .i64 0, .int .i64 0] 28)) := by
      have hm := Below.refl ((w.alloc (.cells #[.slice aN nN cN, .slice aE nE cE, .slice aO nO cO, .slice aS nS cS, .int .i64 d.room, .int .i64 d.next] 28)).alloc (.cells #[.string s] 9)).heap.size ((w.alloc (.cells #[.slice aN nN cN, .slice aE nE cE, .slice aO nO cO, .slice aS nS cS, .int .i64 d.room, .int .i64 d.next] 28)).alloc (.cells #[.string s] 9))
      have hm := hm.alloc hm.size (.cells #[.string t] 9)
      exact hm.alloc hm.size _
    have hx := (hn.below hm).at 0 _ rfl
    simpa [Nat.add_assoc] using hx
  have c1 : W.cell? ⟨w.heap.size + 2, 0, none⟩ = some (.string t) := by
    rw [hW]
    have hn := Box.new ((w.alloc (.cells #[.slice aN nN cN, .slice aE nE cE, .slice aO nO cO, .slice aS nS cS, .int .i64 d.room, .int .i64 d.next] 28)).alloc (.cells #[.string s] 9)) #[.string t] 9
    have hm : Below (((w.alloc (.cells #[.slice aN nN cN, .slice aE nE cE, .slice aO nO cO, .slice aS nS cS, .int .i64 d.room, .int .i64 d.next] 28)).alloc (.cells #[.string s] 9)).alloc (.cells #[.string t] 9)).heap.size (((w.alloc (.cells #[.slice aN nN cN, .slice aE nE cE, .slice aO nO cO, .slice aS nS cS, .int .i64 d.room, .int .i64 d.next] 28)).alloc (.cells #[.string s] 9)).alloc (.cells #[.string t] 9)) ((((w.alloc (.cells #[.slice aN nN cN, .slice aE nE cE, .slice aO nO cO, .slice aS nS cS, .int .i64 d.room, .int .i64 d.next] 28)).alloc (.cells #[.string s] 9)).alloc (.cells #[.string t] 9)).alloc (.cells #[.slice none 0 0, .slice none 0 0, .slice none 0 0, .slice none 0 0, .int .i64 0, .int .i64 0] 28)) := by
      have hm := Below.refl (((w.alloc (.cells #[.slice aN nN cN, .slice aE nE cE, .slice aO nO cO, .slice aS nS cS, .int .i64 d.room, .int .i64 d.next] 28)).alloc (.cells #[.string s] 9)).alloc (.cells #[.string t] 9)).heap.size (((w.alloc (.cells #[.slice aN nN cN, .slice aE nE cE, .slice aO nO cO, .slice aS nS cS, .int .i64 d.room, .int .i64 d.next] 28)).alloc (.cells #[.string s] 9)).alloc (.cells #[.string t] 9))

      exact hm.alloc hm.size _
    have hx := (hn.below hm).at 0 _ rfl
    simpa [Nat.add_assoc] using hx
  have hvW := hv0.below hWB
  have hgW := hg.below hWB
  have cdo : Calls Tryz.prog 62 #[.agg #[.slice aN nN cN, .slice aE nE cE, .slice aO nO cO, .slice aS nS cS, .int .i64 d.room, .int .i64 d.next], .func (.func 81) #[] #[.pointer (some ⟨w.heap.size + 1, 0, none⟩), .pointer (some ⟨w.heap.size + 2, 0, none⟩)]] W (DeedR (renameFile d s t) W) := by
    cases hdk : diskOk d with
    | false =>
      rw [show renameFile d s t = (d, 3) by unfold renameFile; simp [hdk]]
      exact implDoToNo 81 #[.pointer (some ⟨w.heap.size + 1, 0, none⟩), .pointer (some ⟨w.heap.size + 2, 0, none⟩)] _ d W hk hvW hgW hdk
    | true => exact implDoToYes 81 #[.pointer (some ⟨w.heap.size + 1, 0, none⟩), .pointer (some ⟨w.heap.size + 2, 0, none⟩)] (enters_of Tryz.func81 (by kernel_rfl) rfl) _ d (renameFile d s t) W hk hvW hgW hdk (fun B b W' sN sE sO sS hb hB hp => doRenameFile B b (w.heap.size + 1) (w.heap.size + 2) sN sE sO sS d s t W' hp hdk hk ht ⟨W, hgW, hB, hb⟩ ((hb.cell (p := ⟨w.heap.size + 1, 0, none⟩) (show w.heap.size + 1 < W.heap.size by omega)).trans c0) ((hb.cell (p := ⟨w.heap.size + 2, 0, none⟩) (show w.heap.size + 2 < W.heap.size by omega)).trans c1))
  obtain ⟨r, hr⟩ : ∃ r, r = renameFile d s t := ⟨_, rfl⟩
  rw [← hr] at cdo
  rw [← hr]
  clear hr
  have CD := Lib.hid cdo
  have BR0 := Lib.hid br0
  have FR0 := Lib.hid fr0
  have HB := Lib.hid hWB
  have HWs := Lib.hid hWs
  clear b1 b2 b3 b4 c0 c1 hWB br0 fr0 hv0 hk hg hWs hvW hgW cdo ht
  go_enter Tryz.func23, Tryz.ntmps23
  go_wp2_with (fail)
  rw [← hW]
  clear hW
  refine CD.out.mono ?_
  rintro e w4 ⟨u, rfl, hd4, hb4⟩
  obtain ⟨t1, t2, t3, t4, n1, n2, n3, n4, rfl⟩ := own_slices hd4
  have HD := Lib.hid hd4
  have BR4 := Lib.hid (BR0.out.below hb4)
  have FR4 := Lib.hid (frozen_below FR0.out BR0.out.1 hb4)
  have HB4 := Lib.hid (HB.out.trans (hb4.mono HB.out.size))
  clear hd4 hb4 CD FR0 BR0 HB
  have r0 := BR4.out.at 0 _ rfl
  have r1 := BR4.out.at 1 _ rfl
  have r2 := BR4.out.at 2 _ rfl
  have r3 := BR4.out.at 3 _ rfl
  have r4 := BR4.out.at 4 _ rfl
  have r5 := BR4.out.at 5 _ rfl
  have k0 := FR4.out 0
  have k1 := FR4.out 1
  have k2 := FR4.out 2
  have k3 := FR4.out 3
  have k4 := FR4.out 4
  have k5 := FR4.out 5
  go_wp2
  obtain ⟨X, hX, hbX, hdX, hlX⟩ := six_ret BR4.out (by have := HWs.out; omega) HD.out w.heap.size w HB4.out (by omega)
  rw [hX]
  have p0 := hbX.at 0 _ rfl
  have p1 := hbX.at 1 _ rfl
  have p2 := hbX.at 2 _ rfl
  have p3 := hbX.at 3 _ rfl
  have p4 := hbX.at 4 _ rfl
  have p5 := hbX.at 5 _ rfl
  refine bodyPost_ret (v := .tuple #[.agg #[.slice t1 r.1.nodes.length n1, .slice t2 r.1.ents.length n2, .slice t3 r.1.old.length n3, .slice t4 r.1.steps.length n4, .int .i64 r.1.room, .int .i64 r.1.next], .int .i64 r.2]) (by simp [results, Tryz.results23, go_sem, p0, p1, p2, p3, p4, p5]) rfl ⟨_, rfl, hdX.base (by have := HWs.out; omega), hlX⟩

end Go.Proofs.YtdacdbidennjhaaGreatDoor.ik

namespace Go.Proofs.YtdacdbidennjhaaGreatDoor.ik
open Go.RowKit Go.Maps Go.WideMaps
open kit strs recs disk deed kd

set_option maxHeartbeats 1000000 in
set_option maxRecDepth 100000 in
theorem doAppendFile (B b : Nat) (p q : Nat) (sN sE sO sS : Value) (d : D) (s t : ByteArray) (w : World) (h : Pen B w b sN sE sO sS d) (hd : diskOk d = true) (hk : okD d) (ht : t.size ≤ 1000000000) (hp : w.cell? ⟨p, 0, none⟩ = some (.string s)) (hq : w.cell? ⟨q, 0, none⟩ = some (.string t)) :
    Calls Tryz.prog 63 (#[.pointer (some ⟨b, 0, none⟩)] ++ #[.pointer (some ⟨p, 0, none⟩), .pointer (some ⟨q, 0, none⟩)]) w (DeedP B b (appendFile d s t) w) := by
  have CM := Lib.hid (implLayM B b sN sE sO sS d s t w h hd hk ht)
  clear h hd hk ht
  refine (show Calls Tryz.prog 63 #[.pointer (some ⟨b, 0, none⟩), .pointer (some ⟨p, 0, none⟩), .pointer (some ⟨q, 0, none⟩)] w (DeedP B b (appendFile d s t) w) from ?_)
  go_enter Tryz.func63, Tryz.ntmps63
  go_wp2_with (fail)
  refine CM.out.mono ?_
  rintro e w1 ⟨rfl, hp1⟩
  go_wp2
  go_ret
  exact ⟨rfl, hp1⟩

set_option maxHeartbeats 2000000 in
set_option maxRecDepth 100000 in
theorem implAppendFile (v : Value) (d : D) (s t : ByteArray) (w : World) (hk : okD d) (ht : t.size ≤ 1000000000) (hv : IsDisk w v d) (hg : GD w) :
    Calls Tryz.prog 13 #[v, .string s, .string t] w (DeedR (appendFile d s t) w) := by
  have hv0 := hv
  obtain ⟨aN, aE, aO, aS, nN, cN, nE, cE, nO, cO, nS, cS, rfl, _, _, _, _⟩ := hv
  obtain ⟨W, hW⟩ : ∃ W, W = ((((w.alloc (.cells #[.slice aN nN cN, .slice aE nE cE, .slice aO nO cO, .slice aS nS cS, .int .i64 d.room, .int .i64 d.next] 28)).alloc (.cells #[.string s] 9)).alloc (.cells #[.string t] 9)).alloc (.cells #[.slice none 0 0, .slice none 0 0, .slice none 0 0, .slice none 0 0, .int .i64 0, .int .i64 0] 28)) := ⟨_, rfl⟩
  have b1 : Below w.heap.size w (w.alloc (.cells #[.slice aN nN cN, .slice aE nE cE, .slice aO nO cO, .slice aS nS cS, .int .i64 d.room, .int .i64 d.next] 28)) := (Below.refl _ _).alloc (Nat.le_refl _) _
  have b2 : Below w.heap.size w ((w.alloc (.cells #[.slice aN nN cN, .slice aE nE cE, .slice aO nO cO, .slice aS nS cS, .int .i64 d.room, .int .i64 d.next] 28)).alloc (.cells #[.string s] 9)) := b1.alloc b1.size _
  have b3 : Below w.heap.size w (((w.alloc (.cells #[.slice aN nN cN, .slice aE nE cE, .slice aO nO cO, .slice aS nS cS, .int .i64 d.room, .int .i64 d.next] 28)).alloc (.cells #[.string s] 9)).alloc (.cells #[.string t] 9)) := b2.alloc b2.size _
  have b4 : Below w.heap.size w ((((w.alloc (.cells #[.slice aN nN cN, .slice aE nE cE, .slice aO nO cO, .slice aS nS cS, .int .i64 d.room, .int .i64 d.next] 28)).alloc (.cells #[.string s] 9)).alloc (.cells #[.string t] 9)).alloc (.cells #[.slice none 0 0, .slice none 0 0, .slice none 0 0, .slice none 0 0, .int .i64 0, .int .i64 0] 28)) := b3.alloc b3.size _
  have hWB : Below w.heap.size w W := by rw [hW]; exact b4
  have br0 : disk.Box W (w.heap.size + 3) [.slice none 0 0, .slice none 0 0, .slice none 0 0, .slice none 0 0, .int .i64 0, .int .i64 0] := by
    rw [hW]
    have := Box.new (((w.alloc (.cells #[.slice aN nN cN, .slice aE nE cE, .slice aO nO cO, .slice aS nS cS, .int .i64 d.room, .int .i64 d.next] 28)).alloc (.cells #[.string s] 9)).alloc (.cells #[.string t] 9)) #[.slice none 0 0, .slice none 0 0, .slice none 0 0, .slice none 0 0, .int .i64 0, .int .i64 0] 28
    simpa [Nat.add_assoc] using this
  have hWs : W.heap.size = w.heap.size + 4 := by rw [hW]; simp
  have fr0 : ∀ j, W.frozen? ⟨w.heap.size + 3, j, none⟩ = false := fun j => by
    rw [hW]
    exact World.frozen?_alloc_at _ _ _ _ (by simp)
  have c0 : W.cell? ⟨w.heap.size + 1, 0, none⟩ = some (.string s) := by
    rw [hW]
    have hn := Box.new (w.alloc (.cells #[.slice aN nN cN, .slice aE nE cE, .slice aO nO cO, .slice aS nS cS, .int .i64 d.room, .int .i64 d.next] 28)) #[.string s] 9
    have hm : Below ((w.alloc (.cells #[.slice aN nN cN, .slice aE nE cE, .slice aO nO cO, .slice aS nS cS, .int .i64 d.room, .int .i64 d.next] 28)).alloc (.cells #[.string s] 9)).heap.size ((w.alloc (.cells #[.slice aN nN cN, .slice aE nE cE, .slice aO nO cO, .slice aS nS cS, .int .i64 d.room, .int .i64 d.next] 28)).alloc (.cells #[.string s] 9)) ((((w.alloc (.cells #[.slice aN nN cN, .slice aE nE cE, .slice aO nO cO, .slice aS nS cS, .int .i64 d.room, .int .i64 d.next] 28)).alloc (.cells #[.string s] 9)).alloc (.cells #[.string t] 9)).alloc (.cells #[.slice none 0 0, .slice none 0 0, .slice none 0 0, .slice none 0 0, .int .i64 0, .int .i64 0] 28)) := by
      have hm := Below.refl ((w.alloc (.cells #[.slice aN nN cN, .slice aE nE cE, .slice aO nO cO, .slice aS nS cS, .int .i64 d.room, .int .i64 d.next] 28)).alloc (.cells #[.string s] 9)).heap.size ((w.alloc (.cells #[.slice aN nN cN, .slice aE nE cE, .slice aO nO cO, .slice aS nS cS, .int .i64 d.room, .int .i64 d.next] 28)).alloc (.cells #[.string s] 9))
      have hm := hm.alloc hm.size (.cells #[.string t] 9)
      exact hm.alloc hm.size _
    have hx := (hn.below hm).at 0 _ rfl
    simpa [Nat.add_assoc] using hx
  have c1 : W.cell? ⟨w.heap.size + 2, 0, none⟩ = some (.string t) := by
    rw [hW]
    have hn := Box.new ((w.alloc (.cells #[.slice aN nN cN, .slice aE nE cE, .slice aO nO cO, .slice aS nS cS, .int .i64 d.room, .int .i64 d.next] 28)).alloc (.cells #[.string s] 9)) #[.string t] 9
    have hm : Below (((w.alloc (.cells #[.slice aN nN cN, .slice aE nE cE, .slice aO nO cO, .slice aS nS cS, .int .i64 d.room, .int .i64 d.next] 28)).alloc (.cells #[.string s] 9)).alloc (.cells #[.string t] 9)).heap.size (((w.alloc (.cells #[.slice aN nN cN, .slice aE nE cE, .slice aO nO cO, .slice aS nS cS, .int .i64 d.room, .int .i64 d.next] 28)).alloc (.cells #[.string s] 9)).alloc (.cells #[.string t] 9)) ((((w.alloc (.cells #[.slice aN nN cN, .slice aE nE cE, .slice aO nO cO, .slice aS nS cS, .int .i64 d.room, .int .i64 d.next] 28)).alloc (.cells #[.string s] 9)).alloc (.cells #[.string t] 9)).alloc (.cells #[.slice none 0 0, .slice none 0 0, .slice none 0 0, .slice none 0 0, .int .i64 0, .int .i64 0] 28)) := by
      have hm := Below.refl (((w.alloc (.cells #[.slice aN nN cN, .slice aE nE cE, .slice aO nO cO, .slice aS nS cS, .int .i64 d.room, .int .i64 d.next] 28)).alloc (.cells #[.string s] 9)).alloc (.cells #[.string t] 9)).heap.size (((w.alloc (.cells #[.slice aN nN cN, .slice aE nE cE, .slice aO nO cO, .slice aS nS cS, .int .i64 d.room, .int .i64 d.next] 28)).alloc (.cells #[.string s] 9)).alloc (.cells #[.string t] 9))

      exact hm.alloc hm.size _
    have hx := (hn.below hm).at 0 _ rfl
    simpa [Nat.add_assoc] using hx
  have hvW := hv0.below hWB
  have hgW := hg.below hWB
  have cdo : Calls Tryz.prog 62 #[.agg #[.slice aN nN cN, .slice aE nE cE, .slice aO nO cO, .slice aS nS cS, .int .i64 d.room, .int .i64 d.next], .func (.func 63) #[] #[.pointer (some ⟨w.heap.size + 1, 0, none⟩), .pointer (some ⟨w.heap.size + 2, 0, none⟩)]] W (DeedR (appendFile d s t) W) := by
    cases hdk : diskOk d with
    | false =>
      rw [show appendFile d s t = (d, 3) by unfold appendFile; simp [hdk]]
      exact implDoToNo 63 #[.pointer (some ⟨w.heap.size + 1, 0, none⟩), .pointer (some ⟨w.heap.size + 2, 0, none⟩)] _ d W hk hvW hgW hdk
    | true => exact implDoToYes 63 #[.pointer (some ⟨w.heap.size + 1, 0, none⟩), .pointer (some ⟨w.heap.size + 2, 0, none⟩)] (enters_of Tryz.func63 (by kernel_rfl) rfl) _ d (appendFile d s t) W hk hvW hgW hdk (fun B b W' sN sE sO sS hb _ hp => doAppendFile B b (w.heap.size + 1) (w.heap.size + 2) sN sE sO sS d s t W' hp hdk hk ht ((hb.cell (p := ⟨w.heap.size + 1, 0, none⟩) (show w.heap.size + 1 < W.heap.size by omega)).trans c0) ((hb.cell (p := ⟨w.heap.size + 2, 0, none⟩) (show w.heap.size + 2 < W.heap.size by omega)).trans c1))
  obtain ⟨r, hr⟩ : ∃ r, r = appendFile d s t := ⟨_, rfl⟩
  rw [← hr] at cdo
  rw [← hr]
  clear hr
  have CD := Lib.hid cdo
  have BR0 := Lib.hid br0
  have FR0 := Lib.hid fr0
  have HB := Lib.hid hWB
  have HWs := Lib.hid hWs
  clear b1 b2 b3 b4 c0 c1 hWB br0 fr0 hv0 hk hg hWs hvW hgW cdo ht
  go_enter Tryz.func13, Tryz.ntmps13
  go_wp2_with (fail)
  rw [← hW]
  clear hW
  refine CD.out.mono ?_
  rintro e w4 ⟨u, rfl, hd4, hb4⟩
  obtain ⟨t1, t2, t3, t4, n1, n2, n3, n4, rfl⟩ := own_slices hd4
  have HD := Lib.hid hd4
  have BR4 := Lib.hid (BR0.out.below hb4)
  have FR4 := Lib.hid (frozen_below FR0.out BR0.out.1 hb4)
  have HB4 := Lib.hid (HB.out.trans (hb4.mono HB.out.size))
  clear hd4 hb4 CD FR0 BR0 HB
  have r0 := BR4.out.at 0 _ rfl
  have r1 := BR4.out.at 1 _ rfl
  have r2 := BR4.out.at 2 _ rfl
  have r3 := BR4.out.at 3 _ rfl
  have r4 := BR4.out.at 4 _ rfl
  have r5 := BR4.out.at 5 _ rfl
  have k0 := FR4.out 0
  have k1 := FR4.out 1
  have k2 := FR4.out 2
  have k3 := FR4.out 3
  have k4 := FR4.out 4
  have k5 := FR4.out 5
  go_wp2
  obtain ⟨X, hX, hbX, hdX, hlX⟩ := six_ret BR4.out (by have := HWs.out; omega) HD.out w.heap.size w HB4.out (by omega)
  rw [hX]
  have p0 := hbX.at 0 _ rfl
  have p1 := hbX.at 1 _ rfl
  have p2 := hbX.at 2 _ rfl
  have p3 := hbX.at 3 _ rfl
  have p4 := hbX.at 4 _ rfl
  have p5 := hbX.at 5 _ rfl
  refine bodyPost_ret (v := .tuple #[.agg #[.slice t1 r.1.nodes.length n1, .slice t2 r.1.ents.length n2, .slice t3 r.1.old.length n3, .slice t4 r.1.steps.length n4, .int .i64 r.1.room, .int .i64 r.1.next], .int .i64 r.2]) (by simp [results, Tryz.results13, go_sem, p0, p1, p2, p3, p4, p5]) rfl ⟨_, rfl, hdX.base (by have := HWs.out; omega), hlX⟩


set_option maxHeartbeats 1000000 in
set_option maxRecDepth 100000 in
theorem doSyncFile (B b : Nat) (p : Nat) (sN sE sO sS : Value) (d : D) (s : ByteArray) (w : World) (h : Pen B w b sN sE sO sS d) (hd : diskOk d = true) (hk : okD d)  (hp : w.cell? ⟨p, 0, none⟩ = some (.string s)) :
    Calls Tryz.prog 75 (#[.pointer (some ⟨b, 0, none⟩)] ++ #[.pointer (some ⟨p, 0, none⟩)]) w (DeedP B b (syncFile d s) w) := by
  have CM := Lib.hid (implMakeSureM B b sN sE sO sS d s w h hd hk)
  clear h hd hk 
  refine (show Calls Tryz.prog 75 #[.pointer (some ⟨b, 0, none⟩), .pointer (some ⟨p, 0, none⟩)] w (DeedP B b (syncFile d s) w) from ?_)
  go_enter Tryz.func75, Tryz.ntmps75
  go_wp2_with (fail)
  refine CM.out.mono ?_
  rintro e w1 ⟨rfl, hp1⟩
  go_wp2
  go_ret
  exact ⟨rfl, hp1⟩

set_option maxHeartbeats 2000000 in
set_option maxRecDepth 100000 in
theorem implSyncFile (v : Value) (d : D) (s : ByteArray) (w : World) (hk : okD d)  (hv : IsDisk w v d) (hg : GD w) :
    Calls Tryz.prog 18 #[v, .string s] w (DeedR (syncFile d s) w) := by
  have hv0 := hv
  obtain ⟨aN, aE, aO, aS, nN, cN, nE, cE, nO, cO, nS, cS, rfl, _, _, _, _⟩ := hv
  obtain ⟨W, hW⟩ : ∃ W, W = (((w.alloc (.cells #[.slice aN nN cN, .slice aE nE cE, .slice aO nO cO, .slice aS nS cS, .int .i64 d.room, .int .i64 d.next] 28)).alloc (.cells #[.string s] 9)).alloc (.cells #[.slice none 0 0, .slice none 0 0, .slice none 0 0, .slice none 0 0, .int .i64 0, .int .i64 0] 28)) := ⟨_, rfl⟩
  have b1 : Below w.heap.size w (w.alloc (.cells #[.slice aN nN cN, .slice aE nE cE, .slice aO nO cO, .slice aS nS cS, .int .i64 d.room, .int .i64 d.next] 28)) := (Below.refl _ _).alloc (Nat.le_refl _) _
  have b2 : Below w.heap.size w ((w.alloc (.cells #[.slice aN nN cN, .slice aE nE cE, .slice aO nO cO, .slice aS nS cS, .int .i64 d.room, .int .i64 d.next] 28)).alloc (.cells #[.string s] 9)) := b1.alloc b1.size _
  have b3 : Below w.heap.size w (((w.alloc (.cells #[.slice aN nN cN, .slice aE nE cE, .slice aO nO cO, .slice aS nS cS, .int .i64 d.room, .int .i64 d.next] 28)).alloc (.cells #[.string s] 9)).alloc (.cells #[.slice none 0 0, .slice none 0 0, .slice none 0 0, .slice none 0 0, .int .i64 0, .int .i64 0] 28)) := b2.alloc b2.size _
  have hWB : Below w.heap.size w W := by rw [hW]; exact b3
  have br0 : disk.Box W (w.heap.size + 2) [.slice none 0 0, .slice none 0 0, .slice none 0 0, .slice none 0 0, .int .i64 0, .int .i64 0] := by
    rw [hW]
    have := Box.new ((w.alloc (.cells #[.slice aN nN cN, .slice aE nE cE, .slice aO nO cO, .slice aS nS cS, .int .i64 d.room, .int .i64 d.next] 28)).alloc (.cells #[.string s] 9)) #[.slice none 0 0, .slice none 0 0, .slice none 0 0, .slice none 0 0, .int .i64 0, .int .i64 0] 28
    simpa [Nat.add_assoc] using this
  have hWs : W.heap.size = w.heap.size + 3 := by rw [hW]; simp
  have fr0 : ∀ j, W.frozen? ⟨w.heap.size + 2, j, none⟩ = false := fun j => by
    rw [hW]
    exact World.frozen?_alloc_at _ _ _ _ (by simp)
  have c0 : W.cell? ⟨w.heap.size + 1, 0, none⟩ = some (.string s) := by
    rw [hW]
    have hn := Box.new (w.alloc (.cells #[.slice aN nN cN, .slice aE nE cE, .slice aO nO cO, .slice aS nS cS, .int .i64 d.room, .int .i64 d.next] 28)) #[.string s] 9
    have hm : Below ((w.alloc (.cells #[.slice aN nN cN, .slice aE nE cE, .slice aO nO cO, .slice aS nS cS, .int .i64 d.room, .int .i64 d.next] 28)).alloc (.cells #[.string s] 9)).heap.size ((w.alloc (.cells #[.slice aN nN cN, .slice aE nE cE, .slice aO nO cO, .slice aS nS cS, .int .i64 d.room, .int .i64 d.next] 28)).alloc (.cells #[.string s] 9)) (((w.alloc (.cells #[.slice aN nN cN, .slice aE nE cE, .slice aO nO cO, .slice aS nS cS, .int .i64 d.room, .int .i64 d.next] 28)).alloc (.cells #[.string s] 9)).alloc (.cells #[.slice none 0 0, .slice none 0 0, .slice none 0 0, .slice none 0 0, .int .i64 0, .int .i64 0] 28)) := by
      have hm := Below.refl ((w.alloc (.cells #[.slice aN nN cN, .slice aE nE cE, .slice aO nO cO, .slice aS nS cS, .int .i64 d.room, .int .i64 d.next] 28)).alloc (.cells #[.string s] 9)).heap.size ((w.alloc (.cells #[.slice aN nN cN, .slice aE nE cE, .slice aO nO cO, .slice aS nS cS, .int .i64 d.room, .int .i64 d.next] 28)).alloc (.cells #[.string s] 9))

      exact hm.alloc hm.size _
    have hx := (hn.below hm).at 0 _ rfl
    simpa [Nat.add_assoc] using hx
  have hvW := hv0.below hWB
  have hgW := hg.below hWB
  have cdo : Calls Tryz.prog 62 #[.agg #[.slice aN nN cN, .slice aE nE cE, .slice aO nO cO, .slice aS nS cS, .int .i64 d.room, .int .i64 d.next], .func (.func 75) #[] #[.pointer (some ⟨w.heap.size + 1, 0, none⟩)]] W (DeedR (syncFile d s) W) := by
    cases hdk : diskOk d with
    | false =>
      rw [show syncFile d s = (d, 3) by unfold syncFile; simp [hdk]]
      exact implDoToNo 75 #[.pointer (some ⟨w.heap.size + 1, 0, none⟩)] _ d W hk hvW hgW hdk
    | true => exact implDoToYes 75 #[.pointer (some ⟨w.heap.size + 1, 0, none⟩)] (enters_of Tryz.func75 (by kernel_rfl) rfl) _ d (syncFile d s) W hk hvW hgW hdk (fun B b W' sN sE sO sS hb _ hp => doSyncFile B b (w.heap.size + 1) sN sE sO sS d s W' hp hdk hk  ((hb.cell (p := ⟨w.heap.size + 1, 0, none⟩) (show w.heap.size + 1 < W.heap.size by omega)).trans c0))
  obtain ⟨r, hr⟩ : ∃ r, r = syncFile d s := ⟨_, rfl⟩
  rw [← hr] at cdo
  rw [← hr]
  clear hr
  have CD := Lib.hid cdo
  have BR0 := Lib.hid br0
  have FR0 := Lib.hid fr0
  have HB := Lib.hid hWB
  have HWs := Lib.hid hWs
  clear b1 b2 b3 c0 hWB br0 fr0 hv0 hk hg hWs hvW hgW cdo 
  go_enter Tryz.func18, Tryz.ntmps18
  go_wp2_with (fail)
  rw [← hW]
  clear hW
  refine CD.out.mono ?_
  rintro e w4 ⟨u, rfl, hd4, hb4⟩
  obtain ⟨t1, t2, t3, t4, n1, n2, n3, n4, rfl⟩ := own_slices hd4
  have HD := Lib.hid hd4
  have BR4 := Lib.hid (BR0.out.below hb4)
  have FR4 := Lib.hid (frozen_below FR0.out BR0.out.1 hb4)
  have HB4 := Lib.hid (HB.out.trans (hb4.mono HB.out.size))
  clear hd4 hb4 CD FR0 BR0 HB
  have r0 := BR4.out.at 0 _ rfl
  have r1 := BR4.out.at 1 _ rfl
  have r2 := BR4.out.at 2 _ rfl
  have r3 := BR4.out.at 3 _ rfl
  have r4 := BR4.out.at 4 _ rfl
  have r5 := BR4.out.at 5 _ rfl
  have k0 := FR4.out 0
  have k1 := FR4.out 1
  have k2 := FR4.out 2
  have k3 := FR4.out 3
  have k4 := FR4.out 4
  have k5 := FR4.out 5
  go_wp2
  obtain ⟨X, hX, hbX, hdX, hlX⟩ := six_ret BR4.out (by have := HWs.out; omega) HD.out w.heap.size w HB4.out (by omega)
  rw [hX]
  have p0 := hbX.at 0 _ rfl
  have p1 := hbX.at 1 _ rfl
  have p2 := hbX.at 2 _ rfl
  have p3 := hbX.at 3 _ rfl
  have p4 := hbX.at 4 _ rfl
  have p5 := hbX.at 5 _ rfl
  refine bodyPost_ret (v := .tuple #[.agg #[.slice t1 r.1.nodes.length n1, .slice t2 r.1.ents.length n2, .slice t3 r.1.old.length n3, .slice t4 r.1.steps.length n4, .int .i64 r.1.room, .int .i64 r.1.next], .int .i64 r.2]) (by simp [results, Tryz.results18, go_sem, p0, p1, p2, p3, p4, p5]) rfl ⟨_, rfl, hdX.base (by have := HWs.out; omega), hlX⟩

end Go.Proofs.YtdacdbidennjhaaGreatDoor.ik

namespace Go.Proofs.YtdacdbidennjhaaGreatDoor.ik
open Go.RowKit Go.Maps Go.WideMaps
open kit strs recs disk deed kd

set_option maxHeartbeats 1000000 in
set_option maxRecDepth 100000 in
theorem doSyncNames (B b : Nat) (sN sE sO sS : Value) (d : D) (w : World) (h : Pen B w b sN sE sO sS d) (hd : diskOk d = true) (hk : okD d)  (hg : GB B w)  :
    Calls Tryz.prog 94 (#[.pointer (some ⟨b, 0, none⟩)] ++ #[]) w (DeedP B b ((syncNames d, 0)) w) := by
  have CM := Lib.hid (implSureM B b sN sE sO sS d w h hd hk hg)
  clear h hd hk hg 
  refine (show Calls Tryz.prog 94 #[.pointer (some ⟨b, 0, none⟩)] w (DeedP B b ((syncNames d, 0)) w) from ?_)
  go_enter Tryz.func94, Tryz.ntmps94
  go_wp2_with (fail)
  refine CM.out.mono ?_
  rintro e w1 ⟨rfl, hp1⟩
  go_wp2
  go_ret
  exact ⟨rfl, hp1⟩

set_option maxHeartbeats 2000000 in
set_option maxRecDepth 100000 in
theorem implSyncNames (v : Value) (d : D) (w : World) (hk : okD d)  (hv : IsDisk w v d) (hg : GD w) :
    Calls Tryz.prog 29 #[v] w (SyncR (syncNames d) w) := by
  have hv0 := hv
  obtain ⟨aN, aE, aO, aS, nN, cN, nE, cE, nO, cO, nS, cS, rfl, _, _, _, _⟩ := hv
  obtain ⟨W, hW⟩ : ∃ W, W = ((w.alloc (.cells #[.slice aN nN cN, .slice aE nE cE, .slice aO nO cO, .slice aS nS cS, .int .i64 d.room, .int .i64 d.next] 28)).alloc (.cells #[.slice none 0 0, .slice none 0 0, .slice none 0 0, .slice none 0 0, .int .i64 0, .int .i64 0] 28)) := ⟨_, rfl⟩
  have b1 : Below w.heap.size w (w.alloc (.cells #[.slice aN nN cN, .slice aE nE cE, .slice aO nO cO, .slice aS nS cS, .int .i64 d.room, .int .i64 d.next] 28)) := (Below.refl _ _).alloc (Nat.le_refl _) _
  have b2 : Below w.heap.size w ((w.alloc (.cells #[.slice aN nN cN, .slice aE nE cE, .slice aO nO cO, .slice aS nS cS, .int .i64 d.room, .int .i64 d.next] 28)).alloc (.cells #[.slice none 0 0, .slice none 0 0, .slice none 0 0, .slice none 0 0, .int .i64 0, .int .i64 0] 28)) := b1.alloc b1.size _
  have hWB : Below w.heap.size w W := by rw [hW]; exact b2
  have br0 : disk.Box W (w.heap.size + 1) [.slice none 0 0, .slice none 0 0, .slice none 0 0, .slice none 0 0, .int .i64 0, .int .i64 0] := by
    rw [hW]
    have := Box.new (w.alloc (.cells #[.slice aN nN cN, .slice aE nE cE, .slice aO nO cO, .slice aS nS cS, .int .i64 d.room, .int .i64 d.next] 28)) #[.slice none 0 0, .slice none 0 0, .slice none 0 0, .slice none 0 0, .int .i64 0, .int .i64 0] 28
    simpa [Nat.add_assoc] using this
  have hWs : W.heap.size = w.heap.size + 2 := by rw [hW]; simp
  have fr0 : ∀ j, W.frozen? ⟨w.heap.size + 1, j, none⟩ = false := fun j => by
    rw [hW]
    exact World.frozen?_alloc_at _ _ _ _ (by simp)

  have hvW := hv0.below hWB
  have hgW := hg.below hWB
  obtain ⟨r, hr, cdo⟩ : ∃ r : D × Int, r.1 = syncNames d ∧ Calls Tryz.prog 62 #[.agg #[.slice aN nN cN, .slice aE nE cE, .slice aO nO cO, .slice aS nS cS, .int .i64 d.room, .int .i64 d.next], .func (.func 94) #[] #[]] W (DeedR r W) := by
    cases hdk : diskOk d with
    | false => exact ⟨(d, 3), by unfold syncNames; simp [hdk], implDoToNo 94 #[] _ d W hk hvW hgW hdk⟩
    | true => exact ⟨(syncNames d, 0), rfl, implDoToYes 94 #[] (enters_of Tryz.func94 (by kernel_rfl) rfl) _ d (syncNames d, 0) W hk hvW hgW hdk (fun B b W' sN sE sO sS hb hB hp => doSyncNames B b sN sE sO sS d W' hp hdk hk  ⟨W, hgW, hB, hb⟩)⟩
  rw [← hr]
  clear hr
  have CD := Lib.hid cdo
  have BR0 := Lib.hid br0
  have FR0 := Lib.hid fr0
  have HB := Lib.hid hWB
  have HWs := Lib.hid hWs
  clear b1 b2  hWB br0 fr0 hv0 hk hg hWs hvW hgW cdo 
  go_enter Tryz.func29, Tryz.ntmps29
  go_wp2_with (fail)
  rw [← hW]
  clear hW
  refine CD.out.mono ?_
  rintro e w4 ⟨u, rfl, hd4, hb4⟩
  obtain ⟨t1, t2, t3, t4, n1, n2, n3, n4, rfl⟩ := own_slices hd4
  obtain ⟨W5, hW5⟩ : ∃ W5, W5 = w4.alloc (.cells #[.slice t1 r.1.nodes.length n1, .slice t2 r.1.ents.length n2, .slice t3 r.1.old.length n3, .slice t4 r.1.steps.length n4, .int .i64 r.1.room, .int .i64 r.1.next] 28) := ⟨_, rfl⟩
  have hy5 : Below w4.heap.size w4 W5 := by rw [hW5]; exact (Below.refl _ _).alloc (Nat.le_refl _) _
  have HD := Lib.hid (disk_below hd4 hy5)
  have bx5 : disk.Box W5 w4.heap.size [.slice t1 r.1.nodes.length n1, .slice t2 r.1.ents.length n2, .slice t3 r.1.old.length n3, .slice t4 r.1.steps.length n4, .int .i64 r.1.room, .int .i64 r.1.next] := by rw [hW5]; exact Box.new _ _ _
  have BR4 := Lib.hid ((BR0.out.below hb4).below hy5)
  have FR4 := Lib.hid (frozen_below (frozen_below FR0.out BR0.out.1 hb4) (BR0.out.below hb4).1 hy5)
  have HB4 := Lib.hid ((HB.out.trans (hb4.mono HB.out.size)).trans (hy5.mono (Nat.le_trans HB.out.size hb4.size)))
  have HS4 := Lib.hid (show W.heap.size ≤ W5.heap.size from Nat.le_trans hb4.size hy5.size)
  clear hd4 hb4 hy5 CD FR0 BR0 HB
  have y0 := bx5.at 0 _ rfl
  have y1 := bx5.at 1 _ rfl
  have y2 := bx5.at 2 _ rfl
  have y3 := bx5.at 3 _ rfl
  have y4 := bx5.at 4 _ rfl
  have y5 := bx5.at 5 _ rfl
  clear bx5
  have r0 := BR4.out.at 0 _ rfl
  have r1 := BR4.out.at 1 _ rfl
  have r2 := BR4.out.at 2 _ rfl
  have r3 := BR4.out.at 3 _ rfl
  have r4 := BR4.out.at 4 _ rfl
  have r5 := BR4.out.at 5 _ rfl
  have k0 := FR4.out 0
  have k1 := FR4.out 1
  have k2 := FR4.out 2
  have k3 := FR4.out 3
  have k4 := FR4.out 4
  have k5 := FR4.out 5
  rw [hW5] at y0 r0 k0
  rw [hW5] at y1 r1 k1
  rw [hW5] at y2 r2 k2
  rw [hW5] at y3 r3 k3
  rw [hW5] at y4 r4 k4
  rw [hW5] at y5 r5 k5
  go_wp2
  rw [← hW5]
  obtain ⟨X, hX, hbX, hdX, hlX⟩ := six_ret BR4.out (by have := HWs.out; omega) HD.out w.heap.size w HB4.out (by omega)
  rw [hX]
  have p0 := hbX.at 0 _ rfl
  have p1 := hbX.at 1 _ rfl
  have p2 := hbX.at 2 _ rfl
  have p3 := hbX.at 3 _ rfl
  have p4 := hbX.at 4 _ rfl
  have p5 := hbX.at 5 _ rfl
  refine bodyPost_ret (v := .agg #[.slice t1 r.1.nodes.length n1, .slice t2 r.1.ents.length n2, .slice t3 r.1.old.length n3, .slice t4 r.1.steps.length n4, .int .i64 r.1.room, .int .i64 r.1.next]) (by simp [results, Tryz.results29, go_sem, p0, p1, p2, p3, p4, p5]) rfl ⟨_, rfl, hdX.base (by have := HWs.out; omega), hlX⟩

end Go.Proofs.YtdacdbidennjhaaGreatDoor.ik

namespace Go.Proofs.YtdacdbidennjhaaGreatDoor.ik
open Go.RowKit Go.Maps Go.WideMaps
open kit strs recs disk deed kd

theorem cnt_of {d x : D} (h : okD d) (h1 : x.nodes.length ≤ d.nodes.length + 1) (h2 : x.ents.length ≤ d.ents.length + 1) (h3 : x.old.length ≤ d.old.length + d.ents.length) (h4 : x.steps.length ≤ d.steps.length + 1) : cntD x ≤ 100000000 := by
  obtain ⟨l1, l2, l3, l4⟩ := okL_lens (okD.loose h)
  unfold cntD
  omega
theorem cnt_clean {d x : D} (h : okD d) (h1 : x.nodes.length ≤ d.nodes.length + 1) (h2 : x.ents.length ≤ d.ents.length + 1) (h3 : x.old.length ≤ d.old.length + d.ents.length) (h4 : x.steps.length ≤ d.steps.length + 1) : cntD (clean x) ≤ 100000000 :=
  cnt_of h (Nat.le_trans (List.length_filter_le _ _) h1) h2 h3 h4
theorem cnt_self {d : D} (h : okD d) : cntD d ≤ 100000000 := cnt_of h (Nat.le_add_right _ _) (Nat.le_add_right _ _) (Nat.le_add_right _ _) (Nat.le_add_right _ _)
theorem cnt_node {d : D} (k : Nat) (n : Nod) (h : okD d) : cntD (setNode d k n) ≤ 100000000 :=
  cnt_of h (by show (d.nodes.set k n).length ≤ _; rw [List.length_set]; omega) (Nat.le_add_right _ _) (Nat.le_add_right _ _) (Nat.le_add_right _ _)
theorem cnt_create {d : D} (s : ByteArray) (h : okD d) : cntD (createFile d s).1 ≤ 100000000 := by
  unfold createFile
  repeat' split
  all_goals first
    | exact cnt_self h
    | exact cnt_clean h (by simp) (putE_length _ _) (Nat.le_add_right _ _) (by simp)
theorem cnt_append {d : D} (s t : ByteArray) (h : okD d) : cntD (appendFile d s t).1 ≤ 100000000 := by
  unfold appendFile
  repeat' split
  all_goals first
    | exact cnt_self h
    | exact cnt_node _ _ h
theorem cnt_sync {d : D} (s : ByteArray) (h : okD d) : cntD (syncFile d s).1 ≤ 100000000 := by
  unfold syncFile
  repeat' split
  all_goals first
    | exact cnt_self h
    | exact cnt_node _ _ h
theorem cnt_rename {d : D} (s t : ByteArray) (h : okD d) : cntD (renameFile d s t).1 ≤ 100000000 := by
  unfold renameFile
  repeat' split
  all_goals first
    | exact cnt_self h
    | exact cnt_clean h (Nat.le_add_right _ _) (Nat.le_trans (putE_length _ _) (Nat.succ_le_succ (dropE_length _ _))) (Nat.le_add_right _ _) (by simp)
theorem cnt_remove {d : D} (s : ByteArray) (h : okD d) : cntD (removeFile d s).1 ≤ 100000000 := by
  unfold removeFile
  repeat' split
  all_goals first
    | exact cnt_self h
    | exact cnt_clean h (Nat.le_add_right _ _) (Nat.le_trans (dropE_length _ _) (Nat.le_add_right _ _)) (Nat.le_add_right _ _) (by simp)
theorem cnt_syncNames {d : D} (h : okD d) : cntD (syncNames d) ≤ 100000000 := by
  unfold syncNames
  split
  · exact cnt_self h
  · exact cnt_clean h (Nat.le_add_right _ _) (Nat.le_add_right _ _) (Nat.le_add_left _ _) (Nat.zero_le _)

end Go.Proofs.YtdacdbidennjhaaGreatDoor.ik
