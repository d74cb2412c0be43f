/-
  The landed program's steps over its map of names: what is added, taken away, given another name.
-/
import Derived.Test.YtgcpgoehnjkpbaaGreatDoorIkM
import Derived.Test.YtgcpgoehnjkpbaaGreatDoorDpX
namespace Go.Proofs.YtgcpgoehnjkpbaaGreatDoor.ik
open Go.RowKit Go.Maps Go.WideMaps
open kit strs recs disk deed

/-- internal/bytealg's bound, whatever it is -/
def MaxL (w : World) : Prop := ∃ m : Int, w.cell? ⟨1, 0, none⟩ = some (.int .i64 m)
theorem maxl_of {w : World} (h : w.ShapedOpen Tryz.prog) : MaxL w := Tryz.laysM145.s1_3 w h
theorem maxl_below {W W' : World} (h : MaxL W) (hb : Below W.heap.size W W') : MaxL W' := by
  obtain ⟨m, h⟩ := h
  exact ⟨m, (hb.cell (p := ⟨1, 0, none⟩) (World.block_lt_of_cell? W _ h)).trans h⟩
/-- what a world holds where steps are done -/
structure GD (w : World) : Prop where
  pow : rd.Pow w
  es : hold.F_strconv_ErrSyntax w
  er : hold.F_strconv_ErrRange w
  hand : nam.Hand w
  ml : MaxL w
theorem GD.below {W W' : World} (h : GD W) (hb : Below W.heap.size W W') : GD W' :=
  ⟨rd.pow_below h.pow hb, hold.below_strconv_ErrSyntax h.es hb, hold.below_strconv_ErrRange h.er hb, nam.hand_below h.hand hb, maxl_below h.ml hb⟩

def col : ByteArray := { data := #[58] }
def cutA (s : ByteArray) : ByteArray := ⟨(Lib.cut s.data.toList [58]).1.toArray⟩
def cutB (s : ByteArray) : ByteArray := ⟨(Lib.cut s.data.toList [58]).2.1.toArray⟩
theorem implCut (s : ByteArray) (w : World) (hs : s.size ≤ 1048576) (h : MaxL w) :
    ∃ f : Bool, Calls Tryz.prog 153 #[.string s, .string { data := #[58] }] w fun e w' => e = .returned (.tuple #[.string (cutA s), .string (cutB s), .bool f]) ∧ Below w.heap.size w w' := by
  obtain ⟨m, hm⟩ := h
  refine ⟨(Lib.cut s.data.toList [58]).2.2, (Any.strings_Cut { Tryz.laysM145 with } s { data := #[58] } m w (by omega) hm).mono ?_⟩
  rintro e w' ⟨he, n, rfl⟩
  exact ⟨he, (Below.refl _ _).trans ⟨rfl, rfl, rfl, Nat.le_refl _, fun _ _ => rfl⟩⟩
theorem cutA_size (s : ByteArray) : (cutA s).size ≤ s.size := (cut_small s.data.toList).1
theorem cutB_size (s : ByteArray) : (cutB s).size ≤ s.size := (cut_small s.data.toList).2
theorem readN_wf (s : ByteArray) : (Lit.int .i64 (readN s).1).wf = true := by
  unfold readN
  cases h : rd.RD s.data.toList with
  | none => decide
  | some n => exact rd.wf_small n (by have := (rd.rd_some.1 h).1; omega)

set_option maxHeartbeats 1000000 in
set_option maxRecDepth 100000 in
theorem implAdd (b n : Nat) (l : List Ent) (s : ByteArray) (w : World) (hs : s.size ≤ 1048576) (hn : n ≤ 1000000000) (h : MapE w b n l) (hg : GD w) :
    Calls Tryz.prog 134 #[.map (some b), .string s] w (StepR b n w l (if (readN (cutB s)).2 = true ∧ nam.nok (cutA s) = true then some (insE (cutA s, (readN (cutB s)).1) l) else none)) := by
  obtain ⟨f, CC⟩ := implCut s w hs hg.ml
  have sx := cutA_size s
  have sy := cutB_size s
  have WF := Lib.hid (readN_wf (cutB s))
  have HV := Lib.hid (read_V (cutB s))
  generalize cutA s = x at *
  generalize cutB s = y at *
  have hx : x.size ≤ maxLen := by unfold maxLen; omega
  have CC' := Lib.hid CC
  have HM := Lib.hid h
  have HG := Lib.hid hg
  have CR := Lib.hid (fun (w1 : World) (hb : Below w.heap.size w w1) => rd.implRead_any y w1 (by omega) (HG.out.below hb).pow (HG.out.below hb).es (HG.out.below hb).er)
  have CN := Lib.hid (fun (w1 : World) (hb : Below w.heap.size w w1) => nam.implOk_any x w1 (by omega) (HG.out.below hb).hand)
  obtain ⟨i, hi⟩ : ∃ i, (readN y).1 = i := ⟨_, rfl⟩
  rw [hi] at WF HV ⊢
  clear CC h hg sx sy hs hi
  cases h2 : (readN y).2 with
  | false =>
    rw [h2] at HV
    clear h2
    rw [if_neg (fun e => by cases e.1)]
    go_enter Tryz.func134, Tryz.ntmps134
    go_wp2_with (fail)
    refine CC'.out.mono ?_
    rintro e w1 ⟨rfl, hb1⟩
    go_wp2_with (fail)
    refine (CR.out w1 hb1).mono ?_
    rw [HV.out]
    rintro e w2 ⟨rfl, hb2⟩
    have hb : Below w.heap.size w w2 := hb1.trans (hb2.mono hb1.size)
    go_wp2
    go_ret
    exact ⟨rfl, (HM.out.below hb).mono (Nat.le_succ _), grown_but hb _⟩
  | true =>
    rw [h2] at HV
    clear h2
    cases h3 : nam.nok x with
    | false =>
      rw [h3] at CN
      clear h3
      rw [if_neg (fun e => by cases e.2)]
      go_enter Tryz.func134, Tryz.ntmps134
      go_wp2_with (fail)
      refine CC'.out.mono ?_
      rintro e w1 ⟨rfl, hb1⟩
      go_wp2_with (fail)
      refine (CR.out w1 hb1).mono ?_
      rw [HV.out]
      rintro e w2 ⟨rfl, hb2⟩
      have hb : Below w.heap.size w w2 := hb1.trans (hb2.mono hb1.size)
      go_wp2_with (fail)
      refine (CN.out w2 hb).mono ?_
      rintro e w3 ⟨rfl, hb3⟩
      have hb' : Below w.heap.size w w3 := hb.trans (hb3.mono hb.size)
      go_wp2
      go_ret
      exact ⟨rfl, (HM.out.below hb').mono (Nat.le_succ _), grown_but hb' _⟩
    | true =>
      rw [h3] at CN
      clear h3
      rw [if_pos ⟨rfl, rfl⟩]
      go_enter Tryz.func134, Tryz.ntmps134
      go_wp2_with (fail)
      refine CC'.out.mono ?_
      rintro e w1 ⟨rfl, hb1⟩
      go_wp2_with (fail)
      refine (CR.out w1 hb1).mono ?_
      rw [HV.out]
      rintro e w2 ⟨rfl, hb2⟩
      have hb : Below w.heap.size w w2 := hb1.trans (hb2.mono hb1.size)
      go_wp2_with (fail)
      refine (CN.out w2 hb).mono ?_
      rintro e w3 ⟨rfl, hb3⟩
      have hb' : Below w.heap.size w w3 := hb.trans (hb3.mono hb.size)
      obtain ⟨D, ho, hr, hsr⟩ := HM.out.below hb'
      have HR := Lib.hid hr
      have HS := Lib.hid hsr
      have HB := Lib.hid hb'
      clear hr hsr hb1 hb2 hb3 hb hb'
      go_wp2_with (at_mapUpdate; refine wpList_mapUpdate_own _ rfl _ _ _ 97 rfl 9 3 lawS Tryz.underlying97 _ b n D rfl ho (by unfold maxLen; omega) _ _ _ rfl rfl (keyOf_string_mk Tryz.underlying9 hx) _ [] (plainElem_int Tryz.underlying3 WF.out) ?_; intro w4 hown4 hgrow4)
      go_ret
      exact ⟨rfl, ⟨_, hown4, HR.out.put (x, i), ins_srt HS.out⟩, grown_then HB.out hgrow4⟩

set_option maxHeartbeats 1000000 in
set_option maxRecDepth 100000 in
theorem implMove (b n : Nat) (l : List Ent) (s : ByteArray) (w : World) (hs : s.size ≤ 1048576) (hn : n ≤ 1000000000) (h : MapE w b n l) (hl : Nok l) (hg : GD w) :
    Calls Tryz.prog 136 #[.map (some b), .string s] w (StepR b n w l (if hasE l (cutA s) = true ∧ ¬ cutA s = cutB s ∧ nam.nok (cutB s) = true then some (insE (cutB s, idE l (cutA s)) (dropE l (cutA s))) else none)) := by
  obtain ⟨f, CC⟩ := implCut s w hs hg.ml
  have sx := cutA_size s
  have sy := cutB_size s
  generalize cutA s = x at *
  generalize cutB s = y at *
  have hx : x.size ≤ maxLen := by unfold maxLen; omega
  have hy : y.size ≤ maxLen := by unfold maxLen; omega
  have CC' := Lib.hid CC
  have HM := Lib.hid h
  have HG := Lib.hid hg
  have HL := Lib.hid hl
  have CX := Lib.hid (fun (w1 : World) (hb : Below w.heap.size w w1) => nam.implOk_any x w1 (by omega) (HG.out.below hb).hand)
  have CY := Lib.hid (fun (w1 : World) (hb : Below w.heap.size w w1) => nam.implOk_any y w1 (by omega) (HG.out.below hb).hand)
  have WF := Lib.hid (h.look hx).2
  clear CC h hg sx sy hs hl
  cases h1 : hasE l x with
  | false =>
    rw [if_neg (fun e => by cases e.1)]
    go_enter Tryz.func136, Tryz.ntmps136
    go_wp2_with (fail)
    refine CC'.out.mono ?_
    rintro e w1 ⟨rfl, hb1⟩
    have hlk := (HM.out.below hb1).look_ok hx
    rw [h1] at hlk
    have H1 := Lib.hid h1
    clear h1
    go_wp2
    go_ret
    refine ⟨rfl, (HM.out.below hb1).mono (Nat.le_succ _), grown_but hb1 _⟩
  | true =>
    have hnx : nam.nok x = true := by
      cases e : entAt l x with
      | none => unfold hasE at h1; rw [e] at h1; cases h1
      | some i => exact HL.out _ (at_mem e)
    rw [hnx] at CX
    clear hnx
    by_cases hxy : x = y
    · have hb := bytes_eq hxy
      rw [if_neg (fun e => e.2.1 hxy)]
      clear hxy
      go_enter Tryz.func136, Tryz.ntmps136
      go_wp2_with (fail)
      refine CC'.out.mono ?_
      rintro e w1 ⟨rfl, hb1⟩
      have hlk := (HM.out.below hb1).look_ok hx
      rw [h1] at hlk
      have H1 := Lib.hid h1
      clear h1
      go_wp2
      go_ret
      exact ⟨rfl, (HM.out.below hb1).mono (Nat.le_succ _), grown_but hb1 _⟩
    · have hbn := bytes_ne hxy
      cases h3 : nam.nok y with
      | false =>
        rw [h3] at CY
        rw [if_neg (fun e => by cases e.2.2)]
        clear h3 hxy
        go_enter Tryz.func136, Tryz.ntmps136
        go_wp2_with (fail)
        refine CC'.out.mono ?_
        rintro e w1 ⟨rfl, hb1⟩
        have hlk := (HM.out.below hb1).look_ok hx
        rw [h1] at hlk
        have H1 := Lib.hid h1
        clear h1
        go_wp2_with (fail)
        refine (CX.out w1 hb1).mono ?_
        rintro e w2 ⟨rfl, hb2⟩
        have hb : Below w.heap.size w w2 := hb1.trans (hb2.mono hb1.size)
        go_wp2_with (fail)
        refine (CY.out w2 hb).mono ?_
        rintro e w3 ⟨rfl, hb3⟩
        have hb' : Below w.heap.size w w3 := hb.trans (hb3.mono hb.size)
        go_wp2
        go_ret
        exact ⟨rfl, (HM.out.below hb').mono (Nat.le_succ _), grown_but hb' _⟩
      | true =>
        rw [h3] at CY
        rw [if_pos ⟨rfl, hxy, rfl⟩]
        clear h3 hxy
        go_enter Tryz.func136, Tryz.ntmps136
        go_wp2_with (fail)
        refine CC'.out.mono ?_
        rintro e w1 ⟨rfl, hb1⟩
        have hlk := (HM.out.below hb1).look_ok hx
        rw [h1] at hlk
        have H1 := Lib.hid h1
        clear h1
        go_wp2_with (fail)
        refine (CX.out w1 hb1).mono ?_
        rintro e w2 ⟨rfl, hb2⟩
        have hb : Below w.heap.size w w2 := hb1.trans (hb2.mono hb1.size)
        go_wp2_with (fail)
        refine (CY.out w2 hb).mono ?_
        rintro e w3 ⟨rfl, hb3⟩
        have hb' : Below w.heap.size w w3 := hb.trans (hb3.mono hb.size)
        obtain ⟨D, ho, hr, hsr⟩ := HM.out.below hb'
        have HR := Lib.hid hr
        have HS := Lib.hid hsr
        have HB := Lib.hid hb'
        obtain ⟨i, hi⟩ : ∃ i, idE l x = i := ⟨_, rfl⟩
        rw [hi] at WF ⊢
        have HI := Lib.hid hi
        clear hr hsr hb1 hb2 hb3 hb hb' hlk hi
        go_wp2_with (first
          | (at_delete; refine wpList_delete_own _ rfl _ _ 97 9 rfl 3 lawS Tryz.underlying97 _ b n D rfl ho _ _ rfl (keyOf_string_mk Tryz.underlying9 hx) ?_; intro w4 hown4 hturn4)
          | (at_mapUpdate; refine wpList_mapUpdate_own _ rfl _ _ _ 97 rfl 9 3 lawS Tryz.underlying97 _ b n _ rfl hown4 (by unfold maxLen; omega) _ _ _ rfl rfl (keyOf_string_mk Tryz.underlying9 hy) _ [] (plainElem_int Tryz.underlying3 WF.out) ?_; intro w5 hown5 hgrow5))
        go_ret
        rw [HI.out]
        refine ⟨rfl, ⟨_, hown5, (HR.out.del x).put (y, i), ins_srt (drop_srt x HS.out)⟩, grown_then HB.out ?_⟩
        have g4 := hturn4.grown
        exact ⟨hgrow5.os.trans g4.os, hgrow5.tape.trans g4.tape, hgrow5.output.trans g4.output, Nat.le_trans g4.size hgrow5.size, fun k hk hne => (hgrow5.block k (Nat.lt_of_lt_of_le hk g4.size) hne).trans (g4.block k hk hne)⟩

end Go.Proofs.YtgcpgoehnjkpbaaGreatDoor.ik
