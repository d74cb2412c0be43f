/-
  The landed program's maps of names and numbers: what they hold, look-ups, and the step that takes a name away.
-/
import Derived.Test.YtkibddcjogfklaaGreatDoorIkMap
import Derived.Test.YtkibddcjogfklaaGreatDoorIkCut
import Derived.Test.YtkibddcjogfklaaGreatDoorNmX
import Derived.Test.YtkibddcjogfklaaGreatDoorIkR
import Derived.Maps.OwnOps
import Derived.Test.YtkibddcjogfklaaGreatDoorDpX
namespace Go.Proofs.YtkibddcjogfklaaGreatDoor.ik
open Go.RowKit Go.Maps Go.WideMaps
open kit strs recs disk deed

theorem lawS : Keyed Tryz.prog 9 := string_keyed Tryz.underlying9
theorem lawI : Keyed Tryz.prog 3 := int_keyed Tryz.underlying3
theorem zI (w : World) : (zeroValue 3).run Tryz.prog w = .ok (.int .i64 0) w := by kernel_rfl
theorem zB (w : World) : (zeroValue 4).run Tryz.prog w = .ok (.bool false) w := by kernel_rfl

/-- block b is a map that stands for the entries -/
def MapE (w : World) (b n : Nat) (l : List Ent) : Prop := ∃ D : DataW Unit, w.ownsMap Tryz.prog 9 (plainElem Tryz.prog 3) b n D ∧ Rep D l ∧ Srt l
/-- block b is a map that stands for the nodes' numbers -/
def MapN (w : World) (b n : Nat) (ns : List Nod) : Prop := ∃ D : DataW Unit, w.ownsMap Tryz.prog 3 (plainElem Tryz.prog 4) b n D ∧ RepN D ns
theorem MapE.kept {w w' : World} {b n : Nat} {l : List Ent} {row : Option Nat} (h : MapE w b n l) (hg : w.grownBy w' row) (hne : some b ≠ row) : MapE w' b n l := by
  obtain ⟨D, ho, hr⟩ := h
  exact ⟨D, ho.kept hg hne, hr⟩
theorem MapN.kept {w w' : World} {b n : Nat} {l : List Nod} {row : Option Nat} (h : MapN w b n l) (hg : w.grownBy w' row) (hne : some b ≠ row) : MapN w' b n l := by
  obtain ⟨D, ho, hr⟩ := h
  exact ⟨D, ho.kept hg hne, hr⟩
theorem MapE.below {w w' : World} {b n : Nat} {l : List Ent} (h : MapE w b n l) (hb : Below w.heap.size w w') : MapE w' b n l := h.kept (row := none) (grown_of_below hb) (by simp)
theorem MapN.below {w w' : World} {b n : Nat} {l : List Nod} (h : MapN w b n l) (hb : Below w.heap.size w w') : MapN w' b n l := h.kept (row := none) (grown_of_below hb) (by simp)
theorem MapE.lt {w : World} {b n : Nat} {l : List Ent} (h : MapE w b n l) : b < w.heap.size := by
  obtain ⟨D, ho, _⟩ := h
  exact ho.lt
theorem MapN.lt {w : World} {b n : Nat} {l : List Nod} (h : MapN w b n l) : b < w.heap.size := by
  obtain ⟨D, ho, _⟩ := h
  exact ho.lt
theorem MapE.mono {w : World} {b n n' : Nat} {l : List Ent} (h : MapE w b n l) (hn : n ≤ n') : MapE w b n' l := by
  obtain ⟨D, ho, hr⟩ := h
  exact ⟨D, ho.mono hn, hr⟩
theorem MapE.look {w : World} {b n : Nat} {l : List Ent} (h : MapE w b n l) {s : ByteArray} (hs : s.size ≤ maxLen) :
    (Instr.lookup 69 (.map (some b)) (.string s) false).run Tryz.prog w = .ok (.int .i64 (idE l s)) w ∧ (Lit.int .i64 (idE l s)).wf = true := by
  obtain ⟨D, ho, hr, _⟩ := h
  obtain ⟨c, hrun, hat, hwf⟩ := ho.lookup_int lawS Tryz.underlying69 Tryz.underlying3 (zI _) (keyOf_string_mk Tryz.underlying9 hs)
  rw [hr.2] at hat
  have hc : idE l s = c := by
    unfold idE
    cases e : entAt l s with
    | none => rw [e] at hat; simpa using hat
    | some i => rw [e] at hat; simpa using hat
  rw [hc]
  exact ⟨hrun, hwf⟩
theorem MapE.look_ok {w : World} {b n : Nat} {l : List Ent} (h : MapE w b n l) {s : ByteArray} (hs : s.size ≤ maxLen) :
    (Instr.lookup 69 (.map (some b)) (.string s) true).run Tryz.prog w = .ok (.tuple #[.int .i64 (idE l s), .bool (hasE l s)]) w := by
  obtain ⟨D, ho, hr, _⟩ := h
  obtain ⟨v, ps, hrun, hv⟩ := ho.look_ok lawS Tryz.underlying69 (zI _) (plainElem_int Tryz.underlying3 (by decide)) (keyOf_string_mk Tryz.underlying9 hs)
  obtain ⟨c, rfl, hc, _⟩ := plainElem_int_inv Tryz.underlying3 hv
  have hat := congrArg Prod.fst hc
  simp only [] at hat
  rw [hr.2] at hat
  have hc : idE l s = c := by
    unfold idE
    cases e : entAt l s with
    | none => rw [e] at hat; simpa using hat
    | some i => rw [e] at hat; simpa using hat
  rw [hc, ← hr.has]
  exact hrun
theorem plainElem_bool_inv {P : Program} {e : TypeId} (he : P.underlying e = some .bool) {v : Value} {z : DataW Unit × List MemPlace} (h : plainElem P e v = some z) : ∃ c : Bool, v = .bool c ∧ z = (.lit (.bool c), []) := by
  unfold plainElem at h
  rw [he] at h
  cases v <;> simp at h
  exact ⟨_, rfl, h.symm⟩
theorem MapN.look {w : World} {b n : Nat} {ns : List Nod} (h : MapN w b n ns) {i : Int} (hi : (Lit.int .i64 i).wf = true) :
    (Instr.lookup 84 (.map (some b)) (.int .i64 i) false).run Tryz.prog w = .ok (.bool (nodeIx ns i).isSome) w := by
  obtain ⟨D, ho, hr⟩ := h
  obtain ⟨v, ps, hrun, hv⟩ := ho.lookup lawI Tryz.underlying84 (zB _) (plainElem_bool Tryz.underlying4 false) (keyOf_int_mk Tryz.underlying3 hi)
  obtain ⟨c, rfl, hc⟩ := plainElem_bool_inv Tryz.underlying4 hv
  have hat := congrArg Prod.fst hc
  simp only [] at hat
  rw [hr.2] at hat
  have hc : (nodeIx ns i).isSome = c := by
    cases e : (nodeIx ns i).isSome with
    | false => rw [e] at hat; simpa using hat
    | true => rw [e] at hat; simpa using hat
  rw [hc]
  exact hrun

/-- what a step does to the map: it is done, or nothing has turned -/
def StepR (b n : Nat) (w : World) (l : List Ent) (o : Option (List Ent)) (e : Ending) (w' : World) : Prop :=
  e = .returned (.bool o.isSome) ∧ MapE w' b (n + 1) (o.getD l) ∧ w.grownBy w' (some b)
theorem grown_but {w w' : World} (h : Below w.heap.size w w') (row : Option Nat) : w.grownBy w' row := ⟨h.os, h.tape, h.output, h.size, fun i hi _ => h.block i hi⟩
theorem grown_then {w w1 w2 : World} {b : Nat} (h : Below w.heap.size w w1) (k : w1.grownBy w2 (some b)) : w.grownBy w2 (some b) :=
  ⟨k.os.trans h.os, k.tape.trans h.tape, k.output.trans h.output, Nat.le_trans h.size k.size, fun i hi hne => (k.block i (Nat.lt_of_lt_of_le hi h.size) hne).trans (h.block i hi)⟩

set_option maxHeartbeats 400000 in
set_option maxRecDepth 100000 in
theorem implDrop (b n : Nat) (l : List Ent) (s : ByteArray) (w : World) (hs : s.size ≤ 1048576) (h : MapE w b n l) (hl : Nok l) (hg : nam.Hand w) :
    Calls Tryz.prog 67 #[.map (some b), .string s] w (StepR b n w l (if hasE l s = true then some (dropE l s) else none)) := by
  have hm : s.size ≤ maxLen := by unfold maxLen; omega
  have hlk := h.look_ok hm
  have HM := Lib.hid h
  clear h
  cases hh : hasE l s with
  | false =>
    rw [hh] at hlk
    go_enter Tryz.func67, Tryz.ntmps67
    go_wp2
    go_ret
    exact ⟨rfl, HM.out.mono (Nat.le_succ _), grown_but (Below.refl _ _) _⟩
  | true =>
    rw [hh] at hlk
    have hn : nam.nok s = true := by
      cases e : entAt l s with
      | none => unfold hasE at hh; rw [e] at hh; cases hh
      | some i => exact hl _ (at_mem e)
    have CN := nam.implOk_any s w hs hg
    rw [hn] at CN
    have CC := Lib.hid CN
    obtain ⟨D, ho, hr, hsr⟩ := HM.out
    have HO := Lib.hid ho
    have HR := Lib.hid hr
    have HS := Lib.hid hsr
    clear CN hn hh ho hr hsr HM hl
    go_enter Tryz.func67, Tryz.ntmps67
    go_wp2_with (first
      | (go_at_call 61; refine CC.out.mono ?_; rintro e w1 ⟨rfl, hb1⟩; have hown1 := HO.out.kept (row := none) (grown_of_below hb1) (by simp))
      | (at_delete; refine wpList_delete_own _ rfl _ _ 69 9 rfl 3 lawS Tryz.underlying69 _ b n D rfl hown1 _ _ rfl (keyOf_string_mk Tryz.underlying9 hm) ?_; intro w2 hown2 hturn2))
    go_ret
    exact ⟨rfl, ⟨_, hown2.mono (Nat.le_succ _), HR.out.del s, drop_srt s HS.out⟩, grown_then hb1 hturn2.grown⟩

end Go.Proofs.YtkibddcjogfklaaGreatDoor.ik

namespace Go.Proofs.YtkibddcjogfklaaGreatDoor.ik
open Go.RowKit Go.Maps Go.WideMaps
open kit strs recs disk deed

/-- internal/bytealg's bound, whatever it is -/
def MaxL (w : World) : Prop := ∃ m : Int, w.cell? ⟨1, 0, none⟩ = some (.int .i64 m)
theorem maxl_of {w : World} (h : w.ShapedOpen Tryz.prog) : MaxL w := Tryz.laysM145.s1_3 w h
theorem maxl_below {W W' : World} (h : MaxL W) (hb : Below W.heap.size W W') : MaxL W' := by
  obtain ⟨m, h⟩ := h
  exact ⟨m, (hb.cell (p := ⟨1, 0, none⟩) (World.block_lt_of_cell? W _ h)).trans h⟩
/-- what a world holds where steps are done -/
structure GD (w : World) : Prop where
  pow : rd.Pow w
  es : hold.F_strconv_ErrSyntax w
  er : hold.F_strconv_ErrRange w
  hand : nam.Hand w
  ml : MaxL w
theorem GD.below {W W' : World} (h : GD W) (hb : Below W.heap.size W W') : GD W' :=
  ⟨rd.pow_below h.pow hb, hold.below_strconv_ErrSyntax h.es hb, hold.below_strconv_ErrRange h.er hb, nam.hand_below h.hand hb, maxl_below h.ml hb⟩

def col : ByteArray := { data := #[58] }
def cutA (s : ByteArray) : ByteArray := ⟨(Lib.cut s.data.toList [58]).1.toArray⟩
def cutB (s : ByteArray) : ByteArray := ⟨(Lib.cut s.data.toList [58]).2.1.toArray⟩
theorem implCut (s : ByteArray) (w : World) (hs : s.size ≤ 1048576) (h : MaxL w) :
    ∃ f : Bool, Calls Tryz.prog 76 #[.string s, .string { data := #[58] }] w fun e w' => e = .returned (.tuple #[.string (cutA s), .string (cutB s), .bool f]) ∧ Below w.heap.size w w' := by
  obtain ⟨m, hm⟩ := h
  refine ⟨(Lib.cut s.data.toList [58]).2.2, (Any.strings_Cut { Tryz.laysM145 with } s { data := #[58] } m w (by omega) hm).mono ?_⟩
  rintro e w' ⟨he, n, rfl⟩
  exact ⟨he, (Below.refl _ _).trans ⟨rfl, rfl, rfl, Nat.le_refl _, fun _ _ => rfl⟩⟩
theorem cutA_size (s : ByteArray) : (cutA s).size ≤ s.size := (cut_small s.data.toList).1
theorem cutB_size (s : ByteArray) : (cutB s).size ≤ s.size := (cut_small s.data.toList).2
theorem readN_wf (s : ByteArray) : (Lit.int .i64 (readN s).1).wf = true := by
  unfold readN
  cases h : rd.RD s.data.toList with
  | none => decide
  | some n => exact rd.wf_small n (by have := (rd.rd_some.1 h).1; omega)

set_option maxHeartbeats 1000000 in
set_option maxRecDepth 100000 in
theorem implAdd (b n : Nat) (l : List Ent) (s : ByteArray) (w : World) (hs : s.size ≤ 1048576) (hn : n ≤ 1000000000) (h : MapE w b n l) (hg : GD w) :
    Calls Tryz.prog 66 #[.map (some b), .string s] w (StepR b n w l (if (readN (cutB s)).2 = true ∧ nam.nok (cutA s) = true then some (insE (cutA s, (readN (cutB s)).1) l) else none)) := by
  obtain ⟨f, CC⟩ := implCut s w hs hg.ml
  have sx := cutA_size s
  have sy := cutB_size s
  have WF := Lib.hid (readN_wf (cutB s))
  have HV := Lib.hid (read_V (cutB s))
  generalize cutA s = x at *
  generalize cutB s = y at *
  have hx : x.size ≤ maxLen := by unfold maxLen; omega
  have CC' := Lib.hid CC
  have HM := Lib.hid h
  have HG := Lib.hid hg
  have CR := Lib.hid (fun (w1 : World) (hb : Below w.heap.size w w1) => rd.implRead_any y w1 (by omega) (HG.out.below hb).pow (HG.out.below hb).es (HG.out.below hb).er)
  have CN := Lib.hid (fun (w1 : World) (hb : Below w.heap.size w w1) => nam.implOk_any x w1 (by omega) (HG.out.below hb).hand)
  obtain ⟨i, hi⟩ : ∃ i, (readN y).1 = i := ⟨_, rfl⟩
  rw [hi] at WF HV ⊢
  clear CC h hg sx sy hs hi
  cases h2 : (readN y).2 with
  | false =>
    rw [h2] at HV
    clear h2
    rw [if_neg (fun e => by cases e.1)]
    go_enter Tryz.func66, Tryz.ntmps66
    go_wp2_with (fail)
    refine CC'.out.mono ?_
    rintro e w1 ⟨rfl, hb1⟩
    go_wp2_with (fail)
    refine (CR.out w1 hb1).mono ?_
    rw [HV.out]
    rintro e w2 ⟨rfl, hb2⟩
    have hb : Below w.heap.size w w2 := hb1.trans (hb2.mono hb1.size)
    go_wp2
    go_ret
    exact ⟨rfl, (HM.out.below hb).mono (Nat.le_succ _), grown_but hb _⟩
  | true =>
    rw [h2] at HV
    clear h2
    cases h3 : nam.nok x with
    | false =>
      rw [h3] at CN
      clear h3
      rw [if_neg (fun e => by cases e.2)]
      go_enter Tryz.func66, Tryz.ntmps66
      go_wp2_with (fail)
      refine CC'.out.mono ?_
      rintro e w1 ⟨rfl, hb1⟩
      go_wp2_with (fail)
      refine (CR.out w1 hb1).mono ?_
      rw [HV.out]
      rintro e w2 ⟨rfl, hb2⟩
      have hb : Below w.heap.size w w2 := hb1.trans (hb2.mono hb1.size)
      go_wp2_with (fail)
      refine (CN.out w2 hb).mono ?_
      rintro e w3 ⟨rfl, hb3⟩
      have hb' : Below w.heap.size w w3 := hb.trans (hb3.mono hb.size)
      go_wp2
      go_ret
      exact ⟨rfl, (HM.out.below hb').mono (Nat.le_succ _), grown_but hb' _⟩
    | true =>
      rw [h3] at CN
      clear h3
      rw [if_pos ⟨rfl, rfl⟩]
      go_enter Tryz.func66, Tryz.ntmps66
      go_wp2_with (fail)
      refine CC'.out.mono ?_
      rintro e w1 ⟨rfl, hb1⟩
      go_wp2_with (fail)
      refine (CR.out w1 hb1).mono ?_
      rw [HV.out]
      rintro e w2 ⟨rfl, hb2⟩
      have hb : Below w.heap.size w w2 := hb1.trans (hb2.mono hb1.size)
      go_wp2_with (fail)
      refine (CN.out w2 hb).mono ?_
      rintro e w3 ⟨rfl, hb3⟩
      have hb' : Below w.heap.size w w3 := hb.trans (hb3.mono hb.size)
      obtain ⟨D, ho, hr, hsr⟩ := HM.out.below hb'
      have HR := Lib.hid hr
      have HS := Lib.hid hsr
      have HB := Lib.hid hb'
      clear hr hsr hb1 hb2 hb3 hb hb'
      go_wp2_with (at_mapUpdate; refine wpList_mapUpdate_own _ rfl _ _ _ 69 rfl 9 3 lawS Tryz.underlying69 _ b n D rfl ho (by unfold maxLen; omega) _ _ _ rfl rfl (keyOf_string_mk Tryz.underlying9 hx) _ [] (plainElem_int Tryz.underlying3 WF.out) ?_; intro w4 hown4 hgrow4)
      go_ret
      exact ⟨rfl, ⟨_, hown4, HR.out.put (x, i), ins_srt HS.out⟩, grown_then HB.out hgrow4⟩

set_option maxHeartbeats 1000000 in
set_option maxRecDepth 100000 in
theorem implMove (b n : Nat) (l : List Ent) (s : ByteArray) (w : World) (hs : s.size ≤ 1048576) (hn : n ≤ 1000000000) (h : MapE w b n l) (hl : Nok l) (hg : GD w) :
    Calls Tryz.prog 68 #[.map (some b), .string s] w (StepR b n w l (if hasE l (cutA s) = true ∧ ¬ cutA s = cutB s ∧ nam.nok (cutB s) = true then some (insE (cutB s, idE l (cutA s)) (dropE l (cutA s))) else none)) := by
  obtain ⟨f, CC⟩ := implCut s w hs hg.ml
  have sx := cutA_size s
  have sy := cutB_size s
  generalize cutA s = x at *
  generalize cutB s = y at *
  have hx : x.size ≤ maxLen := by unfold maxLen; omega
  have hy : y.size ≤ maxLen := by unfold maxLen; omega
  have CC' := Lib.hid CC
  have HM := Lib.hid h
  have HG := Lib.hid hg
  have HL := Lib.hid hl
  have CX := Lib.hid (fun (w1 : World) (hb : Below w.heap.size w w1) => nam.implOk_any x w1 (by omega) (HG.out.below hb).hand)
  have CY := Lib.hid (fun (w1 : World) (hb : Below w.heap.size w w1) => nam.implOk_any y w1 (by omega) (HG.out.below hb).hand)
  have WF := Lib.hid (h.look hx).2
  clear CC h hg sx sy hs hl
  cases h1 : hasE l x with
  | false =>
    rw [if_neg (fun e => by cases e.1)]
    go_enter Tryz.func68, Tryz.ntmps68
    go_wp2_with (fail)
    refine CC'.out.mono ?_
    rintro e w1 ⟨rfl, hb1⟩
    have hlk := (HM.out.below hb1).look_ok hx
    rw [h1] at hlk
    have H1 := Lib.hid h1
    clear h1
    go_wp2
    go_ret
    refine ⟨rfl, (HM.out.below hb1).mono (Nat.le_succ _), grown_but hb1 _⟩
  | true =>
    have hnx : nam.nok x = true := by
      cases e : entAt l x with
      | none => unfold hasE at h1; rw [e] at h1; cases h1
      | some i => exact HL.out _ (at_mem e)
    rw [hnx] at CX
    clear hnx
    by_cases hxy : x = y
    · have hb := bytes_eq hxy
      rw [if_neg (fun e => e.2.1 hxy)]
      clear hxy
      go_enter Tryz.func68, Tryz.ntmps68
      go_wp2_with (fail)
      refine CC'.out.mono ?_
      rintro e w1 ⟨rfl, hb1⟩
      have hlk := (HM.out.below hb1).look_ok hx
      rw [h1] at hlk
      have H1 := Lib.hid h1
      clear h1
      go_wp2
      go_ret
      exact ⟨rfl, (HM.out.below hb1).mono (Nat.le_succ _), grown_but hb1 _⟩
    · have hbn := bytes_ne hxy
      cases h3 : nam.nok y with
      | false =>
        rw [h3] at CY
        rw [if_neg (fun e => by cases e.2.2)]
        clear h3 hxy
        go_enter Tryz.func68, Tryz.ntmps68
        go_wp2_with (fail)
        refine CC'.out.mono ?_
        rintro e w1 ⟨rfl, hb1⟩
        have hlk := (HM.out.below hb1).look_ok hx
        rw [h1] at hlk
        have H1 := Lib.hid h1
        clear h1
        go_wp2_with (fail)
        refine (CX.out w1 hb1).mono ?_
        rintro e w2 ⟨rfl, hb2⟩
        have hb : Below w.heap.size w w2 := hb1.trans (hb2.mono hb1.size)
        go_wp2_with (fail)
        refine (CY.out w2 hb).mono ?_
        rintro e w3 ⟨rfl, hb3⟩
        have hb' : Below w.heap.size w w3 := hb.trans (hb3.mono hb.size)
        go_wp2
        go_ret
        exact ⟨rfl, (HM.out.below hb').mono (Nat.le_succ _), grown_but hb' _⟩
      | true =>
        rw [h3] at CY
        rw [if_pos ⟨rfl, hxy, rfl⟩]
        clear h3 hxy
        go_enter Tryz.func68, Tryz.ntmps68
        go_wp2_with (fail)
        refine CC'.out.mono ?_
        rintro e w1 ⟨rfl, hb1⟩
        have hlk := (HM.out.below hb1).look_ok hx
        rw [h1] at hlk
        have H1 := Lib.hid h1
        clear h1
        go_wp2_with (fail)
        refine (CX.out w1 hb1).mono ?_
        rintro e w2 ⟨rfl, hb2⟩
        have hb : Below w.heap.size w w2 := hb1.trans (hb2.mono hb1.size)
        go_wp2_with (fail)
        refine (CY.out w2 hb).mono ?_
        rintro e w3 ⟨rfl, hb3⟩
        have hb' : Below w.heap.size w w3 := hb.trans (hb3.mono hb.size)
        obtain ⟨D, ho, hr, hsr⟩ := HM.out.below hb'
        have HR := Lib.hid hr
        have HS := Lib.hid hsr
        have HB := Lib.hid hb'
        obtain ⟨i, hi⟩ : ∃ i, idE l x = i := ⟨_, rfl⟩
        rw [hi] at WF ⊢
        have HI := Lib.hid hi
        clear hr hsr hb1 hb2 hb3 hb hb' hlk hi
        go_wp2_with (first
          | (at_delete; refine wpList_delete_own _ rfl _ _ 69 9 rfl 3 lawS Tryz.underlying69 _ b n D rfl ho _ _ rfl (keyOf_string_mk Tryz.underlying9 hx) ?_; intro w4 hown4 hturn4)
          | (at_mapUpdate; refine wpList_mapUpdate_own _ rfl _ _ _ 69 rfl 9 3 lawS Tryz.underlying69 _ b n _ rfl hown4 (by unfold maxLen; omega) _ _ _ rfl rfl (keyOf_string_mk Tryz.underlying9 hy) _ [] (plainElem_int Tryz.underlying3 WF.out) ?_; intro w5 hown5 hgrow5))
        go_ret
        rw [HI.out]
        refine ⟨rfl, ⟨_, hown5, (HR.out.del x).put (y, i), ins_srt (drop_srt x HS.out)⟩, grown_then HB.out ?_⟩
        have g4 := hturn4.grown
        exact ⟨hgrow5.os.trans g4.os, hgrow5.tape.trans g4.tape, hgrow5.output.trans g4.output, Nat.le_trans g4.size hgrow5.size, fun k hk hne => (hgrow5.block k (Nat.lt_of_lt_of_le hk g4.size) hne).trans (g4.block k hk hne)⟩

end Go.Proofs.YtkibddcjogfklaaGreatDoor.ik

namespace Go.Proofs.YtkibddcjogfklaaGreatDoor.ik
open Go.RowKit Go.Maps
open kit strs recs disk deed

theorem has_nok {l : List Ent} (h : Nok l) {s : ByteArray} (hs : hasE l s = true) : nam.nok s = true := by
  cases e : entAt l s with
  | none => unfold hasE at hs; rw [e] at hs; cases hs
  | some i => exact h _ (at_mem e)
theorem nok_empty : nam.nok { data := #[] } = false := by decide
theorem readN_empty : (readN { data := #[] }).2 = false := by
  unfold readN
  cases h : rd.RD ({ data := #[] } : ByteArray).data.toList with
  | none => rfl
  | some n => exact absurd (rd.rd_some.1 h).2 (rd.digits_ne n)
theorem has_empty {l : List Ent} (h : Nok l) : hasE l { data := #[] } = false := by
  cases e : hasE l { data := #[] } with
  | false => rfl
  | true => have := has_nok h e; rw [nok_empty] at this; cases this
theorem ext_one {s : ByteArray} (h : s.size = 1) : s.extract 1 s.size = { data := #[] } := by
  apply ByteArray.ext
  apply Array.toList_inj.1
  rw [ext_tail, List.drop_of_length_le (by rw [Array.length_toList]; show s.size ≤ 1; omega)]
theorem cut_empty : cutA { data := #[] } = { data := #[] } ∧ cutB { data := #[] } = { data := #[] } := by
  constructor <;> decide
theorem step_none {l : List Ent} {s : ByteArray} (h : (saidOf s).ok = false) : doStep l s = none := by
  unfold doStep
  rw [if_pos (.inl h)]
theorem noSaid_ok : noSaid.ok = false := rfl
theorem step_plus {l : List Ent} {s : ByteArray} (hl : Srt l) (h1 : 1 ≤ s.size) (hc : byteAt s 0 = 43) :
    doStep l s = if (readN (cutB (s.extract 1 s.size))).2 = true ∧ nam.nok (cutA (s.extract 1 s.size)) = true then some (insE (cutA (s.extract 1 s.size), (readN (cutB (s.extract 1 s.size))).1) l) else none := by
  by_cases hsz : s.size < 2
  · rw [step_none (by rw [said_short hsz]; rfl), ext_one (by omega), cut_empty.2, if_neg (fun e => by rw [readN_empty] at e; cases e.1)]
  · cases hcol : colon s (s.size - 1) 1 with
    | none =>
      have hb : cutB (s.extract 1 s.size) = { data := #[] } := cut_none h1 hcol
      rw [step_none (by rw [said_none hsz (.inl hc) hcol]; rfl), hb, if_neg (fun e => by rw [readN_empty] at e; cases e.1)]
    | some i =>
      obtain ⟨ha, hb⟩ := cut_some h1 hcol
      have ha : cutA (s.extract 1 s.size) = s.extract 1 i := ha
      have hb : cutB (s.extract 1 s.size) = s.extract (i + 1) s.size := hb
      rw [ha, hb]
      unfold doStep
      rw [said_plus hsz hc hcol]
      simp only []
      by_cases e : (readN (s.extract (i + 1) s.size)).2 = true ∧ nam.nok (s.extract 1 i) = true
      · rw [if_neg (by rw [e.1, e.2]; simp), if_pos hc, if_pos e, putE_ins _ hl]
      · rw [if_neg e, if_pos]
        cases e1 : (readN (s.extract (i + 1) s.size)).2
        · simp
        · cases e2 : nam.nok (s.extract 1 i)
          · simp
          · exact absurd ⟨e1, e2⟩ e
theorem step_minus {l : List Ent} {s : ByteArray} (hn : Nok l) (h1 : 1 ≤ s.size) (hc : byteAt s 0 = 45) :
    doStep l s = if hasE l (s.extract 1 s.size) = true then some (dropE l (s.extract 1 s.size)) else none := by
  by_cases hsz : s.size < 2
  · rw [step_none (by rw [said_short hsz]; rfl), ext_one (by omega), has_empty hn]
    rfl
  · unfold doStep
    rw [said_minus hsz hc]
    simp only []
    by_cases e : hasE l (s.extract 1 s.size) = true
    · rw [if_neg (by rw [has_nok hn e]; simp), if_neg (by omega), if_neg (by rw [e]; simp), if_neg (by omega), if_pos e]
    · rw [if_neg e]
      by_cases e2 : nam.nok (s.extract 1 s.size) = false
      · rw [if_pos (.inr e2)]
      · rw [if_neg (by simpa using e2), if_neg (by omega), if_pos (by simpa using e)]
theorem step_move {l : List Ent} {s : ByteArray} (hl : Srt l) (hn : Nok l) (h1 : 1 ≤ s.size) (hc : byteAt s 0 = 62) :
    doStep l s = if hasE l (cutA (s.extract 1 s.size)) = true ∧ ¬ cutA (s.extract 1 s.size) = cutB (s.extract 1 s.size) ∧ nam.nok (cutB (s.extract 1 s.size)) = true then some (insE (cutB (s.extract 1 s.size), idE l (cutA (s.extract 1 s.size))) (dropE l (cutA (s.extract 1 s.size)))) else none := by
  by_cases hsz : s.size < 2
  · rw [step_none (by rw [said_short hsz]; rfl), ext_one (by omega), cut_empty.1, cut_empty.2, if_neg (fun e => e.2.1 rfl)]
  · cases hcol : colon s (s.size - 1) 1 with
    | none =>
      have hb : cutB (s.extract 1 s.size) = { data := #[] } := cut_none h1 hcol
      rw [step_none (by rw [said_none hsz (.inr hc) hcol]; rfl), hb, if_neg (fun e => by have := e.2.2; rw [nok_empty] at this; cases this)]
    | some i =>
      obtain ⟨ha, hb⟩ := cut_some h1 hcol
      have ha : cutA (s.extract 1 s.size) = s.extract 1 i := ha
      have hb : cutB (s.extract 1 s.size) = s.extract (i + 1) s.size := hb
      rw [ha, hb]
      unfold doStep
      rw [said_move hsz hc hcol]
      simp only []
      generalize s.extract 1 i = x
      generalize s.extract (i + 1) s.size = y
      by_cases e : hasE l x = true ∧ ¬ x = y ∧ nam.nok y = true
      · rw [if_neg (by rw [has_nok hn e.1, e.2.2]; simp [e.2.1]), if_neg (by omega), if_neg (by rw [e.1]; simp), if_pos hc, if_pos e, putE_ins _ (drop_srt _ hl)]
      · rw [if_neg e]
        by_cases e1 : ((nam.nok y && !decide (x = y)) = false ∨ nam.nok x = false)
        · rw [if_pos e1]
        · rw [if_neg e1, if_neg (by omega), if_pos]
          cases e2 : hasE l x with
          | false => rfl
          | true =>
            exfalso
            apply e
            refine ⟨e2, fun hxy => e1 (.inl (by simp [hxy])), ?_⟩
            cases e3 : nam.nok y with
            | true => rfl
            | false => exact absurd (.inl (by simp [e3])) e1
theorem step_other {l : List Ent} {s : ByteArray} (h1 : ¬ byteAt s 0 = 43) (h2 : ¬ byteAt s 0 = 45) (h3 : ¬ byteAt s 0 = 62) : doStep l s = none := by
  refine step_none ?_
  by_cases hsz : s.size < 2
  · rw [said_short hsz]; rfl
  · rw [said_other hsz h2 (by omega)]; rfl

set_option maxHeartbeats 1000000 in
set_option maxRecDepth 100000 in
theorem implStep (b n : Nat) (l : List Ent) (s : ByteArray) (w : World) (hs : s.size ≤ 1048576) (hn : n ≤ 1000000000) (h : MapE w b n l) (hl : Nok l) (hg : GD w) :
    Calls Tryz.prog 46 #[.map (some b), .string s] w (StepR b n w l (doStep l s)) := by
  have hsr : Srt l := by obtain ⟨_, _, _, h⟩ := h; exact h
  have hsx : (s.extract 1 s.size).size ≤ 1048576 := Nat.le_trans (ext_size s 1 s.size) hs
  by_cases h0 : s = { data := #[] }
  · rw [show doStep l s = none from by rw [h0]; exact step_none (by rw [said_short (by decide)]; rfl)]
    have HM := Lib.hid h
    clear h hl hg hsr hsx
    subst h0
    go_enter Tryz.func46, Tryz.ntmps46
    go_wp2
    go_ret
    exact ⟨rfl, HM.out.mono (Nat.le_succ _), grown_but (Below.refl _ _) _⟩
  · have h1 : 0 < s.size := by
      rcases Nat.eq_zero_or_pos s.size with h | h
      · exact absurd (ByteArray.ext (Array.eq_empty_of_size_eq_zero h)) h0
      · exact h
    have hne := bytes_ne h0
    have hem : s.toList.isEmpty = false := by
      rw [ByteArray.toList_eq]
      cases e : s.data.toList with
      | nil => exact absurd (ByteArray.ext (Array.toList_inj.1 e)) h0
      | cons a r => rfl
    generalize hgen : doStep l s = o
    obtain ⟨c, hc⟩ : ∃ c, byteAt s 0 = c := ⟨_, rfl⟩
    have hb0 := deed.byte_at h1 hc
    have h1' : (1 : Int) ≤ (s.size : Int) := by omega
    clear h0
    by_cases c1 : c = 43
    · rw [step_plus hsr h1 (hc.trans c1)] at hgen
      have CA := (implAdd b n l _ w hsx hn h hg)
      rw [hgen] at CA
      replace CA := Lib.hid CA
      rw [c1] at hb0
      clear hc c1 h hl hg hsr hsx hgen
      go_enter Tryz.func46, Tryz.ntmps46
      go_wp2_with (fail)
      refine CA.out.mono ?_
      rintro e w1 ⟨rfl, hr⟩
      go_wp2
      go_ret
      exact ⟨rfl, hr⟩
    · by_cases c2 : c = 45
      · rw [step_minus hl h1 (hc.trans c2)] at hgen
        have CA := (implDrop b n l _ w hsx h hl hg.hand)
        rw [hgen] at CA
        replace CA := Lib.hid CA
        rw [c2] at hb0
        clear hc c1 c2 h hl hg hsr hsx hgen
        go_enter Tryz.func46, Tryz.ntmps46
        go_wp2_with (fail)
        refine CA.out.mono ?_
        rintro e w1 ⟨rfl, hr⟩
        go_wp2
        go_ret
        exact ⟨rfl, hr⟩
      · by_cases c3 : c = 62
        · rw [step_move hsr hl h1 (hc.trans c3)] at hgen
          have CA := (implMove b n l _ w hsx hn h hl hg)
          rw [hgen] at CA
          replace CA := Lib.hid CA
          rw [c3] at hb0
          clear hc c1 c2 c3 h hl hg hsr hsx hgen
          go_enter Tryz.func46, Tryz.ntmps46
          go_wp2_with (fail)
          refine CA.out.mono ?_
          rintro e w1 ⟨rfl, hr⟩
          go_wp2
          go_ret
          exact ⟨rfl, hr⟩
        · rw [step_other (by omega) (by omega) (by omega)] at hgen
          subst hgen
          have HM := Lib.hid h
          have g1 : ((c : Int) == 43) = false := by simp; omega
          have g2 : ((c : Int) == 45) = false := by simp; omega
          have g3 : ((c : Int) == 62) = false := by simp; omega
          clear hc c1 c2 c3 h hl hg hsr hsx
          go_enter Tryz.func46, Tryz.ntmps46
          go_wp2
          go_ret
          exact ⟨rfl, HM.out.mono (Nat.le_succ _), grown_but (Below.refl _ _) _⟩

end Go.Proofs.YtkibddcjogfklaaGreatDoor.ik
