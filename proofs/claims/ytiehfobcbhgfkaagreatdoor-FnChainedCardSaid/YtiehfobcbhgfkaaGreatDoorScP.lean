/-
  What scanning leaves in memory: the box of what is told, with its two rows; an append of a fresh row that leaves all other blocks as they were.
-/
import Derived.Test.YtiehfobcbhgfkaaGreatDoorMathX
import Derived.Test.YtiehfobcbhgfkaaGreatDoorHdQ
import Derived.Test.YtiehfobcbhgfkaaGreatDoorFrP
import Derived.Test.YtiehfobcbhgfkaaGreatDoorStrQ
import Derived.Test.YtiehfobcbhgfkaaGreatDoorIntX
namespace Go.Proofs.YtiehfobcbhgfkaaGreatDoor.sc
set_option maxRecDepth 20000
open Go.RowKit
open kit sum num burst hd fr

/-- what is told of a text, in memory of its own from block B on -/
def OwnScan (B : Nat) (w : World) (v : Value) (b : ByteArray) : Prop :=
  ∃ (R O : Value), v = .agg #[.bool (rdH b).isSome, .int .i64 (hdOf b).v, .int .i64 (hdOf b).s, .int .i64 (hdOf b).b, .int .i64 (hdOf b).l, R, O, .int .i64 (endN b : Int), .bool (marked b)] ∧
    w.ownsRow B 9 1 R (recs b).length ((recs b).map Value.string) ∧ w.ownsRow B 3 1 O (recs b).length ((offs b).map fun (o : Nat) => Value.int .i64 (o : Int))
theorem OwnScan.below {B : Nat} {w w' : World} {v : Value} {b : ByteArray} (h : OwnScan B w v b) (hb : Below w.heap.size w w') : OwnScan B w' v b := by
  obtain ⟨R, O, hv, h1, h2⟩ := h
  exact ⟨R, O, hv, own_below h1 hb, own_below h2 hb⟩
theorem OwnScan.base {B B' : Nat} {w : World} {v : Value} {b : ByteArray} (h : OwnScan B w v b) (hB : B' ≤ B) : OwnScan B' w v b := by
  obtain ⟨R, O, hv, h1, h2⟩ := h
  exact ⟨R, O, hv, own_base h1 hB, own_base h2 hB⟩

/-- while it is scanned: the head's block, the box of what is told, and the result's -/
structure Rig (B : Nat) (w : World) (g x r : Nat) (h : Hd) (R O : Value) (xs : List (ByteArray × Nat)) (e : Nat) : Prop where
  hd : Box w g [.int .i64 h.v, .int .i64 h.s, .int .i64 h.b, .int .i64 h.l]
  box : Box w x [.bool true, .int .i64 h.v, .int .i64 h.s, .int .i64 h.b, .int .i64 h.l, R, O, .int .i64 (e : Int), .bool false]
  out : Box w r [.bool false, .int .i64 0, .int .i64 0, .int .i64 0, .int .i64 0, .slice none 0 0, .slice none 0 0, .int .i64 0, .bool false]
  rowR : w.ownsRow B 9 1 R xs.length (xs.map fun x => Value.string x.1)
  rowO : w.ownsRow B 3 1 O xs.length (xs.map fun x => Value.int .i64 (x.2 : Int))
  hg : g < B
  hx : x < B
  hr : r < B
  gx : g ≠ x
  gr : g ≠ r
  xr : x ≠ r
  size : B ≤ w.heap.size
theorem Rig.below {B : Nat} {w w' : World} {g x r e : Nat} {h : Hd} {R O : Value} {xs : List (ByteArray × Nat)} (c : Rig B w g x r h R O xs e) (hb : Below w.heap.size w w') : Rig B w' g x r h R O xs e :=
  ⟨c.hd.below hb, c.box.below hb, c.out.below hb, own_below c.rowR hb, own_below c.rowO hb, c.hg, c.hx, c.hr, c.gx, c.gr, c.xr, Nat.le_trans c.size hb.size⟩
/-- a record more -/
theorem Rig.more {B : Nat} {w w1 w2 : World} {g x r e : Nat} {h : Hd} {R O R' O' : Value} {xs : List (ByteArray × Nat)} {q : Nat} {s : ByteArray} (c : Rig B w g x r h R O xs e)
    (g1 : w.grownBy w1 R.ownBlock) (o1 : w1.ownsRow B 9 1 R' (xs.length + 1) ((xs.map fun x => Value.string x.1) ++ [.string s]))
    (g2 : (w1.setCell ⟨x, 5, none⟩ R').grownBy w2 O.ownBlock) (o2 : w2.ownsRow B 3 1 O' (xs.length + 1) ((xs.map fun x => Value.int .i64 (x.2 : Int)) ++ [.int .i64 (e : Int)])) :
    Rig B ((w2.setCell ⟨x, 6, none⟩ O').setCell ⟨x, 7, none⟩ (.int .i64 (q : Int))) g x r h R' O' (xs ++ [(s, e)]) q := by
  have fR : ∀ k, k < B → R.ownBlock ≠ some k := fun k hk => own_not c.rowR hk
  have fO : ∀ k, k < B → O.ownBlock ≠ some k := fun k hk => own_not c.rowO hk
  have oO1 : (w1.setCell ⟨x, 5, none⟩ R').ownsRow B 3 1 O xs.length (xs.map fun x => Value.int .i64 (x.2 : Int)) :=
    own_setOther (own_grown c.rowO g1 (off_type c.rowO c.rowR (by decide))) x 5 R' (fO x c.hx)
  have oR1 : (w1.setCell ⟨x, 5, none⟩ R').ownsRow B 9 1 R' (xs.length + 1) ((xs.map fun x => Value.string x.1) ++ [.string s]) := own_setOther o1 x 5 R' (own_not o1 c.hx)
  have oR2 : w2.ownsRow B 9 1 R' (xs.length + 1) ((xs.map fun x => Value.string x.1) ++ [.string s]) := own_grown oR1 g2 (off_type oR1 oO1 (by decide))
  have hl : (xs ++ [(s, e)]).length = xs.length + 1 := by simp
  refine ⟨?_, ?_, ?_, ?_, ?_, c.hg, c.hx, c.hr, c.gx, c.gr, c.xr, ?_⟩
  · exact ((((c.hd.grown g1 (fR g c.hg)).far 5 R' (Ne.symm c.gx)).grown g2 (fO g c.hg)).far 6 O' (Ne.symm c.gx)).far 7 _ (Ne.symm c.gx)
  · exact ((((c.box.grown g1 (fR x c.hx)).set 5 R' (by simp)).grown g2 (fO x c.hx)).set 6 O' (by simp)).set 7 _ (by simp)
  · exact ((((c.out.grown g1 (fR r c.hr)).far 5 R' c.xr).grown g2 (fO r c.hr)).far 6 O' c.xr).far 7 _ c.xr
  · rw [hl, List.map_append]
    exact own_setOther (own_setOther oR2 x 6 O' (own_not oR2 c.hx)) x 7 _ (own_not oR2 c.hx)
  · rw [hl, List.map_append]
    exact own_setOther (own_setOther o2 x 6 O' (own_not o2 c.hx)) x 7 _ (own_not o2 c.hx)
  · have h1 := g1.size
    have h2 : w1.heap.size ≤ w2.heap.size := by simpa using g2.size
    have h3 := c.size
    have h4 : ((w2.setCell ⟨x, 6, none⟩ O').setCell ⟨x, 7, none⟩ (.int .i64 (q : Int))).heap.size = w2.heap.size := by simp
    omega

end Go.Proofs.YtiehfobcbhgfkaaGreatDoor.sc

namespace Go.Proofs.YtiehfobcbhgfkaaGreatDoor.sc
set_option maxRecDepth 20000
open Go.RowKit
open kit sum num burst hd fr

theorem hdR_none : hdR none = .tuple #[.agg #[.int .i64 0, .int .i64 0, .int .i64 0, .int .i64 0], .bool false] := rfl
theorem hdR_some (h : Hd) : hdR (some h) = .tuple #[.agg #[.int .i64 h.v, .int .i64 h.s, .int .i64 h.b, .int .i64 h.l], .bool true] := rfl
def nine (w : World) (r : Nat) (c0 c1 c2 c3 c4 c5 c6 c7 c8 : Value) : World := ((((((((w.setCell ⟨r, 0, none⟩ c0).setCell ⟨r, 1, none⟩ c1).setCell ⟨r, 2, none⟩ c2).setCell ⟨r, 3, none⟩ c3).setCell ⟨r, 4, none⟩ c4).setCell ⟨r, 5, none⟩ c5).setCell ⟨r, 6, none⟩ c6).setCell ⟨r, 7, none⟩ c7).setCell ⟨r, 8, none⟩ c8
theorem below_nine {B r : Nat} {w0 w : World} (c0 c1 c2 c3 c4 c5 c6 c7 c8 : Value) (h : Below B w0 w) (hr : B ≤ r) : Below B w0 (nine w r c0 c1 c2 c3 c4 c5 c6 c7 c8) := by
  unfold nine
  iterate 9 refine Below.setCell ?_ hr _
  exact h
theorem own_nine {B B' r n : Nat} {w : World} {E : TypeId} {v : Value} {xs : List Value} (c0 c1 c2 c3 c4 c5 c6 c7 c8 : Value) (h : w.ownsRow B E 1 v n xs) (hr : r < B) (hB : B' ≤ B) : (nine w r c0 c1 c2 c3 c4 c5 c6 c7 c8).ownsRow B' E 1 v n xs := by
  refine own_base ?_ hB
  unfold nine
  iterate 9 refine own_setOther ?_ _ _ _ (own_not h hr)
  exact h
/-- what is told at the end -/
theorem rig_end {B B' : Nat} {w : World} {g x r e : Nat} {h : Hd} {R O : Value} {xs : List (ByteArray × Nat)} {b : ByteArray} {m : Bool} (c : Rig B w g x r h R O xs e) (hx : rdH b = some h) (hI : Inv h b xs e) (hs : step h b xs.length e = none) (hm : mkAt h.v (h.b + (xs.length : Int)) b (e : Int) = m) (hB : B' ≤ B) (c0 c1 c2 c3 c4 c5 c6 c7 c8 : Value) :
    OwnScan B' (nine w r c0 c1 c2 c3 c4 c5 c6 c7 c8) (.agg #[.bool true, .int .i64 h.v, .int .i64 h.s, .int .i64 h.b, .int .i64 h.l, R, O, .int .i64 (e : Int), .bool m]) b := by
  have hd := hI.done hs
  have e1 : recs b = xs.map Prod.fst := by rw [recs_some hx, hd]
  have e2 : offs b = xs.map Prod.snd := by rw [offs_some hx, hd]
  refine ⟨R, O, by rw [hx, hdOf_some hx, endN_some hx, marked_some hx, hd, hm]; rfl, ?_, ?_⟩
  · rw [e1, List.length_map, List.map_map]
    exact own_nine _ _ _ _ _ _ _ _ _ c.rowR c.hr hB
  · rw [e1, e2, List.length_map, List.map_map]
    exact own_nine _ _ _ _ _ _ _ _ _ c.rowO c.hr hB
theorem Rig.mark {B : Nat} {w : World} {g x r e : Nat} {h : Hd} {R O : Value} {xs : List (ByteArray × Nat)} (c : Rig B w g x r h R O xs e) (u : Value) :
    Box (w.setCell ⟨x, 8, none⟩ u) x [.bool true, .int .i64 h.v, .int .i64 h.s, .int .i64 h.b, .int .i64 h.l, R, O, .int .i64 (e : Int), u] ∧ Box (w.setCell ⟨x, 8, none⟩ u) r [.bool false, .int .i64 0, .int .i64 0, .int .i64 0, .int .i64 0, .slice none 0 0, .slice none 0 0, .int .i64 0, .bool false] ∧ (w.setCell ⟨x, 8, none⟩ u).ownsRow B 9 1 R xs.length (xs.map fun x => Value.string x.1) ∧ (w.setCell ⟨x, 8, none⟩ u).ownsRow B 3 1 O xs.length (xs.map fun x => Value.int .i64 (x.2 : Int)) :=
  ⟨c.box.set 8 u (by simp), c.out.far 8 u c.xr, own_setOther c.rowR x 8 u (own_not c.rowR c.hx), own_setOther c.rowO x 8 u (own_not c.rowO c.hx)⟩
/-- the same behind the mark's own store -/
theorem rig_end_mark {B B' : Nat} {w : World} {g x r e : Nat} {h : Hd} {R O u : Value} {xs : List (ByteArray × Nat)} {b : ByteArray} {m : Bool} (c : Rig B w g x r h R O xs e) (hx : rdH b = some h) (hI : Inv h b xs e) (hs : step h b xs.length e = none) (hm : mkAt h.v (h.b + (xs.length : Int)) b (e : Int) = m) (hB : B' ≤ B) (c0 c1 c2 c3 c4 c5 c6 c7 c8 : Value) :
    OwnScan B' (nine (w.setCell ⟨x, 8, none⟩ u) r c0 c1 c2 c3 c4 c5 c6 c7 c8) (.agg #[.bool true, .int .i64 h.v, .int .i64 h.s, .int .i64 h.b, .int .i64 h.l, R, O, .int .i64 (e : Int), .bool m]) b := by
  have hd := hI.done hs
  have e1 : recs b = xs.map Prod.fst := by rw [recs_some hx, hd]
  have e2 : offs b = xs.map Prod.snd := by rw [offs_some hx, hd]
  obtain ⟨_, _, k1, k2⟩ := c.mark u
  refine ⟨R, O, by rw [hx, hdOf_some hx, endN_some hx, marked_some hx, hd, hm]; rfl, ?_, ?_⟩
  · rw [e1, List.length_map, List.map_map]
    exact own_nine _ _ _ _ _ _ _ _ _ k1 c.hr hB
  · rw [e1, e2, List.length_map, List.map_map]
    exact own_nine _ _ _ _ _ _ _ _ _ k2 c.hr hB

set_option maxHeartbeats 4000000 in
set_option maxRecDepth 20000 in
theorem specScan (b : ByteArray) (w : World) (hm : b.size ≤ 1048576) :
    Calls Tryz.prog 66 #[.string b] w fun e w' => (∃ v, e = .returned v ∧ OwnScan w.heap.size w' v b) ∧ Below w.heap.size w w' := by
  have CH := Lib.hid (fun w => specReadHead b w hm)
  obtain ⟨W, hW⟩ : ∃ W, W = w.alloc (.cells #[.bool false, .int .i64 0, .int .i64 0, .int .i64 0, .int .i64 0, .slice none 0 0, .slice none 0 0, .int .i64 0, .bool false] 80) := ⟨_, rfl⟩
  have hb0 : Below w.heap.size w W := by rw [hW]; exact (Below.refl _ _).alloc (Nat.le_refl _) _
  have bx : Box W w.heap.size [.bool false, .int .i64 0, .int .i64 0, .int .i64 0, .int .i64 0, .slice none 0 0, .slice none 0 0, .int .i64 0, .bool false] := by rw [hW]; exact Box.new w _ _
  have s0 : w.heap.size < W.heap.size := by rw [hW]; simp
  cases hx : rdH b with
  | none =>
    rw [hx, hdR_none] at CH
    go_enter Tryz.func66, Tryz.ntmps66
    go_wp2_with fail
    rw [← hW]
    clear hW
    refine (CH.out _).mono ?_
    rintro e w1 ⟨rfl, b1⟩
    have al := (Below.refl w1.heap.size w1).alloc (Nat.le_refl _) (.cells #[.int .i64 0, .int .i64 0, .int .i64 0, .int .i64 0] 45)
    have HB := (bx.below b1).below al
    have BB := Lib.hid ((hb0.trans (b1.mono hb0.size)).trans (al.mono (Nat.le_trans hb0.size b1.size)))
    have x0 := HB.at 0 _ rfl
    have y0 := HB.2 0
    have x1 := HB.at 1 _ rfl
    have y1 := HB.2 1
    have x2 := HB.at 2 _ rfl
    have y2 := HB.2 2
    have x3 := HB.at 3 _ rfl
    have y3 := HB.2 3
    have x4 := HB.at 4 _ rfl
    have y4 := HB.2 4
    have x5 := HB.at 5 _ rfl
    have y5 := HB.2 5
    have x6 := HB.at 6 _ rfl
    have y6 := HB.2 6
    have x7 := HB.at 7 _ rfl
    have y7 := HB.2 7
    have x8 := HB.at 8 _ rfl
    have y8 := HB.2 8
    clear al HB bx
    go_wp2
    refine bodyPost_ret (v := .agg #[.bool false, .int .i64 0, .int .i64 0, .int .i64 0, .int .i64 0, .slice none 0 0, .slice none 0 0, .int .i64 0, .bool false]) (by simp [results, Tryz.results66, go_sem, x0, x1, x2, x3, x4, x5, x6, x7, x8]) rfl ⟨⟨_, rfl, ?_⟩, below_nine _ _ _ _ _ _ _ _ _ BB.out (Nat.le_refl _)⟩
    refine ⟨.slice none 0 0, .slice none 0 0, by rw [hx, hdOf_none hx, endN_none hx, marked_none hx]; rfl, ?_, ?_⟩
    · rw [recs_none hx]; exact World.ownsRow_nil _ _ _ _
    · rw [recs_none hx, offs_none hx]; exact World.ownsRow_nil _ _ _ _
  | some h =>
    have HS := Lib.hid (Inv.start hx)
    have HX := Lib.hid hx
    have hok := okH_is.1 HS.out.ok
    have hb64 := hok.2.2.2.2.2.1
    have hb65 := hok.2.2.2.2.1
    clear hok
    rw [hx, hdR_some] at CH
    clear hx
    obtain ⟨i0, hi, hz0, hz1, hz2⟩ := info_parts strs.Tryz.infoStr
    obtain ⟨i1, gi, gz0, gz1, gz2⟩ := info_parts ints.Tryz.infoInt
    go_enter Tryz.func66, Tryz.ntmps66
    go_wp2_with fail
    rw [← hW]
    clear hW
    refine (CH.out _).mono ?_
    rintro e w1 ⟨rfl, b1⟩
    have al := (Below.refl w1.heap.size w1).alloc (Nat.le_refl _) (.cells #[.int .i64 h.v, .int .i64 h.s, .int .i64 h.b, .int .i64 h.l] 45)
    have bg : Box (w1.alloc (.cells #[.int .i64 h.v, .int .i64 h.s, .int .i64 h.b, .int .i64 h.l] 45)) w1.heap.size [.int .i64 h.v, .int .i64 h.s, .int .i64 h.b, .int .i64 h.l] := Box.new w1 _ _
    have bo := (bx.below b1).below al
    have BB := (hb0.trans (b1.mono hb0.size)).trans (al.mono (Nat.le_trans hb0.size b1.size))
    obtain ⟨W1, hW1⟩ : ∃ W1, W1 = w1.alloc (.cells #[.int .i64 h.v, .int .i64 h.s, .int .i64 h.b, .int .i64 h.l] 45) := ⟨_, rfl⟩
    rw [← hW1] at bg bo BB
    have s1 : W.heap.size ≤ w1.heap.size := b1.size
    have s2 : w1.heap.size < W1.heap.size := by rw [hW1]; simp
    have al2 := (Below.refl W1.heap.size W1).alloc (Nat.le_refl _) (.cells #[.bool true, .int .i64 h.v, .int .i64 h.s, .int .i64 h.b, .int .i64 h.l, .slice none 0 0, .slice none 0 0, .int .i64 24, .bool false] 80)
    have sz : W1.heap.size = w1.heap.size + 1 := by rw [hW1]; simp
    have bn := Box.new W1 #[.bool true, .int .i64 h.v, .int .i64 h.s, .int .i64 h.b, .int .i64 h.l, .slice none 0 0, .slice none 0 0, .int .i64 24, .bool false] 80
    rw [sz] at bn
    have RG : Rig (w1.heap.size + 2) (W1.alloc (.cells #[.bool true, .int .i64 h.v, .int .i64 h.s, .int .i64 h.b, .int .i64 h.l, .slice none 0 0, .slice none 0 0, .int .i64 24, .bool false] 80)) w1.heap.size (w1.heap.size + 1) w.heap.size h (.slice none 0 0) (.slice none 0 0) [] 24 :=
      ⟨bg.below al2, bn, bo.below al2, World.ownsRow_nil _ _ _ _, World.ownsRow_nil _ _ _ _, by omega, by omega, by omega, by omega, by omega, by omega, by simp; omega⟩
    have B1 := Lib.hid (BB.trans (al2.mono BB.size))
    have q0 := bg.at 0 _ rfl
    have q1 := bg.at 1 _ rfl
    have q2 := bg.at 2 _ rfl
    have q3 := bg.at 3 _ rfl
    rw [hW1] at q0 q1 q2 q3
    clear al b1 bg bo BB al2 bx hb0 CH
    go_wp2
    rw [← hW1]
    clear hW1 q0 q1 q2 q3
    go_loopw [6, 7, 8, 9] (fun _ _ _ _ wr => ∃ (R O : Value) (xs : List (ByteArray × Nat)) (e : Nat), Hid (Rig (w1.heap.size + 2) wr w1.heap.size (w1.heap.size + 1) w.heap.size h R O xs e) ∧ Hid (Inv h b xs e) ∧ Hid (Below w.heap.size w wr)) (fun _ _ _ _ wr => b.size - (intOf ((wr.cell? ⟨w1.heap.size + 1, 7, none⟩).getD (.int .i64 0))).toNat)
    case atStart => exact ⟨_, _, [], 24, Lib.hid RG, HS, B1⟩
    case round =>
      obtain ⟨R, O, xs, e, RR, II, BW⟩ := hrel
      obtain ⟨aR, cR, rfl, _, _, _⟩ := own_form RR.out.rowR
      obtain ⟨aO, cO, rfl, _, _, _⟩ := own_form RR.out.rowO
      have hcount := II.out.count
      have hhi := II.out.hi
      have CM := Lib.hid (fun w => specMarkAt_any h.v (h.b + (xs.length : Int)) b (e : Int) w hm)
      have CR := Lib.hid (fun w => specReadF_any h.v (h.b + (xs.length : Int)) b (e : Int) w hm)
      have q0 := RR.out.hd.at 0 _ rfl

      have q1 := RR.out.hd.at 1 _ rfl

      have q2 := RR.out.hd.at 2 _ rfl

      have q3 := RR.out.hd.at 3 _ rfl

      have x0 := RR.out.box.at 0 _ rfl

      have x1 := RR.out.box.at 1 _ rfl

      have x2 := RR.out.box.at 2 _ rfl

      have x3 := RR.out.box.at 3 _ rfl

      have x4 := RR.out.box.at 4 _ rfl

      have x5 := RR.out.box.at 5 _ rfl

      have x6 := RR.out.box.at 6 _ rfl

      have x7 := RR.out.box.at 7 _ rfl

      have x8 := RR.out.box.at 8 _ rfl

      have KX := Lib.hid (RR.out.box.at 7 _ rfl)
      cases hmk : mkAt h.v (h.b + (xs.length : Int)) b (e : Int) with
      | true =>
        rw [hmk] at CM
        go_wp2_with fail
        refine (CM.out _).mono ?_
        rintro e' w2 ⟨rfl, b2⟩
        have R2 := Lib.hid (RR.out.below b2)
        have BW := Lib.hid (BW.out.trans (b2.mono BW.out.size))
        clear x0 x1 x2 x3 x4 x5 x6 x7 x8 q0 q1 q2 q3 RR b2 CM CR
        have x0 := R2.out.box.at 0 _ rfl
        have y0 := R2.out.box.2 0
        have x1 := R2.out.box.at 1 _ rfl
        have y1 := R2.out.box.2 1
        have x2 := R2.out.box.at 2 _ rfl
        have y2 := R2.out.box.2 2
        have x3 := R2.out.box.at 3 _ rfl
        have y3 := R2.out.box.2 3
        have x4 := R2.out.box.at 4 _ rfl
        have y4 := R2.out.box.2 4
        have x5 := R2.out.box.at 5 _ rfl
        have y5 := R2.out.box.2 5
        have x6 := R2.out.box.at 6 _ rfl
        have y6 := R2.out.box.2 6
        have x7 := R2.out.box.at 7 _ rfl
        have y7 := R2.out.box.2 7
        have x8 := R2.out.box.at 8 _ rfl
        have y8 := R2.out.box.2 8
        have HE := Lib.hid (fun c0 c1 c2 c3 c4 c5 c6 c7 c8 => rig_end_mark (B' := w.heap.size) (u := .bool true) R2.out HX.out II.out (step_mark hmk) hmk (by omega) c0 c1 c2 c3 c4 c5 c6 c7 c8)
        have BW := Lib.hid (BW.out.setCell (p := ⟨w1.heap.size + 1, 8, none⟩) (show w.heap.size ≤ w1.heap.size + 1 by omega) (.bool true))
        have r0 := R2.out.out.at 0 _ rfl
        have t0 := R2.out.out.2 0
        have r1 := R2.out.out.at 1 _ rfl
        have t1 := R2.out.out.2 1
        have r2 := R2.out.out.at 2 _ rfl
        have t2 := R2.out.out.2 2
        have r3 := R2.out.out.at 3 _ rfl
        have t3 := R2.out.out.2 3
        have r4 := R2.out.out.at 4 _ rfl
        have t4 := R2.out.out.2 4
        have r5 := R2.out.out.at 5 _ rfl
        have t5 := R2.out.out.2 5
        have r6 := R2.out.out.at 6 _ rfl
        have t6 := R2.out.out.2 6
        have r7 := R2.out.out.at 7 _ rfl
        have t7 := R2.out.out.2 7
        have r8 := R2.out.out.at 8 _ rfl
        have t8 := R2.out.out.2 8
        clear R2
        go_wp2
        refine bodyPost_ret (v := .agg #[.bool true, .int .i64 h.v, .int .i64 h.s, .int .i64 h.b, .int .i64 h.l, .slice aR xs.length cR, .slice aO xs.length cO, .int .i64 (e : Int), .bool true]) (by simp [results, Tryz.results66, go_sem, r0, r1, r2, r3, r4, r5, r6, r7, r8]) rfl ⟨⟨_, rfl, ?_⟩, below_nine _ _ _ _ _ _ _ _ _ BW.out (Nat.le_refl _)⟩
        exact HE.out _ _ _ _ _ _ _ _ _
      | false =>
        rw [hmk] at CM
        go_wp2_with fail
        refine (CM.out _).mono ?_
        rintro e' w2 ⟨rfl, b2⟩
        have R2 := Lib.hid (RR.out.below b2)
        have BW := Lib.hid (BW.out.trans (b2.mono BW.out.size))
        clear x0 x1 x2 x3 x4 x5 x6 x7 x8 q0 q1 q2 q3 RR b2 CM
        have q0 := R2.out.hd.at 0 _ rfl

        have q1 := R2.out.hd.at 1 _ rfl

        have q2 := R2.out.hd.at 2 _ rfl

        have q3 := R2.out.hd.at 3 _ rfl

        have x0 := R2.out.box.at 0 _ rfl

        have x1 := R2.out.box.at 1 _ rfl

        have x2 := R2.out.box.at 2 _ rfl

        have x3 := R2.out.box.at 3 _ rfl

        have x4 := R2.out.box.at 4 _ rfl

        have x5 := R2.out.box.at 5 _ rfl

        have x6 := R2.out.box.at 6 _ rfl

        have x7 := R2.out.box.at 7 _ rfl

        have x8 := R2.out.box.at 8 _ rfl

        cases hrd : rdF h.v (h.b + (xs.length : Int)) b (e : Int) with
        | none =>
          rw [hrd, show frR none = .tuple #[.string { data := #[] }, .int .i64 0, .bool false] from rfl] at CR
          have HE := Lib.hid (fun w3 b3 c0 c1 c2 c3 c4 c5 c6 c7 c8 => rig_end (B' := w.heap.size) (w := w3) (R2.out.below b3) HX.out II.out (by rw [step_read hmk]; exact hrd) hmk (by omega) c0 c1 c2 c3 c4 c5 c6 c7 c8)
          go_wp2_with fail
          refine (CR.out _).mono ?_
          rintro e' w3 ⟨rfl, b3⟩
          have R3 := Lib.hid (R2.out.below b3)
          have HE := Lib.hid (HE.out w3 b3)
          have BW := Lib.hid (BW.out.trans (b3.mono BW.out.size))
          clear x0 x1 x2 x3 x4 x5 x6 x7 x8 q0 q1 q2 q3 R2 b3 CR
          have x0 := R3.out.box.at 0 _ rfl

          have x1 := R3.out.box.at 1 _ rfl

          have x2 := R3.out.box.at 2 _ rfl

          have x3 := R3.out.box.at 3 _ rfl

          have x4 := R3.out.box.at 4 _ rfl

          have x5 := R3.out.box.at 5 _ rfl

          have x6 := R3.out.box.at 6 _ rfl

          have x7 := R3.out.box.at 7 _ rfl

          have x8 := R3.out.box.at 8 _ rfl

          have r0 := R3.out.out.at 0 _ rfl
          have t0 := R3.out.out.2 0
          have r1 := R3.out.out.at 1 _ rfl
          have t1 := R3.out.out.2 1
          have r2 := R3.out.out.at 2 _ rfl
          have t2 := R3.out.out.2 2
          have r3 := R3.out.out.at 3 _ rfl
          have t3 := R3.out.out.2 3
          have r4 := R3.out.out.at 4 _ rfl
          have t4 := R3.out.out.2 4
          have r5 := R3.out.out.at 5 _ rfl
          have t5 := R3.out.out.2 5
          have r6 := R3.out.out.at 6 _ rfl
          have t6 := R3.out.out.2 6
          have r7 := R3.out.out.at 7 _ rfl
          have t7 := R3.out.out.2 7
          have r8 := R3.out.out.at 8 _ rfl
          have t8 := R3.out.out.2 8
          clear R3
          go_wp2
          refine bodyPost_ret (v := .agg #[.bool true, .int .i64 h.v, .int .i64 h.s, .int .i64 h.b, .int .i64 h.l, .slice aR xs.length cR, .slice aO xs.length cO, .int .i64 (e : Int), .bool false]) (by simp [results, Tryz.results66, go_sem, r0, r1, r2, r3, r4, r5, r6, r7, r8]) rfl ⟨⟨_, rfl, ?_⟩, below_nine _ _ _ _ _ _ _ _ _ BW.out (Nat.le_refl _)⟩
          exact HE.out _ _ _ _ _ _ _ _ _
        | some y =>
          obtain ⟨s, q⟩ := y
          have hst : step h b xs.length e = some (s, q) := by rw [step_read hmk]; exact hrd
          have hqf := step_facts hst
          have IN := Lib.hid (II.out.next hst)
          have hq5 : e + 5 ≤ q := hqf.2.2.1
          have hqb : q ≤ b.size := hqf.2.2.2.1
          clear hqf hst
          rw [hrd, show frR (some (s, q)) = .tuple #[.string s, .int .i64 (q : Int), .bool true] from rfl] at CR
          clear hrd hmk
          go_wp2_with fail
          refine (CR.out _).mono ?_
          rintro e' w3 ⟨rfl, b3⟩
          have R3 := Lib.hid (R2.out.below b3)
          have BW := Lib.hid (BW.out.trans (b3.mono BW.out.size))
          clear x0 x1 x2 x3 x4 x5 x6 x7 x8 q0 q1 q2 q3 R2 b3 CR
          have x0 := R3.out.box.at 0 _ rfl

          have x1 := R3.out.box.at 1 _ rfl

          have x2 := R3.out.box.at 2 _ rfl

          have x3 := R3.out.box.at 3 _ rfl

          have x4 := R3.out.box.at 4 _ rfl

          have x5 := R3.out.box.at 5 _ rfl

          have x6 := R3.out.box.at 6 _ rfl

          have x7 := R3.out.box.at 7 _ rfl

          have x8 := R3.out.box.at 8 _ rfl

          go_wp2_with (first | (at_builtin; refine list_app3 (by rfl) (.tmp 50) (.tmp 52) 26 (by rfl) (w1.heap.size + 2) w3 9 i0 (.string { data := #[] }) 16 Tryz.underlying26 hi hz0 hz1 hz2 (by rfl) _ xs.length _ R3.out.rowR R3.out.size [.string s] 1 ?_ ?_ ?_ ?_ (by rfl) (by rfl) ?_ ?_; rfl; simp [Value.oneCell']; unfold maxLen; omega; omega; rfl; intro v4 w4 o4 g4; obtain ⟨a4, c4, rfl, _, _, _⟩ := own_form o4; have X4 := R3.out.box.grown g4 (own_not R3.out.rowR R3.out.hx); have O4 := Lib.hid (own_setOther (own_grown R3.out.rowO g4 (off_type R3.out.rowO R3.out.rowR (by decide))) (w1.heap.size + 1) 5 (.slice a4 (xs.length + 1) c4) (own_not R3.out.rowO R3.out.hx)); have Z4 := Lib.hid (show w1.heap.size + 2 ≤ (w4.setCell ⟨w1.heap.size + 1, 5, none⟩ (.slice a4 (xs.length + 1) c4)).heap.size by have h1 := g4.size; have h2 := R3.out.size; simp; omega); have X5 := Lib.hid (X4.set 5 (.slice a4 (xs.length + 1) c4) (by simp)); have z5 := X4.at 5 _ rfl; have z6 := X4.at 6 _ rfl; have z7 := X4.at 7 _ rfl; have u5 := X4.2 5; clear X4) | (at_builtin; refine list_app4 (by rfl) (.tmp 56) (.tmp 59) 31 (by rfl) (w1.heap.size + 2) (w4.setCell ⟨w1.heap.size + 1, 5, none⟩ (.slice a4 (xs.length + 1) c4)) 3 i1 (.int .i64 0) 8 Tryz.underlying31 gi gz0 gz1 gz2 (by rfl) _ xs.length _ O4.out Z4.out w4.heap.size (by simp) [.int .i64 (e : Int)] 1 ?_ ?_ ?_ ?_ (by rfl) (by rfl) ?_ ?_; rfl; simp [Value.oneCell']; unfold maxLen; omega; omega; rfl; intro v5 w5 o5 g5; obtain ⟨a5, c5, rfl, _, _, _⟩ := own_form o5; have X6 := X5.out.grown g5 (own_not O4.out R3.out.hx); have z8 := X6.at 6 _ rfl; have z9 := X6.at 7 _ rfl; have u6 := X6.2 6; have u7 := X6.2 7; clear X6) | fail)
          have RN := Lib.hid (R3.out.more (q := q) g4 o4 g5 o5)
          have zz := RN.out.box.at 7 _ rfl
          have h77 : intOf (((wr.cell? ⟨w1.heap.size + 1, 7, none⟩).getD (.int .i64 0))) = (e : Int) := by rw [KX.out]; rfl
          go_roundw
          case rel => exact ⟨_, _, _, q, RN, IN, Lib.hid (((BW.out.grown g4 (Nat.le_trans BW.out.size (Nat.le_refl _)) (fun k hk => by have := (own_block_ge R3.out.rowR k hk).1; omega)).setCell (p := ⟨w1.heap.size + 1, 5, none⟩) (show w.heap.size ≤ w1.heap.size + 1 by omega) _ |>.grown g5 (by have := Z4.out; omega) (fun k hk => by have := (own_block_ge O4.out k hk).1; omega)).setCell (p := ⟨w1.heap.size + 1, 6, none⟩) (show w.heap.size ≤ w1.heap.size + 1 by omega) _ |>.setCell (p := ⟨w1.heap.size + 1, 7, none⟩) (show w.heap.size ≤ w1.heap.size + 1 by omega) _)⟩
          case measure =>
            rw [zz, h77]
            show b.size - (intOf (.int .i64 (q : Int))).toNat < _
            simp [intOf]
            omega

end Go.Proofs.YtiehfobcbhgfkaaGreatDoor.sc
