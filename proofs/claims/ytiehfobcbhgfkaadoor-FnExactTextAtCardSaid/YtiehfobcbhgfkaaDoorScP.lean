/-
  What scanning leaves in memory: the box of what is told, with its two rows; an append of a fresh row that leaves all other blocks as they were.
-/
import Derived.Test.YtiehfobcbhgfkaaDoorMathX
import Derived.Test.YtiehfobcbhgfkaaDoorHdQ
import Derived.Test.YtiehfobcbhgfkaaDoorFrP
import Derived.Test.YtiehfobcbhgfkaaDoorStrQ
import Derived.Test.YtiehfobcbhgfkaaDoorIntX
namespace Go.Proofs.YtiehfobcbhgfkaaDoor.sc
set_option maxRecDepth 20000
open Go.RowKit
open kit sum num burst hd fr

/-- what is told of a text, in memory of its own from block B on -/
def OwnScan (B : Nat) (w : World) (v : Value) (b : ByteArray) : Prop :=
  ∃ (R O : Value), v = .agg #[.bool (rdH b).isSome, .int .i64 (hdOf b).v, .int .i64 (hdOf b).s, .int .i64 (hdOf b).b, .int .i64 (hdOf b).l, R, O, .int .i64 (endN b : Int), .bool (marked b)] ∧
    w.ownsRow B 9 1 R (recs b).length ((recs b).map Value.string) ∧ w.ownsRow B 3 1 O (recs b).length ((offs b).map fun (o : Nat) => Value.int .i64 (o : Int))
theorem OwnScan.below {B : Nat} {w w' : World} {v : Value} {b : ByteArray} (h : OwnScan B w v b) (hb : Below w.heap.size w w') : OwnScan B w' v b := by
  obtain ⟨R, O, hv, h1, h2⟩ := h
  exact ⟨R, O, hv, own_below h1 hb, own_below h2 hb⟩
theorem OwnScan.base {B B' : Nat} {w : World} {v : Value} {b : ByteArray} (h : OwnScan B w v b) (hB : B' ≤ B) : OwnScan B' w v b := by
  obtain ⟨R, O, hv, h1, h2⟩ := h
  exact ⟨R, O, hv, own_base h1 hB, own_base h2 hB⟩

/-- while it is scanned: the head's block, the box of what is told, and the result's -/
structure Rig (B : Nat) (w : World) (g x r : Nat) (h : Hd) (R O : Value) (xs : List (ByteArray × Nat)) (e : Nat) : Prop where
  hd : Box w g [.int .i64 h.v, .int .i64 h.s, .int .i64 h.b, .int .i64 h.l]
  box : Box w x [.bool true, .int .i64 h.v, .int .i64 h.s, .int .i64 h.b, .int .i64 h.l, R, O, .int .i64 (e : Int), .bool false]
  out : Box w r [.bool false, .int .i64 0, .int .i64 0, .int .i64 0, .int .i64 0, .slice none 0 0, .slice none 0 0, .int .i64 0, .bool false]
  rowR : w.ownsRow B 9 1 R xs.length (xs.map fun x => Value.string x.1)
  rowO : w.ownsRow B 3 1 O xs.length (xs.map fun x => Value.int .i64 (x.2 : Int))
  hg : g < B
  hx : x < B
  hr : r < B
  gx : g ≠ x
  gr : g ≠ r
  xr : x ≠ r
  size : B ≤ w.heap.size
theorem Rig.below {B : Nat} {w w' : World} {g x r e : Nat} {h : Hd} {R O : Value} {xs : List (ByteArray × Nat)} (c : Rig B w g x r h R O xs e) (hb : Below w.heap.size w w') : Rig B w' g x r h R O xs e :=
  ⟨c.hd.below hb, c.box.below hb, c.out.below hb, own_below c.rowR hb, own_below c.rowO hb, c.hg, c.hx, c.hr, c.gx, c.gr, c.xr, Nat.le_trans c.size hb.size⟩
/-- a record more -/
theorem Rig.more {B : Nat} {w w1 w2 : World} {g x r e : Nat} {h : Hd} {R O R' O' : Value} {xs : List (ByteArray × Nat)} {q : Nat} {s : ByteArray} (c : Rig B w g x r h R O xs e)
    (g1 : w.grownBy w1 R.ownBlock) (o1 : w1.ownsRow B 9 1 R' (xs.length + 1) ((xs.map fun x => Value.string x.1) ++ [.string s]))
    (g2 : (w1.setCell ⟨x, 5, none⟩ R').grownBy w2 O.ownBlock) (o2 : w2.ownsRow B 3 1 O' (xs.length + 1) ((xs.map fun x => Value.int .i64 (x.2 : Int)) ++ [.int .i64 (e : Int)])) :
    Rig B ((w2.setCell ⟨x, 6, none⟩ O').setCell ⟨x, 7, none⟩ (.int .i64 (q : Int))) g x r h R' O' (xs ++ [(s, e)]) q := by
  have fR : ∀ k, k < B → R.ownBlock ≠ some k := fun k hk => own_not c.rowR hk
  have fO : ∀ k, k < B → O.ownBlock ≠ some k := fun k hk => own_not c.rowO hk
  have oO1 : (w1.setCell ⟨x, 5, none⟩ R').ownsRow B 3 1 O xs.length (xs.map fun x => Value.int .i64 (x.2 : Int)) :=
    own_setOther (own_grown c.rowO g1 (off_type c.rowO c.rowR (by decide))) x 5 R' (fO x c.hx)
  have oR1 : (w1.setCell ⟨x, 5, none⟩ R').ownsRow B 9 1 R' (xs.length + 1) ((xs.map fun x => Value.string x.1) ++ [.string s]) := own_setOther o1 x 5 R' (own_not o1 c.hx)
  have oR2 : w2.ownsRow B 9 1 R' (xs.length + 1) ((xs.map fun x => Value.string x.1) ++ [.string s]) := own_grown oR1 g2 (off_type oR1 oO1 (by decide))
  have hl : (xs ++ [(s, e)]).length = xs.length + 1 := by simp
  refine ⟨?_, ?_, ?_, ?_, ?_, c.hg, c.hx, c.hr, c.gx, c.gr, c.xr, ?_⟩
  · exact ((((c.hd.grown g1 (fR g c.hg)).far 5 R' (Ne.symm c.gx)).grown g2 (fO g c.hg)).far 6 O' (Ne.symm c.gx)).far 7 _ (Ne.symm c.gx)
  · exact ((((c.box.grown g1 (fR x c.hx)).set 5 R' (by simp)).grown g2 (fO x c.hx)).set 6 O' (by simp)).set 7 _ (by simp)
  · exact ((((c.out.grown g1 (fR r c.hr)).far 5 R' c.xr).grown g2 (fO r c.hr)).far 6 O' c.xr).far 7 _ c.xr
  · rw [hl, List.map_append]
    exact own_setOther (own_setOther oR2 x 6 O' (own_not oR2 c.hx)) x 7 _ (own_not oR2 c.hx)
  · rw [hl, List.map_append]
    exact own_setOther (own_setOther o2 x 6 O' (own_not o2 c.hx)) x 7 _ (own_not o2 c.hx)
  · have h1 := g1.size
    have h2 : w1.heap.size ≤ w2.heap.size := by simpa using g2.size
    have h3 := c.size
    have h4 : ((w2.setCell ⟨x, 6, none⟩ O').setCell ⟨x, 7, none⟩ (.int .i64 (q : Int))).heap.size = w2.heap.size := by simp
    omega

end Go.Proofs.YtiehfobcbhgfkaaDoor.sc

namespace Go.Proofs.YtiehfobcbhgfkaaDoor.sc
set_option maxRecDepth 20000
open Go.RowKit
open kit sum num burst hd fr

theorem hdR_none : hdR none = .tuple #[.agg #[.int .i64 0, .int .i64 0, .int .i64 0, .int .i64 0], .bool false] := rfl
theorem hdR_some (h : Hd) : hdR (some h) = .tuple #[.agg #[.int .i64 h.v, .int .i64 h.s, .int .i64 h.b, .int .i64 h.l], .bool true] := rfl
def nine (w : World) (r : Nat) (c0 c1 c2 c3 c4 c5 c6 c7 c8 : Value) : World := ((((((((w.setCell ⟨r, 0, none⟩ c0).setCell ⟨r, 1, none⟩ c1).setCell ⟨r, 2, none⟩ c2).setCell ⟨r, 3, none⟩ c3).setCell ⟨r, 4, none⟩ c4).setCell ⟨r, 5, none⟩ c5).setCell ⟨r, 6, none⟩ c6).setCell ⟨r, 7, none⟩ c7).setCell ⟨r, 8, none⟩ c8
theorem below_nine {B r : Nat} {w0 w : World} (c0 c1 c2 c3 c4 c5 c6 c7 c8 : Value) (h : Below B w0 w) (hr : B ≤ r) : Below B w0 (nine w r c0 c1 c2 c3 c4 c5 c6 c7 c8) := by
  unfold nine
  iterate 9 refine Below.setCell ?_ hr _
  exact h
theorem own_nine {B B' r n : Nat} {w : World} {E : TypeId} {v : Value} {xs : List Value} (c0 c1 c2 c3 c4 c5 c6 c7 c8 : Value) (h : w.ownsRow B E 1 v n xs) (hr : r < B) (hB : B' ≤ B) : (nine w r c0 c1 c2 c3 c4 c5 c6 c7 c8).ownsRow B' E 1 v n xs := by
  refine own_base ?_ hB
  unfold nine
  iterate 9 refine own_setOther ?_ _ _ _ (own_not h hr)
  exact h
/-- what is told at the end -/
theorem rig_end {B B' : Nat} {w : World} {g x r e : Nat} {h : Hd} {R O : Value} {xs : List (ByteArray × Nat)} {b : ByteArray} {m : Bool} (c : Rig B w g x r h R O xs e) (hx : rdH b = some h) (hI : Inv h b xs e) (hs : step h b xs.length e = none) (hm : mkAt h.v (h.b + (xs.length : Int)) b (e : Int) = m) (hB : B' ≤ B) (c0 c1 c2 c3 c4 c5 c6 c7 c8 : Value) :
    OwnScan B' (nine w r c0 c1 c2 c3 c4 c5 c6 c7 c8) (.agg #[.bool true, .int .i64 h.v, .int .i64 h.s, .int .i64 h.b, .int .i64 h.l, R, O, .int .i64 (e : Int), .bool m]) b := by
  have hd := hI.done hs
  have e1 : recs b = xs.map Prod.fst := by rw [recs_some hx, hd]
  have e2 : offs b = xs.map Prod.snd := by rw [offs_some hx, hd]
  refine ⟨R, O, by rw [hx, hdOf_some hx, endN_some hx, marked_some hx, hd, hm]; rfl, ?_, ?_⟩
  · rw [e1, List.length_map, List.map_map]
    exact own_nine _ _ _ _ _ _ _ _ _ c.rowR c.hr hB
  · rw [e1, e2, List.length_map, List.map_map]
    exact own_nine _ _ _ _ _ _ _ _ _ c.rowO c.hr hB
theorem Rig.mark {B : Nat} {w : World} {g x r e : Nat} {h : Hd} {R O : Value} {xs : List (ByteArray × Nat)} (c : Rig B w g x r h R O xs e) (u : Value) :
    Box (w.setCell ⟨x, 8, none⟩ u) x [.bool true, .int .i64 h.v, .int .i64 h.s, .int .i64 h.b, .int .i64 h.l, R, O, .int .i64 (e : Int), u] ∧ Box (w.setCell ⟨x, 8, none⟩ u) r [.bool false, .int .i64 0, .int .i64 0, .int .i64 0, .int .i64 0, .slice none 0 0, .slice none 0 0, .int .i64 0, .bool false] ∧ (w.setCell ⟨x, 8, none⟩ u).ownsRow B 9 1 R xs.length (xs.map fun x => Value.string x.1) ∧ (w.setCell ⟨x, 8, none⟩ u).ownsRow B 3 1 O xs.length (xs.map fun x => Value.int .i64 (x.2 : Int)) :=
  ⟨c.box.set 8 u (by simp), c.out.far 8 u c.xr, own_setOther c.rowR x 8 u (own_not c.rowR c.hx), own_setOther c.rowO x 8 u (own_not c.rowO c.hx)⟩
/-- the same behind the mark's own store -/
theorem rig_end_mark {B B' : Nat} {w : World} {g x r e : Nat} {h : Hd} {R O u : Value} {xs : List (ByteArray × Nat)} {b : ByteArray} {m : Bool} (c : Rig B w g x r h R O xs e) (hx : rdH b = some h) (hI : Inv h b xs e) (hs : step h b xs.length e = none) (hm : mkAt h.v (h.b + (xs.length : Int)) b (e : Int) = m) (hB : B' ≤ B) (c0 c1 c2 c3 c4 c5 c6 c7 c8 : Value) :
    OwnScan B' (nine (w.setCell ⟨x, 8, none⟩ u) r c0 c1 c2 c3 c4 c5 c6 c7 c8) (.agg #[.bool true, .int .i64 h.v, .int .i64 h.s, .int .i64 h.b, .int .i64 h.l, R, O, .int .i64 (e : Int), .bool m]) b := by
  have hd := hI.done hs
  have e1 : recs b = xs.map Prod.fst := by rw [recs_some hx, hd]
  have e2 : offs b = xs.map Prod.snd := by rw [offs_some hx, hd]
  obtain ⟨_, _, k1, k2⟩ := c.mark u
  refine ⟨R, O, by rw [hx, hdOf_some hx, endN_some hx, marked_some hx, hd, hm]; rfl, ?_, ?_⟩
  · rw [e1, List.length_map, List.map_map]
    exact own_nine _ _ _ _ _ _ _ _ _ k1 c.hr hB
  · rw [e1, e2, List.length_map, List.map_map]
    exact own_nine _ _ _ _ _ _ _ _ _ k2 c.hr hB

end Go.Proofs.YtiehfobcbhgfkaaDoor.sc
