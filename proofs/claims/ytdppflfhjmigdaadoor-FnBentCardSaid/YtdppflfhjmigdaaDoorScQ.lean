/-
  The walks of the exact laws of what is scanned, but of ScanText's own. impl's contracts come from ScI: implRecords, implSize, implTail, implOpen, implGoes, implLinkAfter.
-/
import Derived.Test.YtdppflfhjmigdaaDoorScC
import Derived.Test.YtdppflfhjmigdaaDoorScR
import Derived.Test.YtdppflfhjmigdaaDoorBig
import Derived.Test.YtdppflfhjmigdaaDoorLater
import Derived.BigQuiet
namespace Go.Proofs.YtdppflfhjmigdaaDoor.sc
set_option maxRecDepth 20000
open Go.RowKit
open kit sum num burst hd fr

theorem apart {w w' : World} {B B' s s' n n' : Nat} {e e' : TypeId} {u v : Value} {xs ys : List Value} (hu : w.ownsRow B e s u n xs) (hv : w'.ownsRow B' e' s' v n' ys) (h : w.heap.size ≤ B') : u.ownBlock = none ∨ u.ownBlock ≠ v.ownBlock := by
  cases h1 : u.ownBlock with
  | none => exact .inl rfl
  | some g =>
    refine .inr fun h2 => ?_
    have a := (own_block_ge hu g h1).2
    have b := (own_block_ge hv g h2.symm).1
    omega

end Go.Proofs.YtdppflfhjmigdaaDoor.sc

namespace Go.Proofs.YtdppflfhjmigdaaDoor.sc
set_option maxRecDepth 20000
open Go.RowKit
open kit sum num burst hd fr

theorem own_ints {w : World} {B n : Nat} {v : Value} {os : List Nat} (h : w.ownsRow B 3 1 v n (os.map fun (o : Nat) => Value.int .i64 (o : Int))) : w.ownsRow B 3 1 v n ((os.map fun (o : Nat) => (o : Int)).map (Value.int .i64)) := by
  rw [List.map_map]
  exact h
set_option maxHeartbeats 1000000 in
theorem eqHead_any (v s b l : Int) (w : World) :
    Calls Tryd.prog 23 #[.agg #[.int .i64 v, .int .i64 s, .int .i64 b, .int .i64 l], .agg #[.int .i64 v, .int .i64 s, .int .i64 b, .int .i64 l]] w fun e w' => e = .returned (.bool true) ∧ Below w.heap.size w w' := by
  have hb : Below w.heap.size w ((w.alloc (.cells #[.int .i64 v, .int .i64 s, .int .i64 b, .int .i64 l] 26)).alloc (.cells #[.int .i64 v, .int .i64 s, .int .i64 b, .int .i64 l] 26)) := ((Below.refl _ _).alloc (Nat.le_refl _) _).alloc (by simp) _
  go_enter Tryd.func23, Tryd.ntmps23
  go_wp2
  go_ret
  exact ⟨rfl, hb⟩

/-- a scan whose rows are marked -/
def MarkScan (B : Nat) (w : World) (v : Value) (b : ByteArray) : Prop :=
  ∃ (R O : Value), v = .agg #[.bool (rdH b).isSome, .int .i64 (hdOf b).v, .int .i64 (hdOf b).s, .int .i64 (hdOf b).b, .int .i64 (hdOf b).l, R, O, .int .i64 (endN b : Int), .bool (marked b)] ∧
    w.ownsRow B 9 1 R (recs b).length ((strs.marks 1 (recs b).length).map Value.string) ∧ w.ownsRow B 3 1 O (recs b).length ((ints.marks (1 + (recs b).length) (recs b).length).map (Value.int .i64))
theorem MarkScan.below {B : Nat} {w w' : World} {v : Value} {b : ByteArray} (h : MarkScan B w v b) (hb : Below w.heap.size w w') : MarkScan B w' v b := by
  obtain ⟨R, O, hv, h1, h2⟩ := h
  exact ⟨R, O, hv, own_below h1 hb, own_below h2 hb⟩
def rowsOf : Value → List Value
  | .agg a => [a.getD 5 undef, a.getD 6 undef]
  | _ => []
/-- all but a scan's own rows is as it was -/
def Kept (w w' : World) (v : Value) : Prop := w.heap.size ≤ w'.heap.size ∧ ∀ g, g < w.heap.size → (∀ u ∈ rowsOf v, u.ownBlock ≠ some g) → w'.heap[g]? = w.heap[g]?
theorem Kept.box {w w' : World} {v : Value} {g : Nat} {cs : List Value} (h : Kept w w' v) (hb : Box w g cs) (hg : ∀ u ∈ rowsOf v, u.ownBlock ≠ some g) : Box w' g cs := by
  have hh := h.2 g hb.lt hg
  refine ⟨⟨Nat.lt_of_lt_of_le hb.lt h.1, fun j x hj => ?_⟩, fun j => (World.frozen?_of_block (a := ⟨g, j, none⟩) hh).trans (hb.2 j)⟩
  rw [← hb.1.2 j x hj]
  unfold World.cell?
  rw [hh]
theorem own_new {w : World} {B s n : Nat} {e : TypeId} {v : Value} {xs : List Value} (h : w.ownsRow B e s v n xs) (g : Nat) (hg : w.heap.size ≤ g) : v.ownBlock ≠ some g := fun e1 => by
  have := (own_block_ge h g e1).2
  omega
theorem OwnScan.off {B : Nat} {w : World} {v : Value} {b : ByteArray} (h : OwnScan B w v b) (g : Nat) (hg : w.heap.size ≤ g) : ∀ u ∈ rowsOf v, u.ownBlock ≠ some g := by
  obtain ⟨R, O, rfl, h1, h2⟩ := h
  intro u hu
  rcases List.mem_cons.1 hu with rfl | hu
  · exact own_new h1 g hg
  · obtain rfl := List.mem_singleton.1 hu
    exact own_new h2 g hg
theorem OwnScan.form {B : Nat} {w : World} {v : Value} {b : ByteArray} (h : OwnScan B w v b) : ∃ a1 c1 a2 c2, v = .agg #[.bool (rdH b).isSome, .int .i64 (hdOf b).v, .int .i64 (hdOf b).s, .int .i64 (hdOf b).b, .int .i64 (hdOf b).l, .slice a1 (recs b).length c1, .slice a2 (recs b).length c2, .int .i64 (endN b : Int), .bool (marked b)] := by
  obtain ⟨R, O, rfl, h1, h2⟩ := h
  obtain ⟨a1, c1, rfl, _, _, _⟩ := own_form h1
  obtain ⟨a2, c2, rfl, _, _, _⟩ := own_form (own_ints h2)
  exact ⟨a1, c1, a2, c2, rfl⟩

theorem own_low {w w' : World} {B s n k : Nat} {e : TypeId} {v : Value} {xs : List Value} (h : w.ownsRow B e s v n xs) (hk : ∀ g, v.ownBlock = some g → g < k) (hb : Below k w w') : w'.ownsRow B e s v n xs := by
  refine ⟨h.1, ?_⟩
  rcases h.2 with hn | ⟨g, cap, cur, rfl, hB, hh, rest⟩
  · exact .inl hn
  · exact .inr ⟨g, cap, cur, rfl, hB, (hb.block g (hk g rfl)).trans hh, rest⟩
theorem OwnScan.lows {B : Nat} {w : World} {v : Value} {b : ByteArray} (h : OwnScan B w v b) : ∀ u ∈ rowsOf v, ∀ g, u.ownBlock = some g → g < w.heap.size := by
  obtain ⟨R, O, rfl, h1, h2⟩ := h
  intro u hu g hg
  rcases List.mem_cons.1 hu with rfl | hu
  · exact (own_block_ge h1 g hg).2
  · obtain rfl := List.mem_singleton.1 hu
    exact (own_block_ge h2 g hg).2
theorem OwnScan.low {B k : Nat} {w w' : World} {v : Value} {b : ByteArray} (h : OwnScan B w v b) (hk : ∀ u ∈ rowsOf v, ∀ g, u.ownBlock = some g → g < k) (hb : Below k w w') : OwnScan B w' v b := by
  obtain ⟨R, O, rfl, h1, h2⟩ := h
  exact ⟨R, O, rfl, own_low h1 (hk R (List.mem_cons_self ..)) hb, own_low h2 (hk O (List.mem_cons_of_mem _ (List.mem_cons_self ..))) hb⟩
theorem Box.low {w w' : World} {g k : Nat} {cs : List Value} (h : Box w g cs) (hb : Below k w w') (hg : g < k) : Box w' g cs :=
  ⟨⟨Nat.lt_of_lt_of_le h.lt hb.size, fun i v hi => (hb.cell (p := ⟨g, i, none⟩) hg).trans (h.1.2 i v hi)⟩, fun j => (hb.frozen (p := ⟨g, j, none⟩) hg).trans (h.2 j)⟩

end Go.Proofs.YtdppflfhjmigdaaDoor.sc

namespace Go.Proofs.YtdppflfhjmigdaaDoor.sc
set_option maxRecDepth 20000
open Go.RowKit
open kit sum num burst hd fr

set_option maxHeartbeats 400000 in
theorem same_any (a b : Option Addr) (c d n : Nat) (xs : List ByteArray) (w : World) (hm : n ≤ 1048576) (ha : strs.At w a n xs) (hb : strs.At w b n xs) :
    Calls Tryd.prog 14 #[.slice a n c, .slice b n d] w fun e w' => e = .returned (.bool true) ∧ Below w.heap.size w w' := by
  have HL := Lib.hid ha.1
  have HA := Lib.hid ha
  have HB := Lib.hid hb
  clear ha hb
  go_enter Tryd.func14, Tryd.ntmps14
  go_wp2
  go_loopw [5] (fun i wr => ∃ k : Nat, k ≤ n ∧ i = .int .i64 k ∧ Below w.heap.size w wr) (fun i _ => n - (intOf i).toNat)
  case atStart => exact ⟨0, Nat.zero_le _, rfl, Below.refl _ _⟩
  case round =>
    obtain ⟨k, hk, rfl, hb⟩ := hrel
    by_cases hlt : k < n
    · obtain ⟨x, hxk⟩ : ∃ x, xs[k]? = some x := ⟨_, List.getElem?_eq_getElem (by rw [HL.out]; exact hlt)⟩
      obtain ⟨g, o, rfl, hg, hx⟩ := HA.out.2.resolve_left (by omega)
      obtain ⟨h, p, rfl, hh, hy⟩ := HB.out.2.resolve_left (by omega)
      have c1 : wr.cell? ⟨g, o + k, none⟩ = some (.string x) := (hb.cell (p := ⟨g, o + k, none⟩) hg).trans (hx k x hxk)
      have c2 : wr.cell? ⟨h, p + k, none⟩ = some (.string x) := (hb.cell (p := ⟨h, p + k, none⟩) hh).trans (hy k x hxk)
      have hne := num.str_yes (rfl : x = x)
      clear hxk hx hy HA HB
      have i0 : (0 : Int) ≤ (k : Int) := by omega
      have i1 : (k : Int) < (n : Int) := by omega
      go_wp2
      go_quiet (fail)
      go_wp2
      go_roundw
      case rel => exact ⟨k + 1, by omega, by go_num, below_drewN hb _⟩
      case measure => simp [intOf]; omega
    · go_wp2
      go_ret
      exact ⟨rfl, hb⟩

end Go.Proofs.YtdppflfhjmigdaaDoor.sc
