/-
  The walks of the exact laws of what is scanned, but of ScanText's own. impl's contracts come from ScI: implRecords, implSize, implTail, implOpen, implGoes, implLinkAfter.
-/
import Derived.Test.YtiehfobcbhgfkaaGreatDoorScC
import Derived.Test.YtiehfobcbhgfkaaGreatDoorScR
import Derived.Test.YtiehfobcbhgfkaaGreatDoorBig
import Derived.Test.YtiehfobcbhgfkaaGreatDoorLater
import Derived.BigQuiet
namespace Go.Proofs.YtiehfobcbhgfkaaGreatDoor.sc
set_option maxRecDepth 20000
open Go.RowKit
open kit sum num burst hd fr

end Go.Proofs.YtiehfobcbhgfkaaGreatDoor.sc

namespace Go.Proofs.YtiehfobcbhgfkaaGreatDoor.sc
set_option maxRecDepth 20000
open Go.RowKit
open kit sum num burst hd fr

theorem own_ints {w : World} {B n : Nat} {v : Value} {os : List Nat} (h : w.ownsRow B 3 1 v n (os.map fun (o : Nat) => Value.int .i64 (o : Int))) : w.ownsRow B 3 1 v n ((os.map fun (o : Nat) => (o : Int)).map (Value.int .i64)) := by
  rw [List.map_map]
  exact h
/-- a scan whose rows are marked -/
def MarkScan (B : Nat) (w : World) (v : Value) (b : ByteArray) : Prop :=
  ∃ (R O : Value), v = .agg #[.bool (rdH b).isSome, .int .i64 (hdOf b).v, .int .i64 (hdOf b).s, .int .i64 (hdOf b).b, .int .i64 (hdOf b).l, R, O, .int .i64 (endN b : Int), .bool (marked b)] ∧
    w.ownsRow B 9 1 R (recs b).length ((strs.marks 1 (recs b).length).map Value.string) ∧ w.ownsRow B 3 1 O (recs b).length ((ints.marks (1 + (recs b).length) (recs b).length).map (Value.int .i64))
theorem MarkScan.below {B : Nat} {w w' : World} {v : Value} {b : ByteArray} (h : MarkScan B w v b) (hb : Below w.heap.size w w') : MarkScan B w' v b := by
  obtain ⟨R, O, hv, h1, h2⟩ := h
  exact ⟨R, O, hv, own_below h1 hb, own_below h2 hb⟩
def rowsOf : Value → List Value
  | .agg a => [a.getD 5 undef, a.getD 6 undef]
  | _ => []
/-- all but a scan's own rows is as it was -/
def Kept (w w' : World) (v : Value) : Prop := w.heap.size ≤ w'.heap.size ∧ ∀ g, g < w.heap.size → (∀ u ∈ rowsOf v, u.ownBlock ≠ some g) → w'.heap[g]? = w.heap[g]?
theorem Kept.box {w w' : World} {v : Value} {g : Nat} {cs : List Value} (h : Kept w w' v) (hb : Box w g cs) (hg : ∀ u ∈ rowsOf v, u.ownBlock ≠ some g) : Box w' g cs := by
  have hh := h.2 g hb.lt hg
  refine ⟨⟨Nat.lt_of_lt_of_le hb.lt h.1, fun j x hj => ?_⟩, fun j => (World.frozen?_of_block (a := ⟨g, j, none⟩) hh).trans (hb.2 j)⟩
  rw [← hb.1.2 j x hj]
  unfold World.cell?
  rw [hh]
theorem own_new {w : World} {B s n : Nat} {e : TypeId} {v : Value} {xs : List Value} (h : w.ownsRow B e s v n xs) (g : Nat) (hg : w.heap.size ≤ g) : v.ownBlock ≠ some g := fun e1 => by
  have := (own_block_ge h g e1).2
  omega
theorem OwnScan.off {B : Nat} {w : World} {v : Value} {b : ByteArray} (h : OwnScan B w v b) (g : Nat) (hg : w.heap.size ≤ g) : ∀ u ∈ rowsOf v, u.ownBlock ≠ some g := by
  obtain ⟨R, O, rfl, h1, h2⟩ := h
  intro u hu
  rcases List.mem_cons.1 hu with rfl | hu
  · exact own_new h1 g hg
  · obtain rfl := List.mem_singleton.1 hu
    exact own_new h2 g hg
theorem OwnScan.form {B : Nat} {w : World} {v : Value} {b : ByteArray} (h : OwnScan B w v b) : ∃ a1 c1 a2 c2, v = .agg #[.bool (rdH b).isSome, .int .i64 (hdOf b).v, .int .i64 (hdOf b).s, .int .i64 (hdOf b).b, .int .i64 (hdOf b).l, .slice a1 (recs b).length c1, .slice a2 (recs b).length c2, .int .i64 (endN b : Int), .bool (marked b)] := by
  obtain ⟨R, O, rfl, h1, h2⟩ := h
  obtain ⟨a1, c1, rfl, _, _, _⟩ := own_form h1
  obtain ⟨a2, c2, rfl, _, _, _⟩ := own_form (own_ints h2)
  exact ⟨a1, c1, a2, c2, rfl⟩

end Go.Proofs.YtiehfobcbhgfkaaGreatDoor.sc

namespace Go.Proofs.YtiehfobcbhgfkaaGreatDoor.sc
set_option maxRecDepth 20000
open Go.RowKit
open kit sum num burst hd fr

set_option maxHeartbeats 400000 in
theorem same_any (a b : Option Addr) (c d n : Nat) (xs : List ByteArray) (w : World) (hm : n ≤ 1048576) (ha : strs.At w a n xs) (hb : strs.At w b n xs) :
    Calls Tryz.prog 16 #[.slice a n c, .slice b n d] w fun e w' => e = .returned (.bool true) ∧ Below w.heap.size w w' := by
  have HL := Lib.hid ha.1
  have HA := Lib.hid ha
  have HB := Lib.hid hb
  clear ha hb
  go_enter Tryz.func16, Tryz.ntmps16
  go_wp2
  go_loopw [5] (fun i wr => ∃ k : Nat, k ≤ n ∧ i = .int .i64 k ∧ Below w.heap.size w wr) (fun i _ => n - (intOf i).toNat)
  case atStart => exact ⟨0, Nat.zero_le _, rfl, Below.refl _ _⟩
  case round =>
    obtain ⟨k, hk, rfl, hb⟩ := hrel
    by_cases hlt : k < n
    · obtain ⟨x, hxk⟩ : ∃ x, xs[k]? = some x := ⟨_, List.getElem?_eq_getElem (by rw [HL.out]; exact hlt)⟩
      obtain ⟨g, o, rfl, hg, hx⟩ := HA.out.2.resolve_left (by omega)
      obtain ⟨h, p, rfl, hh, hy⟩ := HB.out.2.resolve_left (by omega)
      have c1 : wr.cell? ⟨g, o + k, none⟩ = some (.string x) := (hb.cell (p := ⟨g, o + k, none⟩) hg).trans (hx k x hxk)
      have c2 : wr.cell? ⟨h, p + k, none⟩ = some (.string x) := (hb.cell (p := ⟨h, p + k, none⟩) hh).trans (hy k x hxk)
      have hne := num.str_yes (rfl : x = x)
      clear hxk hx hy HA HB
      have i0 : (0 : Int) ≤ (k : Int) := by omega
      have i1 : (k : Int) < (n : Int) := by omega
      go_wp2
      go_quiet (fail)
      go_wp2
      go_roundw
      case rel => exact ⟨k + 1, by omega, by go_num, below_drewN hb _⟩
      case measure => simp [intOf]; omega
    · go_wp2
      go_ret
      exact ⟨rfl, hb⟩

set_option maxHeartbeats 400000 in
theorem sameInts_any (a b : Option Addr) (c d n : Nat) (xs : List Int) (w : World) (hm : n ≤ maxLen) (ha : ints.At w a n xs) (hb : ints.At w b n xs) :
    Calls Tryz.prog 18 #[.slice a n c, .slice b n d] w fun e w' => e = .returned (.bool true) ∧ Below w.heap.size w w' := by
  unfold maxLen at hm
  have HL := Lib.hid ha.1
  have HA := Lib.hid ha
  have HB := Lib.hid hb
  clear ha hb
  go_enter Tryz.func18, Tryz.ntmps18
  go_wp2
  go_loopw [5] (fun i wr => ∃ k : Nat, k ≤ n ∧ i = .int .i64 k ∧ Below w.heap.size w wr) (fun i _ => n - (intOf i).toNat)
  case atStart => exact ⟨0, Nat.zero_le _, rfl, Below.refl _ _⟩
  case round =>
    obtain ⟨k, hk, rfl, hb⟩ := hrel
    by_cases hlt : k < n
    · obtain ⟨x, hxk⟩ : ∃ x, xs[k]? = some x := ⟨_, List.getElem?_eq_getElem (by rw [HL.out]; exact hlt)⟩
      obtain ⟨g, o, rfl, hg, hx⟩ := HA.out.2.resolve_left (by omega)
      obtain ⟨h, p, rfl, hh, hy⟩ := HB.out.2.resolve_left (by omega)
      have c1 : wr.cell? ⟨g, o + k, none⟩ = some (.int .i64 x) := (hb.cell (p := ⟨g, o + k, none⟩) hg).trans (hx k x hxk)
      have c2 : wr.cell? ⟨h, p + k, none⟩ = some (.int .i64 x) := (hb.cell (p := ⟨h, p + k, none⟩) hh).trans (hy k x hxk)
      clear hxk hx hy HA HB
      have i0 : (0 : Int) ≤ (k : Int) := by omega
      have i1 : (k : Int) < (n : Int) := by omega
      go_wp2
      go_quiet (fail)
      go_wp2
      go_roundw
      case rel => exact ⟨k + 1, by omega, by go_num, below_drewN hb _⟩
      case measure => simp [intOf]; omega
    · go_wp2
      go_ret
      exact ⟨rfl, hb⟩


end Go.Proofs.YtiehfobcbhgfkaaGreatDoor.sc
