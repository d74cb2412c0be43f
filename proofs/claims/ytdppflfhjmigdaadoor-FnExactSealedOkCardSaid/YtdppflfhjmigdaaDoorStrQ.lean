/-
  Contracts of the laws' own helpers over lists of strings: markText, eqStringS, markStringS, heldStringS.
-/
import Derived.Test.YtdppflfhjmigdaaDoorKit
import Derived.Deep.QuietTactic
import Derived.BigQuiet
import Derived.Laws.OwnMore
import Derived.WalkSmall
import Derived.Deep.RegionHeld3
namespace Go.Proofs.YtdppflfhjmigdaaDoor.strs
set_option maxRecDepth 20000
open Go.RowKit
open kit

/-- the decimal digits of n ahead of acc -/
def digs : Nat → Nat → List UInt8 → List UInt8
  | 0, _, acc => acc
  | f + 1, n, acc => if n = 0 then acc else digs f (n / 10) (UInt8.ofNat (48 + n % 10) :: acc)
theorem digs_fuel : ∀ (f g n : Nat) (acc : List UInt8), n ≤ f → n ≤ g → digs f n acc = digs g n acc
  | 0, 0, n, acc, _, _ => rfl
  | 0, g + 1, n, acc, h, _ => by obtain rfl : n = 0 := by omega
                                 simp [digs]
  | f + 1, 0, n, acc, _, h => by obtain rfl : n = 0 := by omega
                                 simp [digs]
  | f + 1, g + 1, n, acc, h1, h2 => by
    unfold digs
    by_cases h : n = 0
    · simp [h]
    · rw [if_neg h, if_neg h]
      exact digs_fuel f g _ _ (by omega) (by omega)
theorem digs_step (n : Nat) (acc : List UInt8) (h : 0 < n) : digs n n acc = digs (n / 10) (n / 10) (UInt8.ofNat (48 + n % 10) :: acc) := by
  obtain ⟨f, rfl⟩ : ∃ f, n = f + 1 := ⟨n - 1, by omega⟩
  conv => lhs; unfold digs
  rw [if_neg (by omega)]
  exact digs_fuel _ _ _ _ (by omega) (Nat.le_refl _)

def markB (k : Nat) : ByteArray := ⟨(109 :: digs k k []).toArray⟩

theorem ba_app (a b : List UInt8) : (⟨a.toArray⟩ : ByteArray) ++ ⟨b.toArray⟩ = ⟨(a ++ b).toArray⟩ := ByteArray.ext (by rw [ByteArray.data_append]; simp)

theorem conv_one (W : World) (x : Int) : ∀ dst, Tryd.prog.underlying dst = some .string →
    (convert 22 dst (.slice (some ⟨W.heap.size, 0, none⟩) 1 1)).run Tryd.prog (W.alloc (.cells #[.int .u8 x] 5)) = .ok (.string (strOfNums [x])) (W.alloc (.cells #[.int .u8 x] 5)) :=
  run_convert_bytes_arg _ 22 5 Tryd.underlying22 Tryd.underlying5 W.heap.size 0 1 1 [x] rfl (fun i hi => by
    obtain rfl : i = 0 := by omega
    rw [cell_of_row _ W.heap.size _ _ 5 (0, 0) (heap_alloc_new W _)]
    rfl)

theorem one_app (x : Nat) (acc : List UInt8) : strOfNums [48 + (x : Int) % 10] ++ ⟨acc.toArray⟩ = ⟨(UInt8.ofNat (48 + x % 10) :: acc).toArray⟩ := by
  have : strOfNums [48 + (x : Int) % 10] = ⟨[UInt8.ofNat (48 + x % 10)].toArray⟩ := by
    unfold strOfNums
    rw [show (48 + (x : Int) % 10) = ((48 + x % 10 : Nat) : Int) by omega]
    rfl
  rw [this, ba_app]
  rfl

set_option maxHeartbeats 400000 in
theorem markText_any (k : Nat) (w : World) (h0 : 0 < k) (h1 : k ≤ 1000000000) :
    Calls Tryd.prog 46 #[.int .i64 k] w fun e w' => e = .returned (.string (markB k)) ∧ Below w.heap.size w w' := by
  have hk0 : decide (k = 0) = false := by simp; omega
  go_enter Tryd.func46, Tryd.ntmps46
  go_wp2
  go_loopw [0, 3] (fun x o wr => ∃ (n : Nat) (acc : List UInt8), acc.length + n ≤ k ∧ x = .int .i64 n ∧ o = .string ⟨acc.toArray⟩ ∧ digs n n acc = digs k k [] ∧ Below w.heap.size w wr) (fun x _ _ => (intOf x).toNat)
  case atStart => exact ⟨k, [], by simp, rfl, rfl, rfl, Below.refl _ _⟩
  case round =>
    obtain ⟨n, acc, hn, rfl, rfl, hd, hb⟩ := hrel
    have HD := Lib.hid hd
    clear hd
    by_cases hz : 0 < n
    · have hcv := conv_one wr (48 + (n : Int) % 10)
      have hsz : (strOfNums [48 + (n : Int) % 10]).size ≤ 1 := by rw [strOfNums_size]; exact Nat.le_refl _
      go_wp2
      go_roundw
      case rel => exact ⟨n / 10, UInt8.ofNat (48 + n % 10) :: acc, by simp; omega, by go_num, by rw [one_app], by rw [← digs_step n acc hz]; exact HD.out, hb.alloc hb.size _⟩
      case measure => simp [intOf]; omega
    · obtain rfl : n = 0 := by omega
      go_wp2
      go_ret
      exact ⟨by rw [show markB k = (⟨[109].toArray⟩ : ByteArray) ++ ⟨acc.toArray⟩ by rw [ba_app]; unfold markB; rw [← HD.out]; rfl]; rfl, hb⟩

theorem decide_nat_false {a b : Nat} (h : ¬ a = b) : decide (a = b) = false := by simp [h]

/-- two rows of the same strings are equal -/
theorem eqStr_none (a b : Option Addr) (c d : Nat) (w : World) :
    Calls Tryd.prog 24 #[.slice a 0 c, .slice b 0 d] w fun e w' => e = .returned (.bool true) ∧ Below w.heap.size w w' := by
  go_enter Tryd.func24, Tryd.ntmps24
  go_wp2
  go_loopw [5] (fun i wr => i = .int .i64 0 ∧ Below w.heap.size w wr) (fun i _ => (intOf i).toNat)
  case atStart => exact ⟨rfl, Below.refl _ _⟩
  case round =>
    obtain ⟨rfl, hb⟩ := hrel
    go_wp2
    go_ret
    exact ⟨rfl, hb⟩

set_option maxHeartbeats 400000 in
theorem eqStr_some (g h : Nat) (c d n : Nat) (xs : List ByteArray) (w : World) (hm : n ≤ maxLen) (hn : 0 < n) (hl : xs.length = n) (hg : g < w.heap.size) (hh : h < w.heap.size)
    (hx : ∀ j, j < n → w.cell? ⟨g, j, none⟩ = (xs.map Value.string)[j]?) (hy : ∀ j, j < n → w.cell? ⟨h, j, none⟩ = (xs.map Value.string)[j]?) :
    Calls Tryd.prog 24 #[.slice (some ⟨g, 0, none⟩) n c, .slice (some ⟨h, 0, none⟩) n d] w fun e w' => e = .returned (.bool true) ∧ Below w.heap.size w w' := by
  unfold maxLen at hm
  have HX := Lib.hid hx
  have HY := Lib.hid hy
  have HL := Lib.hid hl
  clear hx hy hl
  go_enter Tryd.func24, Tryd.ntmps24
  go_wp2
  go_loopw [5] (fun i wr => ∃ k : Nat, k ≤ n ∧ i = .int .i64 k ∧ Below w.heap.size w wr) (fun i _ => n - (intOf i).toNat)
  case atStart => exact ⟨0, Nat.zero_le _, rfl, Below.refl _ _⟩
  case round =>
    obtain ⟨k, hk, rfl, hb⟩ := hrel
    by_cases hlt : k < n
    · obtain ⟨x, hxk⟩ : ∃ x, xs[k]? = some x := ⟨_, List.getElem?_eq_getElem (by rw [HL.out]; exact hlt)⟩
      have hx : wr.cell? ⟨g, k, none⟩ = some (.string x) := by rw [hb.cell hg, HX.out k hlt, List.getElem?_map, hxk]; rfl
      have hy : wr.cell? ⟨h, k, none⟩ = some (.string x) := by rw [hb.cell hh, HY.out k hlt, List.getElem?_map, hxk]; rfl
      clear hxk
      have i0 : (0 : Int) ≤ (k : Int) := by omega
      have i1 : (k : Int) < (n : Int) := by omega
      go_wp2
      go_quiet (fail)
      go_wp2
      go_roundw
      case rel => exact ⟨k + 1, by omega, by go_num, below_drewN hb _⟩
      case measure => simp [intOf]; omega
    · go_wp2
      go_ret
      exact ⟨rfl, hb⟩

theorem eqStr_any {B C : Nat} {v u : Value} {n : Nat} {xs : List ByteArray} (w : World) (hv : w.ownsRow B 9 1 v n (xs.map Value.string)) (hu : w.ownsRow C 9 1 u n (xs.map Value.string)) :
    Calls Tryd.prog 24 #[v, u] w fun e w' => e = .returned (.bool true) ∧ Below w.heap.size w w' := by
  obtain ⟨a, c, rfl, hl, hm, h1⟩ := own_form hv
  obtain ⟨b, d, rfl, _, _, h2⟩ := own_form hu
  rcases h1 with rfl | ⟨g, rfl, _, hg, hx, _⟩
  · exact eqStr_none a b c d w
  · rcases h2 with rfl | ⟨h, rfl, _, hh, hy, _⟩
    · exact eqStr_none _ b c d w
    · by_cases h0 : n = 0
      · subst h0
        exact eqStr_none _ _ c d w
      · exact eqStr_some g h c d n xs w hm (by omega) (by simpa using hl) hg hh hx hy

def marks (k n : Nat) : List ByteArray := (List.range n).map fun i => markB (k + i)
theorem marks_length (k n : Nat) : (marks k n).length = n := by simp [marks]
theorem marks_at (k n i : Nat) (h : i < n) : ((marks k n).map Value.string)[i]? = some (.string (markB (k + i))) := by simp [marks, h]

theorem held_none (a : Option Addr) (c k : Nat) (w : World) :
    Calls Tryd.prog 26 #[.slice a 0 c, .int .i64 k] w fun e w' => e = .returned (.int .i64 k) ∧ Below w.heap.size w w' := by
  go_enter Tryd.func26, Tryd.ntmps26
  go_wp2
  go_loopw [1, 5] (fun x i wr => x = .int .i64 k ∧ i = .int .i64 0 ∧ Below w.heap.size w wr) (fun _ i _ => (intOf i).toNat)
  case atStart => exact ⟨rfl, rfl, Below.refl _ _⟩
  case round =>
    obtain ⟨rfl, rfl, hb⟩ := hrel
    go_wp2
    go_ret
    exact ⟨rfl, hb⟩

set_option maxHeartbeats 400000 in
theorem held_some (g c n k : Nat) (w : World) (hk0 : 0 < k) (hk1 : k + n ≤ 1000000000) (hg : g < w.heap.size)
    (hx : ∀ j, j < n → w.cell? ⟨g, j, none⟩ = ((marks k n).map Value.string)[j]?) :
    Calls Tryd.prog 26 #[.slice (some ⟨g, 0, none⟩) n c, .int .i64 k] w fun e w' => e = .returned (.int .i64 ((k + n : Nat) : Int)) ∧ Below w.heap.size w w' := by
  have HX := Lib.hid hx
  clear hx
  go_enter Tryd.func26, Tryd.ntmps26
  go_wp2
  go_loopw [1, 5] (fun x i wr => ∃ j : Nat, j ≤ n ∧ x = .int .i64 ((k + j : Nat) : Int) ∧ i = .int .i64 j ∧ Below w.heap.size w wr) (fun _ i _ => n - (intOf i).toNat)
  case atStart => exact ⟨0, Nat.zero_le _, rfl, rfl, Below.refl _ _⟩
  case round =>
    obtain ⟨j, hj, rfl, rfl, hb⟩ := hrel
    by_cases hlt : j < n
    · have hx : wr.cell? ⟨g, j, none⟩ = some (.string (markB (k + j))) := by rw [hb.cell hg, HX.out j hlt, marks_at k n j hlt]
      have hgr : g < wr.heap.size := Nat.lt_of_lt_of_le hg hb.size
      have i0 : (0 : Int) ≤ (j : Int) := by omega
      have i1 : (j : Int) < (n : Int) := by omega
      go_wp2
      go_region_held3 (fun w' => w'.cell? ⟨g, j, none⟩ = some (.string (markB (k + j)))) (first | exact hx | exact hx1) (first | (go_at_call 46; refine (markText_any (k + j) _ (by omega) (by omega)).mono ?_; rintro e w1 ⟨rfl, hb1⟩; have hx1 := (hb1.cell (p := ⟨g, j, none⟩) hgr).trans hx))
      all_goals
        go_wp2
        go_roundw
        case rel => exact ⟨j + 1, by omega, by go_num, by go_num, hb.drew.trans (hb1.mono hb.size)⟩
        case measure => simp [intOf]; omega
    · obtain rfl : j = n := by omega
      go_wp2
      go_ret
      exact ⟨rfl, hb⟩

theorem held_any {B : Nat} {v : Value} {n k : Nat} (w : World) (hk0 : 0 < k) (hk1 : k + n ≤ 1000000000) (hv : w.ownsRow B 9 1 v n ((marks k n).map Value.string)) :
    Calls Tryd.prog 26 #[v, .int .i64 k] w fun e w' => e = .returned (.int .i64 ((k + n : Nat) : Int)) ∧ Below w.heap.size w w' := by
  obtain ⟨a, c, rfl, _, _, h1⟩ := own_form hv
  rcases h1 with rfl | ⟨g, rfl, _, hg, hx, _⟩
  · exact held_none a c k w
  · exact held_some g c n k w hk0 hk1 hg hx

/-! ### the marks are written -/
def rowM (k : Nat) (xs : List ByteArray) (j : Nat) : List ByteArray := marks k j ++ xs.drop j
theorem rowM_length (k n : Nat) (xs : List ByteArray) (j : Nat) (hl : xs.length = n) (h : j ≤ n) : (rowM k xs j).length = n := by simp [rowM, marks_length]; omega
theorem rowM_set (k n : Nat) (xs : List ByteArray) (j : Nat) (hl : xs.length = n) (h : j < n) :
    ((rowM k xs j).map Value.string).set j (.string (markB (k + j))) = (rowM k xs (j + 1)).map Value.string := by
  have e : marks k (j + 1) = marks k j ++ [markB (k + j)] := by simp [marks, List.range_succ]
  unfold rowM
  rw [e, ← List.map_set, List.set_append_right _ _ (by rw [marks_length]; exact Nat.le_refl _), marks_length, Nat.sub_self]
  obtain ⟨x, r, hx⟩ : ∃ x r, xs.drop j = x :: r := by
    cases hd : xs.drop j with
    | nil => have := congrArg List.length hd; simp at this; omega
    | cons x r => exact ⟨x, r, rfl⟩
  have hr : xs.drop (j + 1) = r := by rw [← List.drop_drop, hx]; rfl
  rw [hx, hr, List.set_cons_zero]
  simp

theorem mark_none (a : Option Addr) (c k : Nat) (w : World) :
    Calls Tryd.prog 25 #[.slice a 0 c, .int .i64 k] w fun e w' => e = .returned (.int .i64 k) ∧ Below w.heap.size w w' := by
  go_enter Tryd.func25, Tryd.ntmps25
  go_wp2
  go_loopw [1, 5] (fun x i wr => x = .int .i64 k ∧ i = .int .i64 0 ∧ Below w.heap.size w wr) (fun _ i _ => (intOf i).toNat)
  case atStart => exact ⟨rfl, rfl, Below.refl _ _⟩
  case round =>
    obtain ⟨rfl, rfl, hb⟩ := hrel
    go_wp2
    go_ret
    exact ⟨rfl, hb⟩

set_option maxHeartbeats 400000 in
theorem mark_some (B g c n k : Nat) (xs : List ByteArray) (w : World) (hk0 : 0 < k) (hk1 : k + n ≤ 1000000000) (hl : xs.length = n) (hg : g < w.heap.size)
    (hv : w.ownsRow B 9 1 (.slice (some ⟨g, 0, none⟩) n c) n (xs.map Value.string)) :
    Calls Tryd.prog 25 #[.slice (some ⟨g, 0, none⟩) n c, .int .i64 k] w fun e w' => e = .returned (.int .i64 ((k + n : Nat) : Int)) ∧
      w'.ownsRow B 9 1 (.slice (some ⟨g, 0, none⟩) n c) n ((marks k n).map Value.string) ∧ w.grownBy w' (some g) := by
  have HL := Lib.hid hl
  clear hl
  go_enter Tryd.func25, Tryd.ntmps25
  go_wp2
  go_loopw [1, 5] (fun x i wr => ∃ j : Nat, j ≤ n ∧ x = .int .i64 ((k + j : Nat) : Int) ∧ i = .int .i64 j ∧ wr.ownsRow B 9 1 (.slice (some ⟨g, 0, none⟩) n c) n ((rowM k xs j).map Value.string) ∧ w.grownBy wr (some g)) (fun _ i _ => n - (intOf i).toNat)
  case atStart => exact ⟨0, Nat.zero_le _, rfl, rfl, by simpa [rowM, marks] using hv, grown_refl _ _⟩
  case round =>
    obtain ⟨j, hj, rfl, rfl, hown, hgw⟩ := hrel
    by_cases hlt : j < n
    · obtain ⟨u, hcell⟩ : ∃ u, wr.cell? ⟨g, j, none⟩ = some u := by
        rw [hown.cellAt j (by omega)]
        exact ⟨_, List.getElem?_eq_getElem (by rw [List.length_map, rowM_length _ _ _ _ HL.out hj]; exact hlt)⟩
      have hgr : g < wr.heap.size := Nat.lt_of_lt_of_le hg hgw.size
      have hfrz := hown.frozenAt j
      go_wp2_with (go_at_call 46; refine (markText_any (k + j) _ (by omega) (by omega)).mono ?_; rintro e w1 ⟨rfl, hb1⟩; have hcell1 := (hb1.cell (p := ⟨g, j, none⟩) hgr).trans hcell; have hfrz1 := (hb1.frozen (p := ⟨g, j, none⟩) hgr).trans hfrz)
      have hst := (own_below hown hb1).stored j (.string (markB (k + j)))
      go_roundw
      case rel =>
        refine ⟨j + 1, by omega, by go_num, by go_num, ?_, grown_trans (grown_trans hgw (grown_of_below hb1)) hst.2⟩
        rw [← rowM_set k n xs j HL.out hlt]
        exact hst.1
      case measure => simp [intOf]; omega
    · obtain rfl : j = n := by omega
      have hend : rowM k xs j = marks k j := by unfold rowM; rw [List.drop_of_length_le (by rw [HL.out]; exact Nat.le_refl _), List.append_nil]
      rw [hend] at hown
      clear hend
      go_wp2
      go_ret
      exact ⟨rfl, hown, hgw⟩

theorem mark_any {B : Nat} {v : Value} {n k : Nat} {xs : List ByteArray} (w : World) (hk0 : 0 < k) (hk1 : k + n ≤ 1000000000) (hv : w.ownsRow B 9 1 v n (xs.map Value.string)) :
    Calls Tryd.prog 25 #[v, .int .i64 k] w fun e w' => e = .returned (.int .i64 ((k + n : Nat) : Int)) ∧ w'.ownsRow B 9 1 v n ((marks k n).map Value.string) ∧ w.grownBy w' v.ownBlock := by
  obtain ⟨a, c, rfl, hl, _, h1⟩ := own_form hv
  have hl' : xs.length = n := by simpa using hl
  by_cases h0 : n = 0
  · subst h0
    obtain rfl : xs = [] := List.length_eq_zero_iff.1 hl'
    exact (mark_none a c k w).mono fun e w' ⟨h1, h2⟩ => ⟨h1, own_below hv h2, grown_of_below h2⟩
  · rcases h1 with h1 | ⟨g, rfl, _, hg, _, _⟩
    · exact absurd h1 h0
    · exact mark_some B g c n k xs w hk0 hk1 hl' hg hv

end Go.Proofs.YtdppflfhjmigdaaDoor.strs

namespace Go.Proofs.YtdppflfhjmigdaaDoor.kit
set_option maxRecDepth 20000
open Go.RowKit

theorem in_yes (x least most : Int) (w : World) (h1 : least ≤ x) (h2 : x ≤ most) :
    Calls Tryd.prog 47 #[.int .i64 x, .int .i64 least, .int .i64 most] w fun e w' => e = .returned (.bool true) ∧ w = w' := by
  go_enter Tryd.func47, Tryd.ntmps47
  go_wp2
  go_ret
  exact ⟨rfl, rfl⟩
theorem in_no (x least most : Int) (w : World) (h : x < least ∨ most < x) :
    Calls Tryd.prog 47 #[.int .i64 x, .int .i64 least, .int .i64 most] w fun e w' => e = .returned (.bool false) ∧ w = w' := by
  by_cases h1 : x < least
  · clear h
    go_enter Tryd.func47, Tryd.ntmps47
    go_wp2
    go_ret
    exact ⟨rfl, rfl⟩
  · have h2 : most < x := by omega
    have hd : decide (x ≤ most) = false := by simp; omega
    clear h
    go_enter Tryd.func47, Tryd.ntmps47
    go_wp2
    go_ret
    exact ⟨rfl, rfl⟩

end Go.Proofs.YtdppflfhjmigdaaDoor.kit

namespace Go.Proofs.YtdppflfhjmigdaaDoor.strs
set_option maxRecDepth 20000
open Go.RowKit
open kit

/-- a slice of strings that came in -/
def IsStrs (w : World) (a : Option Addr) (len cap : Nat) (ss : List ByteArray) : Prop :=
  (a = none ∧ len = 0 ∧ cap = 0 ∧ ss = []) ∨
  ∃ x, a = some x ∧ len ≤ cap ∧ cap ≤ maxLen ∧ ss.length = cap ∧ (∀ i, i < ss.length → w.cell? (x.add i) = some (.string (ss.getD i ByteArray.empty))) ∧ ∀ s ∈ ss, s.size ≤ maxLen
theorem strs_at {w : World} {a : Addr} {ss : List ByteArray} (h : ∀ i, i < ss.length → w.cell? (a.add i) = some (.string (ss.getD i ByteArray.empty))) (hp : 0 < ss.length) :
    ∃ b off, a = ⟨b, off, none⟩ ∧ ∀ j, j < ss.length → w.cell? ⟨b, off + j, none⟩ = some (.string (ss.getD j ByteArray.empty)) := by
  obtain ⟨b, off, spot⟩ := a
  have hspot : spot = none := by simpa [Addr.add] using World.cell?_spot (h 0 hp)
  subst hspot
  exact ⟨b, off, rfl, fun j hj => by rw [← Go.WideShapes.add_plain]; exact h j hj⟩
/-- a slice that holds these strings -/
def At (w : World) (a : Option Addr) (n : Nat) (xs : List ByteArray) : Prop :=
  xs.length = n ∧ (n = 0 ∨ ∃ b off, a = some ⟨b, off, none⟩ ∧ b < w.heap.size ∧ ∀ j x, xs[j]? = some x → w.cell? ⟨b, off + j, none⟩ = some (.string x))
theorem At.below {w w' : World} {a : Option Addr} {n : Nat} {xs : List ByteArray} (h : At w a n xs) (hb : Below w.heap.size w w') : At w' a n xs :=
  ⟨h.1, h.2.imp id fun ⟨b, off, h1, h2, h3⟩ => ⟨b, off, h1, Nat.lt_of_lt_of_le h2 hb.size, fun j x hx => (hb.cell (p := ⟨b, off + j, none⟩) h2).trans (h3 j x hx)⟩⟩
theorem At.of_own {w : World} {B : Nat} {a : Option Addr} {n c : Nat} {xs : List ByteArray} (h : w.ownsRow B 9 1 (.slice a n c) n (xs.map Value.string)) : At w a n xs := by
  obtain ⟨a', c', e, hl, _, h1⟩ := own_form h
  injection e with e1 e2 e3
  subst e1
  refine ⟨by simpa using hl, h1.imp id fun ⟨g, h1, _, h3, h4, _⟩ => ⟨g, 0, h1, h3, fun j x hx => ?_⟩⟩
  have hj : j < n := by have := (List.getElem?_eq_some_iff.1 hx).1; simp at hl; omega
  rw [Nat.zero_add, h4 j hj, List.getElem?_map, hx]
  rfl
theorem IsStrs.at {w : World} {a : Option Addr} {len cap : Nat} {ss : List ByteArray} (h : IsStrs w a len cap ss) : At w a len (ss.take len) := by
  rcases h with ⟨_, rfl, _, rfl⟩ | ⟨x, rfl, h1, _, h3, h4, h5⟩
  · exact ⟨rfl, .inl rfl⟩
  · refine ⟨by rw [List.length_take]; omega, ?_⟩
    by_cases h0 : len = 0
    · exact .inl h0
    · obtain ⟨b, off, rfl, hc⟩ := strs_at h4 (by omega)
      refine .inr ⟨b, off, rfl, World.block_lt_of_cell? w _ (hc 0 (by omega)), fun j y hy => ?_⟩
      have hj : j < len := by have := (List.getElem?_eq_some_iff.1 hy).1; rw [List.length_take] at this; omega
      rw [List.getElem?_take_of_lt hj] at hy
      rw [hc j (by omega), List.getD, hy]
      rfl
theorem IsStrs.len {w : World} {a : Option Addr} {len cap : Nat} {ss : List ByteArray} (h : IsStrs w a len cap ss) : len ≤ 9223372036854775807 := by
  rcases h with ⟨_, h, _⟩ | ⟨x, _, h1, h2, _⟩
  · omega
  · unfold maxLen at h2
    omega
theorem IsStrs.each {w : World} {a : Option Addr} {len cap : Nat} {ss : List ByteArray} (h : IsStrs w a len cap ss) : ∀ s ∈ ss.take len, s.size ≤ 9223372036854775807 := by
  intro s hs
  have hs := List.mem_of_mem_take hs
  rcases h with ⟨_, _, _, rfl⟩ | ⟨x, _, _, _, _, _, h5⟩
  · cases hs
  · have := h5 s hs
    unfold maxLen at this
    omega

theorem Tryd.infoStr : (Tryd.prog.info? 9).map (fun i => (i.zero, i.size, i.bytes)) = some (some (.string { data := #[] }), 1, 16) := by kernel_rfl

/-! ### a copy -/
/-! ### how much it is -/
def tot (xs : List ByteArray) : Nat := (xs.map ByteArray.size).sum
theorem tot_snoc (xs : List ByteArray) (k : Nat) (x : ByteArray) (h : xs[k]? = some x) : tot (xs.take (k + 1)) = tot (xs.take k) + x.size := by
  unfold tot
  rw [List.take_add_one, h]
  simp
theorem tot_le (xs : List ByteArray) (k : Nat) : tot (xs.take k) ≤ tot xs := by
  unfold tot
  conv => rhs; rw [← List.take_append_drop k xs]
  rw [List.map_append, List.sum_append]
  omega
theorem tot_each (xs : List ByteArray) (x : ByteArray) (h : x ∈ xs) : x.size ≤ tot xs := by
  induction xs with
  | nil => cases h
  | cons y r ih =>
    have e : tot (y :: r) = y.size + tot r := by simp [tot]
    rcases List.mem_cons.1 h with rfl | h
    · omega
    · have := ih h; omega
def szI (left : Int) (xs : List ByteArray) : Int := if (xs.length : Int) + tot xs ≤ left then left - xs.length - tot xs else -1

end Go.Proofs.YtdppflfhjmigdaaDoor.strs
