/-
  What the exact laws alone stand on (parted off by a program: the others do without).
-/
import Derived.WalkKit
import Derived.WalkSpells
import Derived.WalkLawsBesides
import Derived.Laws.BytesArg
import Derived.Lib.Hide
import Derived.Laws.OwnMore
import Derived.Deep.QuietTactic
import Derived.BigQuiet
import Derived.WalkSmall
import Derived.Deep.RegionHeld3
import Derived.OpenShut
import Derived.ShutString
import Derived.SliceStrings
import Derived.ChangeOld
import Derived.Deep.Slices
import Derived.Deep.Strs
import Derived.Test.YtiehfobcbhgfkaaGreatDoorKit
import Derived.Test.YtiehfobcbhgfkaaGreatDoorArgX
import Derived.Test.YtiehfobcbhgfkaaGreatDoorStrQ
import Derived.Test.YtiehfobcbhgfkaaGreatDoorRecX
import Derived.Test.YtiehfobcbhgfkaaGreatDoorDiskX
import Derived.Test.YtiehfobcbhgfkaaGreatDoorIntX
import Derived.Test.YtiehfobcbhgfkaaGreatDoorKinds
import Derived.Test.YtiehfobcbhgfkaaGreatDoorRwX
import Derived.Test.YtiehfobcbhgfkaaGreatDoorKdX
namespace Go.Proofs.YtiehfobcbhgfkaaGreatDoor.kit
set_option maxRecDepth 20000
open Go.RowKit

theorem grown_of_below {a b : World} {row : Option Nat} (h : Below a.heap.size a b) : a.grownBy b row := ⟨h.os, h.tape, h.output, h.size, fun i hi _ => h.block i hi⟩

end Go.Proofs.YtiehfobcbhgfkaaGreatDoor.kit

namespace Go.Proofs.YtiehfobcbhgfkaaGreatDoor.argv
set_option maxRecDepth 20000

def wfI (x : Int) : Prop := -9223372036854775808 ≤ x ∧ x ≤ 9223372036854775807
theorem wfI_of {x : Int} (h : (Lit.int .i64 x).wf = true) : wfI x := by
  have e1 : IntKind.i64.min = -9223372036854775808 := rfl
  have e2 : IntKind.i64.max = 9223372036854775807 := rfl
  simpa [Lit.wf, e1, e2, wfI] using h

end Go.Proofs.YtiehfobcbhgfkaaGreatDoor.argv

namespace Go.Proofs.YtiehfobcbhgfkaaGreatDoor.strs
set_option maxRecDepth 20000
open Go.RowKit
open kit

theorem digs_fuel : ∀ (f g n : Nat) (acc : List UInt8), n ≤ f → n ≤ g → digs f n acc = digs g n acc
  | 0, 0, n, acc, _, _ => rfl
  | 0, g + 1, n, acc, h, _ => by obtain rfl : n = 0 := by omega
                                 simp [digs]
  | f + 1, 0, n, acc, _, h => by obtain rfl : n = 0 := by omega
                                 simp [digs]
  | f + 1, g + 1, n, acc, h1, h2 => by
    unfold digs
    by_cases h : n = 0
    · simp [h]
    · rw [if_neg h, if_neg h]
      exact digs_fuel f g _ _ (by omega) (by omega)
theorem digs_step (n : Nat) (acc : List UInt8) (h : 0 < n) : digs n n acc = digs (n / 10) (n / 10) (UInt8.ofNat (48 + n % 10) :: acc) := by
  obtain ⟨f, rfl⟩ : ∃ f, n = f + 1 := ⟨n - 1, by omega⟩
  conv => lhs; unfold digs
  rw [if_neg (by omega)]
  exact digs_fuel _ _ _ _ (by omega) (Nat.le_refl _)

theorem ba_app (a b : List UInt8) : (⟨a.toArray⟩ : ByteArray) ++ ⟨b.toArray⟩ = ⟨(a ++ b).toArray⟩ := ByteArray.ext (by rw [ByteArray.data_append]; simp)

theorem one_app (x : Nat) (acc : List UInt8) : strOfNums [48 + (x : Int) % 10] ++ ⟨acc.toArray⟩ = ⟨(UInt8.ofNat (48 + x % 10) :: acc).toArray⟩ := by
  have : strOfNums [48 + (x : Int) % 10] = ⟨[UInt8.ofNat (48 + x % 10)].toArray⟩ := by
    unfold strOfNums
    rw [show (48 + (x : Int) % 10) = ((48 + x % 10 : Nat) : Int) by omega]
    rfl
  rw [this, ba_app]
  rfl

set_option maxHeartbeats 400000 in
theorem markText_any (k : Nat) (w : World) (h0 : 0 < k) (h1 : k ≤ 1000000000) :
    Calls Tryz.prog 95 #[.int .i64 k] w fun e w' => e = .returned (.string (markB k)) ∧ Below w.heap.size w w' := by
  have hk0 : decide (k = 0) = false := by simp; omega
  go_enter Tryz.func95, Tryz.ntmps95
  go_wp2
  go_loopw [0, 3] (fun x o wr => ∃ (n : Nat) (acc : List UInt8), acc.length + n ≤ k ∧ x = .int .i64 n ∧ o = .string ⟨acc.toArray⟩ ∧ digs n n acc = digs k k [] ∧ Below w.heap.size w wr) (fun x _ _ => (intOf x).toNat)
  case atStart => exact ⟨k, [], by simp, rfl, rfl, rfl, Below.refl _ _⟩
  case round =>
    obtain ⟨n, acc, hn, rfl, rfl, hd, hb⟩ := hrel
    have HD := Lib.hid hd
    clear hd
    by_cases hz : 0 < n
    · have hcv := conv_one wr (48 + (n : Int) % 10)
      have hsz : (strOfNums [48 + (n : Int) % 10]).size ≤ 1 := by rw [strOfNums_size]; exact Nat.le_refl _
      go_wp2
      go_roundw
      case rel => exact ⟨n / 10, UInt8.ofNat (48 + n % 10) :: acc, by simp; omega, by go_num, by rw [one_app], by rw [← digs_step n acc hz]; exact HD.out, hb.alloc hb.size _⟩
      case measure => simp [intOf]; omega
    · obtain rfl : n = 0 := by omega
      go_wp2
      go_ret
      exact ⟨by rw [show markB k = (⟨[109].toArray⟩ : ByteArray) ++ ⟨acc.toArray⟩ by rw [ba_app]; unfold markB; rw [← HD.out]; rfl]; rfl, hb⟩

theorem marks_length (k n : Nat) : (marks k n).length = n := by simp [marks]
def rowM (k : Nat) (xs : List ByteArray) (j : Nat) : List ByteArray := marks k j ++ xs.drop j
theorem rowM_length (k n : Nat) (xs : List ByteArray) (j : Nat) (hl : xs.length = n) (h : j ≤ n) : (rowM k xs j).length = n := by simp [rowM, marks_length]; omega
theorem rowM_set (k n : Nat) (xs : List ByteArray) (j : Nat) (hl : xs.length = n) (h : j < n) :
    ((rowM k xs j).map Value.string).set j (.string (markB (k + j))) = (rowM k xs (j + 1)).map Value.string := by
  have e : marks k (j + 1) = marks k j ++ [markB (k + j)] := by simp [marks, List.range_succ]
  unfold rowM
  rw [e, ← List.map_set, List.set_append_right _ _ (by rw [marks_length]; exact Nat.le_refl _), marks_length, Nat.sub_self]
  obtain ⟨x, r, hx⟩ : ∃ x r, xs.drop j = x :: r := by
    cases hd : xs.drop j with
    | nil => have := congrArg List.length hd; simp at this; omega
    | cons x r => exact ⟨x, r, rfl⟩
  have hr : xs.drop (j + 1) = r := by rw [← List.drop_drop, hx]; rfl
  rw [hx, hr, List.set_cons_zero]
  simp

theorem mark_none (a : Option Addr) (c k : Nat) (w : World) :
    Calls Tryz.prog 47 #[.slice a 0 c, .int .i64 k] w fun e w' => e = .returned (.int .i64 k) ∧ Below w.heap.size w w' := by
  go_enter Tryz.func47, Tryz.ntmps47
  go_wp2
  go_loopw [1, 5] (fun x i wr => x = .int .i64 k ∧ i = .int .i64 0 ∧ Below w.heap.size w wr) (fun _ i _ => (intOf i).toNat)
  case atStart => exact ⟨rfl, rfl, Below.refl _ _⟩
  case round =>
    obtain ⟨rfl, rfl, hb⟩ := hrel
    go_wp2
    go_ret
    exact ⟨rfl, hb⟩

set_option maxHeartbeats 400000 in
theorem mark_some (B g c n k : Nat) (xs : List ByteArray) (w : World) (hk0 : 0 < k) (hk1 : k + n ≤ 1000000000) (hl : xs.length = n) (hg : g < w.heap.size)
    (hv : w.ownsRow B 9 1 (.slice (some ⟨g, 0, none⟩) n c) n (xs.map Value.string)) :
    Calls Tryz.prog 47 #[.slice (some ⟨g, 0, none⟩) n c, .int .i64 k] w fun e w' => e = .returned (.int .i64 ((k + n : Nat) : Int)) ∧
      w'.ownsRow B 9 1 (.slice (some ⟨g, 0, none⟩) n c) n ((marks k n).map Value.string) ∧ w.grownBy w' (some g) := by
  have HL := Lib.hid hl
  clear hl
  go_enter Tryz.func47, Tryz.ntmps47
  go_wp2
  go_loopw [1, 5] (fun x i wr => ∃ j : Nat, j ≤ n ∧ x = .int .i64 ((k + j : Nat) : Int) ∧ i = .int .i64 j ∧ wr.ownsRow B 9 1 (.slice (some ⟨g, 0, none⟩) n c) n ((rowM k xs j).map Value.string) ∧ w.grownBy wr (some g)) (fun _ i _ => n - (intOf i).toNat)
  case atStart => exact ⟨0, Nat.zero_le _, rfl, rfl, by simpa [rowM, marks] using hv, grown_refl _ _⟩
  case round =>
    obtain ⟨j, hj, rfl, rfl, hown, hgw⟩ := hrel
    by_cases hlt : j < n
    · obtain ⟨u, hcell⟩ : ∃ u, wr.cell? ⟨g, j, none⟩ = some u := by
        rw [hown.cellAt j (by omega)]
        exact ⟨_, List.getElem?_eq_getElem (by rw [List.length_map, rowM_length _ _ _ _ HL.out hj]; exact hlt)⟩
      have hgr : g < wr.heap.size := Nat.lt_of_lt_of_le hg hgw.size
      have hfrz := hown.frozenAt j
      go_wp2_with (go_at_call 95; refine (markText_any (k + j) _ (by omega) (by omega)).mono ?_; rintro e w1 ⟨rfl, hb1⟩; have hcell1 := (hb1.cell (p := ⟨g, j, none⟩) hgr).trans hcell; have hfrz1 := (hb1.frozen (p := ⟨g, j, none⟩) hgr).trans hfrz)
      have hst := (own_below hown hb1).stored j (.string (markB (k + j)))
      go_roundw
      case rel =>
        refine ⟨j + 1, by omega, by go_num, by go_num, ?_, grown_trans (grown_trans hgw (grown_of_below hb1)) hst.2⟩
        rw [← rowM_set k n xs j HL.out hlt]
        exact hst.1
      case measure => simp [intOf]; omega
    · obtain rfl : j = n := by omega
      have hend : rowM k xs j = marks k j := by unfold rowM; rw [List.drop_of_length_le (by rw [HL.out]; exact Nat.le_refl _), List.append_nil]
      rw [hend] at hown
      clear hend
      go_wp2
      go_ret
      exact ⟨rfl, hown, hgw⟩

theorem mark_any {B : Nat} {v : Value} {n k : Nat} {xs : List ByteArray} (w : World) (hk0 : 0 < k) (hk1 : k + n ≤ 1000000000) (hv : w.ownsRow B 9 1 v n (xs.map Value.string)) :
    Calls Tryz.prog 47 #[v, .int .i64 k] w fun e w' => e = .returned (.int .i64 ((k + n : Nat) : Int)) ∧ w'.ownsRow B 9 1 v n ((marks k n).map Value.string) ∧ w.grownBy w' v.ownBlock := by
  obtain ⟨a, c, rfl, hl, _, h1⟩ := own_form hv
  have hl' : xs.length = n := by simpa using hl
  by_cases h0 : n = 0
  · subst h0
    obtain rfl : xs = [] := List.length_eq_zero_iff.1 hl'
    exact (mark_none a c k w).mono fun e w' ⟨h1, h2⟩ => ⟨h1, own_below hv h2, grown_of_below h2⟩
  · rcases h1 with h1 | ⟨g, rfl, _, hg, _, _⟩
    · exact absurd h1 h0
    · exact mark_some B g c n k xs w hk0 hk1 hl' hg hv

end Go.Proofs.YtiehfobcbhgfkaaGreatDoor.strs

namespace Go.Proofs.YtiehfobcbhgfkaaGreatDoor.strs
set_option maxRecDepth 20000
open Go.RowKit
open kit

set_option maxHeartbeats 400000 in
theorem to_any (a : Option Addr) (c n : Nat) (xs : List ByteArray) (w : World) (hm : n ≤ 1048576) (ha : At w a n xs) :
    Calls Tryz.prog 90 #[.slice a n c] w fun e w' => e = .returned (.slice (some ⟨w.heap.size, 0, none⟩) n n) ∧ w'.ownsRow w.heap.size 9 1 (.slice (some ⟨w.heap.size, 0, none⟩) n n) n (xs.map Value.string) ∧ Below w.heap.size w w' := by
  obtain ⟨i0, hi, hz0, hz1, hz2⟩ := info_parts Tryz.infoStr
  have HL := Lib.hid ha.1
  have HA := Lib.hid ha
  clear ha
  go_enter Tryz.func90, Tryz.ntmps90
  go_wp2_with (refine wpList_make_full _ (by rfl) _ _ 26 (by rfl) w.heap.size 9 i0 (.string { data := #[] }) 1 Tryz.underlying26 hi hz0 hz1 .i64 .i64 _ _ n (by rfl) (by rfl) ?_ ?_ ?_ ?_ ?_ ?_; omega; omega; (rw [hz2]; omega); (unfold maxLen; omega); exact Nat.le_refl _; intro w1 hown1 hg1)
  have hb1 : Below w.heap.size w w1 := (Below.refl _ _).grown hg1 (Nat.le_refl _) (fun k hk => by cases hk)
  have hown2 : w1.ownsRow w.heap.size 9 1 (.slice (some ⟨w.heap.size, 0, none⟩) n n) n ((xs.take 0 ++ List.replicate (n - 0) ({ data := #[] } : ByteArray)).map Value.string) := by
    rw [show (Value.string { data := #[] }).cells = #[.string { data := #[] }] from rfl, toList_madeCells_one] at hown1
    simpa using hown1
  clear hown1
  go_loopw [4] (fun i wr => ∃ (k : Nat), k ≤ n ∧ i = .int .i64 k ∧ wr.ownsRow w.heap.size 9 1 (.slice (some ⟨w.heap.size, 0, none⟩) n n) n ((xs.take k ++ List.replicate (n - k) ({ data := #[] } : ByteArray)).map Value.string) ∧ Below w.heap.size w wr) (fun i _ => n - (intOf i).toNat)
  case atStart => exact ⟨0, Nat.zero_le _, rfl, hown2, hb1⟩
  case round =>
    obtain ⟨k, hk, rfl, hown, hb⟩ := hrel
    clear hown2
    by_cases hlt : k < n
    · obtain ⟨x, hxk⟩ : ∃ x, xs[k]? = some x := ⟨_, List.getElem?_eq_getElem (by rw [HL.out]; exact hlt)⟩
      obtain ⟨g, o, rfl, hg, hx⟩ := HA.out.2.resolve_left (by omega)
      have c1 : wr.cell? ⟨g, o + k, none⟩ = some (.string x) := (hb.cell (p := ⟨g, o + k, none⟩) hg).trans (hx k x hxk)
      have HS := Lib.hid (show ((xs.take k ++ List.replicate (n - k) ({ data := #[] } : ByteArray)).map Value.string).set k (.string x) = (xs.take (k + 1) ++ List.replicate (n - (k + 1)) ({ data := #[] } : ByteArray)).map Value.string by
        have hlen := HL.out
        obtain ⟨m, hm⟩ : ∃ m, n - k = m + 1 := ⟨n - k - 1, by omega⟩
        have hm2 : n - (k + 1) = m := by omega
        rw [← List.map_set, List.set_append_right _ _ (by rw [List.length_take]; omega), List.length_take, Nat.min_eq_left (by omega), Nat.sub_self, hm, hm2, List.replicate_succ, List.set_cons_zero, List.take_add_one, hxk]
        simp)
      obtain ⟨u, hcell⟩ : ∃ u, wr.cell? ⟨w.heap.size, k, none⟩ = some u := by
        rw [hown.cellAt k (by omega)]
        exact ⟨_, List.getElem?_eq_getElem (by have := HL.out; simp; omega)⟩
      have hfrz := hown.frozenAt k
      have i0 : (0 : Int) ≤ (k : Int) := by omega
      have i1 : (k : Int) < (n : Int) := by omega
      clear hxk hx
      go_wp2
      go_roundw
      case rel =>
        refine ⟨k + 1, by omega, by go_num, ?_, hb.setCell (Nat.le_refl _) _⟩
        rw [← HS.out]
        exact (hown.stored k (.string x)).1
      case measure => simp [intOf]; omega
    · obtain rfl : k = n := by omega
      have hend : xs.take k ++ List.replicate (k - k) ({ data := #[] } : ByteArray) = xs := by
        rw [Nat.sub_self, List.take_of_length_le (by rw [HL.out]; exact Nat.le_refl _)]
        simp
      rw [hend] at hown
      clear hend
      go_wp2
      go_ret
      exact ⟨rfl, hown, hb⟩

def szI (left : Int) (xs : List ByteArray) : Int := if (xs.length : Int) + tot xs ≤ left then left - xs.length - tot xs else -1

set_option maxHeartbeats 400000 in
theorem sz_any (a : Option Addr) (c n : Nat) (left : Nat) (xs : List ByteArray) (w : World) (hl : left ≤ 1048576) (hm : n ≤ 9223372036854775807) (ha : At w a n xs) (hs : ∀ s ∈ xs, s.size ≤ 9223372036854775807) :
    Calls Tryz.prog 87 #[.slice a n c, .int .i64 left] w fun e w' => e = .returned (.int .i64 (szI left xs)) ∧ w = w' := by
  have HL := Lib.hid ha.1
  have HA := Lib.hid ha
  have HS := Lib.hid hs
  clear ha hs
  by_cases h0 : left < n
  · have HE := Lib.hid (show szI left xs = -1 from if_neg (by rw [HL.out]; omega))
    go_enter Tryz.func87, Tryz.ntmps87
    go_wp2
    go_ret
    exact ⟨by rw [HE.out]; rfl, rfl⟩
  · go_enter Tryz.func87, Tryz.ntmps87
    go_wp2
    go_loopw [1, 5] (fun l i wr => ∃ (k m : Nat), k ≤ n ∧ i = .int .i64 k ∧ l = .int .i64 m ∧ m + n + tot (xs.take k) = left ∧ wr = w) (fun _ i _ => n - (intOf i).toNat)
    case atStart => exact ⟨0, left - n, Nat.zero_le _, rfl, by congr 1; omega, by simp [tot]; omega, rfl⟩
    case round =>
      obtain ⟨k, m, hk, rfl, rfl, ht, rfl⟩ := hrel
      by_cases hlt : k < n
      · obtain ⟨x, hxk⟩ : ∃ x, xs[k]? = some x := ⟨_, List.getElem?_eq_getElem (by rw [HL.out]; exact hlt)⟩
        obtain ⟨g, o, rfl, hg, hx⟩ := HA.out.2.resolve_left (by omega)
        have c1 : wr.cell? ⟨g, o + k, none⟩ = some (.string x) := hx k x hxk
        have hxs := HS.out x (List.mem_of_getElem? hxk)
        have htx := tot_snoc xs k x hxk
        have htl := tot_le xs (k + 1)
        have i0 : (0 : Int) ≤ (k : Int) := by omega
        have i1 : (k : Int) < (n : Int) := by omega
        by_cases hb : m < x.size
        · have HE := Lib.hid (show szI left xs = -1 from if_neg (by rw [HL.out]; omega))
          have hw : IntKind.i64.wrap ((m : Int) - (x.size : Int)) = (m : Int) - (x.size : Int) := by rw [IntKind.wrap_i64]; omega
          have hneg : (m : Int) - (x.size : Int) < 0 := by omega
          clear hx hxk htx htl ht
          go_wp2
          go_ret
          exact ⟨by rw [HE.out]; rfl, rfl⟩
        · have hw : IntKind.i64.wrap ((m : Int) - (x.size : Int)) = ((m - x.size : Nat) : Int) := by rw [IntKind.wrap_i64]; omega
          obtain ⟨m2, hm2⟩ : ∃ m2, m - x.size = m2 := ⟨_, rfl⟩
          have HT := Lib.hid (show m2 + n + tot (xs.take (k + 1)) = left by omega)
          rw [hm2] at hw
          clear hm2
          clear hx hxk htx htl ht
          go_wp2
          go_roundw
          case rel => exact ⟨k + 1, m2, by omega, by go_num, rfl, HT.out, trivial⟩
          case measure => simp [intOf]; omega
      · obtain rfl : k = n := by omega
        have HE := Lib.hid (show szI left xs = (m : Int) by
          rw [List.take_of_length_le (by rw [HL.out]; exact Nat.le_refl _)] at ht
          unfold szI
          rw [if_pos (by rw [HL.out]; omega), HL.out]
          omega)
        clear ht
        go_wp2
        go_ret
        exact ⟨by rw [HE.out]; rfl, rfl⟩

end Go.Proofs.YtiehfobcbhgfkaaGreatDoor.strs

namespace Go.Proofs.YtiehfobcbhgfkaaGreatDoor.recs
set_option maxRecDepth 20000
open Go.RowKit
open kit strs

theorem eqEntry_same (s : ByteArray) (i : Int) (w : World) :
    Calls Tryz.prog 138 #[.agg #[.string s, .int .i64 i], .agg #[.string s, .int .i64 i]] w fun e w' => e = .returned (.bool true) ∧ Below w.heap.size w w' := by
  go_enter Tryz.func138, Tryz.ntmps138
  go_wp2
  go_ret
  exact ⟨rfl, ((Below.refl _ _).alloc (Nat.le_refl _) _).alloc (by simp) _⟩
theorem eqNode_same (i : Int) (s : ByteArray) (j : Int) (w : World) :
    Calls Tryz.prog 137 #[.agg #[.int .i64 i, .string s, .int .i64 j], .agg #[.int .i64 i, .string s, .int .i64 j]] w fun e w' => e = .returned (.bool true) ∧ Below w.heap.size w w' := by
  go_enter Tryz.func137, Tryz.ntmps137
  go_wp2
  go_ret
  exact ⟨rfl, ((Below.refl _ _).alloc (Nat.le_refl _) _).alloc (by simp) _⟩

end Go.Proofs.YtiehfobcbhgfkaaGreatDoor.recs

namespace Go.Proofs.YtiehfobcbhgfkaaGreatDoor.recs
set_option maxRecDepth 20000
open Go.RowKit
open kit strs

set_option maxHeartbeats 400000 in
theorem eqEntryS_same (a b : Option Addr) (c d n : Nat) (xs : List Ent) (w : World) (hm : n ≤ maxLen) (ha : AtE w a n xs) (hb : AtE w b n xs) :
    Calls Tryz.prog 92 #[.slice a n c, .slice b n d] w fun e w' => e = .returned (.bool true) ∧ Below w.heap.size w w' := by
  unfold maxLen at hm
  have HA := Lib.hid ha
  have HB := Lib.hid hb
  clear ha hb
  go_enter Tryz.func92, Tryz.ntmps92
  go_wp2
  go_loopw [5] (fun i wr => ∃ k : Nat, k ≤ n ∧ i = .int .i64 k ∧ Below w.heap.size w wr) (fun i _ => n - (intOf i).toNat)
  case atStart => exact ⟨0, Nat.zero_le _, rfl, Below.refl _ _⟩
  case round =>
    obtain ⟨k, hk, rfl, hb⟩ := hrel
    by_cases hlt : k < n
    · obtain ⟨s, i, g, o, hx, rfl, hg, c1, c2⟩ := (HA.out.below hb).get hlt
      obtain ⟨s', i', h, p, hy, rfl, hh, c3, c4⟩ := (HB.out.below hb).get hlt
      obtain ⟨rfl, rfl⟩ : s = s' ∧ i = i' := by rw [hx] at hy; simpa using hy
      have i0 : (0 : Int) ≤ (k : Int) := by omega
      have i1 : (k : Int) < (n : Int) := by omega
      clear hx hy
      go_wp2
      go_region_held3 (fun w' => w'.cell? ⟨g, o + k * 2, none⟩ = some (.string s) ∧ w'.cell? ⟨g, o + k * 2 + 1, none⟩ = some (.int .i64 i) ∧ w'.cell? ⟨h, p + k * 2, none⟩ = some (.string s) ∧ w'.cell? ⟨h, p + k * 2 + 1, none⟩ = some (.int .i64 i)) (first | exact ⟨c1, c2, c3, c4⟩ | exact ⟨d1, d2, d3, d4⟩) ((go_at_call 138; refine (eqEntry_same s i _).mono ?_; rintro e w1 ⟨rfl, hb1⟩; have d1 := (hb1.cell (p := ⟨g, o + k * 2, none⟩) hg).trans c1; have d2 := (hb1.cell (p := ⟨g, o + k * 2 + 1, none⟩) hg).trans c2; have d3 := (hb1.cell (p := ⟨h, p + k * 2, none⟩) hh).trans c3; have d4 := (hb1.cell (p := ⟨h, p + k * 2 + 1, none⟩) hh).trans c4))
      all_goals
        go_wp2
        go_roundw
        case rel => exact ⟨k + 1, by omega, by go_num, hb.drew.trans (hb1.mono hb.size)⟩
        case measure => simp [intOf]; omega
    · go_wp2
      go_ret
      exact ⟨rfl, hb⟩

set_option maxHeartbeats 400000 in
theorem eqNodeS_same (a b : Option Addr) (c d n : Nat) (xs : List Nod) (w : World) (hm : n ≤ maxLen) (ha : AtN w a n xs) (hb : AtN w b n xs) :
    Calls Tryz.prog 91 #[.slice a n c, .slice b n d] w fun e w' => e = .returned (.bool true) ∧ Below w.heap.size w w' := by
  unfold maxLen at hm
  have HA := Lib.hid ha
  have HB := Lib.hid hb
  clear ha hb
  go_enter Tryz.func91, Tryz.ntmps91
  go_wp2
  go_loopw [5] (fun i wr => ∃ k : Nat, k ≤ n ∧ i = .int .i64 k ∧ Below w.heap.size w wr) (fun i _ => n - (intOf i).toNat)
  case atStart => exact ⟨0, Nat.zero_le _, rfl, Below.refl _ _⟩
  case round =>
    obtain ⟨k, hk, rfl, hb⟩ := hrel
    by_cases hlt : k < n
    · obtain ⟨i, s, j, g, o, hx, rfl, hg, c1, c2, c3⟩ := (HA.out.below hb).get hlt
      obtain ⟨i', s', j', h, p, hy, rfl, hh, c4, c5, c6⟩ := (HB.out.below hb).get hlt
      obtain ⟨rfl, rfl, rfl⟩ : i = i' ∧ s = s' ∧ j = j' := by rw [hx] at hy; simpa using hy
      have i0 : (0 : Int) ≤ (k : Int) := by omega
      have i1 : (k : Int) < (n : Int) := by omega
      clear hx hy
      go_wp2
      go_region_held3 (fun w' => w'.cell? ⟨g, o + k * 3, none⟩ = some (.int .i64 i) ∧ w'.cell? ⟨g, o + k * 3 + 1, none⟩ = some (.string s) ∧ w'.cell? ⟨g, o + k * 3 + 2, none⟩ = some (.int .i64 j) ∧ w'.cell? ⟨h, p + k * 3, none⟩ = some (.int .i64 i) ∧ w'.cell? ⟨h, p + k * 3 + 1, none⟩ = some (.string s) ∧ w'.cell? ⟨h, p + k * 3 + 2, none⟩ = some (.int .i64 j)) (first | exact ⟨c1, c2, c3, c4, c5, c6⟩ | exact ⟨d1, d2, d3, d4, d5, d6⟩) ((go_at_call 137; refine (eqNode_same i s j _).mono ?_; rintro e w1 ⟨rfl, hb1⟩; have d1 := (hb1.cell (p := ⟨g, o + k * 3, none⟩) hg).trans c1; have d2 := (hb1.cell (p := ⟨g, o + k * 3 + 1, none⟩) hg).trans c2; have d3 := (hb1.cell (p := ⟨g, o + k * 3 + 2, none⟩) hg).trans c3; have d4 := (hb1.cell (p := ⟨h, p + k * 3, none⟩) hh).trans c4; have d5 := (hb1.cell (p := ⟨h, p + k * 3 + 1, none⟩) hh).trans c5; have d6 := (hb1.cell (p := ⟨h, p + k * 3 + 2, none⟩) hh).trans c6))
      all_goals
        go_wp2
        go_roundw
        case rel => exact ⟨k + 1, by omega, by go_num, hb.drew.trans (hb1.mono hb.size)⟩
        case measure => simp [intOf]; omega
    · go_wp2
      go_ret
      exact ⟨rfl, hb⟩

theorem toEntry_any (s : ByteArray) (i : Int) (w : World) :
    Calls Tryz.prog 136 #[.agg #[.string s, .int .i64 i]] w fun e w' => e = .returned (.agg #[.string s, .int .i64 i]) ∧ Below w.heap.size w w' := by
  go_enter Tryz.func136, Tryz.ntmps136
  go_wp2
  refine bodyPost_ret (v := .agg #[.string s, .int .i64 i]) (by simp [results, Tryz.results136, go_sem]) rfl ⟨rfl, ?_⟩
  exact ((((Below.refl _ _).alloc (Nat.le_refl _) _).alloc (by simp) _).alloc (by simp; omega) _)
theorem toNode_any (i : Int) (s : ByteArray) (j : Int) (w : World) :
    Calls Tryz.prog 135 #[.agg #[.int .i64 i, .string s, .int .i64 j]] w fun e w' => e = .returned (.agg #[.int .i64 i, .string s, .int .i64 j]) ∧ Below w.heap.size w w' := by
  go_enter Tryz.func135, Tryz.ntmps135
  go_wp2
  refine bodyPost_ret (v := .agg #[.int .i64 i, .string s, .int .i64 j]) (by simp [results, Tryz.results135, go_sem]) rfl ⟨rfl, ?_⟩
  exact ((((Below.refl _ _).alloc (Nat.le_refl _) _).alloc (by simp) _).alloc (by simp; omega) _)

end Go.Proofs.YtiehfobcbhgfkaaGreatDoor.recs

namespace Go.Proofs.YtiehfobcbhgfkaaGreatDoor.recs
set_option maxRecDepth 20000
open Go.RowKit
open kit strs

theorem made2 (x y : Value) (n : Nat) : (madeCells #[x, y] (n * 2)).toList = (List.replicate n [x, y]).flatten := by
  apply List.ext_getElem?
  intro j
  induction n generalizing j with
  | zero => simp [madeCells]
  | succ n ih =>
    rw [List.replicate_succ, List.flatten_cons]
    match j with
    | 0 => simp [madeCells, show 0 < (n + 1) * 2 by omega]
    | 1 => simp [madeCells, show 1 < (n + 1) * 2 by omega]
    | j + 2 =>
      have := ih j
      simp only [List.cons_append, List.nil_append, List.getElem?_cons_succ]
      rw [← this]
      by_cases hj : j < n * 2
      · simp [madeCells, hj, show j + 2 < (n + 1) * 2 by omega]
      · simp [madeCells, hj, show ¬ j + 2 < (n + 1) * 2 by omega]
theorem made3 (x y z : Value) (n : Nat) : (madeCells #[x, y, z] (n * 3)).toList = (List.replicate n [x, y, z]).flatten := by
  apply List.ext_getElem?
  intro j
  induction n generalizing j with
  | zero => simp [madeCells]
  | succ n ih =>
    rw [List.replicate_succ, List.flatten_cons]
    match j with
    | 0 => simp [madeCells, show 0 < (n + 1) * 3 by omega]
    | 1 => simp [madeCells, show 1 < (n + 1) * 3 by omega]
    | 2 => simp [madeCells, show 2 < (n + 1) * 3 by omega]
    | j + 3 =>
      have := ih j
      simp only [List.cons_append, List.nil_append, List.getElem?_cons_succ]
      rw [← this]
      by_cases hj : j < n * 3
      · simp [madeCells, hj, show j + 3 < (n + 1) * 3 by omega]
      · simp [madeCells, hj, show ¬ j + 3 < (n + 1) * 3 by omega]
theorem flatE_zero (n : Nat) : (List.replicate n [Value.string { data := #[] }, .int .i64 0]).flatten = cellsE (List.replicate n (({ data := #[] } : ByteArray), (0 : Int))) := by
  induction n with
  | zero => rfl
  | succ n ih => rw [List.replicate_succ, List.replicate_succ, List.flatten_cons, ih]; rfl
theorem flatN_zero (n : Nat) : (List.replicate n [Value.int .i64 0, .string { data := #[] }, .int .i64 0]).flatten = cellsN (List.replicate n ((0 : Int), ({ data := #[] } : ByteArray), (0 : Int))) := by
  induction n with
  | zero => rfl
  | succ n ih => rw [List.replicate_succ, List.replicate_succ, List.flatten_cons, ih]; rfl
theorem cellsE_set : ∀ (xs : List Ent) (k : Nat) (s : ByteArray) (i : Int), k < xs.length → ((cellsE xs).set (k * 2) (.string s)).set (k * 2 + 1) (.int .i64 i) = cellsE (xs.set k (s, i))
  | [], k, s, i, h => by simp at h
  | e :: r, 0, s, i, h => by simp [cellsE_cons]
  | e :: r, k + 1, s, i, h => by
    rw [List.set_cons_succ, cellsE_cons, cellsE_cons, ← cellsE_set r k s i (by simpa using h), show (k + 1) * 2 = k * 2 + 1 + 1 by omega]
    simp
theorem cellsN_set : ∀ (xs : List Nod) (k : Nat) (i : Int) (s : ByteArray) (j : Int), k < xs.length → (((cellsN xs).set (k * 3) (.int .i64 i)).set (k * 3 + 1) (.string s)).set (k * 3 + 2) (.int .i64 j) = cellsN (xs.set k (i, s, j))
  | [], k, i, s, j, h => by simp at h
  | e :: r, 0, i, s, j, h => by simp [cellsN_cons]
  | e :: r, k + 1, i, s, j, h => by
    rw [List.set_cons_succ, cellsN_cons, cellsN_cons, ← cellsN_set r k i s j (by simpa using h), show (k + 1) * 3 = k * 3 + 1 + 1 + 1 by omega]
    simp
theorem fill_set {α : Type} (xs : List α) (z x : α) (n k : Nat) (hl : xs.length = n) (h : k < n) (hx : xs[k]? = some x) : (xs.take k ++ List.replicate (n - k) z).set k x = xs.take (k + 1) ++ List.replicate (n - (k + 1)) z := by
  obtain ⟨m, hm⟩ : ∃ m, n - k = m + 1 := ⟨n - k - 1, by omega⟩
  have hm2 : n - (k + 1) = m := by omega
  rw [List.set_append_right _ _ (by rw [List.length_take]; omega), List.length_take, Nat.min_eq_left (by omega), Nat.sub_self, hm, hm2, List.replicate_succ, List.set_cons_zero, List.take_add_one, hx]
  simp
/-- one element stored whole into an owned row -/
theorem own_set2 {w : World} {B : Nat} {e : TypeId} {g n c k : Nat} {xs : List Ent} (h : w.ownsRow B e 2 (.slice (some ⟨g, 0, none⟩) n c) n (cellsE xs)) (hk : k < xs.length) (s : ByteArray) (i : Int) :
    ((w.setCell ⟨g, k * 2, none⟩ (.string s)).setCell ⟨g, k * 2 + 1, none⟩ (.int .i64 i)).ownsRow B e 2 (.slice (some ⟨g, 0, none⟩) n c) n (cellsE (xs.set k (s, i))) := by
  have h1 := ((h.stored (k * 2) (.string s)).1.stored (k * 2 + 1) (.int .i64 i)).1
  rwa [cellsE_set xs k s i hk] at h1
theorem own_set3 {w : World} {B : Nat} {e : TypeId} {g n c k : Nat} {xs : List Nod} (h : w.ownsRow B e 3 (.slice (some ⟨g, 0, none⟩) n c) n (cellsN xs)) (hk : k < xs.length) (i : Int) (s : ByteArray) (j : Int) :
    (((w.setCell ⟨g, k * 3, none⟩ (.int .i64 i)).setCell ⟨g, k * 3 + 1, none⟩ (.string s)).setCell ⟨g, k * 3 + 2, none⟩ (.int .i64 j)).ownsRow B e 3 (.slice (some ⟨g, 0, none⟩) n c) n (cellsN (xs.set k (i, s, j))) := by
  have h1 := (((h.stored (k * 3) (.int .i64 i)).1.stored (k * 3 + 1) (.string s)).1.stored (k * 3 + 2) (.int .i64 j)).1
  rwa [cellsN_set xs k i s j hk] at h1

set_option maxHeartbeats 400000 in
theorem toEntryS_any (a : Option Addr) (c n : Nat) (xs : List Ent) (w : World) (hm : n ≤ 1048576) (ha : AtE w a n xs) :
    Calls Tryz.prog 89 #[.slice a n c] w fun e w' => e = .returned (.slice (some ⟨w.heap.size, 0, none⟩) n n) ∧ w'.ownsRow w.heap.size 71 2 (.slice (some ⟨w.heap.size, 0, none⟩) n n) n (cellsE xs) ∧ Below w.heap.size w w' := by
  obtain ⟨i0, hi, hz0, hz1, hz2⟩ := info_parts Tryz.infoEnt
  have HL := Lib.hid ha.len
  have HA := Lib.hid ha
  clear ha
  go_enter Tryz.func89, Tryz.ntmps89
  go_wp2_with (refine wpList_make_full _ (by rfl) _ _ 25 (by rfl) w.heap.size 71 i0 (.agg #[.string { data := #[] }, .int .i64 0]) 2 Tryz.underlying25 hi hz0 hz1 .i64 .i64 _ _ n (by rfl) (by rfl) ?_ ?_ ?_ ?_ ?_ ?_; omega; omega; (rw [hz2]; omega); (unfold maxLen; omega); exact Nat.le_refl _; intro w1 hown1 hg1)
  have hb1 : Below w.heap.size w w1 := (Below.refl _ _).grown hg1 (Nat.le_refl _) (fun k hk => by cases hk)
  have hown2 : w1.ownsRow w.heap.size 71 2 (.slice (some ⟨w.heap.size, 0, none⟩) n n) n (cellsE (xs.take 0 ++ List.replicate (n - 0) (({ data := #[] } : ByteArray), (0 : Int)))) := by
    rw [show (Value.agg #[.string { data := #[] }, .int .i64 0]).cells = #[.string { data := #[] }, .int .i64 0] from rfl, made2, flatE_zero] at hown1
    simpa using hown1
  clear hown1
  go_loopw [4] (fun i wr => ∃ (k : Nat), k ≤ n ∧ i = .int .i64 k ∧ wr.ownsRow w.heap.size 71 2 (.slice (some ⟨w.heap.size, 0, none⟩) n n) n (cellsE (xs.take k ++ List.replicate (n - k) (({ data := #[] } : ByteArray), (0 : Int)))) ∧ Below w.heap.size w wr) (fun i _ => n - (intOf i).toNat)
  case atStart => exact ⟨0, Nat.zero_le _, rfl, hown2, hb1⟩
  case round =>
    obtain ⟨k, hk, rfl, hown, hb⟩ := hrel
    clear hown2
    by_cases hlt : k < n
    · obtain ⟨s, i, g, o, hx, rfl, hg, c1, c2⟩ := (HA.out.below hb).get hlt
      have HS := Lib.hid (fill_set xs (({ data := #[] } : ByteArray), (0 : Int)) (s, i) n k HL.out hlt hx)
      have hkl : k < (xs.take k ++ List.replicate (n - k) (({ data := #[] } : ByteArray), (0 : Int))).length := by have := HL.out; simp; omega
      have i0 : (0 : Int) ≤ (k : Int) := by omega
      have i1 : (k : Int) < (n : Int) := by omega
      clear hx
      go_wp2_with ((go_at_call 136; refine (toEntry_any s i _).mono ?_; rintro e w1 ⟨rfl, hb1⟩; have hown1 := own_below hown hb1; obtain ⟨u, hc1⟩ : ∃ u, w1.cell? ⟨w.heap.size, k * 2, none⟩ = some u := ⟨_, (hown1.cellAt (k * 2) (by omega)).trans (List.getElem?_eq_getElem (by rw [cellsE_len]; omega))⟩; obtain ⟨u2, hc2⟩ : ∃ u, w1.cell? ⟨w.heap.size, k * 2 + 1, none⟩ = some u := ⟨_, (hown1.cellAt (k * 2 + 1) (by omega)).trans (List.getElem?_eq_getElem (by rw [cellsE_len]; omega))⟩; have hf1 := hown1.frozenAt (k * 2); have hf2 := hown1.frozenAt (k * 2 + 1)))
      go_roundw
      case rel =>
        refine ⟨k + 1, by omega, by go_num, ?_, ((hb.trans (hb1.mono hb.size)).setCell (Nat.le_refl _) _).setCell (Nat.le_refl _) _⟩
        rw [← HS.out]
        exact own_set2 hown1 hkl s i
      case measure => simp [intOf]; omega
    · obtain rfl : k = n := by omega
      have hend : xs.take k ++ List.replicate (k - k) (({ data := #[] } : ByteArray), (0 : Int)) = xs := by
        rw [Nat.sub_self, List.take_of_length_le (by rw [HL.out]; exact Nat.le_refl _)]
        simp
      rw [hend] at hown
      clear hend
      go_wp2
      go_ret
      exact ⟨rfl, hown, hb⟩

set_option maxHeartbeats 400000 in
theorem toNodeS_any (a : Option Addr) (c n : Nat) (xs : List Nod) (w : World) (hm : n ≤ 1048576) (ha : AtN w a n xs) :
    Calls Tryz.prog 88 #[.slice a n c] w fun e w' => e = .returned (.slice (some ⟨w.heap.size, 0, none⟩) n n) ∧ w'.ownsRow w.heap.size 87 3 (.slice (some ⟨w.heap.size, 0, none⟩) n n) n (cellsN xs) ∧ Below w.heap.size w w' := by
  obtain ⟨i0, hi, hz0, hz1, hz2⟩ := info_parts Tryz.infoNod
  have HL := Lib.hid ha.len
  have HA := Lib.hid ha
  clear ha
  go_enter Tryz.func88, Tryz.ntmps88
  go_wp2_with (refine wpList_make_full _ (by rfl) _ _ 24 (by rfl) w.heap.size 87 i0 (.agg #[.int .i64 0, .string { data := #[] }, .int .i64 0]) 3 Tryz.underlying24 hi hz0 hz1 .i64 .i64 _ _ n (by rfl) (by rfl) ?_ ?_ ?_ ?_ ?_ ?_; omega; omega; (rw [hz2]; omega); (unfold maxLen; omega); exact Nat.le_refl _; intro w1 hown1 hg1)
  have hb1 : Below w.heap.size w w1 := (Below.refl _ _).grown hg1 (Nat.le_refl _) (fun k hk => by cases hk)
  have hown2 : w1.ownsRow w.heap.size 87 3 (.slice (some ⟨w.heap.size, 0, none⟩) n n) n (cellsN (xs.take 0 ++ List.replicate (n - 0) ((0 : Int), ({ data := #[] } : ByteArray), (0 : Int)))) := by
    rw [show (Value.agg #[.int .i64 0, .string { data := #[] }, .int .i64 0]).cells = #[.int .i64 0, .string { data := #[] }, .int .i64 0] from rfl, made3, flatN_zero] at hown1
    simpa using hown1
  clear hown1
  go_loopw [4] (fun i wr => ∃ (k : Nat), k ≤ n ∧ i = .int .i64 k ∧ wr.ownsRow w.heap.size 87 3 (.slice (some ⟨w.heap.size, 0, none⟩) n n) n (cellsN (xs.take k ++ List.replicate (n - k) ((0 : Int), ({ data := #[] } : ByteArray), (0 : Int)))) ∧ Below w.heap.size w wr) (fun i _ => n - (intOf i).toNat)
  case atStart => exact ⟨0, Nat.zero_le _, rfl, hown2, hb1⟩
  case round =>
    obtain ⟨k, hk, rfl, hown, hb⟩ := hrel
    clear hown2
    by_cases hlt : k < n
    · obtain ⟨i, s, j, g, o, hx, rfl, hg, c1, c2, c3⟩ := (HA.out.below hb).get hlt
      have HS := Lib.hid (fill_set xs ((0 : Int), ({ data := #[] } : ByteArray), (0 : Int)) (i, s, j) n k HL.out hlt hx)
      have hkl : k < (xs.take k ++ List.replicate (n - k) ((0 : Int), ({ data := #[] } : ByteArray), (0 : Int))).length := by have := HL.out; simp; omega
      have i0 : (0 : Int) ≤ (k : Int) := by omega
      have i1 : (k : Int) < (n : Int) := by omega
      clear hx
      go_wp2_with ((go_at_call 135; refine (toNode_any i s j _).mono ?_; rintro e w1 ⟨rfl, hb1⟩; have hown1 := own_below hown hb1; obtain ⟨u, hc1⟩ : ∃ u, w1.cell? ⟨w.heap.size, k * 3, none⟩ = some u := ⟨_, (hown1.cellAt (k * 3) (by omega)).trans (List.getElem?_eq_getElem (by rw [cellsN_len]; omega))⟩; obtain ⟨u2, hc2⟩ : ∃ u, w1.cell? ⟨w.heap.size, k * 3 + 1, none⟩ = some u := ⟨_, (hown1.cellAt (k * 3 + 1) (by omega)).trans (List.getElem?_eq_getElem (by rw [cellsN_len]; omega))⟩; obtain ⟨u3, hc3⟩ : ∃ u, w1.cell? ⟨w.heap.size, k * 3 + 2, none⟩ = some u := ⟨_, (hown1.cellAt (k * 3 + 2) (by omega)).trans (List.getElem?_eq_getElem (by rw [cellsN_len]; omega))⟩; have hf1 := hown1.frozenAt (k * 3); have hf3 := hown1.frozenAt (k * 3 + 2); have hf2 := hown1.frozenAt (k * 3 + 1)))
      go_roundw
      case rel =>
        refine ⟨k + 1, by omega, by go_num, ?_, (((hb.trans (hb1.mono hb.size)).setCell (Nat.le_refl _) _).setCell (Nat.le_refl _) _).setCell (Nat.le_refl _) _⟩
        rw [← HS.out]
        exact own_set3 hown1 hkl i s j
      case measure => simp [intOf]; omega
    · obtain rfl : k = n := by omega
      have hend : xs.take k ++ List.replicate (k - k) ((0 : Int), ({ data := #[] } : ByteArray), (0 : Int)) = xs := by
        rw [Nat.sub_self, List.take_of_length_le (by rw [HL.out]; exact Nat.le_refl _)]
        simp
      rw [hend] at hown
      clear hend
      go_wp2
      go_ret
      exact ⟨rfl, hown, hb⟩

end Go.Proofs.YtiehfobcbhgfkaaGreatDoor.recs

namespace Go.Proofs.YtiehfobcbhgfkaaGreatDoor.recs
set_option maxRecDepth 20000
open Go.RowKit
open kit strs

theorem szEntry_any (s : ByteArray) (i : Int) (m : Nat) (w : World) (hm : m ≤ 1048576) (hs : s.size ≤ 9223372036854775807) :
    Calls Tryz.prog 134 #[.agg #[.string s, .int .i64 i], .int .i64 m] w fun e w' => e = .returned (.int .i64 (if m < s.size then -1 else ((m - s.size : Nat) : Int))) ∧ Below w.heap.size w w' := by
  by_cases hb : m < s.size
  · rw [if_pos hb]
    have hw : IntKind.i64.wrap ((m : Int) - (s.size : Int)) = (m : Int) - (s.size : Int) := by rw [IntKind.wrap_i64]; omega
    have hneg : (m : Int) - (s.size : Int) < 0 := by omega
    go_enter Tryz.func134, Tryz.ntmps134
    go_wp2
    go_ret
    exact ⟨rfl, (Below.refl _ _).alloc (Nat.le_refl _) _⟩
  · rw [if_neg hb]
    have hw : IntKind.i64.wrap ((m : Int) - (s.size : Int)) = ((m - s.size : Nat) : Int) := by rw [IntKind.wrap_i64]; omega
    obtain ⟨m2, hm2⟩ : ∃ m2, m - s.size = m2 := ⟨_, rfl⟩
    rw [hm2] at hw ⊢
    clear hm2
    go_enter Tryz.func134, Tryz.ntmps134
    go_wp2
    go_ret
    exact ⟨rfl, (Below.refl _ _).alloc (Nat.le_refl _) _⟩
theorem szNode_any (i : Int) (s : ByteArray) (j : Int) (m : Nat) (w : World) (hm : m ≤ 1048576) (hs : s.size ≤ 9223372036854775807) :
    Calls Tryz.prog 133 #[.agg #[.int .i64 i, .string s, .int .i64 j], .int .i64 m] w fun e w' => e = .returned (.int .i64 (if m < s.size then -1 else ((m - s.size : Nat) : Int))) ∧ Below w.heap.size w w' := by
  by_cases hb : m < s.size
  · rw [if_pos hb]
    have hw : IntKind.i64.wrap ((m : Int) - (s.size : Int)) = (m : Int) - (s.size : Int) := by rw [IntKind.wrap_i64]; omega
    have hneg : (m : Int) - (s.size : Int) < 0 := by omega
    go_enter Tryz.func133, Tryz.ntmps133
    go_wp2
    go_ret
    exact ⟨rfl, (Below.refl _ _).alloc (Nat.le_refl _) _⟩
  · rw [if_neg hb]
    have hw : IntKind.i64.wrap ((m : Int) - (s.size : Int)) = ((m - s.size : Nat) : Int) := by rw [IntKind.wrap_i64]; omega
    obtain ⟨m2, hm2⟩ : ∃ m2, m - s.size = m2 := ⟨_, rfl⟩
    rw [hm2] at hw ⊢
    clear hm2
    go_enter Tryz.func133, Tryz.ntmps133
    go_wp2
    go_ret
    exact ⟨rfl, (Below.refl _ _).alloc (Nat.le_refl _) _⟩

set_option maxHeartbeats 400000 in
theorem szEntryS_any (a : Option Addr) (c n : Nat) (left : Nat) (xs : List Ent) (w : World) (hl : left ≤ 1048576) (hm : n ≤ 9223372036854775807) (ha : AtE w a n xs) (hs : ∀ e ∈ xs, e.1.size ≤ 9223372036854775807) :
    Calls Tryz.prog 86 #[.slice a n c, .int .i64 left] w fun e w' => e = .returned (.int .i64 (szI left (xs.map (·.1)))) ∧ Below w.heap.size w w' := by
  have HL := Lib.hid (show (xs.map (·.1)).length = n by rw [List.length_map]; exact ha.len)
  have HA := Lib.hid ha
  have HS := Lib.hid hs
  clear ha hs
  by_cases h0 : left < n
  · have HE := Lib.hid (show szI left (xs.map (·.1)) = -1 from if_neg (by rw [HL.out]; omega))
    go_enter Tryz.func86, Tryz.ntmps86
    go_wp2
    go_ret
    exact ⟨by rw [HE.out]; rfl, Below.refl _ _⟩
  · go_enter Tryz.func86, Tryz.ntmps86
    go_wp2
    go_loopw [1, 5] (fun l i wr => ∃ (k m : Nat), k ≤ n ∧ i = .int .i64 k ∧ l = .int .i64 m ∧ m + n + tot ((xs.map (·.1)).take k) = left ∧ Below w.heap.size w wr) (fun _ i _ => n - (intOf i).toNat)
    case atStart => exact ⟨0, left - n, Nat.zero_le _, rfl, by congr 1; omega, by simp [tot]; omega, Below.refl _ _⟩
    case round =>
      obtain ⟨k, m, hk, rfl, rfl, ht, hb⟩ := hrel
      by_cases hlt : k < n
      · obtain ⟨s, i, g, o, hx, rfl, hg, c1, c2⟩ := (HA.out.below hb).get hlt
        have hxk : (xs.map (·.1))[k]? = some s := by rw [List.getElem?_map, hx]; rfl
        have hxs := HS.out _ (List.mem_of_getElem? hx)
        have htx := tot_snoc (xs.map (·.1)) k s hxk
        have htl := tot_le (xs.map (·.1)) (k + 1)
        have hmm : m ≤ 1048576 := by omega
        have i0 : (0 : Int) ≤ (k : Int) := by omega
        have i1 : (k : Int) < (n : Int) := by omega
        by_cases hbb : m < s.size
        · have HE := Lib.hid (show szI left (xs.map (·.1)) = -1 from if_neg (by rw [HL.out]; omega))
          have HT := Lib.hid hbb
          clear hx hxk htx htl ht
          go_wp2_with ((go_at_call 134; refine (szEntry_any s i m _ hmm hxs).mono ?_; rw [if_pos HT.out]; rintro e w1 ⟨rfl, hb1⟩))
          go_ret
          exact ⟨by rw [HE.out]; rfl, hb.trans (hb1.mono hb.size)⟩
        · obtain ⟨m2, hm2⟩ : ∃ m2, m - s.size = m2 := ⟨_, rfl⟩
          have HT := Lib.hid (show m2 + n + tot ((xs.map (·.1)).take (k + 1)) = left by omega)
          have HN := Lib.hid hbb
          have HM := Lib.hid hm2
          clear hm2 hx hxk htx htl ht hbb
          go_wp2_with ((go_at_call 134; refine (szEntry_any s i m _ hmm hxs).mono ?_; rw [if_neg HN.out, HM.out]; rintro e w1 ⟨rfl, hb1⟩))
          go_roundw
          case rel => exact ⟨k + 1, m2, by omega, by go_num, rfl, HT.out, hb.trans (hb1.mono hb.size)⟩
          case measure => simp [intOf]; omega
      · obtain rfl : k = n := by omega
        have HE := Lib.hid (show szI left (xs.map (·.1)) = (m : Int) by
          rw [List.take_of_length_le (by rw [HL.out]; exact Nat.le_refl _)] at ht
          unfold szI
          rw [if_pos (by rw [HL.out]; omega), HL.out]
          omega)
        clear ht
        go_wp2
        go_ret
        exact ⟨by rw [HE.out]; rfl, hb⟩

set_option maxHeartbeats 400000 in
theorem szNodeS_any (a : Option Addr) (c n : Nat) (left : Nat) (xs : List Nod) (w : World) (hl : left ≤ 1048576) (hm : n ≤ 9223372036854775807) (ha : AtN w a n xs) (hs : ∀ e ∈ xs, e.2.1.size ≤ 9223372036854775807) :
    Calls Tryz.prog 85 #[.slice a n c, .int .i64 left] w fun e w' => e = .returned (.int .i64 (szI left (xs.map (·.2.1)))) ∧ Below w.heap.size w w' := by
  have HL := Lib.hid (show (xs.map (·.2.1)).length = n by rw [List.length_map]; exact ha.len)
  have HA := Lib.hid ha
  have HS := Lib.hid hs
  clear ha hs
  by_cases h0 : left < n
  · have HE := Lib.hid (show szI left (xs.map (·.2.1)) = -1 from if_neg (by rw [HL.out]; omega))
    go_enter Tryz.func85, Tryz.ntmps85
    go_wp2
    go_ret
    exact ⟨by rw [HE.out]; rfl, Below.refl _ _⟩
  · go_enter Tryz.func85, Tryz.ntmps85
    go_wp2
    go_loopw [1, 5] (fun l i wr => ∃ (k m : Nat), k ≤ n ∧ i = .int .i64 k ∧ l = .int .i64 m ∧ m + n + tot ((xs.map (·.2.1)).take k) = left ∧ Below w.heap.size w wr) (fun _ i _ => n - (intOf i).toNat)
    case atStart => exact ⟨0, left - n, Nat.zero_le _, rfl, by congr 1; omega, by simp [tot]; omega, Below.refl _ _⟩
    case round =>
      obtain ⟨k, m, hk, rfl, rfl, ht, hb⟩ := hrel
      by_cases hlt : k < n
      · obtain ⟨z, s, z', g, o, hx, rfl, hg, c1, c2, c3⟩ := (HA.out.below hb).get hlt
        have hxk : (xs.map (·.2.1))[k]? = some s := by rw [List.getElem?_map, hx]; rfl
        have hxs := HS.out _ (List.mem_of_getElem? hx)
        have htx := tot_snoc (xs.map (·.2.1)) k s hxk
        have htl := tot_le (xs.map (·.2.1)) (k + 1)
        have hmm : m ≤ 1048576 := by omega
        have i0 : (0 : Int) ≤ (k : Int) := by omega
        have i1 : (k : Int) < (n : Int) := by omega
        by_cases hbb : m < s.size
        · have HE := Lib.hid (show szI left (xs.map (·.2.1)) = -1 from if_neg (by rw [HL.out]; omega))
          have HT := Lib.hid hbb
          clear hx hxk htx htl ht
          go_wp2_with ((go_at_call 133; refine (szNode_any z s z' m _ hmm hxs).mono ?_; rw [if_pos HT.out]; rintro e w1 ⟨rfl, hb1⟩))
          go_ret
          exact ⟨by rw [HE.out]; rfl, hb.trans (hb1.mono hb.size)⟩
        · obtain ⟨m2, hm2⟩ : ∃ m2, m - s.size = m2 := ⟨_, rfl⟩
          have HT := Lib.hid (show m2 + n + tot ((xs.map (·.2.1)).take (k + 1)) = left by omega)
          have HN := Lib.hid hbb
          have HM := Lib.hid hm2
          clear hm2 hx hxk htx htl ht hbb
          go_wp2_with ((go_at_call 133; refine (szNode_any z s z' m _ hmm hxs).mono ?_; rw [if_neg HN.out, HM.out]; rintro e w1 ⟨rfl, hb1⟩))
          go_roundw
          case rel => exact ⟨k + 1, m2, by omega, by go_num, rfl, HT.out, hb.trans (hb1.mono hb.size)⟩
          case measure => simp [intOf]; omega
      · obtain rfl : k = n := by omega
        have HE := Lib.hid (show szI left (xs.map (·.2.1)) = (m : Int) by
          rw [List.take_of_length_le (by rw [HL.out]; exact Nat.le_refl _)] at ht
          unfold szI
          rw [if_pos (by rw [HL.out]; omega), HL.out]
          omega)
        clear ht
        go_wp2
        go_ret
        exact ⟨by rw [HE.out]; rfl, hb⟩

def marksE (k n : Nat) : List Ent := (List.range n).map fun i => (markB (k + 2 * i), ((k + 2 * i + 1 : Nat) : Int))
def marksN (k n : Nat) : List Nod := (List.range n).map fun i => (((k + 3 * i : Nat) : Int), markB (k + 3 * i + 1), ((k + 3 * i + 2 : Nat) : Int))
theorem marksE_len (k n : Nat) : (marksE k n).length = n := by simp [marksE]
theorem marksN_len (k n : Nat) : (marksN k n).length = n := by simp [marksN]
theorem part_set {α : Type} (ms ms' xs : List α) (x : α) (n j : Nat) (hm : ms.length = j) (hm' : ms' = ms ++ [x]) (hl : xs.length = n) (h : j < n) : (ms ++ xs.drop j).set j x = ms' ++ xs.drop (j + 1) := by
  subst hm'
  rw [List.set_append_right _ _ (by omega), hm, Nat.sub_self, List.drop_eq_getElem_cons (by omega), List.set_cons_zero]
  simp
theorem marksE_snoc (k j : Nat) : marksE k (j + 1) = marksE k j ++ [(markB (k + 2 * j), ((k + 2 * j + 1 : Nat) : Int))] := by simp [marksE, List.range_succ]
theorem marksN_snoc (k j : Nat) : marksN k (j + 1) = marksN k j ++ [(((k + 3 * j : Nat) : Int), markB (k + 3 * j + 1), ((k + 3 * j + 2 : Nat) : Int))] := by simp [marksN, List.range_succ]

set_option maxHeartbeats 400000 in
theorem markEntryS_some (B g c n k : Nat) (xs : List Ent) (w : World) (hk0 : 0 < k) (hk1 : k + 2 * n ≤ 1000000000) (hl : xs.length = n) (hg : g < w.heap.size)
    (hv : w.ownsRow B 71 2 (.slice (some ⟨g, 0, none⟩) n c) n (cellsE xs)) :
    Calls Tryz.prog 94 #[.slice (some ⟨g, 0, none⟩) n c, .int .i64 k] w fun e w' => e = .returned (.int .i64 ((k + 2 * n : Nat) : Int)) ∧
      w'.ownsRow B 71 2 (.slice (some ⟨g, 0, none⟩) n c) n (cellsE (marksE k n)) ∧ w.grownBy w' (some g) := by
  have HL := Lib.hid hl
  clear hl
  go_enter Tryz.func94, Tryz.ntmps94
  go_wp2
  go_loopw [1, 5] (fun x i wr => ∃ j : Nat, j ≤ n ∧ x = .int .i64 ((k + 2 * j : Nat) : Int) ∧ i = .int .i64 j ∧ wr.ownsRow B 71 2 (.slice (some ⟨g, 0, none⟩) n c) n (cellsE (marksE k j ++ xs.drop j)) ∧ w.grownBy wr (some g)) (fun _ i _ => n - (intOf i).toNat)
  case atStart => exact ⟨0, Nat.zero_le _, rfl, rfl, by simpa [marksE] using hv, grown_refl _ _⟩
  case round =>
    obtain ⟨j, hj, rfl, rfl, hown, hgw⟩ := hrel
    by_cases hlt : j < n
    · have hjl : j < (marksE k j ++ xs.drop j).length := by have := HL.out; simp [marksE_len]; omega
      have hgr : g < wr.heap.size := Nat.lt_of_lt_of_le hg hgw.size
      have HP := Lib.hid (part_set (marksE k j) _ xs _ n j (marksE_len k j) (marksE_snoc k j) HL.out hlt)
      obtain ⟨q, hq⟩ : ∃ q, q = k + 2 * j := ⟨_, rfl⟩
      have q0 : 0 < q := by omega
      have q1 : q ≤ 1000000000 := by omega
      have HQ := Lib.hid hq
      rw [← hq]
      clear hq
      go_wp2_with (go_at_call 95; refine (markText_any q _ q0 q1).mono ?_; rintro e w1 ⟨rfl, hb1⟩; have hown1 := own_below hown hb1; obtain ⟨u, hc1⟩ : ∃ u, w1.cell? ⟨g, j * 2, none⟩ = some u := ⟨_, (hown1.cellAt (j * 2) (by omega)).trans (List.getElem?_eq_getElem (by rw [cellsE_len]; omega))⟩; obtain ⟨u2, hc2⟩ : ∃ u, w1.cell? ⟨g, j * 2 + 1, none⟩ = some u := ⟨_, (hown1.cellAt (j * 2 + 1) (by omega)).trans (List.getElem?_eq_getElem (by rw [cellsE_len]; omega))⟩; have hf1 := hown1.frozenAt (j * 2); have hf2 := hown1.frozenAt (j * 2 + 1))
      have hst := own_set2 hown1 hjl (markB q) ((q + 1 : Nat) : Int)
      have hs1 := hown1.stored (j * 2) (.string (markB q))
      have hs2 := hs1.1.stored (j * 2 + 1) (.int .i64 ((q + 1 : Nat) : Int))
      go_roundw
      case rel =>
        refine ⟨j + 1, by omega, by rw [show k + 2 * (j + 1) = q + 1 + 1 by have := HQ.out; omega]; go_num, by go_num, ?_, grown_trans (grown_trans (grown_trans hgw (grown_of_below hb1)) hs1.2) hs2.2⟩
        rw [← HP.out, ← HQ.out]
        exact hst
      case measure => simp [intOf]; omega
    · obtain rfl : j = n := by omega
      have hend : marksE k j ++ xs.drop j = marksE k j := by rw [List.drop_of_length_le (by rw [HL.out]; exact Nat.le_refl _), List.append_nil]
      rw [hend] at hown
      clear hend
      go_wp2
      go_ret
      exact ⟨rfl, hown, hgw⟩

set_option maxHeartbeats 400000 in
theorem markNodeS_some (B g c n k : Nat) (xs : List Nod) (w : World) (hk0 : 0 < k) (hk1 : k + 3 * n ≤ 1000000000) (hl : xs.length = n) (hg : g < w.heap.size)
    (hv : w.ownsRow B 87 3 (.slice (some ⟨g, 0, none⟩) n c) n (cellsN xs)) :
    Calls Tryz.prog 93 #[.slice (some ⟨g, 0, none⟩) n c, .int .i64 k] w fun e w' => e = .returned (.int .i64 ((k + 3 * n : Nat) : Int)) ∧
      w'.ownsRow B 87 3 (.slice (some ⟨g, 0, none⟩) n c) n (cellsN (marksN k n)) ∧ w.grownBy w' (some g) := by
  have HL := Lib.hid hl
  clear hl
  go_enter Tryz.func93, Tryz.ntmps93
  go_wp2
  go_loopw [1, 5] (fun x i wr => ∃ j : Nat, j ≤ n ∧ x = .int .i64 ((k + 3 * j : Nat) : Int) ∧ i = .int .i64 j ∧ wr.ownsRow B 87 3 (.slice (some ⟨g, 0, none⟩) n c) n (cellsN (marksN k j ++ xs.drop j)) ∧ w.grownBy wr (some g)) (fun _ i _ => n - (intOf i).toNat)
  case atStart => exact ⟨0, Nat.zero_le _, rfl, rfl, by simpa [marksN] using hv, grown_refl _ _⟩
  case round =>
    obtain ⟨j, hj, rfl, rfl, hown, hgw⟩ := hrel
    by_cases hlt : j < n
    · have hjl : j < (marksN k j ++ xs.drop j).length := by have := HL.out; simp [marksN_len]; omega
      have hgr : g < wr.heap.size := Nat.lt_of_lt_of_le hg hgw.size
      have HP := Lib.hid (part_set (marksN k j) _ xs _ n j (marksN_len k j) (marksN_snoc k j) HL.out hlt)
      obtain ⟨q, hq⟩ : ∃ q, q = k + 3 * j := ⟨_, rfl⟩
      have q0 : 0 < q := by omega
      have q1 : q + 1 ≤ 1000000000 := by omega
      have HQ := Lib.hid hq
      rw [← hq]
      clear hq
      have hs0 := hown.stored (j * 3) (.int .i64 ((q : Nat) : Int))
      obtain ⟨u, hc1⟩ : ∃ u, wr.cell? ⟨g, j * 3, none⟩ = some u := ⟨_, (hown.cellAt (j * 3) (by omega)).trans (List.getElem?_eq_getElem (by rw [cellsN_len]; omega))⟩
      have hf1 := hown.frozenAt (j * 3)
      go_wp2_with (go_at_call 95; refine (markText_any (q + 1) _ (by omega) q1).mono ?_; rintro e w1 ⟨rfl, hb1⟩; have hown1 := own_below hs0.1 hb1; obtain ⟨u2, hc2⟩ : ∃ u, w1.cell? ⟨g, j * 3 + 1, none⟩ = some u := ⟨_, (hown1.cellAt (j * 3 + 1) (by omega)).trans (List.getElem?_eq_getElem (by rw [List.length_set, cellsN_len]; omega))⟩; obtain ⟨u3, hc3⟩ : ∃ u, w1.cell? ⟨g, j * 3 + 2, none⟩ = some u := ⟨_, (hown1.cellAt (j * 3 + 2) (by omega)).trans (List.getElem?_eq_getElem (by rw [List.length_set, cellsN_len]; omega))⟩; have hf3 := hown1.frozenAt (j * 3 + 2); have hf2 := hown1.frozenAt (j * 3 + 1))
      have hs1 := hown1.stored (j * 3 + 1) (.string (markB (q + 1)))
      have hs2 := hs1.1.stored (j * 3 + 2) (.int .i64 ((q + 2 : Nat) : Int))
      go_roundw
      case rel =>
        refine ⟨j + 1, by omega, by rw [show k + 3 * (j + 1) = q + 1 + 1 + 1 by have := HQ.out; omega]; go_num, by go_num, ?_, grown_trans (grown_trans (grown_trans (grown_trans hgw hs0.2) (grown_of_below hb1)) hs1.2) hs2.2⟩
        rw [← HP.out, ← cellsN_set _ _ _ _ _ hjl, ← HQ.out]
        exact hs2.1
      case measure => simp [intOf]; omega
    · obtain rfl : j = n := by omega
      have hend : marksN k j ++ xs.drop j = marksN k j := by rw [List.drop_of_length_le (by rw [HL.out]; exact Nat.le_refl _), List.append_nil]
      rw [hend] at hown
      clear hend
      go_wp2
      go_ret
      exact ⟨rfl, hown, hgw⟩

end Go.Proofs.YtiehfobcbhgfkaaGreatDoor.recs

namespace Go.Proofs.YtiehfobcbhgfkaaGreatDoor.recs
set_option maxRecDepth 20000
open Go.ChangeShapes Go.WideShapes Go.RowKit Go.Deep
open kit strs

section
variable {H : Type} {enc : TypeId × Value → H} {P : Program} {w : World} {spare : Nat → Bool} {held : Bool}

/-- the cells of a slice of structs, element by element -/
theorem open_cells {t e : TypeId} {size fuel : Nat} {cs : List Value} {x : DataW H × List MemPlace} (ht : P.underlying t = some (.slice e)) (hc : P.cellsOf e = size) (hs : 0 < size) (h : DataW.trod enc P w 0 spare held fuel t cs = some x) :
    ∃ (a : Option Addr) (len cap n : Nat) (C : Nat → List Value), cs = [.slice a len cap] ∧ len ≤ maxLen ∧ (len = 0 ∨ ∃ b off, a = some ⟨b, off, none⟩ ∧ b < w.heap.size ∧ ∀ i, i < len → ∀ j y, (C i)[j]? = some y → w.cell? ⟨b, off + (i * size + j), none⟩ = some y) ∧
      ∀ i, i < len → (C i).length = size ∧ ∃ z, DataW.trod enc P w 0 spare held n e (C i) = some z := by
  rcases open_slice ht h with ⟨rfl, _⟩ | ⟨a, len, cap, m, n, D, Pl, rfl, _, hl, hm, hmm, _, hi⟩
  · exact ⟨none, 0, 0, 0, fun _ => [], rfl, by decide, .inl rfl, fun i hi => absurd hi (Nat.not_lt_zero _)⟩
  · have hle : len ≤ m := by rw [hmm]; split <;> omega
    have hex : ∀ i, i < len → ∃ c : List Value, c.length = size ∧ (∀ j y, c[j]? = some y → w.cell? ((a.add (i * size)).add j) = some y) ∧ ∃ z, DataW.trod enc P w 0 spare held n e c = some z := by
      intro i hil
      obtain ⟨c, hcs, htr⟩ := hi i (by omega)
      rw [hc] at hcs
      obtain ⟨_, hlen, hat⟩ := World.cells?_some hcs
      exact ⟨c, hlen, fun j y hj => (hat j (by rw [← hlen]; exact (List.getElem?_eq_some_iff.1 hj).1)).trans hj, _, htr⟩
    obtain ⟨C, hC⟩ := choose_lt hex
    refine ⟨some a, len, cap, n, C, rfl, by omega, ?_, fun i hi => ⟨(hC i hi).1, (hC i hi).2.2⟩⟩
    by_cases h0 : len = 0
    · exact .inl h0
    obtain ⟨b, off, spot⟩ := a
    have hy0 : (C 0)[0]? = some ((C 0)[0]'(by have := (hC 0 (by omega)).1; omega)) := List.getElem?_eq_getElem _
    have hcell := (hC 0 (by omega)).2.1 0 _ hy0
    have hspot : spot = none := by simpa [Addr.add] using World.cell?_spot hcell
    subst hspot
    have e1 : ∀ k j, ((⟨b, off, none⟩ : Addr).add k).add j = ⟨b, off + (k + j), none⟩ := fun k j => by rw [Go.WideShapes.add_plain, Go.WideShapes.add_plain, Nat.add_assoc]
    rw [e1] at hcell
    exact .inr ⟨b, off, rfl, World.block_lt_of_cell? w _ hcell, fun i hi j y hj => by rw [← e1]; exact (hC i hi).2.1 j y hj⟩

theorem cellsE_inv : ∀ (xs : List Ent) (j : Nat) (x : Value), (cellsE xs)[j]? = some x → ∃ e, xs[j / 2]? = some e ∧ ([.string e.1, .int .i64 e.2] : List Value)[j % 2]? = some x
  | [], j, x, h => by simp [cellsE] at h
  | e :: r, 0, x, h => ⟨e, rfl, by rw [cellsE_cons] at h; simpa using h⟩
  | e :: r, 1, x, h => ⟨e, rfl, by rw [cellsE_cons] at h; simpa using h⟩
  | e :: r, j + 2, x, h => by
    rw [cellsE_cons] at h
    obtain ⟨e', h1, h2⟩ := cellsE_inv r j x (by simpa using h)
    exact ⟨e', by rw [show (j + 2) / 2 = j / 2 + 1 by omega]; simpa using h1, by rw [show (j + 2) % 2 = j % 2 by omega]; exact h2⟩
theorem cellsN_inv : ∀ (xs : List Nod) (j : Nat) (x : Value), (cellsN xs)[j]? = some x → ∃ e, xs[j / 3]? = some e ∧ ([.int .i64 e.1, .string e.2.1, .int .i64 e.2.2] : List Value)[j % 3]? = some x
  | [], j, x, h => by simp [cellsN] at h
  | e :: r, 0, x, h => ⟨e, rfl, by rw [cellsN_cons] at h; simpa using h⟩
  | e :: r, 1, x, h => ⟨e, rfl, by rw [cellsN_cons] at h; simpa using h⟩
  | e :: r, 2, x, h => ⟨e, rfl, by rw [cellsN_cons] at h; simpa using h⟩
  | e :: r, j + 3, x, h => by
    rw [cellsN_cons] at h
    obtain ⟨e', h1, h2⟩ := cellsN_inv r j x (by simpa using h)
    exact ⟨e', by rw [show (j + 3) / 3 = j / 3 + 1 by omega]; simpa using h1, by rw [show (j + 3) % 3 = j % 3 by omega]; exact h2⟩

theorem wfI_of {x : Int} (h : (Lit.int .i64 x).wf = true) : wfI x := by
  have i1 : IntKind.i64.min = -9223372036854775808 := rfl
  have i2 : IntKind.i64.max = 9223372036854775807 := rfl
  unfold wfI
  simpa [Lit.wf, i1, i2] using h
theorem rd_E {t e : TypeId} {f0 f1 : Field} {fuel : Nat} {cs : List Value} {x : DataW H × List MemPlace} (ht : P.underlying t = some (.slice e)) (he : P.underlying e = some (.struct #[f0, f1])) (hc : P.cellsOf e = 2) (o0 : f0.offset = 0) (o1 : f1.offset = 1)
    (c0 : P.cellsOf f0.type = 1) (c1 : P.cellsOf f1.type = 1) (u0 : P.underlying f0.type = some .string) (u1 : P.underlying f1.type = some (.int .i64))
    (h : DataW.trod enc P w 0 spare held fuel t cs = some x) : ∃ a n c xs, cs = [.slice a n c] ∧ n ≤ maxLen ∧ AtE w a n xs ∧ wfE xs := by
  obtain ⟨a, len, cap, m, C, rfl, hm, hcell, hC⟩ := open_cells ht hc (by decide) h
  have hex : ∀ i, i < len → ∃ y : Ent, C i = [.string y.1, .int .i64 y.2] ∧ y.1.size ≤ maxLen ∧ wfI y.2 := by
    intro i hi
    obtain ⟨hl, z, hz⟩ := hC i hi
    obtain ⟨y0, y1, n, _, _, g0, g1⟩ := trod_struct2 he hz
    rw [o0, c0] at g0
    rw [o1, c1] at g1
    obtain ⟨s, e0, _, w0⟩ := DataW.trod_string u0 g0
    obtain ⟨b, e1, _, w1⟩ := DataW.trod_int u1 g1
    match hCi : C i, hl with
    | [p, q], _ =>
      rw [hCi] at e0 e1
      simp at e0 e1
      subst e0 e1
      exact ⟨(s, b), rfl, w0, wfI_of w1⟩
  obtain ⟨f, hf⟩ := choose_lt hex
  refine ⟨a, len, cap, (List.range len).map f, rfl, hm, ⟨by rw [cellsE_len]; simp, ?_⟩, ?_⟩
  · refine hcell.imp id fun ⟨b, off, h1, h2, h3⟩ => ⟨b, off, h1, h2, fun j y hj => ?_⟩
    obtain ⟨en, hen, hy⟩ := cellsE_inv _ _ _ hj
    have hk : j / 2 < len := by have := (List.getElem?_eq_some_iff.1 hen).1; simpa using this
    have e2 : f (j / 2) = en := by rw [List.getElem?_map, List.getElem?_range hk] at hen; simpa using hen
    have := h3 (j / 2) hk (j % 2) y (by rw [(hf (j / 2) hk).1, e2]; exact hy)
    rwa [show j / 2 * 2 + j % 2 = j by omega] at this
  · intro en hen
    obtain ⟨i, hi, rfl⟩ := List.mem_map.1 hen
    exact (hf i (by simpa using hi)).2
theorem rd_N {t e : TypeId} {f0 f1 f2 : Field} {fuel : Nat} {cs : List Value} {x : DataW H × List MemPlace} (ht : P.underlying t = some (.slice e)) (he : P.underlying e = some (.struct #[f0, f1, f2])) (hc : P.cellsOf e = 3) (o0 : f0.offset = 0) (o1 : f1.offset = 1) (o2 : f2.offset = 2)
    (c0 : P.cellsOf f0.type = 1) (c1 : P.cellsOf f1.type = 1) (c2 : P.cellsOf f2.type = 1) (u0 : P.underlying f0.type = some (.int .i64)) (u1 : P.underlying f1.type = some .string) (u2 : P.underlying f2.type = some (.int .i64))
    (h : DataW.trod enc P w 0 spare held fuel t cs = some x) : ∃ a n c xs, cs = [.slice a n c] ∧ n ≤ maxLen ∧ AtN w a n xs ∧ wfN xs := by
  obtain ⟨a, len, cap, m, C, rfl, hm, hcell, hC⟩ := open_cells ht hc (by decide) h
  have hex : ∀ i, i < len → ∃ y : Nod, C i = [.int .i64 y.1, .string y.2.1, .int .i64 y.2.2] ∧ wfI y.1 ∧ y.2.1.size ≤ maxLen ∧ wfI y.2.2 := by
    intro i hi
    obtain ⟨hl, z, hz⟩ := hC i hi
    obtain ⟨y0, y1, y2, n, _, _, g0, g1, g2⟩ := trod_struct3 he hz
    rw [o0, c0] at g0
    rw [o1, c1] at g1
    rw [o2, c2] at g2
    obtain ⟨a0, e0, _, w0⟩ := DataW.trod_int u0 g0
    obtain ⟨s, e1, _, w1⟩ := DataW.trod_string u1 g1
    obtain ⟨b, e2, _, w2⟩ := DataW.trod_int u2 g2
    match hCi : C i, hl with
    | [p, q, r], _ =>
      rw [hCi] at e0 e1 e2
      simp at e0 e1 e2
      subst e0 e1 e2
      exact ⟨(a0, s, b), rfl, wfI_of w0, w1, wfI_of w2⟩
  obtain ⟨f, hf⟩ := choose_lt hex
  refine ⟨a, len, cap, (List.range len).map f, rfl, hm, ⟨by rw [cellsN_len]; simp, ?_⟩, ?_⟩
  · refine hcell.imp id fun ⟨b, off, h1, h2, h3⟩ => ⟨b, off, h1, h2, fun j y hj => ?_⟩
    obtain ⟨en, hen, hy⟩ := cellsN_inv _ _ _ hj
    have hk : j / 3 < len := by have := (List.getElem?_eq_some_iff.1 hen).1; simpa using this
    have e2 : f (j / 3) = en := by rw [List.getElem?_map, List.getElem?_range hk] at hen; simpa using hen
    have := h3 (j / 3) hk (j % 3) y (by rw [(hf (j / 3) hk).1, e2]; exact hy)
    rwa [show j / 3 * 3 + j % 3 = j by omega] at this
  · intro en hen
    obtain ⟨i, hi, rfl⟩ := List.mem_map.1 hen
    exact (hf i (by simpa using hi)).2
theorem rd_S {t e : TypeId} {fuel : Nat} {cs : List Value} {x : DataW H × List MemPlace} (ht : P.underlying t = some (.slice e)) (he : P.underlying e = some .string) (hc : P.cellsOf e = 1)
    (h : DataW.trod enc P w 0 spare held fuel t cs = some x) : ∃ a n c xs, cs = [.slice a n c] ∧ n ≤ maxLen ∧ At w a n xs ∧ ∀ s ∈ xs, s.size ≤ maxLen := by
  obtain ⟨a, len, cap, m, C, rfl, hm, hcell, hC⟩ := open_cells ht hc (by decide) h
  have hex : ∀ i, i < len → ∃ y : ByteArray, C i = [.string y] ∧ y.size ≤ maxLen := by
    intro i hi
    obtain ⟨hl, z, hz⟩ := hC i hi
    obtain ⟨s, e0, _, w0⟩ := DataW.trod_string he hz
    exact ⟨s, e0, w0⟩
  obtain ⟨f, hf⟩ := choose_lt (α := ByteArray) (hex)
  refine ⟨a, len, cap, (List.range len).map f, rfl, hm, ⟨by simp, ?_⟩, ?_⟩
  · refine hcell.imp id fun ⟨b, off, h1, h2, h3⟩ => ⟨b, off, h1, h2, fun j y hj => ?_⟩
    have hk : j < len := by have := (List.getElem?_eq_some_iff.1 hj).1; simpa using this
    have e2 : f j = y := by rw [List.getElem?_map, List.getElem?_range hk] at hj; simpa using hj
    have := h3 j hk 0 (.string y) (by rw [(hf j hk).1, e2]; rfl)
    simpa using this
  · intro en hen
    obtain ⟨i, hi, rfl⟩ := List.mem_map.1 hen
    exact (hf i (by simpa using hi)).2
end

end Go.Proofs.YtiehfobcbhgfkaaGreatDoor.recs

namespace Go.Proofs.YtiehfobcbhgfkaaGreatDoor.disk
set_option maxRecDepth 20000
open Go.ChangeShapes Go.WideShapes Go.RowKit Go.Deep
open kit strs recs

section
variable {H : Type} {enc : TypeId × Value → H} {w : World} {spare : Nat → Bool} {held : Bool}
theorem field1 {P : Program} {fs : Array Field} {n : Nat} {cs : List Value} {xs : List (DataW H × List MemPlace)} (hg : ∀ (i : Nat) (f : Field), fs[i]? = some f → DataW.trod enc P w 0 spare held n f.type ((cs.drop f.offset).take (P.cellsOf f.type)) = xs[i]?)
    (i : Nat) (f : Field) (hf : fs[i]? = some f) (ho : f.offset = i) (hc : P.cellsOf f.type = 1) (c : Value) (hcs : cs[i]? = some c) : DataW.trod enc P w 0 spare held n f.type [c] = xs[i]? := by
  have h := hg i f hf
  obtain ⟨h1, h2⟩ := List.getElem?_eq_some_iff.1 hcs
  rw [ho, hc, List.drop_eq_getElem_cons h1, h2] at h
  exact h
set_option maxRecDepth 1000000 in
theorem rd_D {r : Reach} {b0 : Nat} {v : Value} {d : DataW H} {p : List MemPlace} (hv : Value.okWide Tryz.prog w r b0 52 v) (h : DataW.Trod enc Tryz.prog w 0 spare held 52 v d p) :
    ∃ x : D, IsDisk w v x ∧ wfD x := by
  obtain ⟨cs, rfl, hsz⟩ := okWide_struct Tryz.underlying52 hv
  have h6 : Tryz.prog.cellsOf 52 = 6 := by kernel_rfl
  rw [h6] at hsz
  obtain ⟨l⟩ := cs
  match l, hsz with
  | [c0, c1, c2, c3, c4, c5], _ =>
    obtain ⟨fuel, hf⟩ := h
    obtain ⟨xs, n, _, _, _, hlen, hg⟩ := DataW.trod_struct Tryz.underlying52 hf
    match xs, hlen with
    | [y0, y1, y2, y3, y4, y5], _ =>
      have e0 : Tryz.prog.cellsOf 49 = 1 := by kernel_rfl
      have e1 : Tryz.prog.cellsOf 50 = 1 := by kernel_rfl
      have e2 : Tryz.prog.cellsOf 26 = 1 := by kernel_rfl
      have e3 : Tryz.prog.cellsOf 3 = 1 := by kernel_rfl
      have g0 : DataW.trod enc Tryz.prog w 0 spare held n 49 [c0] = some y0 := field1 hg 0 _ rfl rfl e0 c0 rfl
      have g1 : DataW.trod enc Tryz.prog w 0 spare held n 50 [c1] = some y1 := field1 hg 1 _ rfl rfl e1 c1 rfl
      have g2 : DataW.trod enc Tryz.prog w 0 spare held n 50 [c2] = some y2 := field1 hg 2 _ rfl rfl e1 c2 rfl
      have g3 : DataW.trod enc Tryz.prog w 0 spare held n 26 [c3] = some y3 := field1 hg 3 _ rfl rfl e2 c3 rfl
      have g4 : DataW.trod enc Tryz.prog w 0 spare held n 3 [c4] = some y4 := field1 hg 4 _ rfl rfl e3 c4 rfl
      have g5 : DataW.trod enc Tryz.prog w 0 spare held n 3 [c5] = some y5 := field1 hg 5 _ rfl rfl e3 c5 rfl
      obtain ⟨aN, nN, cN, zN, rfl_N, mN, hN, wN⟩ := rd_N (P := Tryz.prog) Tryz.underlying49 Tryz.underlying135 (by kernel_rfl) rfl rfl rfl (by kernel_rfl) (by kernel_rfl) (by kernel_rfl) (by kernel_rfl) (by kernel_rfl) (by kernel_rfl) g0
      obtain ⟨aE, nE, cE, zE, rfl_E, mE, hE, wE⟩ := rd_E (P := Tryz.prog) Tryz.underlying50 Tryz.underlying137 (by kernel_rfl) rfl rfl (by kernel_rfl) (by kernel_rfl) (by kernel_rfl) (by kernel_rfl) g1
      obtain ⟨aO, nO, cO, zO, rfl_O, mO, hO, wO⟩ := rd_E (P := Tryz.prog) Tryz.underlying50 Tryz.underlying137 (by kernel_rfl) rfl rfl (by kernel_rfl) (by kernel_rfl) (by kernel_rfl) (by kernel_rfl) g2
      obtain ⟨aS, nS, cS, zS, rfl_S, mS, hS, wS⟩ := rd_S (P := Tryz.prog) Tryz.underlying26 Tryz.underlying9 (by kernel_rfl) g3
      obtain ⟨r0, e4, _, w4⟩ := DataW.trod_int Tryz.underlying3 g4
      obtain ⟨r1, e5, _, w5⟩ := DataW.trod_int Tryz.underlying3 g5
      simp only [List.cons.injEq, and_true] at rfl_N rfl_E rfl_O rfl_S e4 e5
      subst rfl_N rfl_E rfl_O rfl_S e4 e5
      refine ⟨⟨zN, zE, zO, zS, r0, r1⟩, ⟨aN, aE, aO, aS, nN, cN, nE, cE, nO, cO, nS, cS, rfl, hN, hE, hO, hS⟩, wN, wE, wO, wS, wfI_of w4, wfI_of w5, ?_, ?_, ?_, ?_⟩
      · show zN.length ≤ maxLen; rw [hN.len]; exact mN
      · show zE.length ≤ maxLen; rw [hE.len]; exact mE
      · show zO.length ≤ maxLen; rw [hO.len]; exact mO
      · show zS.length ≤ maxLen; rw [hS.1]; exact mS
end

end Go.Proofs.YtiehfobcbhgfkaaGreatDoor.disk

namespace Go.Proofs.YtiehfobcbhgfkaaGreatDoor.disk
set_option maxRecDepth 20000
open Go.RowKit
open kit strs recs

theorem bcell {W w1 : World} (hb : Below W.heap.size W w1) : (∀ b o, b < W.heap.size → w1.cell? ⟨b, o, none⟩ = W.cell? ⟨b, o, none⟩) ∧ (∀ b o, b < W.heap.size → w1.frozen? ⟨b, o, none⟩ = W.frozen? ⟨b, o, none⟩) :=
  ⟨fun b o h => hb.cell (p := ⟨b, o, none⟩) h, fun b o h => hb.frozen (p := ⟨b, o, none⟩) h⟩
theorem markE_none (a : Option Addr) (c k : Nat) (w : World) :
    Calls Tryz.prog 94 #[.slice a 0 c, .int .i64 k] w fun e w' => e = .returned (.int .i64 k) ∧ Below w.heap.size w w' := by
  go_enter Tryz.func94, Tryz.ntmps94
  go_wp2
  go_loopw [1, 5] (fun x i wr => x = .int .i64 k ∧ i = .int .i64 0 ∧ Below w.heap.size w wr) (fun _ i _ => (intOf i).toNat)
  case atStart => exact ⟨rfl, rfl, Below.refl _ _⟩
  case round =>
    obtain ⟨rfl, rfl, hb⟩ := hrel
    go_wp2
    go_ret
    exact ⟨rfl, hb⟩
theorem markN_none (a : Option Addr) (c k : Nat) (w : World) :
    Calls Tryz.prog 93 #[.slice a 0 c, .int .i64 k] w fun e w' => e = .returned (.int .i64 k) ∧ Below w.heap.size w w' := by
  go_enter Tryz.func93, Tryz.ntmps93
  go_wp2
  go_loopw [1, 5] (fun x i wr => x = .int .i64 k ∧ i = .int .i64 0 ∧ Below w.heap.size w wr) (fun _ i _ => (intOf i).toNat)
  case atStart => exact ⟨rfl, rfl, Below.refl _ _⟩
  case round =>
    obtain ⟨rfl, rfl, hb⟩ := hrel
    go_wp2
    go_ret
    exact ⟨rfl, hb⟩
theorem markE_any {B n k : Nat} {v : Value} {xs : List Ent} (w : World) (hk0 : 0 < k) (hk1 : k + 2 * n ≤ 1000000000) (hv : w.ownsRow B 71 2 v n (cellsE xs)) :
    Calls Tryz.prog 94 #[v, .int .i64 k] w fun e w' => e = .returned (.int .i64 ((k + 2 * n : Nat) : Int)) ∧ w'.ownsRow B 71 2 v n (cellsE (marksE k n)) ∧ w.grownBy w' v.ownBlock := by
  have hl : xs.length = n := by have := hv.1; rw [cellsE_len] at this; omega
  obtain ⟨a, c, rfl, _, h1⟩ := own_shape hv
  by_cases h0 : n = 0
  · subst h0
    obtain rfl : xs = [] := List.length_eq_zero_iff.1 hl
    exact (markE_none a c k w).mono fun e w' ⟨h1, h2⟩ => ⟨h1, own_below hv h2, grown_of_below h2⟩
  · obtain ⟨g, rfl, _, hg⟩ := h1.resolve_left h0
    exact markEntryS_some B g c n k xs w hk0 hk1 hl hg hv
theorem markN_any {B n k : Nat} {v : Value} {xs : List Nod} (w : World) (hk0 : 0 < k) (hk1 : k + 3 * n ≤ 1000000000) (hv : w.ownsRow B 87 3 v n (cellsN xs)) :
    Calls Tryz.prog 93 #[v, .int .i64 k] w fun e w' => e = .returned (.int .i64 ((k + 3 * n : Nat) : Int)) ∧ w'.ownsRow B 87 3 v n (cellsN (marksN k n)) ∧ w.grownBy w' v.ownBlock := by
  have hl : xs.length = n := by have := hv.1; rw [cellsN_len] at this; omega
  obtain ⟨a, c, rfl, _, h1⟩ := own_shape hv
  by_cases h0 : n = 0
  · subst h0
    obtain rfl : xs = [] := List.length_eq_zero_iff.1 hl
    exact (markN_none a c k w).mono fun e w' ⟨h1, h2⟩ => ⟨h1, own_below hv h2, grown_of_below h2⟩
  · obtain ⟨g, rfl, _, hg⟩ := h1.resolve_left h0
    exact markNodeS_some B g c n k xs w hk0 hk1 hl hg hv

def marked (k : Nat) (d : D) : D :=
  { d with nodes := marksN k d.nodes.length, ents := marksE (k + 3 * d.nodes.length) d.ents.length, old := marksE (k + 3 * d.nodes.length + 2 * d.ents.length) d.old.length, steps := marks (k + 3 * d.nodes.length + 2 * d.ents.length + 2 * d.old.length) d.steps.length }
def marksUp (k : Nat) (d : D) : Nat := k + 3 * d.nodes.length + 2 * d.ents.length + 2 * d.old.length + d.steps.length
set_option maxHeartbeats 400000 in
theorem markDisk_any {B k : Nat} {v : Value} {d : D} (w : World) (hk0 : 0 < k) (hk1 : marksUp k d ≤ 1000000000) (hv : OwnDisk B w v d) :
    Calls Tryz.prog 43 #[v, .int .i64 k] w fun e w' => e = .returned (.int .i64 ((marksUp k d : Nat) : Int)) ∧ OwnDisk B w' v (marked k d) ∧ Only w w' (rows v) := by
  obtain ⟨sN, sE, sO, sS, nN, nE, nO, nS, rfl, hN, hE, hO, hS, o1, o2, o3, o4, o5, o6⟩ := hv
  have lN : d.nodes.length = nN := by have := hN.1; rw [cellsN_len] at this; omega
  have lE : d.ents.length = nE := by have := hE.1; rw [cellsE_len] at this; omega
  have lO : d.old.length = nO := by have := hO.1; rw [cellsE_len] at this; omega
  have lS : d.steps.length = nS := by have := hS.1; rw [List.length_map] at this; omega
  have HM := Lib.hid (show marked k d = { d with nodes := marksN k nN, ents := marksE (k + 3 * nN) nE, old := marksE (k + 3 * nN + 2 * nE) nO, steps := marks (k + 3 * nN + 2 * nE + 2 * nO) nS } by unfold marked; rw [lN, lE, lO, lS])
  have HU := Lib.hid (show marksUp k d = k + 3 * nN + 2 * nE + 2 * nO + nS by unfold marksUp; rw [lN, lE, lO, lS])
  unfold marksUp at hk1
  rw [lN, lE, lO, lS] at hk1
  clear lN lE lO lS
  have bE := Lib.hid (own_block_ge hE)
  have bO := Lib.hid (own_block_ge hO)
  have bS := Lib.hid (own_block_ge hS)
  have bN := Lib.hid (own_block_ge hN)
  have hWB : Below w.heap.size w (w.alloc (.cells #[sN, sE, sO, sS, .int .i64 d.room, .int .i64 d.next] 28)) := (Below.refl _ _).alloc (Nat.le_refl _) _
  have hN0 := Lib.hid (own_below hN hWB)
  have hE0 := Lib.hid (own_below hE hWB)
  have hO0 := Lib.hid (own_below hO hWB)
  have hS0 := Lib.hid (own_below hS hWB)
  have nN' : sN.ownBlock ≠ some w.heap.size := fun e => by have := bN.out _ e; omega
  have nE' : sE.ownBlock ≠ some w.heap.size := fun e => by have := bE.out _ e; omega
  have nO' : sO.ownBlock ≠ some w.heap.size := fun e => by have := bO.out _ e; omega
  have z0 : w.heap.size < (w.alloc (.cells #[sN, sE, sO, sS, .int .i64 d.room, .int .i64 d.next] 28)).heap.size := by simp
  have O1 := Lib.hid (show ∀ g, sE.ownBlock = some g → sN.ownBlock ≠ some g from fun g h e => o1 g e h)
  have O2 := Lib.hid (show ∀ g, sO.ownBlock = some g → sN.ownBlock ≠ some g from fun g h e => o2 g e h)
  have O3 := Lib.hid (show ∀ g, sS.ownBlock = some g → sN.ownBlock ≠ some g from fun g h e => o3 g e h)
  have O4 := Lib.hid (show ∀ g, sO.ownBlock = some g → sE.ownBlock ≠ some g from fun g h e => o4 g e h)
  have O5 := Lib.hid (show ∀ g, sS.ownBlock = some g → sE.ownBlock ≠ some g from fun g h e => o5 g e h)
  have O6 := Lib.hid (show ∀ g, sS.ownBlock = some g → sO.ownBlock ≠ some g from fun g h e => o6 g e h)
  have A := Lib.hid (And.intro o1 (And.intro o2 (And.intro o3 (And.intro o4 (And.intro o5 o6)))))
  have NN := Lib.hid (And.intro nN' (And.intro nE' nO'))
  clear o1 o2 o3 o4 o5 o6 hWB hN hE hO hS nN' nE' nO'
  obtain ⟨k1, e1⟩ : ∃ k1, k1 = k + 3 * nN := ⟨_, rfl⟩
  obtain ⟨k2, e2⟩ : ∃ k2, k2 = k1 + 2 * nE := ⟨_, rfl⟩
  obtain ⟨k3, e3⟩ : ∃ k3, k3 = k2 + 2 * nO := ⟨_, rfl⟩
  obtain ⟨k4, e4⟩ : ∃ k4, k4 = k3 + nS := ⟨_, rfl⟩
  have b1 : 0 < k1 ∧ k1 + 2 * nE ≤ 1000000000 := by omega
  have b2 : 0 < k2 ∧ k2 + 2 * nO ≤ 1000000000 := by omega
  have b3 : 0 < k3 ∧ k3 + nS ≤ 1000000000 := by omega
  have E1 := Lib.hid e1
  have E2 := Lib.hid e2
  have E3 := Lib.hid e3
  have E4 := Lib.hid e4
  clear e1 e2 e3 e4
  go_enter Tryz.func43, Tryz.ntmps43
  go_wp2_with (fail)
  refine (markN_any _ hk0 (by omega) hN0.out).mono ?_
  rintro e w1 ⟨he, hr1, hg1⟩
  rw [← E1.out] at he
  subst he
  have x1 : w1.cell? ⟨w.heap.size, 1, none⟩ = some sE := (cell_grown hg1 z0 NN.out.1).trans (by simp)
  have x2 : w1.cell? ⟨w.heap.size, 2, none⟩ = some sO := (cell_grown hg1 z0 NN.out.1).trans (by simp)
  have x3 : w1.cell? ⟨w.heap.size, 3, none⟩ = some sS := (cell_grown hg1 z0 NN.out.1).trans (by simp)
  have z1 := Nat.lt_of_lt_of_le z0 hg1.size
  have hN1 := Lib.hid hr1
  have hE1 := Lib.hid (own_grown hE0.out hg1 O1.out)
  have hO1 := Lib.hid (own_grown hO0.out hg1 O2.out)
  have hS1 := Lib.hid (own_grown hS0.out hg1 O3.out)
  have G1 := Lib.hid hg1
  clear hr1 hg1
  go_wp2_with (fail)
  refine (markE_any (k := k1) _ b1.1 b1.2 hE1.out).mono ?_
  rintro e w2 ⟨he, hr2, hg2⟩
  rw [← E2.out] at he
  subst he
  have x4 : w2.cell? ⟨w.heap.size, 2, none⟩ = some sO := (cell_grown hg2 z1 NN.out.2.1).trans x2
  have x5 : w2.cell? ⟨w.heap.size, 3, none⟩ = some sS := (cell_grown hg2 z1 NN.out.2.1).trans x3
  have z2 := Nat.lt_of_lt_of_le z1 hg2.size
  have hN2 := Lib.hid (own_grown hN1.out hg2 A.out.1)
  have hE2 := Lib.hid hr2
  have hO2 := Lib.hid (own_grown hO1.out hg2 O4.out)
  have hS2 := Lib.hid (own_grown hS1.out hg2 O5.out)
  have G2 := Lib.hid hg2
  clear hr2 hg2 x1 x2 x3
  go_wp2_with (fail)
  refine (markE_any (k := k2) _ b2.1 b2.2 hO2.out).mono ?_
  rintro e w3 ⟨he, hr3, hg3⟩
  rw [← E3.out] at he
  subst he
  have x6 : w3.cell? ⟨w.heap.size, 3, none⟩ = some sS := (cell_grown hg3 z2 NN.out.2.2).trans x5
  have hN3 := Lib.hid (own_grown hN2.out hg3 A.out.2.1)
  have hE3 := Lib.hid (own_grown hE2.out hg3 A.out.2.2.2.1)
  have hO3 := Lib.hid hr3
  have hS3 := Lib.hid (own_grown hS2.out hg3 O6.out)
  have G3 := Lib.hid hg3
  clear hr3 hg3 x4 x5
  go_wp2_with (fail)
  refine (mark_any (k := k3) _ b3.1 b3.2 hS3.out).mono ?_
  rintro e w4 ⟨he, hr4, hg4⟩
  rw [← E4.out] at he
  subst he
  have hN4 := Lib.hid (own_grown hN3.out hg4 A.out.2.2.1)
  have hE4 := Lib.hid (own_grown hE3.out hg4 A.out.2.2.2.2.1)
  have hO4 := Lib.hid (own_grown hO3.out hg4 A.out.2.2.2.2.2)
  have hS4 := Lib.hid hr4
  have G4 := Lib.hid hg4
  clear hr4 hg4 x6
  go_wp2
  go_ret
  have p0 : Only w (w.alloc (.cells #[sN, sE, sO, sS, .int .i64 d.room, .int .i64 d.next] 28)) (rows (.agg #[sN, sE, sO, sS, .int .i64 d.room, .int .i64 d.next])) := Only.of_below ((Below.refl _ _).alloc (Nat.le_refl _) _)
  have q4 := (((p0.trans (Only.of_grown G1.out (fun k h => ⟨sN, by simp, h⟩))).trans (Only.of_grown G2.out (fun k h => ⟨sE, by simp, h⟩))).trans (Only.of_grown G3.out (fun k h => ⟨sO, by simp, h⟩))).trans (Only.of_grown G4.out (fun k h => ⟨sS, by simp, h⟩))
  have hk4 : marksUp k d = k4 := by rw [HU.out, E4.out, E3.out, E2.out, E1.out]
  refine ⟨by rw [hk4]; rfl, ?_, q4⟩
  rw [HM.out, ← E1.out, ← E2.out, ← E3.out]
  exact ⟨sN, sE, sO, sS, nN, nE, nO, nS, rfl, hN4.out, hE4.out, hO4.out, hS4.out, A.out⟩

set_option maxHeartbeats 400000 in
theorem heldS_at {a : Option Addr} {c n k m : Nat} (w : World) (hk0 : 0 < k) (hk1 : k + m ≤ 1000000000) (ha : At w a n (marks k m)) :
    Calls Tryz.prog 48 #[.slice a n c, .int .i64 k] w fun e w' => e = .returned (.int .i64 ((k + m : Nat) : Int)) ∧ Below w.heap.size w w' := by
  obtain rfl : m = n := by rw [← ha.1, marks_length]
  have HA := Lib.hid ha
  clear ha
  go_enter Tryz.func48, Tryz.ntmps48
  go_wp2
  go_loopw [1, 5] (fun x i wr => ∃ j : Nat, j ≤ m ∧ x = .int .i64 ((k + j : Nat) : Int) ∧ i = .int .i64 j ∧ Below w.heap.size w wr) (fun _ i _ => m - (intOf i).toNat)
  case atStart => exact ⟨0, Nat.zero_le _, rfl, rfl, Below.refl _ _⟩
  case round =>
    obtain ⟨j, hj, rfl, rfl, hb⟩ := hrel
    by_cases hlt : j < m
    · obtain ⟨g, o, rfl, hg, hx0⟩ := (HA.out.below hb).2.resolve_left (by omega)
      have hx : wr.cell? ⟨g, o + j, none⟩ = some (.string (markB (k + j))) := hx0 j _ (by simp [marks, hlt])
      clear hx0
      have i0 : (0 : Int) ≤ (j : Int) := by omega
      have i1 : (j : Int) < (m : Int) := by omega
      go_wp2
      go_region_held3 (fun w' => w'.cell? ⟨g, o + j, none⟩ = some (.string (markB (k + j)))) (first | exact hx | exact hx1) (first | (go_at_call 95; refine (markText_any (k + j) _ (by omega) (by omega)).mono ?_; rintro e w1 ⟨rfl, hb1⟩; have hx1 := (hb1.cell (p := ⟨g, o + j, none⟩) hg).trans hx))
      all_goals
        go_wp2
        go_roundw
        case rel => exact ⟨j + 1, by omega, by go_num, by go_num, hb.drew.trans (hb1.mono hb.size)⟩
        case measure => simp [intOf]; omega
    · obtain rfl : j = m := by omega
      go_wp2
      go_ret
      exact ⟨rfl, hb⟩
end Go.Proofs.YtiehfobcbhgfkaaGreatDoor.disk

namespace Go.Proofs.YtiehfobcbhgfkaaGreatDoor.disk
set_option maxRecDepth 20000
open Go.RowKit
open kit strs recs

set_option maxHeartbeats 400000 in
theorem eqStr_at (a b : Option Addr) (c d n : Nat) (xs : List ByteArray) (w : World) (hm : n ≤ maxLen) (ha : At w a n xs) (hb : At w b n xs) :
    Calls Tryz.prog 46 #[.slice a n c, .slice b n d] w fun e w' => e = .returned (.bool true) ∧ Below w.heap.size w w' := by
  unfold maxLen at hm
  have HA := Lib.hid ha
  have HB := Lib.hid hb
  clear ha hb
  go_enter Tryz.func46, Tryz.ntmps46
  go_wp2
  go_loopw [5] (fun i wr => ∃ k : Nat, k ≤ n ∧ i = .int .i64 k ∧ Below w.heap.size w wr) (fun i _ => n - (intOf i).toNat)
  case atStart => exact ⟨0, Nat.zero_le _, rfl, Below.refl _ _⟩
  case round =>
    obtain ⟨k, hk, rfl, hb⟩ := hrel
    by_cases hlt : k < n
    · obtain ⟨x, hxk⟩ : ∃ x, xs[k]? = some x := ⟨_, List.getElem?_eq_getElem (by rw [HA.out.1]; exact hlt)⟩
      obtain ⟨g, o, rfl, hg, hx0⟩ := (HA.out.below hb).2.resolve_left (by omega)
      obtain ⟨h, p, rfl, hh, hy0⟩ := (HB.out.below hb).2.resolve_left (by omega)
      have c1 := hx0 k x hxk
      have c2 := hy0 k x hxk
      have i0 : (0 : Int) ≤ (k : Int) := by omega
      have i1 : (k : Int) < (n : Int) := by omega
      clear hx0 hy0 hxk
      go_wp2
      go_quiet (fail)
      go_wp2
      go_roundw
      case rel => exact ⟨k + 1, by omega, by go_num, below_drewN hb _⟩
      case measure => simp [intOf]; omega
    · go_wp2
      go_ret
      exact ⟨rfl, hb⟩

set_option maxHeartbeats 400000 in
theorem eqDisk_same {u v : Value} {d : D} (w : World) (hd : marksUp 1 d ≤ 1000000000) (hu : IsDisk w u d) (hv : IsDisk w v d) :
    Calls Tryz.prog 42 #[u, v] w fun e w' => e = .returned (.bool true) ∧ Below w.heap.size w w' := by
  obtain ⟨aN, aE, aO, aS, nN, cN, nE, cE, nO, cO, nS, cS, rfl, hN, hE, hO, hS⟩ := hu
  obtain ⟨aN', aE', aO', aS', nN', cN', nE', cE', nO', cO', nS', cS', rfl, hN', hE', hO', hS'⟩ := hv
  obtain rfl : nN = nN' := by rw [← hN.len, ← hN'.len]
  obtain rfl : nE = nE' := by rw [← hE.len, ← hE'.len]
  obtain rfl : nO = nO' := by rw [← hO.len, ← hO'.len]
  obtain rfl : nS = nS' := by rw [← hS.1, ← hS'.1]
  unfold marksUp at hd
  rw [hN.len, hE.len, hO.len, hS.1] at hd
  have m1 : nN ≤ maxLen := by unfold maxLen; omega
  have m2 : nE ≤ maxLen := by unfold maxLen; omega
  have m3 : nO ≤ maxLen := by unfold maxLen; omega
  have m4 : nS ≤ maxLen := by unfold maxLen; omega
  clear hd
  have hWB : Below w.heap.size w ((w.alloc (.cells #[.slice aN nN cN, .slice aE nE cE, .slice aO nO cO, .slice aS nS cS, .int .i64 d.room, .int .i64 d.next] 28)).alloc (.cells #[.slice aN' nN cN', .slice aE' nE cE', .slice aO' nO cO', .slice aS' nS cS', .int .i64 d.room, .int .i64 d.next] 28)) := ((Below.refl _ _).alloc (Nat.le_refl _) _).alloc (by simp) _
  have A0 := Lib.hid (And.intro (hN.below hWB) (And.intro (hE.below hWB) (And.intro (hO.below hWB) (hS.below hWB))))
  have B0 := Lib.hid (And.intro (hN'.below hWB) (And.intro (hE'.below hWB) (And.intro (hO'.below hWB) (hS'.below hWB))))
  clear hN hE hO hS hN' hE' hO' hS' hWB
  go_enter Tryz.func42, Tryz.ntmps42
  go_wp2_with (fail)
  refine (eqNodeS_same _ _ _ _ _ _ _ m1 A0.out.1 B0.out.1).mono ?_
  rintro e w1 ⟨rfl, hb1⟩
  have A1 := Lib.hid (And.intro (A0.out.2.1.below hb1) (And.intro (A0.out.2.2.1.below hb1) (A0.out.2.2.2.below hb1)))
  have B1 := Lib.hid (And.intro (B0.out.2.1.below hb1) (And.intro (B0.out.2.2.1.below hb1) (B0.out.2.2.2.below hb1)))
  obtain ⟨hc1, hf1⟩ := bcell hb1
  have z1 : w.heap.size + 1 < w1.heap.size := by have := hb1.size; simp at this; omega
  have y1 : w.heap.size < w1.heap.size := by omega
  go_wp2_with (fail)
  refine (eqEntryS_same _ _ _ _ _ _ _ m2 A1.out.1 B1.out.1).mono ?_
  rintro e w2 ⟨rfl, hb2⟩
  have A2 := Lib.hid (And.intro (A1.out.2.1.below hb2) (A1.out.2.2.below hb2))
  have B2 := Lib.hid (And.intro (B1.out.2.1.below hb2) (B1.out.2.2.below hb2))
  obtain ⟨hc2, hf2⟩ := bcell hb2
  have z2 : w.heap.size + 1 < w2.heap.size := Nat.lt_of_lt_of_le z1 hb2.size
  have y2 : w.heap.size < w2.heap.size := by omega
  go_wp2_with (fail)
  refine (eqEntryS_same _ _ _ _ _ _ _ m3 A2.out.1 B2.out.1).mono ?_
  rintro e w3 ⟨rfl, hb3⟩
  have A3 := Lib.hid (A2.out.2.below hb3)
  have B3 := Lib.hid (B2.out.2.below hb3)
  obtain ⟨hc3, hf3⟩ := bcell hb3
  have z3 : w.heap.size + 1 < w3.heap.size := Nat.lt_of_lt_of_le z2 hb3.size
  have y3 : w.heap.size < w3.heap.size := by omega
  go_wp2_with (fail)
  refine (eqStr_at _ _ _ _ _ _ _ m4 A3.out B3.out).mono ?_
  rintro e w4 ⟨rfl, hb4⟩
  obtain ⟨hc4, hf4⟩ := bcell hb4
  go_wp2
  go_ret
  exact ⟨rfl, ((((((Below.refl _ _).alloc (Nat.le_refl _) _).alloc (by simp) _).trans (hb1.mono (by simp; omega))).trans (hb2.mono (by omega))).trans (hb3.mono (by omega))).trans (hb4.mono (by omega))⟩

theorem off_slices {g h : Nat} {n c m d : Nat} (hne : g ≠ h) : Off (.slice (some ⟨g, 0, none⟩) n c) (.slice (some ⟨h, 0, none⟩) m d) := fun k hk e => by
  simp only [Value.ownBlock, Option.some.injEq] at hk e
  omega

set_option maxHeartbeats 400000 in
theorem toDisk_any {v : Value} {d : D} (w : World) (hb : bulk d ≤ 1048576) (hv : IsDisk w v d) :
    Calls Tryz.prog 40 #[v] w fun e w' => ∃ u, e = .returned u ∧ OwnDisk w.heap.size w' u d ∧ Below w.heap.size w w' := by
  obtain ⟨aN, aE, aO, aS, nN, cN, nE, cE, nO, cO, nS, cS, rfl, hN, hE, hO, hS⟩ := hv
  unfold bulk bulkN bulkE at hb
  simp only [List.length_map] at hb
  rw [hN.len, hE.len, hO.len, hS.1] at hb
  have m1 : nN ≤ 1048576 := by omega
  have m2 : nE ≤ 1048576 := by omega
  have m3 : nO ≤ 1048576 := by omega
  have m4 : nS ≤ 1048576 := by omega
  clear hb
  have hN := Lib.hid hN
  have hE := Lib.hid hE
  have hO := Lib.hid hO
  have hS := Lib.hid hS
  go_enter Tryz.func40, Tryz.ntmps40
  go_wp2_with (fail)
  have q0 : Below w.heap.size w (((w.alloc (.cells #[.slice aN nN cN, .slice aE nE cE, .slice aO nO cO, .slice aS nS cS, .int .i64 d.room, .int .i64 d.next] 52)).alloc (.cells #[.slice none 0 0, .slice none 0 0, .slice none 0 0, .slice none 0 0, .int .i64 0, .int .i64 0] 28)).alloc (.cells #[.slice none 0 0, .slice none 0 0, .slice none 0 0, .slice none 0 0, .int .i64 0, .int .i64 0] 28)) := (((Below.refl _ _).alloc (Nat.le_refl _) _).alloc (by simp) _).alloc (by simp; omega) _
  refine (toNodeS_any _ _ _ _ _ m1 (hN.out.below q0)).mono ?_
  rintro e w1 ⟨rfl, hr1, hb1⟩
  have Q1 := Lib.hid (q0.trans (hb1.mono q0.size))
  have R1 := Lib.hid (own_base (show w1.ownsRow (w.heap.size + 1 + 1 + 1) 87 3 (.slice (some ⟨w.heap.size + 1 + 1 + 1, 0, none⟩) nN nN) nN (cellsN d.nodes) by simpa using hr1) (show w.heap.size ≤ w.heap.size + 1 + 1 + 1 by omega))
  have z1 : w.heap.size + 3 < w1.heap.size := by have := (own_block_ge hr1 _ rfl).2; simp at this; omega
  obtain ⟨hc1, hf1⟩ := bcell hb1
  clear q0 hr1 hb1
  go_wp2_with (fail)
  have q1 : Below w.heap.size w (w1.setCell ⟨w.heap.size + 1 + 1, 0, none⟩ (.slice (some ⟨w.heap.size + 1 + 1 + 1, 0, none⟩) nN nN)) := Q1.out.setCell (by simp; omega) _
  refine (toEntryS_any _ _ _ _ _ m2 (hE.out.below q1)).mono ?_
  rintro e w2 ⟨rfl, hr2, hb2⟩
  have Q2 := Lib.hid (q1.trans (hb2.mono q1.size))
  have R2 := Lib.hid (own_base hr2 q1.size)
  have R1 := Lib.hid (own_below (own_setOther R1.out (w.heap.size + 1 + 1) 0 (.slice (some ⟨w.heap.size + 1 + 1 + 1, 0, none⟩) nN nN) (by simp [Value.ownBlock])) hb2)
  obtain ⟨g2, eg2⟩ : ∃ g, g = (w1.setCell ⟨w.heap.size + 1 + 1, 0, none⟩ (.slice (some ⟨w.heap.size + 1 + 1 + 1, 0, none⟩) nN nN)).heap.size := ⟨_, rfl⟩
  have hg2 : w.heap.size + 3 < g2 ∧ g2 < w2.heap.size := ⟨by rw [eg2]; simpa using z1, by rw [eg2]; exact (own_block_ge hr2 _ rfl).2⟩
  obtain ⟨hc2, hf2⟩ := bcell hb2
  rw [← eg2] at R2 hc2 hf2 ⊢
  clear q1 hr2 hb2 eg2
  have y1 : w.heap.size < g2 := by omega
  have y2 : w.heap.size + 1 < g2 := by omega
  have y3 : w.heap.size + 1 + 1 < g2 := by omega
  go_wp2_with (fail)
  have q2 : Below w.heap.size w (w2.setCell ⟨w.heap.size + 1 + 1, 1, none⟩ (.slice (some ⟨g2, 0, none⟩) nE nE)) := Q2.out.setCell (by simp; omega) _
  refine (toEntryS_any _ _ _ _ _ m3 (hO.out.below q2)).mono ?_
  rintro e w3 ⟨rfl, hr3, hb3⟩
  have Q3 := Lib.hid (q2.trans (hb3.mono q2.size))
  have R3 := Lib.hid (own_base hr3 q2.size)
  have R1 := Lib.hid (own_below (own_setOther R1.out (w.heap.size + 1 + 1) 1 (.slice (some ⟨g2, 0, none⟩) nE nE) (by simp [Value.ownBlock])) hb3)
  have R2 := Lib.hid (own_below (own_setOther R2.out (w.heap.size + 1 + 1) 1 (.slice (some ⟨g2, 0, none⟩) nE nE) (by simp [Value.ownBlock]; omega)) hb3)
  obtain ⟨g3, eg3⟩ : ∃ g, g = (w2.setCell ⟨w.heap.size + 1 + 1, 1, none⟩ (.slice (some ⟨g2, 0, none⟩) nE nE)).heap.size := ⟨_, rfl⟩
  have hg3 : g2 < g3 ∧ g3 < w3.heap.size := ⟨by rw [eg3]; simpa using hg2.2, by rw [eg3]; exact (own_block_ge hr3 _ rfl).2⟩
  obtain ⟨hc3, hf3⟩ := bcell hb3
  rw [← eg3] at R3 hc3 hf3 ⊢
  clear q2 hr3 hb3 eg3
  have y4 : w.heap.size < g3 := by omega
  have y5 : w.heap.size + 1 < g3 := by omega
  have y6 : w.heap.size + 1 + 1 < g3 := by omega
  go_wp2_with (fail)
  have q3 : Below w.heap.size w (w3.setCell ⟨w.heap.size + 1 + 1, 2, none⟩ (.slice (some ⟨g3, 0, none⟩) nO nO)) := Q3.out.setCell (by simp; omega) _
  refine (to_any _ _ _ _ _ m4 (hS.out.below q3)).mono ?_
  rintro e w4 ⟨rfl, hr4, hb4⟩
  have Q4 := Lib.hid (q3.trans (hb4.mono q3.size))
  have R4 := Lib.hid (own_base hr4 q3.size)
  have R1 := Lib.hid (own_below (own_setOther R1.out (w.heap.size + 1 + 1) 2 (.slice (some ⟨g3, 0, none⟩) nO nO) (by simp [Value.ownBlock])) hb4)
  have R2 := Lib.hid (own_below (own_setOther R2.out (w.heap.size + 1 + 1) 2 (.slice (some ⟨g3, 0, none⟩) nO nO) (by simp [Value.ownBlock]; omega)) hb4)
  have R3 := Lib.hid (own_below (own_setOther R3.out (w.heap.size + 1 + 1) 2 (.slice (some ⟨g3, 0, none⟩) nO nO) (by simp [Value.ownBlock]; omega)) hb4)
  obtain ⟨g4, eg4⟩ : ∃ g, g = (w3.setCell ⟨w.heap.size + 1 + 1, 2, none⟩ (.slice (some ⟨g3, 0, none⟩) nO nO)).heap.size := ⟨_, rfl⟩
  have hg4 : g3 < g4 ∧ g4 < w4.heap.size := ⟨by rw [eg4]; simpa using hg3.2, by rw [eg4]; exact (own_block_ge hr4 _ rfl).2⟩
  obtain ⟨hc4, hf4⟩ := bcell hb4
  rw [← eg4] at R4 hc4 hf4 ⊢
  clear q3 hr4 hb4 eg4
  have y7 : w.heap.size < g4 := by omega
  have y8 : w.heap.size + 1 < g4 := by omega
  have y9 : w.heap.size + 1 + 1 < g4 := by omega
  go_wp2
  refine bodyPost_ret (v := .agg #[.slice (some ⟨w.heap.size + 1 + 1 + 1, 0, none⟩) nN nN, .slice (some ⟨g2, 0, none⟩) nE nE, .slice (some ⟨g3, 0, none⟩) nO nO, .slice (some ⟨g4, 0, none⟩) nS nS, .int .i64 d.room, .int .i64 d.next]) (by simp [results, Tryz.results40, go_sem, hc1, hc2, hc3, hc4, y2, y5, y8]) rfl ⟨_, rfl, ?_, ?_⟩
  · refine ⟨_, _, _, _, nN, nE, nO, nS, rfl, ?_, ?_, ?_, ?_, off_slices (by omega), off_slices (by omega), off_slices (by omega), off_slices (by omega), off_slices (by omega), off_slices (by omega)⟩
    · iterate 9 refine own_setOther ?_ _ _ _ (by first | (simp [Value.ownBlock]; done) | (simp [Value.ownBlock]; omega))
      exact R1.out
    · iterate 9 refine own_setOther ?_ _ _ _ (by first | (simp [Value.ownBlock]; done) | (simp [Value.ownBlock]; omega))
      exact R2.out
    · iterate 9 refine own_setOther ?_ _ _ _ (by first | (simp [Value.ownBlock]; done) | (simp [Value.ownBlock]; omega))
      exact R3.out
    · iterate 9 refine own_setOther ?_ _ _ _ (by first | (simp [Value.ownBlock]; done) | (simp [Value.ownBlock]; omega))
      exact R4.out
  · iterate 9 refine Below.setCell ?_ (by first | (simp; done) | (simp; omega)) _
    exact Q4.out

theorem szI_yes {left : Nat} {xs : List ByteArray} {m : Nat} (h : xs.length + tot xs + m = left) : szI left xs = (m : Int) := by
  unfold szI
  rw [if_pos (by omega)]
  omega
theorem szI_no {left : Nat} {xs : List ByteArray} (h : left < xs.length + tot xs) : szI left xs = -1 := if_neg (by omega)
theorem wfN_sz {xs : List Nod} (h : wfN xs) : ∀ e ∈ xs, e.2.1.size ≤ 9223372036854775807 := fun e he => by have := (h e he).2.1; unfold maxLen at this; omega
theorem wfE_sz {xs : List Ent} (h : wfE xs) : ∀ e ∈ xs, e.1.size ≤ 9223372036854775807 := fun e he => by have := (h e he).1; unfold maxLen at this; omega
/-- the rest, or less than nothing -/
def Left (left : Nat) (b : Nat) (w : World) (e : Ending) (w' : World) : Prop := (if b ≤ left then e = .returned (.int .i64 ((left - b : Nat) : Int)) else e = .returned (.int .i64 (-1))) ∧ Below w.heap.size w w'

set_option maxHeartbeats 1000000 in
theorem szDisk_any {v : Value} {d : D} (left : Nat) (w : World) (hl : left ≤ 1048576) (hd : wfD d) (hv : IsDisk w v d) :
    Calls Tryz.prog 39 #[v, .int .i64 left] w (Left left (bulk d) w) := by
  obtain ⟨aN, aE, aO, aS, nN, cN, nE, cE, nO, cO, nS, cS, rfl, hN, hE, hO, hS⟩ := hv
  obtain ⟨w1, w2, w3, w4, _, _, m1, m2, m3, m4⟩ := hd
  rw [hN.len] at m1
  rw [hE.len] at m2
  rw [hO.len] at m3
  rw [hS.1] at m4
  unfold maxLen at m1 m2 m3 m4
  have hWB : Below w.heap.size w (w.alloc (.cells #[.slice aN nN cN, .slice aE nE cE, .slice aO nO cO, .slice aS nS cS, .int .i64 d.room, .int .i64 d.next] 52)) := (Below.refl _ _).alloc (Nat.le_refl _) _
  have C1 := Lib.hid (fun (l : Nat) (h : l ≤ 1048576) => szNodeS_any aN cN nN l d.nodes _ h (by omega) (hN.below hWB) (wfN_sz w1))
  have hEb := Lib.hid (hE.below hWB)
  have hOb := Lib.hid (hO.below hWB)
  have hSb := Lib.hid (hS.below hWB)
  have W2 := Lib.hid (wfE_sz w2)
  have W3 := Lib.hid (wfE_sz w3)
  have W4 := Lib.hid (show ∀ s ∈ d.steps, s.size ≤ 9223372036854775807 from fun s hs => by have := w4 s hs; unfold maxLen at this; omega)
  obtain ⟨b1, e1⟩ : ∃ b, b = (d.nodes.map (·.2.1)).length + tot (d.nodes.map (·.2.1)) := ⟨_, rfl⟩
  obtain ⟨b2, e2⟩ : ∃ b, b = (d.ents.map (·.1)).length + tot (d.ents.map (·.1)) := ⟨_, rfl⟩
  obtain ⟨b3, e3⟩ : ∃ b, b = (d.old.map (·.1)).length + tot (d.old.map (·.1)) := ⟨_, rfl⟩
  obtain ⟨b4, e4⟩ : ∃ b, b = d.steps.length + tot d.steps := ⟨_, rfl⟩
  have hbulk : bulk d = b1 + b2 + b3 + b4 := by unfold bulk bulkN bulkE; rw [e1, e2, e3, e4]
  rw [hbulk]
  clear hbulk w1 w2 w3 w4 hN hE hO hS hWB
  have E1 := Lib.hid e1
  have E2 := Lib.hid e2
  have E3 := Lib.hid e3
  have E4 := Lib.hid e4
  clear e1 e2 e3 e4
  go_enter Tryz.func39, Tryz.ntmps39
  go_wp2_with (fail)
  refine (C1.out left hl).mono ?_
  rintro e w1 ⟨he, hb1⟩
  have z1 : w.heap.size < w1.heap.size := by have := hb1.size; first | omega | (simp at this; omega)
  obtain ⟨hc1, hf1⟩ := bcell hb1
  by_cases h1 : left < b1
  · rw [szI_no (by rw [← E1.out]; omega)] at he
    subst he
    have bx := Lib.hid (show ¬ (b1 + b2 + b3 + b4 ≤ left) by
      try have := HR1.out
      try have := HR2.out
      omega)
    clear h1
    go_wp2
    go_ret
    exact ⟨by rw [if_neg bx.out]; rfl, (((Below.refl _ _).alloc (Nat.le_refl _) _).trans (hb1.mono (by simp)))⟩
  obtain ⟨r1, hr1⟩ : ∃ r, b1 + r = left := ⟨left - b1, by omega⟩
  rw [szI_yes (m := r1) (by rw [← E1.out]; exact hr1)] at he
  subst he
  have hE1 := Lib.hid (hEb.out.below hb1)
  have hO1 := Lib.hid (hOb.out.below hb1)
  have hS1 := Lib.hid (hSb.out.below hb1)
  have l1 : r1 ≤ 1048576 := by omega
  have HR1 := Lib.hid hr1
  clear h1 hr1
  go_wp2_with (fail)
  refine (szEntryS_any _ _ _ r1 _ _ (by omega) (by omega) hE1.out W2.out).mono ?_
  rintro e w2 ⟨he, hb2⟩
  have z2 : w.heap.size < w2.heap.size := by have := hb2.size; first | omega | (simp at this; omega)
  obtain ⟨hc2, hf2⟩ := bcell hb2
  by_cases h2 : r1 < b2
  · rw [szI_no (by rw [← E2.out]; omega)] at he
    subst he
    have bx := Lib.hid (show ¬ (b1 + b2 + b3 + b4 ≤ left) by
      try have := HR1.out
      try have := HR2.out
      omega)
    clear h2
    go_wp2
    go_ret
    exact ⟨by rw [if_neg bx.out]; rfl, ((((Below.refl _ _).alloc (Nat.le_refl _) _).trans (hb1.mono (by simp))).trans (hb2.mono (by omega)))⟩
  obtain ⟨r2, hr2⟩ : ∃ r, b2 + r = r1 := ⟨r1 - b2, by omega⟩
  rw [szI_yes (m := r2) (by rw [← E2.out]; exact hr2)] at he
  subst he
  have hO2 := Lib.hid (hO1.out.below hb2)
  have hS2 := Lib.hid (hS1.out.below hb2)
  have l2 : r2 ≤ 1048576 := by omega
  have HR2 := Lib.hid hr2
  clear h2 hr2
  go_wp2_with (fail)
  refine (szEntryS_any _ _ _ r2 _ _ (by omega) (by omega) hO2.out W3.out).mono ?_
  rintro e w3 ⟨he, hb3⟩
  have z3 : w.heap.size < w3.heap.size := by have := hb3.size; first | omega | (simp at this; omega)
  obtain ⟨hc3, hf3⟩ := bcell hb3
  by_cases h3 : r2 < b3
  · rw [szI_no (by rw [← E3.out]; omega)] at he
    subst he
    have bx := Lib.hid (show ¬ (b1 + b2 + b3 + b4 ≤ left) by
      try have := HR1.out
      try have := HR2.out
      omega)
    clear h3
    go_wp2
    go_ret
    exact ⟨by rw [if_neg bx.out]; rfl, (((((Below.refl _ _).alloc (Nat.le_refl _) _).trans (hb1.mono (by simp))).trans (hb2.mono (by omega))).trans (hb3.mono (by omega)))⟩
  obtain ⟨r3, hr3⟩ : ∃ r, b3 + r = r2 := ⟨r2 - b3, by omega⟩
  rw [szI_yes (m := r3) (by rw [← E3.out]; exact hr3)] at he
  subst he
  have hS3 := Lib.hid (hS2.out.below hb3)
  have l3 : r3 ≤ 1048576 := by omega
  have HR3 := Lib.hid hr3
  clear h3 hr3
  go_wp2_with (fail)
  refine (sz_any _ _ _ r3 _ _ l3 (by omega) hS3.out W4.out).mono ?_
  rintro e w4 ⟨he, rfl⟩
  by_cases h4 : r3 < b4
  · have bx := Lib.hid (show ¬ (b1 + b2 + b3 + b4 ≤ left) by have := HR1.out; have := HR2.out; have := HR3.out; omega)
    rw [szI_no (by rw [← E4.out]; omega)] at he
    subst he
    clear h4
    go_wp2
    go_ret
    exact ⟨by rw [if_neg bx.out]; rfl, (((((Below.refl _ _).alloc (Nat.le_refl _) _).trans (hb1.mono (by simp))).trans (hb2.mono (by omega))).trans (hb3.mono (by omega)))⟩
  · obtain ⟨r4, hr4⟩ : ∃ r, b4 + r = r3 := ⟨r3 - b4, by omega⟩
    rw [szI_yes (m := r4) (by rw [← E4.out]; exact hr4)] at he
    subst he
    have bx := Lib.hid (show b1 + b2 + b3 + b4 ≤ left ∧ left - (b1 + b2 + b3 + b4) = r4 by have := HR1.out; have := HR2.out; have := HR3.out; omega)
    clear h4 hr4
    go_wp2
    go_ret
    exact ⟨by rw [if_pos bx.out.1, bx.out.2]; rfl, (((((Below.refl _ _).alloc (Nat.le_refl _) _).trans (hb1.mono (by simp))).trans (hb2.mono (by omega))).trans (hb3.mono (by omega)))⟩

end Go.Proofs.YtiehfobcbhgfkaaGreatDoor.disk

namespace Go.Proofs.YtiehfobcbhgfkaaGreatDoor.ints
set_option maxRecDepth 20000
open Go.RowKit
open kit

set_option maxHeartbeats 400000 in
theorem eq_any (a b : Option Addr) (c d n : Nat) (xs : List Int) (w : World) (hm : n ≤ maxLen) (ha : At w a n xs) (hb : At w b n xs) :
    Calls Tryz.prog 41 #[.slice a n c, .slice b n d] w fun e w' => e = .returned (.bool true) ∧ Below w.heap.size w w' := by
  unfold maxLen at hm
  have HL := Lib.hid ha.1
  have HA := Lib.hid ha
  have HB := Lib.hid hb
  clear ha hb
  go_enter Tryz.func41, Tryz.ntmps41
  go_wp2
  go_loopw [5] (fun i wr => ∃ k : Nat, k ≤ n ∧ i = .int .i64 k ∧ Below w.heap.size w wr) (fun i _ => n - (intOf i).toNat)
  case atStart => exact ⟨0, Nat.zero_le _, rfl, Below.refl _ _⟩
  case round =>
    obtain ⟨k, hk, rfl, hb⟩ := hrel
    by_cases hlt : k < n
    · obtain ⟨x, hxk⟩ : ∃ x, xs[k]? = some x := ⟨_, List.getElem?_eq_getElem (by rw [HL.out]; exact hlt)⟩
      obtain ⟨g, o, rfl, hg, hx⟩ := HA.out.2.resolve_left (by omega)
      obtain ⟨h, p, rfl, hh, hy⟩ := HB.out.2.resolve_left (by omega)
      have c1 : wr.cell? ⟨g, o + k, none⟩ = some (.int .i64 x) := (hb.cell (p := ⟨g, o + k, none⟩) hg).trans (hx k x hxk)
      have c2 : wr.cell? ⟨h, p + k, none⟩ = some (.int .i64 x) := (hb.cell (p := ⟨h, p + k, none⟩) hh).trans (hy k x hxk)
      clear hxk hx hy HA HB
      have i0 : (0 : Int) ≤ (k : Int) := by omega
      have i1 : (k : Int) < (n : Int) := by omega
      go_wp2
      go_quiet (fail)
      go_wp2
      go_roundw
      case rel => exact ⟨k + 1, by omega, by go_num, below_drewN hb _⟩
      case measure => simp [intOf]; omega
    · go_wp2
      go_ret
      exact ⟨rfl, hb⟩

theorem marks_length (k n : Nat) : (marks k n).length = n := by simp [marks]
theorem marks_at (k n i : Nat) (h : i < n) : (marks k n)[i]? = some (((k + i : Nat) : Int)) := by simp [marks, h]
def rowM (k : Nat) (xs : List Int) (j : Nat) : List Int := marks k j ++ xs.drop j
theorem rowM_length (k n : Nat) (xs : List Int) (j : Nat) (hl : xs.length = n) (h : j ≤ n) : (rowM k xs j).length = n := by simp [rowM, marks_length]; omega
theorem rowM_set (k n : Nat) (xs : List Int) (j : Nat) (hl : xs.length = n) (h : j < n) :
    ((rowM k xs j).map (Value.int .i64)).set j (.int .i64 ((k + j : Nat) : Int)) = (rowM k xs (j + 1)).map (Value.int .i64) := by
  have e : marks k (j + 1) = marks k j ++ [((k + j : Nat) : Int)] := by simp [marks, List.range_succ]
  unfold rowM
  rw [e, ← List.map_set, List.set_append_right _ _ (by rw [marks_length]; exact Nat.le_refl _), marks_length, Nat.sub_self]
  obtain ⟨x, r, hx⟩ : ∃ x r, xs.drop j = x :: r := by
    cases hd : xs.drop j with
    | nil => have := congrArg List.length hd; simp at this; omega
    | cons x r => exact ⟨x, r, rfl⟩
  have hr : xs.drop (j + 1) = r := by rw [← List.drop_drop, hx]; rfl
  rw [hx, hr, List.set_cons_zero]
  simp

set_option maxHeartbeats 400000 in
theorem held_any (a : Option Addr) (c n k : Nat) (w : World) (hk1 : k + n ≤ 1000000000) (ha : At w a n (marks k n)) :
    Calls Tryz.prog 45 #[.slice a n c, .int .i64 k] w fun e w' => e = .returned (.int .i64 ((k + n : Nat) : Int)) ∧ Below w.heap.size w w' := by
  have HA := Lib.hid ha
  clear ha
  go_enter Tryz.func45, Tryz.ntmps45
  go_wp2
  go_loopw [1, 5] (fun x i wr => ∃ j : Nat, j ≤ n ∧ x = .int .i64 ((k + j : Nat) : Int) ∧ i = .int .i64 j ∧ Below w.heap.size w wr) (fun _ i _ => n - (intOf i).toNat)
  case atStart => exact ⟨0, Nat.zero_le _, rfl, rfl, Below.refl _ _⟩
  case round =>
    obtain ⟨j, hj, rfl, rfl, hb⟩ := hrel
    by_cases hlt : j < n
    · obtain ⟨g, o, rfl, hg, hx⟩ := HA.out.2.resolve_left (by omega)
      have c1 : wr.cell? ⟨g, o + j, none⟩ = some (.int .i64 ((k : Int) + (j : Int))) := (hb.cell (p := ⟨g, o + j, none⟩) hg).trans (hx j _ (marks_at k n j hlt))
      clear hx HA
      have i0 : (0 : Int) ≤ (j : Int) := by omega
      have i1 : (j : Int) < (n : Int) := by omega
      go_wp2
      go_roundw
      case rel => exact ⟨j + 1, by omega, by go_num, by go_num, hb⟩
      case measure => simp [intOf]; omega
    · obtain rfl : j = n := by omega
      go_wp2
      go_ret
      exact ⟨rfl, hb⟩

theorem mark_none (a : Option Addr) (c k : Nat) (w : World) :
    Calls Tryz.prog 44 #[.slice a 0 c, .int .i64 k] w fun e w' => e = .returned (.int .i64 k) ∧ Below w.heap.size w w' := by
  go_enter Tryz.func44, Tryz.ntmps44
  go_wp2
  go_loopw [1, 5] (fun x i wr => x = .int .i64 k ∧ i = .int .i64 0 ∧ Below w.heap.size w wr) (fun _ i _ => (intOf i).toNat)
  case atStart => exact ⟨rfl, rfl, Below.refl _ _⟩
  case round =>
    obtain ⟨rfl, rfl, hb⟩ := hrel
    go_wp2
    go_ret
    exact ⟨rfl, hb⟩

set_option maxHeartbeats 400000 in
theorem mark_some (B g c n k : Nat) (xs : List Int) (w : World) (hk1 : k + n ≤ 1000000000) (hl : xs.length = n)
    (hv : w.ownsRow B 3 1 (.slice (some ⟨g, 0, none⟩) n c) n (xs.map (Value.int .i64))) :
    Calls Tryz.prog 44 #[.slice (some ⟨g, 0, none⟩) n c, .int .i64 k] w fun e w' => e = .returned (.int .i64 ((k + n : Nat) : Int)) ∧
      w'.ownsRow B 3 1 (.slice (some ⟨g, 0, none⟩) n c) n ((marks k n).map (Value.int .i64)) ∧ w.grownBy w' (some g) := by
  have HL := Lib.hid hl
  clear hl
  go_enter Tryz.func44, Tryz.ntmps44
  go_wp2
  go_loopw [1, 5] (fun x i wr => ∃ j : Nat, j ≤ n ∧ x = .int .i64 ((k + j : Nat) : Int) ∧ i = .int .i64 j ∧ wr.ownsRow B 3 1 (.slice (some ⟨g, 0, none⟩) n c) n ((rowM k xs j).map (Value.int .i64)) ∧ w.grownBy wr (some g)) (fun _ i _ => n - (intOf i).toNat)
  case atStart => exact ⟨0, Nat.zero_le _, rfl, rfl, by simpa [rowM, marks] using hv, grown_refl _ _⟩
  case round =>
    obtain ⟨j, hj, rfl, rfl, hown, hgw⟩ := hrel
    by_cases hlt : j < n
    · obtain ⟨u, hcell⟩ : ∃ u, wr.cell? ⟨g, j, none⟩ = some u := by
        rw [hown.cellAt j (by omega)]
        exact ⟨_, List.getElem?_eq_getElem (by rw [List.length_map, rowM_length _ _ _ _ HL.out hj]; exact hlt)⟩
      have hfrz := hown.frozenAt j
      have hst := hown.stored j (.int .i64 ((k : Int) + (j : Int)))
      have HST := Lib.hid hst
      clear hst
      have i0 : (0 : Int) ≤ (j : Int) := by omega
      have i1 : (j : Int) < (n : Int) := by omega
      go_wp2
      go_roundw
      case rel =>
        refine ⟨j + 1, by omega, by go_num, by go_num, ?_, grown_trans hgw HST.out.2⟩
        rw [← rowM_set k n xs j HL.out hlt]
        exact HST.out.1
      case measure => simp [intOf]; omega
    · obtain rfl : j = n := by omega
      have hend : rowM k xs j = marks k j := by unfold rowM; rw [List.drop_of_length_le (by rw [HL.out]; exact Nat.le_refl _), List.append_nil]
      rw [hend] at hown
      clear hend
      go_wp2
      go_ret
      exact ⟨rfl, hown, hgw⟩

theorem mark_any {B : Nat} {v : Value} {n k : Nat} {xs : List Int} (w : World) (hk1 : k + n ≤ 1000000000) (hv : w.ownsRow B 3 1 v n (xs.map (Value.int .i64))) :
    Calls Tryz.prog 44 #[v, .int .i64 k] w fun e w' => e = .returned (.int .i64 ((k + n : Nat) : Int)) ∧ w'.ownsRow B 3 1 v n ((marks k n).map (Value.int .i64)) ∧ w.grownBy w' v.ownBlock := by
  obtain ⟨a, c, rfl, hl, _, h1⟩ := own_form hv
  have hl' : xs.length = n := by simpa using hl
  by_cases h0 : n = 0
  · subst h0
    obtain rfl : xs = [] := List.length_eq_zero_iff.1 hl'
    exact (mark_none a c k w).mono fun e w' ⟨h1, h2⟩ => ⟨h1, own_below hv h2, grown_of_below h2⟩
  · rcases h1 with h1 | ⟨g, rfl, _, _, _, _⟩
    · exact absurd h1 h0
    · exact mark_some B g c n k xs w hk1 hl' hv

end Go.Proofs.YtiehfobcbhgfkaaGreatDoor.ints

namespace Go.Proofs.YtiehfobcbhgfkaaGreatDoor.kd
set_option maxRecDepth 20000
open Go.RowKit
open kit strs recs disk

def upSS (k : Nat) (xs : List ByteArray) : Nat := k + xs.length
def markedSS (k : Nat) (xs : List ByteArray) : List ByteArray := strs.marks k xs.length
theorem markSS {B k : Nat} {v : Value} {xs : List ByteArray} (w : World) (hk0 : 0 < k) (hk1 : upSS k xs ≤ 1000000000) (hv : OwnSS B w v xs) :
    Calls Tryz.prog 47 #[v, .int .i64 k] w fun e w' => e = .returned (.int .i64 ((upSS k xs : Nat) : Int)) ∧ OwnSS B w' v (markedSS k xs) ∧ Only w w' (rows v) := by
  obtain ⟨n, h⟩ := hv
  have hl : xs.length = n := by have := h.1; rw [List.length_map] at this; omega
  unfold upSS at hk1 ⊢
  unfold markedSS
  rw [hl] at hk1 ⊢
  exact (strs.mark_any w hk0 hk1 h).mono fun e w' ⟨h1, h2, h3⟩ => ⟨h1, ⟨n, h2⟩, Only.of_grown h3 (fun k hk => rows_own h k hk)⟩
theorem heldSS {k : Nat} {v : Value} {xs : List ByteArray} (w : World) (hk0 : 0 < k) (hk1 : upSS k xs ≤ 1000000000) (hv : IsSS w v (markedSS k xs)) :
    Calls Tryz.prog 48 #[v, .int .i64 k] w fun e w' => e = .returned (.int .i64 ((upSS k xs : Nat) : Int)) ∧ Below w.heap.size w w' := by
  obtain ⟨a, n, c, rfl, h⟩ := hv
  exact heldS_at w hk0 hk1 h
theorem eqSS {u v : Value} {xs : List ByteArray} (w : World) (hd : upSS 1 xs ≤ 1000000000) (hu : IsSS w u xs) (hv : IsSS w v xs) :
    Calls Tryz.prog 46 #[u, v] w fun e w' => e = .returned (.bool true) ∧ Below w.heap.size w w' := by
  obtain ⟨a, n, c, rfl, h⟩ := hu
  obtain ⟨a', n', c', rfl, h'⟩ := hv
  obtain rfl : n = n' := by rw [← h.1, ← h'.1]
  unfold upSS at hd
  rw [h.1] at hd
  exact eqStr_at _ _ _ _ _ _ _ (by unfold maxLen; omega) h h'
def bulkSS (xs : List ByteArray) : Nat := xs.length + tot xs
theorem IsD_form {w : World} {v : Value} {d : D} (h : IsDisk w v d) : ∃ (aN : Option Addr) (nN cN : Nat) (aE : Option Addr) (nE cE : Nat) (aO : Option Addr) (nO cO : Nat) (aS : Option Addr) (nS cS : Nat) (r x : Int), v = .agg #[.slice aN nN cN, .slice aE nE cE, .slice aO nO cO, .slice aS nS cS, .int .i64 r, .int .i64 x] := by
  obtain ⟨aN, aE, aO, aS, nN, cN, nE, cE, nO, cO, nS, cS, rfl, _⟩ := h
  exact ⟨_, _, _, _, _, _, _, _, _, _, _, _, _, _, rfl⟩
def okSS (xs : List ByteArray) : Prop := (∀ s ∈ xs, s.size ≤ maxLen) ∧ bulkSS xs ≤ 1048576
def okE (xs : List Ent) : Prop := wfE xs ∧ bulkE xs ≤ 1048576
def cntD (d : D) : Nat := 3 * d.nodes.length + 2 * d.ents.length + 2 * d.old.length + d.steps.length
def cntSS (xs : List ByteArray) : Nat := xs.length
def cntE (xs : List Ent) : Nat := 2 * xs.length
theorem upD (k : Nat) (d : D) : marksUp k d = k + cntD d := by unfold marksUp cntD; omega
theorem upSS_eq (k : Nat) (xs : List ByteArray) : upSS k xs = k + cntSS xs := rfl
theorem okD.cnt {d : D} (h : okD d) : cntD d ≤ 100000000 := by
  have h := h.2
  unfold bulk bulkN bulkE at h
  simp only [List.length_map] at h
  unfold cntD
  omega
theorem okSS.cnt {xs : List ByteArray} (h : okSS xs) : cntSS xs ≤ 100000000 := by have h := h.2; unfold bulkSS at h; unfold cntSS; omega
theorem okE.cnt {xs : List Ent} (h : okE xs) : cntE xs ≤ 100000000 := by have h := h.2; unfold bulkE at h; rw [List.length_map] at h; unfold cntE; omega
/-- the marks, in terms of how many there are -/
theorem markD' {B k q : Nat} {v : Value} {d : D} (w : World) (hk0 : 0 < k) (hk1 : k + cntD d ≤ 1000000000) (hq : q = k + cntD d) (hv : OwnDisk B w v d) :
    Calls Tryz.prog 43 #[v, .int .i64 k] w fun e w' => e = .returned (.int .i64 (q : Int)) ∧ OwnDisk B w' v (marked k d) ∧ Only w w' (rows v) := by
  rw [hq, ← upD]
  exact markDisk_any w hk0 (by rw [upD]; exact hk1) hv
theorem markSS' {B k q : Nat} {v : Value} {d : List ByteArray} (w : World) (hk0 : 0 < k) (hk1 : k + cntSS d ≤ 1000000000) (hq : q = k + cntSS d) (hv : OwnSS B w v d) :
    Calls Tryz.prog 47 #[v, .int .i64 k] w fun e w' => e = .returned (.int .i64 (q : Int)) ∧ OwnSS B w' v (markedSS k d) ∧ Only w w' (rows v) := by
  rw [hq]
  exact markSS w hk0 hk1 hv
theorem heldSS' {k q : Nat} {v : Value} {d : List ByteArray} (w : World) (hk0 : 0 < k) (hk1 : k + cntSS d ≤ 1000000000) (hq : q = k + cntSS d) (hv : IsSS w v (markedSS k d)) :
    Calls Tryz.prog 48 #[v, .int .i64 k] w fun e w' => e = .returned (.int .i64 (q : Int)) ∧ Below w.heap.size w w' := by
  rw [hq]
  exact heldSS w hk0 hk1 hv
theorem eqD' {u v : Value} {d : D} (w : World) (hd : cntD d ≤ 100000000) (hu : IsDisk w u d) (hv : IsDisk w v d) :
    Calls Tryz.prog 42 #[u, v] w fun e w' => e = .returned (.bool true) ∧ Below w.heap.size w w' := eqDisk_same w (by rw [upD]; omega) hu hv
theorem eqSS' {u v : Value} {d : List ByteArray} (w : World) (hd : cntSS d ≤ 100000000) (hu : IsSS w u d) (hv : IsSS w v d) :
    Calls Tryz.prog 46 #[u, v] w fun e w' => e = .returned (.bool true) ∧ Below w.heap.size w w' := eqSS w (by rw [upSS_eq]; omega) hu hv
end Go.Proofs.YtiehfobcbhgfkaaGreatDoor.kd

namespace Go.Proofs.YtiehfobcbhgfkaaGreatDoor.row
set_option maxRecDepth 20000
open Go.RowKit
open kit sum num burst hd fr recs sc disk kd nam

set_option maxHeartbeats 1000000 in
theorem specLinkMany (a : Option Addr) (c n : Nat) (xs : List ByteArray) (w : World) (hn : n ≤ 16777216) (hx : ∀ x ∈ xs, x.size ≤ 1048576) (ha : strs.At w a n xs) :
    Calls Tryz.prog 26 #[.slice a n c] w fun e w' => e = .returned (.int .i64 ((lkL 0 xs : Nat) : Int)) ∧ Below w.heap.size w w' := by
  have HL := Lib.hid ha.1
  have HA := Lib.hid ha
  have HX := Lib.hid hx
  clear ha hx
  go_enter Tryz.func26, Tryz.ntmps26
  go_wp2
  go_loopw [3, 4] (fun z i wr => ∃ (k m : Nat), k ≤ n ∧ i = .int .i64 k ∧ z = .int .i64 m ∧ Hid (lkL 0 (xs.take k) = m) ∧ Below w.heap.size w wr) (fun _ i _ => n - (intOf i).toNat)
  case atStart => exact ⟨0, 0, Nat.zero_le _, rfl, rfl, Lib.hid rfl, Below.refl _ _⟩
  case round =>
    obtain ⟨k, m, hk, rfl, rfl, hz, hb⟩ := hrel
    by_cases hlt : k < n
    · obtain ⟨x, hxk⟩ : ∃ x, xs[k]? = some x := ⟨_, List.getElem?_eq_getElem (by rw [HL.out]; exact hlt)⟩
      obtain ⟨g, o, rfl, hg, hc⟩ := HA.out.2.resolve_left (by omega)
      have c1 : wr.cell? ⟨g, o + k, none⟩ = some (.string x) := (hb.cell (p := ⟨g, o + k, none⟩) hg).trans (hc k x hxk)
      have HS := Lib.hid (show lkL 0 (xs.take (k + 1)) = lkM (m : Int) x by rw [lkL_next hxk, hz.out])
      have CM := Lib.hid (specLinkMore (m : Int) x wr (HX.out x (List.mem_of_getElem? hxk)))
      have i0 : (0 : Int) ≤ (k : Int) := by omega
      have i1 : (k : Int) < (n : Int) := by omega
      have HB := Lib.hid hb
      clear hc hxk hz hb
      go_wp2_with (fail)
      refine CM.out.mono ?_
      rintro e w1 ⟨rfl, hb1⟩
      go_wp2
      go_roundw
      case rel => exact ⟨k + 1, _, by omega, by go_num, rfl, Lib.hid HS.out, HB.out.trans (hb1.mono HB.out.size)⟩
      case measure => simp [intOf]; omega
    · obtain rfl : k = n := by omega
      have HE := Lib.hid (show lkL 0 xs = m by have h := hz.out; rw [List.take_of_length_le (by rw [HL.out]; exact Nat.le_refl _)] at h; exact h)
      clear hz
      go_wp2
      go_ret
      exact ⟨by rw [HE.out]; rfl, hb⟩


set_option maxHeartbeats 1000000 in
theorem specRowLink (v : Value) (d : D) (w : World) (hk : okD d) (hv : IsDisk w v d) :
    Calls Tryz.prog 49 #[v] w fun e w' => e = .returned (.int .i64 ((rowLink d : Nat) : Int)) ∧ Below w.heap.size w w' := by
  obtain ⟨aN, aE, aO, aS, nN, cN, nE, cE, nO, cO, nS, cS, rfl, h1, h2, h3, h4⟩ := hv
  have bw := (Below.refl w.heap.size w).alloc (Nat.le_refl _) (.cells #[.slice aN nN cN, .slice aE nE cE, .slice aO nO cO, .slice aS nS cS, .int .i64 d.room, .int .i64 d.next] 28)
  have bx := sc.Box.new w #[.slice aN nN cN, .slice aE nE cE, .slice aO nO cO, .slice aS nS cS, .int .i64 d.room, .int .i64 d.next] 28
  obtain ⟨W, hW⟩ : ∃ W, W = w.alloc (.cells #[.slice aN nN cN, .slice aE nE cE, .slice aO nO cO, .slice aS nS cS, .int .i64 d.room, .int .i64 d.next] 28) := ⟨_, rfl⟩
  rw [← hW] at bw bx
  have HV : Hid (IsDisk W (.agg #[.slice aN nN cN, .slice aE nE cE, .slice aO nO cO, .slice aS nS cS, .int .i64 d.room, .int .i64 d.next]) d) := Lib.hid ⟨aN, aE, aO, aS, nN, cN, nE, cE, nO, cO, nS, cS, rfl, h1.below bw, h2.below bw, h3.below bw, h4.below bw⟩
  have B0 := Lib.hid bw
  have X0 := Lib.hid bx
  clear h1 h2 h3 h4 bw bx
  have CR := Lib.hid (specRowOf _ d W hk HV.out)
  have hle := rowOf_le hk.2
  have HS := Lib.hid (rowOf_small d)
  have HL := Lib.hid (show rowLink d = lkL 0 (rowOf d) from rfl)
  obtain ⟨rs, hrs⟩ : ∃ rs, rowOf d = rs := ⟨_, rfl⟩
  rw [hrs] at CR hle HS HL
  clear hrs
  go_enter Tryz.func49, Tryz.ntmps49
  have y0 := X0.out.at 0 _ rfl
  have y1 := X0.out.at 1 _ rfl
  have y2 := X0.out.at 2 _ rfl
  have y3 := X0.out.at 3 _ rfl
  have y4 := X0.out.at 4 _ rfl
  have y5 := X0.out.at 5 _ rfl
  rw [hW] at y0 y1 y2 y3 y4 y5
  go_wp2_with (fail)
  rw [← hW]
  clear hW y0 y1 y2 y3 y4 y5
  refine CR.out.mono ?_
  rintro e w2 ⟨u2, rfl, o2, b2⟩
  obtain ⟨a2, c2, rfl, _, _, _⟩ := own_form o2
  have CL := Lib.hid (specLinkMany a2 c2 rs.length rs w2 hle (fun x hx => by have := HS.out x hx; omega) (strs.At.of_own o2))
  have B2 := Lib.hid (B0.out.trans (b2.mono B0.out.size))
  clear b2 o2
  go_wp2_with (fail)
  refine CL.out.mono ?_
  rintro e w3 ⟨rfl, b3⟩
  have B3 := Lib.hid (B2.out.trans (b3.mono B2.out.size))
  clear b3
  go_wp2
  go_ret
  rw [HL.out]
  exact ⟨rfl, B3.out⟩

end Go.Proofs.YtiehfobcbhgfkaaGreatDoor.row

namespace Go.Proofs.YtiehfobcbhgfkaaGreatDoor.kd
set_option maxRecDepth 20000
open Go.RowKit
open kit strs recs disk

theorem atI_ints {w : World} {a : Option Addr} {n : Nat} {xs : List Int} (h : AtI w a n xs) : ints.At w a n xs := by
  refine ⟨by have := h.1; rw [List.length_map] at this; omega, h.2.imp id fun ⟨b, off, h1, h2, h3⟩ => ⟨b, off, h1, h2, fun j x hx => h3 j _ (by rw [List.getElem?_map, hx]; rfl)⟩⟩
def cntI (xs : List Int) : Nat := xs.length
def bulkI (xs : List Int) : Nat := xs.length
def markedI (k : Nat) (xs : List Int) : List Int := ints.marks k xs.length
def okI (xs : List Int) : Prop := (∀ s ∈ xs, wfI s) ∧ bulkI xs ≤ 1048576
theorem okI.cnt {xs : List Int} (h : okI xs) : cntI xs ≤ 100000000 := by have h := h.2; unfold bulkI at h; unfold cntI; omega
theorem markI' {B k q : Nat} {v : Value} {d : List Int} (w : World) (_ : 0 < k) (hk1 : k + cntI d ≤ 1000000000) (hq : q = k + cntI d) (hv : OwnI B w v d) :
    Calls Tryz.prog 44 #[v, .int .i64 k] w fun e w' => e = .returned (.int .i64 (q : Int)) ∧ OwnI B w' v (markedI k d) ∧ Only w w' (rows v) := by
  obtain ⟨n, h⟩ := hv
  have hl : d.length = n := by have := h.1; rw [List.length_map] at this; omega
  unfold cntI at hk1 hq
  unfold markedI
  rw [hl] at hk1 hq ⊢
  rw [hq]
  exact (ints.mark_any w hk1 h).mono fun e w' ⟨h1, h2, h3⟩ => ⟨h1, ⟨n, h2⟩, Only.of_grown h3 (fun k hk => rows_own h k hk)⟩
theorem eqI' {u v : Value} {d : List Int} (w : World) (hd : cntI d ≤ 100000000) (hu : IsI w u d) (hv : IsI w v d) :
    Calls Tryz.prog 41 #[u, v] w fun e w' => e = .returned (.bool true) ∧ Below w.heap.size w w' := by
  obtain ⟨a, n, c, rfl, h⟩ := hu
  obtain ⟨a', n', c', rfl, h'⟩ := hv
  have h := atI_ints h
  have h' := atI_ints h'
  obtain rfl : n = n' := by rw [← h.1, ← h'.1]
  unfold cntI at hd
  rw [h.1] at hd
  exact ints.eq_any a a' c c' n d w (by unfold maxLen; omega) h h'
theorem heldI' {k q : Nat} {v : Value} {d : List Int} (w : World) (_ : 0 < k) (hk1 : k + cntI d ≤ 1000000000) (hq : q = k + cntI d) (hv : IsI w v (markedI k d)) :
    Calls Tryz.prog 45 #[v, .int .i64 k] w fun e w' => e = .returned (.int .i64 (q : Int)) ∧ Below w.heap.size w w' := by
  obtain ⟨a, n, c, rfl, h⟩ := hv
  have h := atI_ints h
  unfold markedI at h
  unfold cntI at hk1 hq
  have hn : d.length = n := by
    have := h.1
    unfold ints.marks at this
    simpa using this
  rw [hn] at h hk1 hq
  rw [hq]
  exact ints.held_any a c n k w hk1 h

end Go.Proofs.YtiehfobcbhgfkaaGreatDoor.kd

namespace Go.Proofs.YtiehfobcbhgfkaaGreatDoor.row
set_option maxRecDepth 20000
open Go.RowKit
open kit sum num burst hd fr recs sc disk kd nam

theorem sRowLink (v : Value) (d : D) (w : World) (hk : okD d) (hv : IsDisk w v d) :
    Calls Tryz.prog 49 #[v] w fun e w' => e = .returned (.int .i64 ((rowLink d : Nat) : Int)) ∧ Below w.heap.size w w' := specRowLink v d w hk hv
theorem cnt_bases {d : D} (h : okD d) : cntI (bases d.ents) ≤ 100000000 := by
  have h1 := bases_le d.ents
  have h2 := h.2
  unfold bulk bulkE at h2
  rw [List.length_map] at h2
  unfold cntI
  omega
theorem cnt_chain (d : D) : cntI (chain d) ≤ 100000000 := by
  have := chain_length d
  unfold cntI
  omega
theorem cnt_behind (d : D) (base : Int) : cntI (behind d base) ≤ 100000000 := by
  have h1 := chain_length d
  have h2 := List.length_filter_le (fun b => decide (base < b)) (chain d)
  unfold cntI behind
  omega
theorem cnt_row {d : D} (h : okD d) : cntSS (rowOf d) ≤ 100000000 := by
  have := rowOf_le h.2
  unfold cntSS
  omega
theorem cnt_texts (d : D) : cntSS (texts d) ≤ 100000000 := by
  have := chain_length d
  unfold cntSS texts
  rw [List.length_map]
  omega
theorem cnt_loose {d : D} (h : okD d) : cntSS (loose d) ≤ 100000000 := by
  have h1 := List.length_filter_le (fun e : Ent => looseB (chain d) e.1) d.ents
  have h2 := h.2
  unfold bulk bulkE at h2
  rw [List.length_map] at h2
  unfold cntSS loose
  rw [List.length_map]
  omega

end Go.Proofs.YtiehfobcbhgfkaaGreatDoor.row
