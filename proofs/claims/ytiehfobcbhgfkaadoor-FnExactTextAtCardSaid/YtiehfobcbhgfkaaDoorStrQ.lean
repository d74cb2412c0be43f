/-
  Contracts of the laws' own helpers over lists of strings: markText, eqStringS, markStringS, heldStringS.
-/
import Derived.Test.YtiehfobcbhgfkaaDoorKit
import Derived.Deep.QuietTactic
import Derived.BigQuiet
import Derived.Laws.OwnMore
import Derived.WalkSmall
import Derived.Deep.RegionHeld3
namespace Go.Proofs.YtiehfobcbhgfkaaDoor.strs
set_option maxRecDepth 20000
open Go.RowKit
open kit

/-- the decimal digits of n ahead of acc -/
def digs : Nat → Nat → List UInt8 → List UInt8
  | 0, _, acc => acc
  | f + 1, n, acc => if n = 0 then acc else digs f (n / 10) (UInt8.ofNat (48 + n % 10) :: acc)
theorem digs_fuel : ∀ (f g n : Nat) (acc : List UInt8), n ≤ f → n ≤ g → digs f n acc = digs g n acc
  | 0, 0, n, acc, _, _ => rfl
  | 0, g + 1, n, acc, h, _ => by obtain rfl : n = 0 := by omega
                                 simp [digs]
  | f + 1, 0, n, acc, _, h => by obtain rfl : n = 0 := by omega
                                 simp [digs]
  | f + 1, g + 1, n, acc, h1, h2 => by
    unfold digs
    by_cases h : n = 0
    · simp [h]
    · rw [if_neg h, if_neg h]
      exact digs_fuel f g _ _ (by omega) (by omega)
theorem digs_step (n : Nat) (acc : List UInt8) (h : 0 < n) : digs n n acc = digs (n / 10) (n / 10) (UInt8.ofNat (48 + n % 10) :: acc) := by
  obtain ⟨f, rfl⟩ : ∃ f, n = f + 1 := ⟨n - 1, by omega⟩
  conv => lhs; unfold digs
  rw [if_neg (by omega)]
  exact digs_fuel _ _ _ _ (by omega) (Nat.le_refl _)

def markB (k : Nat) : ByteArray := ⟨(109 :: digs k k []).toArray⟩

theorem ba_app (a b : List UInt8) : (⟨a.toArray⟩ : ByteArray) ++ ⟨b.toArray⟩ = ⟨(a ++ b).toArray⟩ := ByteArray.ext (by rw [ByteArray.data_append]; simp)

theorem conv_one (W : World) (x : Int) : ∀ dst, Tryd.prog.underlying dst = some .string →
    (convert 58 dst (.slice (some ⟨W.heap.size, 0, none⟩) 1 1)).run Tryd.prog (W.alloc (.cells #[.int .u8 x] 5)) = .ok (.string (strOfNums [x])) (W.alloc (.cells #[.int .u8 x] 5)) :=
  run_convert_bytes_arg _ 58 5 Tryd.underlying58 Tryd.underlying5 W.heap.size 0 1 1 [x] rfl (fun i hi => by
    obtain rfl : i = 0 := by omega
    rw [cell_of_row _ W.heap.size _ _ 5 (0, 0) (heap_alloc_new W _)]
    rfl)

theorem one_app (x : Nat) (acc : List UInt8) : strOfNums [48 + (x : Int) % 10] ++ ⟨acc.toArray⟩ = ⟨(UInt8.ofNat (48 + x % 10) :: acc).toArray⟩ := by
  have : strOfNums [48 + (x : Int) % 10] = ⟨[UInt8.ofNat (48 + x % 10)].toArray⟩ := by
    unfold strOfNums
    rw [show (48 + (x : Int) % 10) = ((48 + x % 10 : Nat) : Int) by omega]
    rfl
  rw [this, ba_app]
  rfl

theorem decide_nat_false {a b : Nat} (h : ¬ a = b) : decide (a = b) = false := by simp [h]

/-- two rows of the same strings are equal -/
theorem eqStr_none (a b : Option Addr) (c d : Nat) (w : World) :
    Calls Tryd.prog 21 #[.slice a 0 c, .slice b 0 d] w fun e w' => e = .returned (.bool true) ∧ Below w.heap.size w w' := by
  go_enter Tryd.func21, Tryd.ntmps21
  go_wp2
  go_loopw [5] (fun i wr => i = .int .i64 0 ∧ Below w.heap.size w wr) (fun i _ => (intOf i).toNat)
  case atStart => exact ⟨rfl, Below.refl _ _⟩
  case round =>
    obtain ⟨rfl, hb⟩ := hrel
    go_wp2
    go_ret
    exact ⟨rfl, hb⟩

set_option maxHeartbeats 400000 in
theorem eqStr_some (g h : Nat) (c d n : Nat) (xs : List ByteArray) (w : World) (hm : n ≤ maxLen) (hn : 0 < n) (hl : xs.length = n) (hg : g < w.heap.size) (hh : h < w.heap.size)
    (hx : ∀ j, j < n → w.cell? ⟨g, j, none⟩ = (xs.map Value.string)[j]?) (hy : ∀ j, j < n → w.cell? ⟨h, j, none⟩ = (xs.map Value.string)[j]?) :
    Calls Tryd.prog 21 #[.slice (some ⟨g, 0, none⟩) n c, .slice (some ⟨h, 0, none⟩) n d] w fun e w' => e = .returned (.bool true) ∧ Below w.heap.size w w' := by
  unfold maxLen at hm
  have HX := Lib.hid hx
  have HY := Lib.hid hy
  have HL := Lib.hid hl
  clear hx hy hl
  go_enter Tryd.func21, Tryd.ntmps21
  go_wp2
  go_loopw [5] (fun i wr => ∃ k : Nat, k ≤ n ∧ i = .int .i64 k ∧ Below w.heap.size w wr) (fun i _ => n - (intOf i).toNat)
  case atStart => exact ⟨0, Nat.zero_le _, rfl, Below.refl _ _⟩
  case round =>
    obtain ⟨k, hk, rfl, hb⟩ := hrel
    by_cases hlt : k < n
    · obtain ⟨x, hxk⟩ : ∃ x, xs[k]? = some x := ⟨_, List.getElem?_eq_getElem (by rw [HL.out]; exact hlt)⟩
      have hx : wr.cell? ⟨g, k, none⟩ = some (.string x) := by rw [hb.cell hg, HX.out k hlt, List.getElem?_map, hxk]; rfl
      have hy : wr.cell? ⟨h, k, none⟩ = some (.string x) := by rw [hb.cell hh, HY.out k hlt, List.getElem?_map, hxk]; rfl
      clear hxk
      have i0 : (0 : Int) ≤ (k : Int) := by omega
      have i1 : (k : Int) < (n : Int) := by omega
      go_wp2
      go_quiet (fail)
      go_wp2
      go_roundw
      case rel => exact ⟨k + 1, by omega, by go_num, below_drewN hb _⟩
      case measure => simp [intOf]; omega
    · go_wp2
      go_ret
      exact ⟨rfl, hb⟩

theorem eqStr_any {B C : Nat} {v u : Value} {n : Nat} {xs : List ByteArray} (w : World) (hv : w.ownsRow B 9 1 v n (xs.map Value.string)) (hu : w.ownsRow C 9 1 u n (xs.map Value.string)) :
    Calls Tryd.prog 21 #[v, u] w fun e w' => e = .returned (.bool true) ∧ Below w.heap.size w w' := by
  obtain ⟨a, c, rfl, hl, hm, h1⟩ := own_form hv
  obtain ⟨b, d, rfl, _, _, h2⟩ := own_form hu
  rcases h1 with rfl | ⟨g, rfl, _, hg, hx, _⟩
  · exact eqStr_none a b c d w
  · rcases h2 with rfl | ⟨h, rfl, _, hh, hy, _⟩
    · exact eqStr_none _ b c d w
    · by_cases h0 : n = 0
      · subst h0
        exact eqStr_none _ _ c d w
      · exact eqStr_some g h c d n xs w hm (by omega) (by simpa using hl) hg hh hx hy

def marks (k n : Nat) : List ByteArray := (List.range n).map fun i => markB (k + i)
theorem marks_length (k n : Nat) : (marks k n).length = n := by simp [marks]
theorem marks_at (k n i : Nat) (h : i < n) : ((marks k n).map Value.string)[i]? = some (.string (markB (k + i))) := by simp [marks, h]

/-! ### the marks are written -/
def rowM (k : Nat) (xs : List ByteArray) (j : Nat) : List ByteArray := marks k j ++ xs.drop j
theorem rowM_length (k n : Nat) (xs : List ByteArray) (j : Nat) (hl : xs.length = n) (h : j ≤ n) : (rowM k xs j).length = n := by simp [rowM, marks_length]; omega
theorem rowM_set (k n : Nat) (xs : List ByteArray) (j : Nat) (hl : xs.length = n) (h : j < n) :
    ((rowM k xs j).map Value.string).set j (.string (markB (k + j))) = (rowM k xs (j + 1)).map Value.string := by
  have e : marks k (j + 1) = marks k j ++ [markB (k + j)] := by simp [marks, List.range_succ]
  unfold rowM
  rw [e, ← List.map_set, List.set_append_right _ _ (by rw [marks_length]; exact Nat.le_refl _), marks_length, Nat.sub_self]
  obtain ⟨x, r, hx⟩ : ∃ x r, xs.drop j = x :: r := by
    cases hd : xs.drop j with
    | nil => have := congrArg List.length hd; simp at this; omega
    | cons x r => exact ⟨x, r, rfl⟩
  have hr : xs.drop (j + 1) = r := by rw [← List.drop_drop, hx]; rfl
  rw [hx, hr, List.set_cons_zero]
  simp

end Go.Proofs.YtiehfobcbhgfkaaDoor.strs

namespace Go.Proofs.YtiehfobcbhgfkaaDoor.kit
set_option maxRecDepth 20000
open Go.RowKit

theorem in_yes (x least most : Int) (w : World) (h1 : least ≤ x) (h2 : x ≤ most) :
    Calls Tryd.prog 25 #[.int .i64 x, .int .i64 least, .int .i64 most] w fun e w' => e = .returned (.bool true) ∧ w = w' := by
  go_enter Tryd.func25, Tryd.ntmps25
  go_wp2
  go_ret
  exact ⟨rfl, rfl⟩
theorem in_no (x least most : Int) (w : World) (h : x < least ∨ most < x) :
    Calls Tryd.prog 25 #[.int .i64 x, .int .i64 least, .int .i64 most] w fun e w' => e = .returned (.bool false) ∧ w = w' := by
  by_cases h1 : x < least
  · clear h
    go_enter Tryd.func25, Tryd.ntmps25
    go_wp2
    go_ret
    exact ⟨rfl, rfl⟩
  · have h2 : most < x := by omega
    have hd : decide (x ≤ most) = false := by simp; omega
    clear h
    go_enter Tryd.func25, Tryd.ntmps25
    go_wp2
    go_ret
    exact ⟨rfl, rfl⟩

end Go.Proofs.YtiehfobcbhgfkaaDoor.kit

namespace Go.Proofs.YtiehfobcbhgfkaaDoor.strs
set_option maxRecDepth 20000
open Go.RowKit
open kit

/-- a slice of strings that came in -/
def IsStrs (w : World) (a : Option Addr) (len cap : Nat) (ss : List ByteArray) : Prop :=
  (a = none ∧ len = 0 ∧ cap = 0 ∧ ss = []) ∨
  ∃ x, a = some x ∧ len ≤ cap ∧ cap ≤ maxLen ∧ ss.length = cap ∧ (∀ i, i < ss.length → w.cell? (x.add i) = some (.string (ss.getD i ByteArray.empty))) ∧ ∀ s ∈ ss, s.size ≤ maxLen
theorem strs_at {w : World} {a : Addr} {ss : List ByteArray} (h : ∀ i, i < ss.length → w.cell? (a.add i) = some (.string (ss.getD i ByteArray.empty))) (hp : 0 < ss.length) :
    ∃ b off, a = ⟨b, off, none⟩ ∧ ∀ j, j < ss.length → w.cell? ⟨b, off + j, none⟩ = some (.string (ss.getD j ByteArray.empty)) := by
  obtain ⟨b, off, spot⟩ := a
  have hspot : spot = none := by simpa [Addr.add] using World.cell?_spot (h 0 hp)
  subst hspot
  exact ⟨b, off, rfl, fun j hj => by rw [← Go.WideShapes.add_plain]; exact h j hj⟩
/-- a slice that holds these strings -/
def At (w : World) (a : Option Addr) (n : Nat) (xs : List ByteArray) : Prop :=
  xs.length = n ∧ (n = 0 ∨ ∃ b off, a = some ⟨b, off, none⟩ ∧ b < w.heap.size ∧ ∀ j x, xs[j]? = some x → w.cell? ⟨b, off + j, none⟩ = some (.string x))
theorem At.below {w w' : World} {a : Option Addr} {n : Nat} {xs : List ByteArray} (h : At w a n xs) (hb : Below w.heap.size w w') : At w' a n xs :=
  ⟨h.1, h.2.imp id fun ⟨b, off, h1, h2, h3⟩ => ⟨b, off, h1, Nat.lt_of_lt_of_le h2 hb.size, fun j x hx => (hb.cell (p := ⟨b, off + j, none⟩) h2).trans (h3 j x hx)⟩⟩
theorem At.of_own {w : World} {B : Nat} {a : Option Addr} {n c : Nat} {xs : List ByteArray} (h : w.ownsRow B 9 1 (.slice a n c) n (xs.map Value.string)) : At w a n xs := by
  obtain ⟨a', c', e, hl, _, h1⟩ := own_form h
  injection e with e1 e2 e3
  subst e1
  refine ⟨by simpa using hl, h1.imp id fun ⟨g, h1, _, h3, h4, _⟩ => ⟨g, 0, h1, h3, fun j x hx => ?_⟩⟩
  have hj : j < n := by have := (List.getElem?_eq_some_iff.1 hx).1; simp at hl; omega
  rw [Nat.zero_add, h4 j hj, List.getElem?_map, hx]
  rfl
theorem IsStrs.at {w : World} {a : Option Addr} {len cap : Nat} {ss : List ByteArray} (h : IsStrs w a len cap ss) : At w a len (ss.take len) := by
  rcases h with ⟨_, rfl, _, rfl⟩ | ⟨x, rfl, h1, _, h3, h4, h5⟩
  · exact ⟨rfl, .inl rfl⟩
  · refine ⟨by rw [List.length_take]; omega, ?_⟩
    by_cases h0 : len = 0
    · exact .inl h0
    · obtain ⟨b, off, rfl, hc⟩ := strs_at h4 (by omega)
      refine .inr ⟨b, off, rfl, World.block_lt_of_cell? w _ (hc 0 (by omega)), fun j y hy => ?_⟩
      have hj : j < len := by have := (List.getElem?_eq_some_iff.1 hy).1; rw [List.length_take] at this; omega
      rw [List.getElem?_take_of_lt hj] at hy
      rw [hc j (by omega), List.getD, hy]
      rfl
theorem IsStrs.len {w : World} {a : Option Addr} {len cap : Nat} {ss : List ByteArray} (h : IsStrs w a len cap ss) : len ≤ 9223372036854775807 := by
  rcases h with ⟨_, h, _⟩ | ⟨x, _, h1, h2, _⟩
  · omega
  · unfold maxLen at h2
    omega
theorem IsStrs.each {w : World} {a : Option Addr} {len cap : Nat} {ss : List ByteArray} (h : IsStrs w a len cap ss) : ∀ s ∈ ss.take len, s.size ≤ 9223372036854775807 := by
  intro s hs
  have hs := List.mem_of_mem_take hs
  rcases h with ⟨_, _, _, rfl⟩ | ⟨x, _, _, _, _, _, h5⟩
  · cases hs
  · have := h5 s hs
    unfold maxLen at this
    omega

theorem Tryd.infoStr : (Tryd.prog.info? 9).map (fun i => (i.zero, i.size, i.bytes)) = some (some (.string { data := #[] }), 1, 16) := by kernel_rfl

/-! ### a copy -/
set_option maxHeartbeats 400000 in
theorem to_any (a : Option Addr) (c n : Nat) (xs : List ByteArray) (w : World) (hm : n ≤ 1048576) (ha : At w a n xs) :
    Calls Tryd.prog 16 #[.slice a n c] w fun e w' => e = .returned (.slice (some ⟨w.heap.size, 0, none⟩) n n) ∧ w'.ownsRow w.heap.size 9 1 (.slice (some ⟨w.heap.size, 0, none⟩) n n) n (xs.map Value.string) ∧ Below w.heap.size w w' := by
  obtain ⟨i0, hi, hz0, hz1, hz2⟩ := info_parts Tryd.infoStr
  have HL := Lib.hid ha.1
  have HA := Lib.hid ha
  clear ha
  go_enter Tryd.func16, Tryd.ntmps16
  go_wp2_with (refine wpList_make_full _ (by rfl) _ _ 24 (by rfl) w.heap.size 9 i0 (.string { data := #[] }) 1 Tryd.underlying24 hi hz0 hz1 .i64 .i64 _ _ n (by rfl) (by rfl) ?_ ?_ ?_ ?_ ?_ ?_; omega; omega; (rw [hz2]; omega); (unfold maxLen; omega); exact Nat.le_refl _; intro w1 hown1 hg1)
  have hb1 : Below w.heap.size w w1 := (Below.refl _ _).grown hg1 (Nat.le_refl _) (fun k hk => by cases hk)
  have hown2 : w1.ownsRow w.heap.size 9 1 (.slice (some ⟨w.heap.size, 0, none⟩) n n) n ((xs.take 0 ++ List.replicate (n - 0) ({ data := #[] } : ByteArray)).map Value.string) := by
    rw [show (Value.string { data := #[] }).cells = #[.string { data := #[] }] from rfl, toList_madeCells_one] at hown1
    simpa using hown1
  clear hown1
  go_loopw [4] (fun i wr => ∃ (k : Nat), k ≤ n ∧ i = .int .i64 k ∧ wr.ownsRow w.heap.size 9 1 (.slice (some ⟨w.heap.size, 0, none⟩) n n) n ((xs.take k ++ List.replicate (n - k) ({ data := #[] } : ByteArray)).map Value.string) ∧ Below w.heap.size w wr) (fun i _ => n - (intOf i).toNat)
  case atStart => exact ⟨0, Nat.zero_le _, rfl, hown2, hb1⟩
  case round =>
    obtain ⟨k, hk, rfl, hown, hb⟩ := hrel
    clear hown2
    by_cases hlt : k < n
    · obtain ⟨x, hxk⟩ : ∃ x, xs[k]? = some x := ⟨_, List.getElem?_eq_getElem (by rw [HL.out]; exact hlt)⟩
      obtain ⟨g, o, rfl, hg, hx⟩ := HA.out.2.resolve_left (by omega)
      have c1 : wr.cell? ⟨g, o + k, none⟩ = some (.string x) := (hb.cell (p := ⟨g, o + k, none⟩) hg).trans (hx k x hxk)
      have HS := Lib.hid (show ((xs.take k ++ List.replicate (n - k) ({ data := #[] } : ByteArray)).map Value.string).set k (.string x) = (xs.take (k + 1) ++ List.replicate (n - (k + 1)) ({ data := #[] } : ByteArray)).map Value.string by
        have hlen := HL.out
        obtain ⟨m, hm⟩ : ∃ m, n - k = m + 1 := ⟨n - k - 1, by omega⟩
        have hm2 : n - (k + 1) = m := by omega
        rw [← List.map_set, List.set_append_right _ _ (by rw [List.length_take]; omega), List.length_take, Nat.min_eq_left (by omega), Nat.sub_self, hm, hm2, List.replicate_succ, List.set_cons_zero, List.take_add_one, hxk]
        simp)
      obtain ⟨u, hcell⟩ : ∃ u, wr.cell? ⟨w.heap.size, k, none⟩ = some u := by
        rw [hown.cellAt k (by omega)]
        exact ⟨_, List.getElem?_eq_getElem (by have := HL.out; simp; omega)⟩
      have hfrz := hown.frozenAt k
      have i0 : (0 : Int) ≤ (k : Int) := by omega
      have i1 : (k : Int) < (n : Int) := by omega
      clear hxk hx
      go_wp2
      go_roundw
      case rel =>
        refine ⟨k + 1, by omega, by go_num, ?_, hb.setCell (Nat.le_refl _) _⟩
        rw [← HS.out]
        exact (hown.stored k (.string x)).1
      case measure => simp [intOf]; omega
    · obtain rfl : k = n := by omega
      have hend : xs.take k ++ List.replicate (k - k) ({ data := #[] } : ByteArray) = xs := by
        rw [Nat.sub_self, List.take_of_length_le (by rw [HL.out]; exact Nat.le_refl _)]
        simp
      rw [hend] at hown
      clear hend
      go_wp2
      go_ret
      exact ⟨rfl, hown, hb⟩

/-! ### how much it is -/
def tot (xs : List ByteArray) : Nat := (xs.map ByteArray.size).sum
theorem tot_snoc (xs : List ByteArray) (k : Nat) (x : ByteArray) (h : xs[k]? = some x) : tot (xs.take (k + 1)) = tot (xs.take k) + x.size := by
  unfold tot
  rw [List.take_add_one, h]
  simp
theorem tot_le (xs : List ByteArray) (k : Nat) : tot (xs.take k) ≤ tot xs := by
  unfold tot
  conv => rhs; rw [← List.take_append_drop k xs]
  rw [List.map_append, List.sum_append]
  omega
theorem tot_each (xs : List ByteArray) (x : ByteArray) (h : x ∈ xs) : x.size ≤ tot xs := by
  induction xs with
  | nil => cases h
  | cons y r ih =>
    have e : tot (y :: r) = y.size + tot r := by simp [tot]
    rcases List.mem_cons.1 h with rfl | h
    · omega
    · have := ih h; omega
def szI (left : Int) (xs : List ByteArray) : Int := if (xs.length : Int) + tot xs ≤ left then left - xs.length - tot xs else -1

set_option maxHeartbeats 400000 in
theorem sz_any (a : Option Addr) (c n : Nat) (left : Nat) (xs : List ByteArray) (w : World) (hl : left ≤ 1048576) (hm : n ≤ 9223372036854775807) (ha : At w a n xs) (hs : ∀ s ∈ xs, s.size ≤ 9223372036854775807) :
    Calls Tryd.prog 11 #[.slice a n c, .int .i64 left] w fun e w' => e = .returned (.int .i64 (szI left xs)) ∧ w = w' := by
  have HL := Lib.hid ha.1
  have HA := Lib.hid ha
  have HS := Lib.hid hs
  clear ha hs
  by_cases h0 : left < n
  · have HE := Lib.hid (show szI left xs = -1 from if_neg (by rw [HL.out]; omega))
    go_enter Tryd.func11, Tryd.ntmps11
    go_wp2
    go_ret
    exact ⟨by rw [HE.out]; rfl, rfl⟩
  · go_enter Tryd.func11, Tryd.ntmps11
    go_wp2
    go_loopw [1, 5] (fun l i wr => ∃ (k m : Nat), k ≤ n ∧ i = .int .i64 k ∧ l = .int .i64 m ∧ m + n + tot (xs.take k) = left ∧ wr = w) (fun _ i _ => n - (intOf i).toNat)
    case atStart => exact ⟨0, left - n, Nat.zero_le _, rfl, by congr 1; omega, by simp [tot]; omega, rfl⟩
    case round =>
      obtain ⟨k, m, hk, rfl, rfl, ht, rfl⟩ := hrel
      by_cases hlt : k < n
      · obtain ⟨x, hxk⟩ : ∃ x, xs[k]? = some x := ⟨_, List.getElem?_eq_getElem (by rw [HL.out]; exact hlt)⟩
        obtain ⟨g, o, rfl, hg, hx⟩ := HA.out.2.resolve_left (by omega)
        have c1 : wr.cell? ⟨g, o + k, none⟩ = some (.string x) := hx k x hxk
        have hxs := HS.out x (List.mem_of_getElem? hxk)
        have htx := tot_snoc xs k x hxk
        have htl := tot_le xs (k + 1)
        have i0 : (0 : Int) ≤ (k : Int) := by omega
        have i1 : (k : Int) < (n : Int) := by omega
        by_cases hb : m < x.size
        · have HE := Lib.hid (show szI left xs = -1 from if_neg (by rw [HL.out]; omega))
          have hw : IntKind.i64.wrap ((m : Int) - (x.size : Int)) = (m : Int) - (x.size : Int) := by rw [IntKind.wrap_i64]; omega
          have hneg : (m : Int) - (x.size : Int) < 0 := by omega
          clear hx hxk htx htl ht
          go_wp2
          go_ret
          exact ⟨by rw [HE.out]; rfl, rfl⟩
        · have hw : IntKind.i64.wrap ((m : Int) - (x.size : Int)) = ((m - x.size : Nat) : Int) := by rw [IntKind.wrap_i64]; omega
          obtain ⟨m2, hm2⟩ : ∃ m2, m - x.size = m2 := ⟨_, rfl⟩
          have HT := Lib.hid (show m2 + n + tot (xs.take (k + 1)) = left by omega)
          rw [hm2] at hw
          clear hm2
          clear hx hxk htx htl ht
          go_wp2
          go_roundw
          case rel => exact ⟨k + 1, m2, by omega, by go_num, rfl, HT.out, trivial⟩
          case measure => simp [intOf]; omega
      · obtain rfl : k = n := by omega
        have HE := Lib.hid (show szI left xs = (m : Int) by
          rw [List.take_of_length_le (by rw [HL.out]; exact Nat.le_refl _)] at ht
          unfold szI
          rw [if_pos (by rw [HL.out]; omega), HL.out]
          omega)
        clear ht
        go_wp2
        go_ret
        exact ⟨by rw [HE.out]; rfl, rfl⟩

end Go.Proofs.YtiehfobcbhgfkaaDoor.strs
