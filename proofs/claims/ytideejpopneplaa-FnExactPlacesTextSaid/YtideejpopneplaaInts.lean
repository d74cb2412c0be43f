/-
  Contracts of the laws' own helpers over lists of numbers: toIntS, eqIntS, markIntS, heldIntS.
-/
import Derived.Test.YtideejpopneplaaKit
import Derived.Deep.QuietTactic
import Derived.BigQuiet
import Derived.Laws.OwnMore
import Derived.WalkSmall
namespace Go.Proofs.Ytideejpopneplaa.ints
set_option maxRecDepth 20000
open Go.RowKit
open kit

/-- a slice that holds these numbers -/
def At (w : World) (a : Option Addr) (n : Nat) (xs : List Int) : Prop :=
  xs.length = n ∧ (n = 0 ∨ ∃ b off, a = some ⟨b, off, none⟩ ∧ b < w.heap.size ∧ ∀ j x, xs[j]? = some x → w.cell? ⟨b, off + j, none⟩ = some (.int .i64 x))
theorem At.below {w w' : World} {a : Option Addr} {n : Nat} {xs : List Int} (h : At w a n xs) (hb : Below w.heap.size w w') : At w' a n xs :=
  ⟨h.1, h.2.imp id fun ⟨b, off, h1, h2, h3⟩ => ⟨b, off, h1, Nat.lt_of_lt_of_le h2 hb.size, fun j x hx => (hb.cell (p := ⟨b, off + j, none⟩) h2).trans (h3 j x hx)⟩⟩
theorem At.of_own {w : World} {B : Nat} {a : Option Addr} {n c : Nat} {xs : List Int} (h : w.ownsRow B 3 1 (.slice a n c) n (xs.map (Value.int .i64))) : At w a n xs := by
  obtain ⟨a', c', e, hl, _, h1⟩ := own_form h
  injection e with e1 e2 e3
  subst e1
  refine ⟨by simpa using hl, h1.imp id fun ⟨g, h1, _, h3, h4, _⟩ => ⟨g, 0, h1, h3, fun j x hx => ?_⟩⟩
  have hj : j < n := by have := (List.getElem?_eq_some_iff.1 hx).1; simp at hl; omega
  rw [Nat.zero_add, h4 j hj, List.getElem?_map, hx]
  rfl

theorem Try.infoInt : (Try.prog.info? 3).map (fun i => (i.zero, i.size, i.bytes)) = some (some (.int .i64 0), 1, 8) := by kernel_rfl

/-! ### equal lists -/
theorem decide_ne {a b : Nat} (h : a ≠ b) : decide (a = b) = false := by simp [h]

set_option maxHeartbeats 400000 in
theorem eq_any (a b : Option Addr) (c d n : Nat) (xs : List Int) (w : World) (hm : n ≤ maxLen) (ha : At w a n xs) (hb : At w b n xs) :
    Calls Try.prog 31 #[.slice a n c, .slice b n d] w fun e w' => e = .returned (.bool true) ∧ Below w.heap.size w w' := by
  unfold maxLen at hm
  have HL := Lib.hid ha.1
  have HA := Lib.hid ha
  have HB := Lib.hid hb
  clear ha hb
  go_enter Try.func31, Try.ntmps31
  go_wp2
  go_loopw [5] (fun i wr => ∃ k : Nat, k ≤ n ∧ i = .int .i64 k ∧ Below w.heap.size w wr) (fun i _ => n - (intOf i).toNat)
  case atStart => exact ⟨0, Nat.zero_le _, rfl, Below.refl _ _⟩
  case round =>
    obtain ⟨k, hk, rfl, hb⟩ := hrel
    by_cases hlt : k < n
    · obtain ⟨x, hxk⟩ : ∃ x, xs[k]? = some x := ⟨_, List.getElem?_eq_getElem (by rw [HL.out]; exact hlt)⟩
      obtain ⟨g, o, rfl, hg, hx⟩ := HA.out.2.resolve_left (by omega)
      obtain ⟨h, p, rfl, hh, hy⟩ := HB.out.2.resolve_left (by omega)
      have c1 : wr.cell? ⟨g, o + k, none⟩ = some (.int .i64 x) := (hb.cell (p := ⟨g, o + k, none⟩) hg).trans (hx k x hxk)
      have c2 : wr.cell? ⟨h, p + k, none⟩ = some (.int .i64 x) := (hb.cell (p := ⟨h, p + k, none⟩) hh).trans (hy k x hxk)
      clear hxk hx hy HA HB
      have i0 : (0 : Int) ≤ (k : Int) := by omega
      have i1 : (k : Int) < (n : Int) := by omega
      go_wp2
      go_quiet (fail)
      go_wp2
      go_roundw
      case rel => exact ⟨k + 1, by omega, by go_num, below_drewN hb _⟩
      case measure => simp [intOf]; omega
    · go_wp2
      go_ret
      exact ⟨rfl, hb⟩

/-! ### a copy -/
set_option maxHeartbeats 400000 in
theorem to_any (a : Option Addr) (c n : Nat) (xs : List Int) (w : World) (hm : n ≤ 1048576) (ha : At w a n xs) :
    Calls Try.prog 29 #[.slice a n c] w fun e w' => e = .returned (.slice (some ⟨w.heap.size, 0, none⟩) n n) ∧ w'.ownsRow w.heap.size 3 1 (.slice (some ⟨w.heap.size, 0, none⟩) n n) n (xs.map (Value.int .i64)) ∧ Below w.heap.size w w' := by
  obtain ⟨i0, hi, hz0, hz1, hz2⟩ := info_parts Try.infoInt
  have HL := Lib.hid ha.1
  have HA := Lib.hid ha
  clear ha
  go_enter Try.func29, Try.ntmps29
  go_wp2_with (refine wpList_make_full _ (by rfl) _ _ 24 (by rfl) w.heap.size 3 i0 (.int .i64 0) 1 Try.underlying24 hi hz0 hz1 .i64 .i64 _ _ n (by rfl) (by rfl) ?_ ?_ ?_ ?_ ?_ ?_; omega; omega; (rw [hz2]; omega); (unfold maxLen; omega); exact Nat.le_refl _; intro w1 hown1 hg1)
  have hb1 : Below w.heap.size w w1 := (Below.refl _ _).grown hg1 (Nat.le_refl _) (fun k hk => by cases hk)
  have hown2 : w1.ownsRow w.heap.size 3 1 (.slice (some ⟨w.heap.size, 0, none⟩) n n) n ((xs.take 0 ++ List.replicate (n - 0) (0 : Int)).map (Value.int .i64)) := by
    rw [show (Value.int IntKind.i64 0).cells = #[.int .i64 0] from rfl, toList_madeCells_one] at hown1
    simpa using hown1
  clear hown1
  go_loopw [4] (fun i wr => ∃ (k : Nat), k ≤ n ∧ i = .int .i64 k ∧ wr.ownsRow w.heap.size 3 1 (.slice (some ⟨w.heap.size, 0, none⟩) n n) n ((xs.take k ++ List.replicate (n - k) (0 : Int)).map (Value.int .i64)) ∧ Below w.heap.size w wr) (fun i _ => n - (intOf i).toNat)
  case atStart => exact ⟨0, Nat.zero_le _, rfl, hown2, hb1⟩
  case round =>
    obtain ⟨k, hk, rfl, hown, hb⟩ := hrel
    clear hown2
    by_cases hlt : k < n
    · obtain ⟨x, hxk⟩ : ∃ x, xs[k]? = some x := ⟨_, List.getElem?_eq_getElem (by rw [HL.out]; exact hlt)⟩
      obtain ⟨g, o, rfl, hg, hx⟩ := HA.out.2.resolve_left (by omega)
      have c1 : wr.cell? ⟨g, o + k, none⟩ = some (.int .i64 x) := (hb.cell (p := ⟨g, o + k, none⟩) hg).trans (hx k x hxk)
      have HS := Lib.hid (show ((xs.take k ++ List.replicate (n - k) (0 : Int)).map (Value.int .i64)).set k (.int .i64 x) = (xs.take (k + 1) ++ List.replicate (n - (k + 1)) (0 : Int)).map (Value.int .i64) by
        have hlen := HL.out
        obtain ⟨m, hm⟩ : ∃ m, n - k = m + 1 := ⟨n - k - 1, by omega⟩
        have hm2 : n - (k + 1) = m := by omega
        rw [← List.map_set, List.set_append_right _ _ (by rw [List.length_take]; omega), List.length_take, Nat.min_eq_left (by omega), Nat.sub_self, hm, hm2, List.replicate_succ, List.set_cons_zero, List.take_add_one, hxk]
        simp)
      obtain ⟨u, hcell⟩ : ∃ u, wr.cell? ⟨w.heap.size, k, none⟩ = some u := by
        rw [hown.cellAt k (by omega)]
        exact ⟨_, List.getElem?_eq_getElem (by have := HL.out; simp; omega)⟩
      have hfrz := hown.frozenAt k
      have i0 : (0 : Int) ≤ (k : Int) := by omega
      have i1 : (k : Int) < (n : Int) := by omega
      clear hxk hx
      go_wp2
      go_roundw
      case rel =>
        refine ⟨k + 1, by omega, by go_num, ?_, hb.setCell (Nat.le_refl _) _⟩
        rw [← HS.out]
        exact (hown.stored k (.int .i64 x)).1
      case measure => simp [intOf]; omega
    · obtain rfl : k = n := by omega
      have hend : xs.take k ++ List.replicate (k - k) (0 : Int) = xs := by
        rw [Nat.sub_self, List.take_of_length_le (by rw [HL.out]; exact Nat.le_refl _)]
        simp
      rw [hend] at hown
      clear hend
      go_wp2
      go_ret
      exact ⟨rfl, hown, hb⟩

/-! ### marks -/
def marks (k n : Nat) : List Int := (List.range n).map fun i => ((k + i : Nat) : Int)
theorem marks_length (k n : Nat) : (marks k n).length = n := by simp [marks]
theorem marks_at (k n i : Nat) (h : i < n) : (marks k n)[i]? = some (((k + i : Nat) : Int)) := by simp [marks, h]
def rowM (k : Nat) (xs : List Int) (j : Nat) : List Int := marks k j ++ xs.drop j
theorem rowM_length (k n : Nat) (xs : List Int) (j : Nat) (hl : xs.length = n) (h : j ≤ n) : (rowM k xs j).length = n := by simp [rowM, marks_length]; omega
theorem rowM_set (k n : Nat) (xs : List Int) (j : Nat) (hl : xs.length = n) (h : j < n) :
    ((rowM k xs j).map (Value.int .i64)).set j (.int .i64 ((k + j : Nat) : Int)) = (rowM k xs (j + 1)).map (Value.int .i64) := by
  have e : marks k (j + 1) = marks k j ++ [((k + j : Nat) : Int)] := by simp [marks, List.range_succ]
  unfold rowM
  rw [e, ← List.map_set, List.set_append_right _ _ (by rw [marks_length]; exact Nat.le_refl _), marks_length, Nat.sub_self]
  obtain ⟨x, r, hx⟩ : ∃ x r, xs.drop j = x :: r := by
    cases hd : xs.drop j with
    | nil => have := congrArg List.length hd; simp at this; omega
    | cons x r => exact ⟨x, r, rfl⟩
  have hr : xs.drop (j + 1) = r := by rw [← List.drop_drop, hx]; rfl
  rw [hx, hr, List.set_cons_zero]
  simp

theorem mark_none (a : Option Addr) (c k : Nat) (w : World) :
    Calls Try.prog 32 #[.slice a 0 c, .int .i64 k] w fun e w' => e = .returned (.int .i64 k) ∧ Below w.heap.size w w' := by
  go_enter Try.func32, Try.ntmps32
  go_wp2
  go_loopw [1, 5] (fun x i wr => x = .int .i64 k ∧ i = .int .i64 0 ∧ Below w.heap.size w wr) (fun _ i _ => (intOf i).toNat)
  case atStart => exact ⟨rfl, rfl, Below.refl _ _⟩
  case round =>
    obtain ⟨rfl, rfl, hb⟩ := hrel
    go_wp2
    go_ret
    exact ⟨rfl, hb⟩

set_option maxHeartbeats 400000 in
theorem mark_some (B g c n k : Nat) (xs : List Int) (w : World) (hk1 : k + n ≤ 1000000000) (hl : xs.length = n)
    (hv : w.ownsRow B 3 1 (.slice (some ⟨g, 0, none⟩) n c) n (xs.map (Value.int .i64))) :
    Calls Try.prog 32 #[.slice (some ⟨g, 0, none⟩) n c, .int .i64 k] w fun e w' => e = .returned (.int .i64 ((k + n : Nat) : Int)) ∧
      w'.ownsRow B 3 1 (.slice (some ⟨g, 0, none⟩) n c) n ((marks k n).map (Value.int .i64)) ∧ w.grownBy w' (some g) := by
  have HL := Lib.hid hl
  clear hl
  go_enter Try.func32, Try.ntmps32
  go_wp2
  go_loopw [1, 5] (fun x i wr => ∃ j : Nat, j ≤ n ∧ x = .int .i64 ((k + j : Nat) : Int) ∧ i = .int .i64 j ∧ wr.ownsRow B 3 1 (.slice (some ⟨g, 0, none⟩) n c) n ((rowM k xs j).map (Value.int .i64)) ∧ w.grownBy wr (some g)) (fun _ i _ => n - (intOf i).toNat)
  case atStart => exact ⟨0, Nat.zero_le _, rfl, rfl, by simpa [rowM, marks] using hv, grown_refl _ _⟩
  case round =>
    obtain ⟨j, hj, rfl, rfl, hown, hgw⟩ := hrel
    by_cases hlt : j < n
    · obtain ⟨u, hcell⟩ : ∃ u, wr.cell? ⟨g, j, none⟩ = some u := by
        rw [hown.cellAt j (by omega)]
        exact ⟨_, List.getElem?_eq_getElem (by rw [List.length_map, rowM_length _ _ _ _ HL.out hj]; exact hlt)⟩
      have hfrz := hown.frozenAt j
      have hst := hown.stored j (.int .i64 ((k : Int) + (j : Int)))
      have HST := Lib.hid hst
      clear hst
      have i0 : (0 : Int) ≤ (j : Int) := by omega
      have i1 : (j : Int) < (n : Int) := by omega
      go_wp2
      go_roundw
      case rel =>
        refine ⟨j + 1, by omega, by go_num, by go_num, ?_, grown_trans hgw HST.out.2⟩
        rw [← rowM_set k n xs j HL.out hlt]
        exact HST.out.1
      case measure => simp [intOf]; omega
    · obtain rfl : j = n := by omega
      have hend : rowM k xs j = marks k j := by unfold rowM; rw [List.drop_of_length_le (by rw [HL.out]; exact Nat.le_refl _), List.append_nil]
      rw [hend] at hown
      clear hend
      go_wp2
      go_ret
      exact ⟨rfl, hown, hgw⟩

theorem mark_any {B : Nat} {v : Value} {n k : Nat} {xs : List Int} (w : World) (hk1 : k + n ≤ 1000000000) (hv : w.ownsRow B 3 1 v n (xs.map (Value.int .i64))) :
    Calls Try.prog 32 #[v, .int .i64 k] w fun e w' => e = .returned (.int .i64 ((k + n : Nat) : Int)) ∧ w'.ownsRow B 3 1 v n ((marks k n).map (Value.int .i64)) ∧ w.grownBy w' v.ownBlock := by
  obtain ⟨a, c, rfl, hl, _, h1⟩ := own_form hv
  have hl' : xs.length = n := by simpa using hl
  by_cases h0 : n = 0
  · subst h0
    obtain rfl : xs = [] := List.length_eq_zero_iff.1 hl'
    exact (mark_none a c k w).mono fun e w' ⟨h1, h2⟩ => ⟨h1, own_below hv h2, grown_of_below h2⟩
  · rcases h1 with h1 | ⟨g, rfl, _, _, _, _⟩
    · exact absurd h1 h0
    · exact mark_some B g c n k xs w hk1 hl' hv

end Go.Proofs.Ytideejpopneplaa.ints
