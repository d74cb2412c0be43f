/-
  Contracts of the laws' helpers on places: compared, made, marked, held, counted.
-/
import Derived.Test.YtpibemlganeacaaPlP
import Derived.Test.YtpibemlganeacaaRecQ
namespace Go.Proofs.Ytpibemlganeacaa.pl
set_option maxRecDepth 20000
open Go.RowKit
open kit sum num burst hd fr recs

theorem eqPlace_same (s i : Int) (w : World) :
    Calls Try.prog 9 #[.agg #[.int .i64 s, .int .i64 i], .agg #[.int .i64 s, .int .i64 i]] w fun e w' => e = .returned (.bool true) ∧ Below w.heap.size w w' := by
  go_enter Try.func9, Try.ntmps9
  go_wp2
  go_ret
  exact ⟨rfl, ((Below.refl _ _).alloc (Nat.le_refl _) _).alloc (by simp) _⟩
set_option maxHeartbeats 400000 in
theorem eqPlaceS_same (a b : Option Addr) (c d n : Nat) (xs : List Plc) (w : World) (hm : n ≤ maxLen) (ha : AtP w a n xs) (hb : AtP w b n xs) :
    Calls Try.prog 10 #[.slice a n c, .slice b n d] w fun e w' => e = .returned (.bool true) ∧ Below w.heap.size w w' := by
  unfold maxLen at hm
  have HA := Lib.hid ha
  have HB := Lib.hid hb
  clear ha hb
  go_enter Try.func10, Try.ntmps10
  go_wp2
  go_loopw [5] (fun i wr => ∃ k : Nat, k ≤ n ∧ i = .int .i64 k ∧ Below w.heap.size w wr) (fun i _ => n - (intOf i).toNat)
  case atStart => exact ⟨0, Nat.zero_le _, rfl, Below.refl _ _⟩
  case round =>
    obtain ⟨k, hk, rfl, hb⟩ := hrel
    by_cases hlt : k < n
    · obtain ⟨s, i, g, o, hx, rfl, hg, c1, c2⟩ := (HA.out.below hb).get hlt
      obtain ⟨s', i', h, p, hy, rfl, hh, c3, c4⟩ := (HB.out.below hb).get hlt
      obtain ⟨rfl, rfl⟩ : s = s' ∧ i = i' := by rw [hx] at hy; simpa using hy
      have i0 : (0 : Int) ≤ (k : Int) := by omega
      have i1 : (k : Int) < (n : Int) := by omega
      clear hx hy
      go_wp2
      go_region_held3 (fun w' => w'.cell? ⟨g, o + k * 2, none⟩ = some (.int .i64 s) ∧ w'.cell? ⟨g, o + k * 2 + 1, none⟩ = some (.int .i64 i) ∧ w'.cell? ⟨h, p + k * 2, none⟩ = some (.int .i64 s) ∧ w'.cell? ⟨h, p + k * 2 + 1, none⟩ = some (.int .i64 i)) (first | exact ⟨c1, c2, c3, c4⟩ | exact ⟨d1, d2, d3, d4⟩) ((go_at_call 9; refine (eqPlace_same s i _).mono ?_; rintro e w1 ⟨rfl, hb1⟩; have d1 := (hb1.cell (p := ⟨g, o + k * 2, none⟩) hg).trans c1; have d2 := (hb1.cell (p := ⟨g, o + k * 2 + 1, none⟩) hg).trans c2; have d3 := (hb1.cell (p := ⟨h, p + k * 2, none⟩) hh).trans c3; have d4 := (hb1.cell (p := ⟨h, p + k * 2 + 1, none⟩) hh).trans c4))
      all_goals
        go_wp2
        go_roundw
        case rel => exact ⟨k + 1, by omega, by go_num, hb.drew.trans (hb1.mono hb.size)⟩
        case measure => simp [intOf]; omega
    · go_wp2
      go_ret
      exact ⟨rfl, hb⟩

theorem cellsP_set : ∀ (xs : List Plc) (k : Nat) (s i : Int), k < xs.length → ((cellsP xs).set (k * 2) (.int .i64 s)).set (k * 2 + 1) (.int .i64 i) = cellsP (xs.set k (s, i))
  | [], k, s, i, h => by simp at h
  | e :: r, 0, s, i, h => by simp [cellsP_cons]
  | e :: r, k + 1, s, i, h => by
    rw [List.set_cons_succ, cellsP_cons, cellsP_cons, ← cellsP_set r k s i (by simpa using h), show (k + 1) * 2 = k * 2 + 1 + 1 by omega]
    simp
theorem own_setP {w : World} {B : Nat} {e : TypeId} {g n c k : Nat} {xs : List Plc} (h : w.ownsRow B e 2 (.slice (some ⟨g, 0, none⟩) n c) n (cellsP xs)) (hk : k < xs.length) (s i : Int) :
    ((w.setCell ⟨g, k * 2, none⟩ (.int .i64 s)).setCell ⟨g, k * 2 + 1, none⟩ (.int .i64 i)).ownsRow B e 2 (.slice (some ⟨g, 0, none⟩) n c) n (cellsP (xs.set k (s, i))) := by
  have h1 := ((h.stored (k * 2) (.int .i64 s)).1.stored (k * 2 + 1) (.int .i64 i)).1
  rwa [cellsP_set xs k s i hk] at h1
theorem flatP_zero (n : Nat) : (List.replicate n [Value.int .i64 0, .int .i64 0]).flatten = cellsP (List.replicate n ((0 : Int), (0 : Int))) := by
  induction n with
  | zero => rfl
  | succ n ih => rw [List.replicate_succ, List.replicate_succ, List.flatten_cons, ih]; rfl

/-! ### marks -/
def marksP (k n : Nat) : List Plc := (List.range n).map fun i => (((k + 2 * i : Nat) : Int), ((k + 2 * i + 1 : Nat) : Int))
theorem marksP_at (k n j : Nat) (h : j < n) : (marksP k n)[j]? = some (((k + 2 * j : Nat) : Int), ((k + 2 * j + 1 : Nat) : Int)) := by simp [marksP, h]
theorem marksP_len (k n : Nat) : (marksP k n).length = n := by simp [marksP]
theorem marksP_snoc (k j : Nat) : marksP k (j + 1) = marksP k j ++ [(((k + 2 * j : Nat) : Int), ((k + 2 * j + 1 : Nat) : Int))] := by simp [marksP, List.range_succ]

theorem toPlace_any (s i : Int) (w : World) :
    Calls Try.prog 13 #[.agg #[.int .i64 s, .int .i64 i]] w fun e w' => e = .returned (.agg #[.int .i64 s, .int .i64 i]) ∧ Below w.heap.size w w' := by
  go_enter Try.func13, Try.ntmps13
  go_wp2
  refine bodyPost_ret (v := .agg #[.int .i64 s, .int .i64 i]) (by simp [results, Try.results13, go_sem]) rfl ⟨rfl, ?_⟩
  exact ((((Below.refl _ _).alloc (Nat.le_refl _) _).alloc (by simp) _).alloc (by simp; omega) _)
set_option maxHeartbeats 400000 in
theorem toPlaceS_any (a : Option Addr) (c n : Nat) (xs : List Plc) (w : World) (hm : n ≤ 1048576) (ha : AtP w a n xs) :
    Calls Try.prog 7 #[.slice a n c] w fun e w' => e = .returned (.slice (some ⟨w.heap.size, 0, none⟩) n n) ∧ w'.ownsRow w.heap.size 25 2 (.slice (some ⟨w.heap.size, 0, none⟩) n n) n (cellsP xs) ∧ Below w.heap.size w w' := by
  obtain ⟨i0, hi, hz0, hz1, hz2⟩ := info_parts Try.infoPlace
  have HL := Lib.hid ha.len
  have HA := Lib.hid ha
  clear ha
  go_enter Try.func7, Try.ntmps7
  go_wp2_with (refine wpList_make_full _ (by rfl) _ _ 28 (by rfl) w.heap.size 25 i0 (.agg #[.int .i64 0, .int .i64 0]) 2 Try.underlying28 hi hz0 hz1 .i64 .i64 _ _ n (by rfl) (by rfl) ?_ ?_ ?_ ?_ ?_ ?_; omega; omega; (rw [hz2]; omega); (unfold maxLen; omega); exact Nat.le_refl _; intro w1 hown1 hg1)
  have hb1 : Below w.heap.size w w1 := (Below.refl _ _).grown hg1 (Nat.le_refl _) (fun k hk => by cases hk)
  have hown2 : w1.ownsRow w.heap.size 25 2 (.slice (some ⟨w.heap.size, 0, none⟩) n n) n (cellsP (xs.take 0 ++ List.replicate (n - 0) ((0 : Int), (0 : Int)))) := by
    rw [show (Value.agg #[.int .i64 0, .int .i64 0]).cells = #[.int .i64 0, .int .i64 0] from rfl, made2p, flatP_zero] at hown1
    simpa using hown1
  clear hown1
  go_loopw [4] (fun i wr => ∃ (k : Nat), k ≤ n ∧ i = .int .i64 k ∧ wr.ownsRow w.heap.size 25 2 (.slice (some ⟨w.heap.size, 0, none⟩) n n) n (cellsP (xs.take k ++ List.replicate (n - k) ((0 : Int), (0 : Int)))) ∧ Below w.heap.size w wr) (fun i _ => n - (intOf i).toNat)
  case atStart => exact ⟨0, Nat.zero_le _, rfl, hown2, hb1⟩
  case round =>
    obtain ⟨k, hk, rfl, hown, hb⟩ := hrel
    clear hown2
    by_cases hlt : k < n
    · obtain ⟨s, i, g, o, hx, rfl, hg, c1, c2⟩ := (HA.out.below hb).get hlt
      have HS := Lib.hid (fill_set2 xs ((0 : Int), (0 : Int)) (s, i) n k HL.out hlt hx)
      have hkl : k < (xs.take k ++ List.replicate (n - k) ((0 : Int), (0 : Int))).length := by have := HL.out; simp; omega
      have i0 : (0 : Int) ≤ (k : Int) := by omega
      have i1 : (k : Int) < (n : Int) := by omega
      clear hx
      go_wp2_with ((go_at_call 13; refine (toPlace_any s i _).mono ?_; rintro e w1 ⟨rfl, hb1⟩; have hown1 := own_below hown hb1; obtain ⟨u, hc1⟩ : ∃ u, w1.cell? ⟨w.heap.size, k * 2, none⟩ = some u := ⟨_, (hown1.cellAt (k * 2) (by omega)).trans (List.getElem?_eq_getElem (by rw [cellsP_len]; omega))⟩; obtain ⟨u2, hc2⟩ : ∃ u, w1.cell? ⟨w.heap.size, k * 2 + 1, none⟩ = some u := ⟨_, (hown1.cellAt (k * 2 + 1) (by omega)).trans (List.getElem?_eq_getElem (by rw [cellsP_len]; omega))⟩; have hf1 := hown1.frozenAt (k * 2); have hf2 := hown1.frozenAt (k * 2 + 1)))
      go_roundw
      case rel =>
        refine ⟨k + 1, by omega, by go_num, ?_, ((hb.trans (hb1.mono hb.size)).setCell (Nat.le_refl _) _).setCell (Nat.le_refl _) _⟩
        rw [← HS.out]
        exact own_setP hown1 hkl s i
      case measure => simp [intOf]; omega
    · obtain rfl : k = n := by omega
      have hend : xs.take k ++ List.replicate (k - k) ((0 : Int), (0 : Int)) = xs := by
        rw [Nat.sub_self, List.take_of_length_le (by rw [HL.out]; exact Nat.le_refl _)]
        simp
      rw [hend] at hown
      clear hend
      go_wp2
      go_ret
      exact ⟨rfl, hown, hb⟩
theorem szPlaceS_any (a : Option Addr) (c n : Nat) (w : World) (hm : n ≤ 9223372036854775807) :
    Calls Try.prog 5 #[.slice a n c, .int .i64 1048576] w fun e w' => e = .returned (.int .i64 (if n ≤ 1048576 then 1048576 - (n : Int) else -1)) ∧ w = w' := by
  by_cases h : n ≤ 1048576
  · have h1 : ¬ (1048576 : Int) - (n : Int) < 0 := by omega
    go_enter Try.func5, Try.ntmps5
    go_wp2
    go_ret
    exact ⟨rfl, rfl⟩
  · have h1 : (1048576 : Int) - (n : Int) < 0 := by omega
    go_enter Try.func5, Try.ntmps5
    go_wp2
    go_ret
    exact ⟨rfl, rfl⟩

end Go.Proofs.Ytpibemlganeacaa.pl
