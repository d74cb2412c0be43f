/-
  Slices of entries and of nodes: marks written and read; how much they are.
-/
import Derived.Test.YtnhcianahmfdhaaRecC
namespace Go.Proofs.Ytnhcianahmfdhaa.recs
open Go.RowKit
open kit strs

/-! ### how much -/
theorem szEntry_any (s : ByteArray) (i : Int) (m : Nat) (w : World) (hm : m ≤ 1048576) (hs : s.size ≤ 9223372036854775807) :
    Calls Try.prog 38 #[.agg #[.string s, .int .i64 i], .int .i64 m] w fun e w' => e = .returned (.int .i64 (if m < s.size then -1 else ((m - s.size : Nat) : Int))) ∧ Below w.heap.size w w' := by
  by_cases hb : m < s.size
  · rw [if_pos hb]
    have hw : IntKind.i64.wrap ((m : Int) - (s.size : Int)) = (m : Int) - (s.size : Int) := by rw [IntKind.wrap_i64]; omega
    have hneg : (m : Int) - (s.size : Int) < 0 := by omega
    go_enter Try.func38, Try.ntmps38
    go_wp2
    go_ret
    exact ⟨rfl, (Below.refl _ _).alloc (Nat.le_refl _) _⟩
  · rw [if_neg hb]
    have hw : IntKind.i64.wrap ((m : Int) - (s.size : Int)) = ((m - s.size : Nat) : Int) := by rw [IntKind.wrap_i64]; omega
    obtain ⟨m2, hm2⟩ : ∃ m2, m - s.size = m2 := ⟨_, rfl⟩
    rw [hm2] at hw ⊢
    clear hm2
    go_enter Try.func38, Try.ntmps38
    go_wp2
    go_ret
    exact ⟨rfl, (Below.refl _ _).alloc (Nat.le_refl _) _⟩
theorem szNode_any (i : Int) (s : ByteArray) (j : Int) (m : Nat) (w : World) (hm : m ≤ 1048576) (hs : s.size ≤ 9223372036854775807) :
    Calls Try.prog 51 #[.agg #[.int .i64 i, .string s, .int .i64 j], .int .i64 m] w fun e w' => e = .returned (.int .i64 (if m < s.size then -1 else ((m - s.size : Nat) : Int))) ∧ Below w.heap.size w w' := by
  by_cases hb : m < s.size
  · rw [if_pos hb]
    have hw : IntKind.i64.wrap ((m : Int) - (s.size : Int)) = (m : Int) - (s.size : Int) := by rw [IntKind.wrap_i64]; omega
    have hneg : (m : Int) - (s.size : Int) < 0 := by omega
    go_enter Try.func51, Try.ntmps51
    go_wp2
    go_ret
    exact ⟨rfl, (Below.refl _ _).alloc (Nat.le_refl _) _⟩
  · rw [if_neg hb]
    have hw : IntKind.i64.wrap ((m : Int) - (s.size : Int)) = ((m - s.size : Nat) : Int) := by rw [IntKind.wrap_i64]; omega
    obtain ⟨m2, hm2⟩ : ∃ m2, m - s.size = m2 := ⟨_, rfl⟩
    rw [hm2] at hw ⊢
    clear hm2
    go_enter Try.func51, Try.ntmps51
    go_wp2
    go_ret
    exact ⟨rfl, (Below.refl _ _).alloc (Nat.le_refl _) _⟩

set_option maxHeartbeats 400000 in
theorem szEntryS_any (a : Option Addr) (c n : Nat) (left : Nat) (xs : List Ent) (w : World) (hl : left ≤ 1048576) (hm : n ≤ 9223372036854775807) (ha : AtE w a n xs) (hs : ∀ e ∈ xs, e.1.size ≤ 9223372036854775807) :
    Calls Try.prog 14 #[.slice a n c, .int .i64 left] w fun e w' => e = .returned (.int .i64 (szI left (xs.map (·.1)))) ∧ Below w.heap.size w w' := by
  have HL := Lib.hid (show (xs.map (·.1)).length = n by rw [List.length_map]; exact ha.len)
  have HA := Lib.hid ha
  have HS := Lib.hid hs
  clear ha hs
  by_cases h0 : left < n
  · have HE := Lib.hid (show szI left (xs.map (·.1)) = -1 from if_neg (by rw [HL.out]; omega))
    go_enter Try.func14, Try.ntmps14
    go_wp2
    go_ret
    exact ⟨by rw [HE.out]; rfl, Below.refl _ _⟩
  · go_enter Try.func14, Try.ntmps14
    go_wp2
    go_loopw [1, 5] (fun l i wr => ∃ (k m : Nat), k ≤ n ∧ i = .int .i64 k ∧ l = .int .i64 m ∧ m + n + tot ((xs.map (·.1)).take k) = left ∧ Below w.heap.size w wr) (fun _ i _ => n - (intOf i).toNat)
    case atStart => exact ⟨0, left - n, Nat.zero_le _, rfl, by congr 1; omega, by simp [tot]; omega, Below.refl _ _⟩
    case round =>
      obtain ⟨k, m, hk, rfl, rfl, ht, hb⟩ := hrel
      by_cases hlt : k < n
      · obtain ⟨s, i, g, o, hx, rfl, hg, c1, c2⟩ := (HA.out.below hb).get hlt
        have hxk : (xs.map (·.1))[k]? = some s := by rw [List.getElem?_map, hx]; rfl
        have hxs := HS.out _ (List.mem_of_getElem? hx)
        have htx := tot_snoc (xs.map (·.1)) k s hxk
        have htl := tot_le (xs.map (·.1)) (k + 1)
        have hmm : m ≤ 1048576 := by omega
        have i0 : (0 : Int) ≤ (k : Int) := by omega
        have i1 : (k : Int) < (n : Int) := by omega
        by_cases hbb : m < s.size
        · have HE := Lib.hid (show szI left (xs.map (·.1)) = -1 from if_neg (by rw [HL.out]; omega))
          have HT := Lib.hid hbb
          clear hx hxk htx htl ht
          go_wp2_with ((go_at_call 38; refine (szEntry_any s i m _ hmm hxs).mono ?_; rw [if_pos HT.out]; rintro e w1 ⟨rfl, hb1⟩))
          go_ret
          exact ⟨by rw [HE.out]; rfl, hb.trans (hb1.mono hb.size)⟩
        · obtain ⟨m2, hm2⟩ : ∃ m2, m - s.size = m2 := ⟨_, rfl⟩
          have HT := Lib.hid (show m2 + n + tot ((xs.map (·.1)).take (k + 1)) = left by omega)
          have HN := Lib.hid hbb
          have HM := Lib.hid hm2
          clear hm2 hx hxk htx htl ht hbb
          go_wp2_with ((go_at_call 38; refine (szEntry_any s i m _ hmm hxs).mono ?_; rw [if_neg HN.out, HM.out]; rintro e w1 ⟨rfl, hb1⟩))
          go_roundw
          case rel => exact ⟨k + 1, m2, by omega, by go_num, rfl, HT.out, hb.trans (hb1.mono hb.size)⟩
          case measure => simp [intOf]; omega
      · obtain rfl : k = n := by omega
        have HE := Lib.hid (show szI left (xs.map (·.1)) = (m : Int) by
          rw [List.take_of_length_le (by rw [HL.out]; exact Nat.le_refl _)] at ht
          unfold szI
          rw [if_pos (by rw [HL.out]; omega), HL.out]
          omega)
        clear ht
        go_wp2
        go_ret
        exact ⟨by rw [HE.out]; rfl, hb⟩

set_option maxHeartbeats 400000 in
theorem szNodeS_any (a : Option Addr) (c n : Nat) (left : Nat) (xs : List Nod) (w : World) (hl : left ≤ 1048576) (hm : n ≤ 9223372036854775807) (ha : AtN w a n xs) (hs : ∀ e ∈ xs, e.2.1.size ≤ 9223372036854775807) :
    Calls Try.prog 42 #[.slice a n c, .int .i64 left] w fun e w' => e = .returned (.int .i64 (szI left (xs.map (·.2.1)))) ∧ Below w.heap.size w w' := by
  have HL := Lib.hid (show (xs.map (·.2.1)).length = n by rw [List.length_map]; exact ha.len)
  have HA := Lib.hid ha
  have HS := Lib.hid hs
  clear ha hs
  by_cases h0 : left < n
  · have HE := Lib.hid (show szI left (xs.map (·.2.1)) = -1 from if_neg (by rw [HL.out]; omega))
    go_enter Try.func42, Try.ntmps42
    go_wp2
    go_ret
    exact ⟨by rw [HE.out]; rfl, Below.refl _ _⟩
  · go_enter Try.func42, Try.ntmps42
    go_wp2
    go_loopw [1, 5] (fun l i wr => ∃ (k m : Nat), k ≤ n ∧ i = .int .i64 k ∧ l = .int .i64 m ∧ m + n + tot ((xs.map (·.2.1)).take k) = left ∧ Below w.heap.size w wr) (fun _ i _ => n - (intOf i).toNat)
    case atStart => exact ⟨0, left - n, Nat.zero_le _, rfl, by congr 1; omega, by simp [tot]; omega, Below.refl _ _⟩
    case round =>
      obtain ⟨k, m, hk, rfl, rfl, ht, hb⟩ := hrel
      by_cases hlt : k < n
      · obtain ⟨z, s, z', g, o, hx, rfl, hg, c1, c2, c3⟩ := (HA.out.below hb).get hlt
        have hxk : (xs.map (·.2.1))[k]? = some s := by rw [List.getElem?_map, hx]; rfl
        have hxs := HS.out _ (List.mem_of_getElem? hx)
        have htx := tot_snoc (xs.map (·.2.1)) k s hxk
        have htl := tot_le (xs.map (·.2.1)) (k + 1)
        have hmm : m ≤ 1048576 := by omega
        have i0 : (0 : Int) ≤ (k : Int) := by omega
        have i1 : (k : Int) < (n : Int) := by omega
        by_cases hbb : m < s.size
        · have HE := Lib.hid (show szI left (xs.map (·.2.1)) = -1 from if_neg (by rw [HL.out]; omega))
          have HT := Lib.hid hbb
          clear hx hxk htx htl ht
          go_wp2_with ((go_at_call 51; refine (szNode_any z s z' m _ hmm hxs).mono ?_; rw [if_pos HT.out]; rintro e w1 ⟨rfl, hb1⟩))
          go_ret
          exact ⟨by rw [HE.out]; rfl, hb.trans (hb1.mono hb.size)⟩
        · obtain ⟨m2, hm2⟩ : ∃ m2, m - s.size = m2 := ⟨_, rfl⟩
          have HT := Lib.hid (show m2 + n + tot ((xs.map (·.2.1)).take (k + 1)) = left by omega)
          have HN := Lib.hid hbb
          have HM := Lib.hid hm2
          clear hm2 hx hxk htx htl ht hbb
          go_wp2_with ((go_at_call 51; refine (szNode_any z s z' m _ hmm hxs).mono ?_; rw [if_neg HN.out, HM.out]; rintro e w1 ⟨rfl, hb1⟩))
          go_roundw
          case rel => exact ⟨k + 1, m2, by omega, by go_num, rfl, HT.out, hb.trans (hb1.mono hb.size)⟩
          case measure => simp [intOf]; omega
      · obtain rfl : k = n := by omega
        have HE := Lib.hid (show szI left (xs.map (·.2.1)) = (m : Int) by
          rw [List.take_of_length_le (by rw [HL.out]; exact Nat.le_refl _)] at ht
          unfold szI
          rw [if_pos (by rw [HL.out]; omega), HL.out]
          omega)
        clear ht
        go_wp2
        go_ret
        exact ⟨by rw [HE.out]; rfl, hb⟩

/-! ### marks -/
def marksE (k n : Nat) : List Ent := (List.range n).map fun i => (markB (k + 2 * i), ((k + 2 * i + 1 : Nat) : Int))
def marksN (k n : Nat) : List Nod := (List.range n).map fun i => (((k + 3 * i : Nat) : Int), markB (k + 3 * i + 1), ((k + 3 * i + 2 : Nat) : Int))
theorem marksE_at (k n j : Nat) (h : j < n) : (marksE k n)[j]? = some (markB (k + 2 * j), ((k + 2 * j + 1 : Nat) : Int)) := by simp [marksE, h]
theorem marksN_at (k n j : Nat) (h : j < n) : (marksN k n)[j]? = some (((k + 3 * j : Nat) : Int), markB (k + 3 * j + 1), ((k + 3 * j + 2 : Nat) : Int)) := by simp [marksN, h]
theorem marksE_len (k n : Nat) : (marksE k n).length = n := by simp [marksE]
theorem marksN_len (k n : Nat) : (marksN k n).length = n := by simp [marksN]
theorem part_set {α : Type} (ms ms' xs : List α) (x : α) (n j : Nat) (hm : ms.length = j) (hm' : ms' = ms ++ [x]) (hl : xs.length = n) (h : j < n) : (ms ++ xs.drop j).set j x = ms' ++ xs.drop (j + 1) := by
  subst hm'
  rw [List.set_append_right _ _ (by omega), hm, Nat.sub_self, List.drop_eq_getElem_cons (by omega), List.set_cons_zero]
  simp
theorem marksE_snoc (k j : Nat) : marksE k (j + 1) = marksE k j ++ [(markB (k + 2 * j), ((k + 2 * j + 1 : Nat) : Int))] := by simp [marksE, List.range_succ]
theorem marksN_snoc (k j : Nat) : marksN k (j + 1) = marksN k j ++ [(((k + 3 * j : Nat) : Int), markB (k + 3 * j + 1), ((k + 3 * j + 2 : Nat) : Int))] := by simp [marksN, List.range_succ]

set_option maxHeartbeats 400000 in
theorem heldEntryS_any (a : Option Addr) (c n k : Nat) (w : World) (hk0 : 0 < k) (hk1 : k + 2 * n ≤ 1000000000) (ha : AtE w a n (marksE k n)) :
    Calls Try.prog 37 #[.slice a n c, .int .i64 k] w fun e w' => e = .returned (.int .i64 ((k + 2 * n : Nat) : Int)) ∧ Below w.heap.size w w' := by
  have HA := Lib.hid ha
  clear ha
  go_enter Try.func37, Try.ntmps37
  go_wp2
  go_loopw [1, 5] (fun x i wr => ∃ j : Nat, j ≤ n ∧ x = .int .i64 ((k + 2 * j : Nat) : Int) ∧ i = .int .i64 j ∧ Below w.heap.size w wr) (fun _ i _ => n - (intOf i).toNat)
  case atStart => exact ⟨0, Nat.zero_le _, rfl, rfl, Below.refl _ _⟩
  case round =>
    obtain ⟨j, hj, rfl, rfl, hb⟩ := hrel
    by_cases hlt : j < n
    · obtain ⟨s, i, g, o, hx, rfl, hg, c1, c2⟩ := (HA.out.below hb).get hlt
      rw [marksE_at k n j hlt] at hx
      obtain ⟨rfl, rfl⟩ : markB (k + 2 * j) = s ∧ ((k + 2 * j + 1 : Nat) : Int) = i := by simpa using hx
      obtain ⟨q, hq⟩ : ∃ q, q = k + 2 * j := ⟨_, rfl⟩
      have i0 : (0 : Int) ≤ (j : Int) := by omega
      have i1 : (j : Int) < (n : Int) := by omega
      have q0 : 0 < q := by omega
      have q1 : q ≤ 1000000000 := by omega
      have HQ := Lib.hid hq
      rw [← hq] at c1 c2 ⊢
      clear hx hq
      go_wp2
      go_region_held3 (fun w' => w'.cell? ⟨g, o + j * 2, none⟩ = some (.string (markB q)) ∧ w'.cell? ⟨g, o + j * 2 + 1, none⟩ = some (.int .i64 ((q + 1 : Nat) : Int))) (first | exact ⟨c1, c2⟩ | exact ⟨d1, d2⟩) ((go_at_call 48; refine (markText_any q _ q0 q1).mono ?_; rintro e w1 ⟨rfl, hb1⟩; have d1 := (hb1.cell (p := ⟨g, o + j * 2, none⟩) hg).trans c1; have d2 := (hb1.cell (p := ⟨g, o + j * 2 + 1, none⟩) hg).trans c2))
      all_goals
        go_wp2
        go_roundw
        case rel => exact ⟨j + 1, by omega, by rw [show k + 2 * (j + 1) = q + 1 + 1 by have := HQ.out; omega]; go_num, by go_num, hb.drew.trans (hb1.mono hb.size)⟩
        case measure => simp [intOf]; omega
    · obtain rfl : j = n := by omega
      go_wp2
      go_ret
      exact ⟨rfl, hb⟩

set_option maxHeartbeats 400000 in
theorem markEntryS_some (B g c n k : Nat) (xs : List Ent) (w : World) (hk0 : 0 < k) (hk1 : k + 2 * n ≤ 1000000000) (hl : xs.length = n) (hg : g < w.heap.size)
    (hv : w.ownsRow B 61 2 (.slice (some ⟨g, 0, none⟩) n c) n (cellsE xs)) :
    Calls Try.prog 35 #[.slice (some ⟨g, 0, none⟩) n c, .int .i64 k] w fun e w' => e = .returned (.int .i64 ((k + 2 * n : Nat) : Int)) ∧
      w'.ownsRow B 61 2 (.slice (some ⟨g, 0, none⟩) n c) n (cellsE (marksE k n)) ∧ w.grownBy w' (some g) := by
  have HL := Lib.hid hl
  clear hl
  go_enter Try.func35, Try.ntmps35
  go_wp2
  go_loopw [1, 5] (fun x i wr => ∃ j : Nat, j ≤ n ∧ x = .int .i64 ((k + 2 * j : Nat) : Int) ∧ i = .int .i64 j ∧ wr.ownsRow B 61 2 (.slice (some ⟨g, 0, none⟩) n c) n (cellsE (marksE k j ++ xs.drop j)) ∧ w.grownBy wr (some g)) (fun _ i _ => n - (intOf i).toNat)
  case atStart => exact ⟨0, Nat.zero_le _, rfl, rfl, by simpa [marksE] using hv, grown_refl _ _⟩
  case round =>
    obtain ⟨j, hj, rfl, rfl, hown, hgw⟩ := hrel
    by_cases hlt : j < n
    · have hjl : j < (marksE k j ++ xs.drop j).length := by have := HL.out; simp [marksE_len]; omega
      have hgr : g < wr.heap.size := Nat.lt_of_lt_of_le hg hgw.size
      have HP := Lib.hid (part_set (marksE k j) _ xs _ n j (marksE_len k j) (marksE_snoc k j) HL.out hlt)
      obtain ⟨q, hq⟩ : ∃ q, q = k + 2 * j := ⟨_, rfl⟩
      have q0 : 0 < q := by omega
      have q1 : q ≤ 1000000000 := by omega
      have HQ := Lib.hid hq
      rw [← hq]
      clear hq
      go_wp2_with (go_at_call 48; refine (markText_any q _ q0 q1).mono ?_; rintro e w1 ⟨rfl, hb1⟩; have hown1 := own_below hown hb1; obtain ⟨u, hc1⟩ : ∃ u, w1.cell? ⟨g, j * 2, none⟩ = some u := ⟨_, (hown1.cellAt (j * 2) (by omega)).trans (List.getElem?_eq_getElem (by rw [cellsE_len]; omega))⟩; obtain ⟨u2, hc2⟩ : ∃ u, w1.cell? ⟨g, j * 2 + 1, none⟩ = some u := ⟨_, (hown1.cellAt (j * 2 + 1) (by omega)).trans (List.getElem?_eq_getElem (by rw [cellsE_len]; omega))⟩; have hf1 := hown1.frozenAt (j * 2); have hf2 := hown1.frozenAt (j * 2 + 1))
      have hst := own_set2 hown1 hjl (markB q) ((q + 1 : Nat) : Int)
      have hs1 := hown1.stored (j * 2) (.string (markB q))
      have hs2 := hs1.1.stored (j * 2 + 1) (.int .i64 ((q + 1 : Nat) : Int))
      go_roundw
      case rel =>
        refine ⟨j + 1, by omega, by rw [show k + 2 * (j + 1) = q + 1 + 1 by have := HQ.out; omega]; go_num, by go_num, ?_, grown_trans (grown_trans (grown_trans hgw (grown_of_below hb1)) hs1.2) hs2.2⟩
        rw [← HP.out, ← HQ.out]
        exact hst
      case measure => simp [intOf]; omega
    · obtain rfl : j = n := by omega
      have hend : marksE k j ++ xs.drop j = marksE k j := by rw [List.drop_of_length_le (by rw [HL.out]; exact Nat.le_refl _), List.append_nil]
      rw [hend] at hown
      clear hend
      go_wp2
      go_ret
      exact ⟨rfl, hown, hgw⟩

set_option maxHeartbeats 400000 in
theorem heldNodeS_any (a : Option Addr) (c n k : Nat) (w : World) (hk0 : 0 < k) (hk1 : k + 3 * n ≤ 1000000000) (ha : AtN w a n (marksN k n)) :
    Calls Try.prog 36 #[.slice a n c, .int .i64 k] w fun e w' => e = .returned (.int .i64 ((k + 3 * n : Nat) : Int)) ∧ Below w.heap.size w w' := by
  have HA := Lib.hid ha
  clear ha
  go_enter Try.func36, Try.ntmps36
  go_wp2
  go_loopw [1, 5] (fun x i wr => ∃ j : Nat, j ≤ n ∧ x = .int .i64 ((k + 3 * j : Nat) : Int) ∧ i = .int .i64 j ∧ Below w.heap.size w wr) (fun _ i _ => n - (intOf i).toNat)
  case atStart => exact ⟨0, Nat.zero_le _, rfl, rfl, Below.refl _ _⟩
  case round =>
    obtain ⟨j, hj, rfl, rfl, hb⟩ := hrel
    by_cases hlt : j < n
    · obtain ⟨z, s, z', g, o, hx, rfl, hg, c1, c2, c3⟩ := (HA.out.below hb).get hlt
      rw [marksN_at k n j hlt] at hx
      obtain ⟨rfl, rfl, rfl⟩ : ((k + 3 * j : Nat) : Int) = z ∧ markB (k + 3 * j + 1) = s ∧ ((k + 3 * j + 2 : Nat) : Int) = z' := by simpa using hx
      obtain ⟨q, hq⟩ : ∃ q, q = k + 3 * j := ⟨_, rfl⟩
      have i0 : (0 : Int) ≤ (j : Int) := by omega
      have i1 : (j : Int) < (n : Int) := by omega
      have q0 : 0 < q := by omega
      have q1 : q + 1 ≤ 1000000000 := by omega
      have HQ := Lib.hid hq
      rw [← hq] at c1 c2 c3 ⊢
      clear hx hq
      go_wp2
      go_region_held3 (fun w' => w'.cell? ⟨g, o + j * 3, none⟩ = some (.int .i64 ((q : Nat) : Int)) ∧ w'.cell? ⟨g, o + j * 3 + 1, none⟩ = some (.string (markB (q + 1))) ∧ w'.cell? ⟨g, o + j * 3 + 2, none⟩ = some (.int .i64 ((q + 2 : Nat) : Int))) (first | exact ⟨c1, c2, c3⟩ | exact ⟨d1, d2, d3⟩) ((go_at_call 48; refine (markText_any (q + 1) _ (by omega) q1).mono ?_; rintro e w1 ⟨rfl, hb1⟩; have d1 := (hb1.cell (p := ⟨g, o + j * 3, none⟩) hg).trans c1; have d2 := (hb1.cell (p := ⟨g, o + j * 3 + 1, none⟩) hg).trans c2; have d3 := (hb1.cell (p := ⟨g, o + j * 3 + 2, none⟩) hg).trans c3))
      all_goals
        go_wp2
        go_roundw
        case rel => exact ⟨j + 1, by omega, by rw [show k + 3 * (j + 1) = q + 1 + 1 + 1 by have := HQ.out; omega]; go_num, by go_num, hb.drew.trans (hb1.mono hb.size)⟩
        case measure => simp [intOf]; omega
    · obtain rfl : j = n := by omega
      go_wp2
      go_ret
      exact ⟨rfl, hb⟩

set_option maxHeartbeats 400000 in
theorem markNodeS_some (B g c n k : Nat) (xs : List Nod) (w : World) (hk0 : 0 < k) (hk1 : k + 3 * n ≤ 1000000000) (hl : xs.length = n) (hg : g < w.heap.size)
    (hv : w.ownsRow B 42 3 (.slice (some ⟨g, 0, none⟩) n c) n (cellsN xs)) :
    Calls Try.prog 34 #[.slice (some ⟨g, 0, none⟩) n c, .int .i64 k] w fun e w' => e = .returned (.int .i64 ((k + 3 * n : Nat) : Int)) ∧
      w'.ownsRow B 42 3 (.slice (some ⟨g, 0, none⟩) n c) n (cellsN (marksN k n)) ∧ w.grownBy w' (some g) := by
  have HL := Lib.hid hl
  clear hl
  go_enter Try.func34, Try.ntmps34
  go_wp2
  go_loopw [1, 5] (fun x i wr => ∃ j : Nat, j ≤ n ∧ x = .int .i64 ((k + 3 * j : Nat) : Int) ∧ i = .int .i64 j ∧ wr.ownsRow B 42 3 (.slice (some ⟨g, 0, none⟩) n c) n (cellsN (marksN k j ++ xs.drop j)) ∧ w.grownBy wr (some g)) (fun _ i _ => n - (intOf i).toNat)
  case atStart => exact ⟨0, Nat.zero_le _, rfl, rfl, by simpa [marksN] using hv, grown_refl _ _⟩
  case round =>
    obtain ⟨j, hj, rfl, rfl, hown, hgw⟩ := hrel
    by_cases hlt : j < n
    · have hjl : j < (marksN k j ++ xs.drop j).length := by have := HL.out; simp [marksN_len]; omega
      have hgr : g < wr.heap.size := Nat.lt_of_lt_of_le hg hgw.size
      have HP := Lib.hid (part_set (marksN k j) _ xs _ n j (marksN_len k j) (marksN_snoc k j) HL.out hlt)
      obtain ⟨q, hq⟩ : ∃ q, q = k + 3 * j := ⟨_, rfl⟩
      have q0 : 0 < q := by omega
      have q1 : q + 1 ≤ 1000000000 := by omega
      have HQ := Lib.hid hq
      rw [← hq]
      clear hq
      have hs0 := hown.stored (j * 3) (.int .i64 ((q : Nat) : Int))
      obtain ⟨u, hc1⟩ : ∃ u, wr.cell? ⟨g, j * 3, none⟩ = some u := ⟨_, (hown.cellAt (j * 3) (by omega)).trans (List.getElem?_eq_getElem (by rw [cellsN_len]; omega))⟩
      have hf1 := hown.frozenAt (j * 3)
      go_wp2_with (go_at_call 48; refine (markText_any (q + 1) _ (by omega) q1).mono ?_; rintro e w1 ⟨rfl, hb1⟩; have hown1 := own_below hs0.1 hb1; obtain ⟨u2, hc2⟩ : ∃ u, w1.cell? ⟨g, j * 3 + 1, none⟩ = some u := ⟨_, (hown1.cellAt (j * 3 + 1) (by omega)).trans (List.getElem?_eq_getElem (by rw [List.length_set, cellsN_len]; omega))⟩; obtain ⟨u3, hc3⟩ : ∃ u, w1.cell? ⟨g, j * 3 + 2, none⟩ = some u := ⟨_, (hown1.cellAt (j * 3 + 2) (by omega)).trans (List.getElem?_eq_getElem (by rw [List.length_set, cellsN_len]; omega))⟩; have hf3 := hown1.frozenAt (j * 3 + 2); have hf2 := hown1.frozenAt (j * 3 + 1))
      have hs1 := hown1.stored (j * 3 + 1) (.string (markB (q + 1)))
      have hs2 := hs1.1.stored (j * 3 + 2) (.int .i64 ((q + 2 : Nat) : Int))
      go_roundw
      case rel =>
        refine ⟨j + 1, by omega, by rw [show k + 3 * (j + 1) = q + 1 + 1 + 1 by have := HQ.out; omega]; go_num, by go_num, ?_, grown_trans (grown_trans (grown_trans (grown_trans hgw hs0.2) (grown_of_below hb1)) hs1.2) hs2.2⟩
        rw [← HP.out, ← cellsN_set _ _ _ _ _ hjl, ← HQ.out]
        exact hs2.1
      case measure => simp [intOf]; omega
    · obtain rfl : j = n := by omega
      have hend : marksN k j ++ xs.drop j = marksN k j := by rw [List.drop_of_length_le (by rw [HL.out]; exact Nat.le_refl _), List.append_nil]
      rw [hend] at hown
      clear hend
      go_wp2
      go_ret
      exact ⟨rfl, hown, hgw⟩

end Go.Proofs.Ytnhcianahmfdhaa.recs
