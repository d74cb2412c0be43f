/-
  Slices of entries and of nodes: marks written and read; how much they are.
-/
import Derived.Test.YtdacdbidennjhaaRecC
namespace Go.Proofs.Ytdacdbidennjhaa.recs
open Go.RowKit
open kit strs

/-! ### how much -/
theorem szEntry_any (s : ByteArray) (i : Int) (m : Nat) (w : World) (hm : m ≤ 1048576) (hs : s.size ≤ 9223372036854775807) :
    Calls Try.prog 23 #[.agg #[.string s, .int .i64 i], .int .i64 m] w fun e w' => e = .returned (.int .i64 (if m < s.size then -1 else ((m - s.size : Nat) : Int))) ∧ Below w.heap.size w w' := by
  by_cases hb : m < s.size
  · rw [if_pos hb]
    have hw : IntKind.i64.wrap ((m : Int) - (s.size : Int)) = (m : Int) - (s.size : Int) := by rw [IntKind.wrap_i64]; omega
    have hneg : (m : Int) - (s.size : Int) < 0 := by omega
    go_enter Try.func23, Try.ntmps23
    go_wp2
    go_ret
    exact ⟨rfl, (Below.refl _ _).alloc (Nat.le_refl _) _⟩
  · rw [if_neg hb]
    have hw : IntKind.i64.wrap ((m : Int) - (s.size : Int)) = ((m - s.size : Nat) : Int) := by rw [IntKind.wrap_i64]; omega
    obtain ⟨m2, hm2⟩ : ∃ m2, m - s.size = m2 := ⟨_, rfl⟩
    rw [hm2] at hw ⊢
    clear hm2
    go_enter Try.func23, Try.ntmps23
    go_wp2
    go_ret
    exact ⟨rfl, (Below.refl _ _).alloc (Nat.le_refl _) _⟩
theorem szNode_any (i : Int) (s : ByteArray) (j : Int) (m : Nat) (w : World) (hm : m ≤ 1048576) (hs : s.size ≤ 9223372036854775807) :
    Calls Try.prog 22 #[.agg #[.int .i64 i, .string s, .int .i64 j], .int .i64 m] w fun e w' => e = .returned (.int .i64 (if m < s.size then -1 else ((m - s.size : Nat) : Int))) ∧ Below w.heap.size w w' := by
  by_cases hb : m < s.size
  · rw [if_pos hb]
    have hw : IntKind.i64.wrap ((m : Int) - (s.size : Int)) = (m : Int) - (s.size : Int) := by rw [IntKind.wrap_i64]; omega
    have hneg : (m : Int) - (s.size : Int) < 0 := by omega
    go_enter Try.func22, Try.ntmps22
    go_wp2
    go_ret
    exact ⟨rfl, (Below.refl _ _).alloc (Nat.le_refl _) _⟩
  · rw [if_neg hb]
    have hw : IntKind.i64.wrap ((m : Int) - (s.size : Int)) = ((m - s.size : Nat) : Int) := by rw [IntKind.wrap_i64]; omega
    obtain ⟨m2, hm2⟩ : ∃ m2, m - s.size = m2 := ⟨_, rfl⟩
    rw [hm2] at hw ⊢
    clear hm2
    go_enter Try.func22, Try.ntmps22
    go_wp2
    go_ret
    exact ⟨rfl, (Below.refl _ _).alloc (Nat.le_refl _) _⟩

set_option maxHeartbeats 400000 in
theorem szEntryS_any (a : Option Addr) (c n : Nat) (left : Nat) (xs : List Ent) (w : World) (hl : left ≤ 1048576) (hm : n ≤ 9223372036854775807) (ha : AtE w a n xs) (hs : ∀ e ∈ xs, e.1.size ≤ 9223372036854775807) :
    Calls Try.prog 10 #[.slice a n c, .int .i64 left] w fun e w' => e = .returned (.int .i64 (szI left (xs.map (·.1)))) ∧ Below w.heap.size w w' := by
  have HL := Lib.hid (show (xs.map (·.1)).length = n by rw [List.length_map]; exact ha.len)
  have HA := Lib.hid ha
  have HS := Lib.hid hs
  clear ha hs
  by_cases h0 : left < n
  · have HE := Lib.hid (show szI left (xs.map (·.1)) = -1 from if_neg (by rw [HL.out]; omega))
    go_enter Try.func10, Try.ntmps10
    go_wp2
    go_ret
    exact ⟨by rw [HE.out]; rfl, Below.refl _ _⟩
  · go_enter Try.func10, Try.ntmps10
    go_wp2
    go_loopw [1, 5] (fun l i wr => ∃ (k m : Nat), k ≤ n ∧ i = .int .i64 k ∧ l = .int .i64 m ∧ m + n + tot ((xs.map (·.1)).take k) = left ∧ Below w.heap.size w wr) (fun _ i _ => n - (intOf i).toNat)
    case atStart => exact ⟨0, left - n, Nat.zero_le _, rfl, by congr 1; omega, by simp [tot]; omega, Below.refl _ _⟩
    case round =>
      obtain ⟨k, m, hk, rfl, rfl, ht, hb⟩ := hrel
      by_cases hlt : k < n
      · obtain ⟨s, i, g, o, hx, rfl, hg, c1, c2⟩ := (HA.out.below hb).get hlt
        have hxk : (xs.map (·.1))[k]? = some s := by rw [List.getElem?_map, hx]; rfl
        have hxs := HS.out _ (List.mem_of_getElem? hx)
        have htx := tot_snoc (xs.map (·.1)) k s hxk
        have htl := tot_le (xs.map (·.1)) (k + 1)
        have hmm : m ≤ 1048576 := by omega
        have i0 : (0 : Int) ≤ (k : Int) := by omega
        have i1 : (k : Int) < (n : Int) := by omega
        by_cases hbb : m < s.size
        · have HE := Lib.hid (show szI left (xs.map (·.1)) = -1 from if_neg (by rw [HL.out]; omega))
          have HT := Lib.hid hbb
          clear hx hxk htx htl ht
          go_wp2_with ((go_at_call 23; refine (szEntry_any s i m _ hmm hxs).mono ?_; rw [if_pos HT.out]; rintro e w1 ⟨rfl, hb1⟩))
          go_ret
          exact ⟨by rw [HE.out]; rfl, hb.trans (hb1.mono hb.size)⟩
        · obtain ⟨m2, hm2⟩ : ∃ m2, m - s.size = m2 := ⟨_, rfl⟩
          have HT := Lib.hid (show m2 + n + tot ((xs.map (·.1)).take (k + 1)) = left by omega)
          have HN := Lib.hid hbb
          have HM := Lib.hid hm2
          clear hm2 hx hxk htx htl ht hbb
          go_wp2_with ((go_at_call 23; refine (szEntry_any s i m _ hmm hxs).mono ?_; rw [if_neg HN.out, HM.out]; rintro e w1 ⟨rfl, hb1⟩))
          go_roundw
          case rel => exact ⟨k + 1, m2, by omega, by go_num, rfl, HT.out, hb.trans (hb1.mono hb.size)⟩
          case measure => simp [intOf]; omega
      · obtain rfl : k = n := by omega
        have HE := Lib.hid (show szI left (xs.map (·.1)) = (m : Int) by
          rw [List.take_of_length_le (by rw [HL.out]; exact Nat.le_refl _)] at ht
          unfold szI
          rw [if_pos (by rw [HL.out]; omega), HL.out]
          omega)
        clear ht
        go_wp2
        go_ret
        exact ⟨by rw [HE.out]; rfl, hb⟩

set_option maxHeartbeats 400000 in
theorem szNodeS_any (a : Option Addr) (c n : Nat) (left : Nat) (xs : List Nod) (w : World) (hl : left ≤ 1048576) (hm : n ≤ 9223372036854775807) (ha : AtN w a n xs) (hs : ∀ e ∈ xs, e.2.1.size ≤ 9223372036854775807) :
    Calls Try.prog 9 #[.slice a n c, .int .i64 left] w fun e w' => e = .returned (.int .i64 (szI left (xs.map (·.2.1)))) ∧ Below w.heap.size w w' := by
  have HL := Lib.hid (show (xs.map (·.2.1)).length = n by rw [List.length_map]; exact ha.len)
  have HA := Lib.hid ha
  have HS := Lib.hid hs
  clear ha hs
  by_cases h0 : left < n
  · have HE := Lib.hid (show szI left (xs.map (·.2.1)) = -1 from if_neg (by rw [HL.out]; omega))
    go_enter Try.func9, Try.ntmps9
    go_wp2
    go_ret
    exact ⟨by rw [HE.out]; rfl, Below.refl _ _⟩
  · go_enter Try.func9, Try.ntmps9
    go_wp2
    go_loopw [1, 5] (fun l i wr => ∃ (k m : Nat), k ≤ n ∧ i = .int .i64 k ∧ l = .int .i64 m ∧ m + n + tot ((xs.map (·.2.1)).take k) = left ∧ Below w.heap.size w wr) (fun _ i _ => n - (intOf i).toNat)
    case atStart => exact ⟨0, left - n, Nat.zero_le _, rfl, by congr 1; omega, by simp [tot]; omega, Below.refl _ _⟩
    case round =>
      obtain ⟨k, m, hk, rfl, rfl, ht, hb⟩ := hrel
      by_cases hlt : k < n
      · obtain ⟨z, s, z', g, o, hx, rfl, hg, c1, c2, c3⟩ := (HA.out.below hb).get hlt
        have hxk : (xs.map (·.2.1))[k]? = some s := by rw [List.getElem?_map, hx]; rfl
        have hxs := HS.out _ (List.mem_of_getElem? hx)
        have htx := tot_snoc (xs.map (·.2.1)) k s hxk
        have htl := tot_le (xs.map (·.2.1)) (k + 1)
        have hmm : m ≤ 1048576 := by omega
        have i0 : (0 : Int) ≤ (k : Int) := by omega
        have i1 : (k : Int) < (n : Int) := by omega
        by_cases hbb : m < s.size
        · have HE := Lib.hid (show szI left (xs.map (·.2.1)) = -1 from if_neg (by rw [HL.out]; omega))
          have HT := Lib.hid hbb
          clear hx hxk htx htl ht
          go_wp2_with ((go_at_call 22; refine (szNode_any z s z' m _ hmm hxs).mono ?_; rw [if_pos HT.out]; rintro e w1 ⟨rfl, hb1⟩))
          go_ret
          exact ⟨by rw [HE.out]; rfl, hb.trans (hb1.mono hb.size)⟩
        · obtain ⟨m2, hm2⟩ : ∃ m2, m - s.size = m2 := ⟨_, rfl⟩
          have HT := Lib.hid (show m2 + n + tot ((xs.map (·.2.1)).take (k + 1)) = left by omega)
          have HN := Lib.hid hbb
          have HM := Lib.hid hm2
          clear hm2 hx hxk htx htl ht hbb
          go_wp2_with ((go_at_call 22; refine (szNode_any z s z' m _ hmm hxs).mono ?_; rw [if_neg HN.out, HM.out]; rintro e w1 ⟨rfl, hb1⟩))
          go_roundw
          case rel => exact ⟨k + 1, m2, by omega, by go_num, rfl, HT.out, hb.trans (hb1.mono hb.size)⟩
          case measure => simp [intOf]; omega
      · obtain rfl : k = n := by omega
        have HE := Lib.hid (show szI left (xs.map (·.2.1)) = (m : Int) by
          rw [List.take_of_length_le (by rw [HL.out]; exact Nat.le_refl _)] at ht
          unfold szI
          rw [if_pos (by rw [HL.out]; omega), HL.out]
          omega)
        clear ht
        go_wp2
        go_ret
        exact ⟨by rw [HE.out]; rfl, hb⟩

/-! ### marks -/
def marksE (k n : Nat) : List Ent := (List.range n).map fun i => (markB (k + 2 * i), ((k + 2 * i + 1 : Nat) : Int))
def marksN (k n : Nat) : List Nod := (List.range n).map fun i => (((k + 3 * i : Nat) : Int), markB (k + 3 * i + 1), ((k + 3 * i + 2 : Nat) : Int))
theorem marksE_at (k n j : Nat) (h : j < n) : (marksE k n)[j]? = some (markB (k + 2 * j), ((k + 2 * j + 1 : Nat) : Int)) := by simp [marksE, h]
theorem marksN_at (k n j : Nat) (h : j < n) : (marksN k n)[j]? = some (((k + 3 * j : Nat) : Int), markB (k + 3 * j + 1), ((k + 3 * j + 2 : Nat) : Int)) := by simp [marksN, h]
theorem marksE_len (k n : Nat) : (marksE k n).length = n := by simp [marksE]
theorem marksN_len (k n : Nat) : (marksN k n).length = n := by simp [marksN]
theorem part_set {α : Type} (ms ms' xs : List α) (x : α) (n j : Nat) (hm : ms.length = j) (hm' : ms' = ms ++ [x]) (hl : xs.length = n) (h : j < n) : (ms ++ xs.drop j).set j x = ms' ++ xs.drop (j + 1) := by
  subst hm'
  rw [List.set_append_right _ _ (by omega), hm, Nat.sub_self, List.drop_eq_getElem_cons (by omega), List.set_cons_zero]
  simp
theorem marksE_snoc (k j : Nat) : marksE k (j + 1) = marksE k j ++ [(markB (k + 2 * j), ((k + 2 * j + 1 : Nat) : Int))] := by simp [marksE, List.range_succ]
theorem marksN_snoc (k j : Nat) : marksN k (j + 1) = marksN k j ++ [(((k + 3 * j : Nat) : Int), markB (k + 3 * j + 1), ((k + 3 * j + 2 : Nat) : Int))] := by simp [marksN, List.range_succ]

end Go.Proofs.Ytdacdbidennjhaa.recs
