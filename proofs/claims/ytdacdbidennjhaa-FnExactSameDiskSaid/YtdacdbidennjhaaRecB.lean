/-
  Slices of entries and of nodes: two that hold the same are equal; copies; how much they are.
-/
import Derived.Test.YtdacdbidennjhaaRec
namespace Go.Proofs.Ytdacdbidennjhaa.recs
open Go.RowKit
open kit strs

set_option maxHeartbeats 400000 in
theorem eqEntryS_same (a b : Option Addr) (c d n : Nat) (xs : List Ent) (w : World) (hm : n ≤ maxLen) (ha : AtE w a n xs) (hb : AtE w b n xs) :
    Calls Try.prog 20 #[.slice a n c, .slice b n d] w fun e w' => e = .returned (.bool true) ∧ Below w.heap.size w w' := by
  unfold maxLen at hm
  have HA := Lib.hid ha
  have HB := Lib.hid hb
  clear ha hb
  go_enter Try.func20, Try.ntmps20
  go_wp2
  go_loopw [5] (fun i wr => ∃ k : Nat, k ≤ n ∧ i = .int .i64 k ∧ Below w.heap.size w wr) (fun i _ => n - (intOf i).toNat)
  case atStart => exact ⟨0, Nat.zero_le _, rfl, Below.refl _ _⟩
  case round =>
    obtain ⟨k, hk, rfl, hb⟩ := hrel
    by_cases hlt : k < n
    · obtain ⟨s, i, g, o, hx, rfl, hg, c1, c2⟩ := (HA.out.below hb).get hlt
      obtain ⟨s', i', h, p, hy, rfl, hh, c3, c4⟩ := (HB.out.below hb).get hlt
      obtain ⟨rfl, rfl⟩ : s = s' ∧ i = i' := by rw [hx] at hy; simpa using hy
      have i0 : (0 : Int) ≤ (k : Int) := by omega
      have i1 : (k : Int) < (n : Int) := by omega
      clear hx hy
      go_wp2
      go_region_held3 (fun w' => w'.cell? ⟨g, o + k * 2, none⟩ = some (.string s) ∧ w'.cell? ⟨g, o + k * 2 + 1, none⟩ = some (.int .i64 i) ∧ w'.cell? ⟨h, p + k * 2, none⟩ = some (.string s) ∧ w'.cell? ⟨h, p + k * 2 + 1, none⟩ = some (.int .i64 i)) (first | exact ⟨c1, c2, c3, c4⟩ | exact ⟨d1, d2, d3, d4⟩) ((go_at_call 27; refine (eqEntry_same s i _).mono ?_; rintro e w1 ⟨rfl, hb1⟩; have d1 := (hb1.cell (p := ⟨g, o + k * 2, none⟩) hg).trans c1; have d2 := (hb1.cell (p := ⟨g, o + k * 2 + 1, none⟩) hg).trans c2; have d3 := (hb1.cell (p := ⟨h, p + k * 2, none⟩) hh).trans c3; have d4 := (hb1.cell (p := ⟨h, p + k * 2 + 1, none⟩) hh).trans c4))
      all_goals
        go_wp2
        go_roundw
        case rel => exact ⟨k + 1, by omega, by go_num, hb.drew.trans (hb1.mono hb.size)⟩
        case measure => simp [intOf]; omega
    · go_wp2
      go_ret
      exact ⟨rfl, hb⟩

set_option maxHeartbeats 400000 in
theorem eqNodeS_same (a b : Option Addr) (c d n : Nat) (xs : List Nod) (w : World) (hm : n ≤ maxLen) (ha : AtN w a n xs) (hb : AtN w b n xs) :
    Calls Try.prog 19 #[.slice a n c, .slice b n d] w fun e w' => e = .returned (.bool true) ∧ Below w.heap.size w w' := by
  unfold maxLen at hm
  have HA := Lib.hid ha
  have HB := Lib.hid hb
  clear ha hb
  go_enter Try.func19, Try.ntmps19
  go_wp2
  go_loopw [5] (fun i wr => ∃ k : Nat, k ≤ n ∧ i = .int .i64 k ∧ Below w.heap.size w wr) (fun i _ => n - (intOf i).toNat)
  case atStart => exact ⟨0, Nat.zero_le _, rfl, Below.refl _ _⟩
  case round =>
    obtain ⟨k, hk, rfl, hb⟩ := hrel
    by_cases hlt : k < n
    · obtain ⟨i, s, j, g, o, hx, rfl, hg, c1, c2, c3⟩ := (HA.out.below hb).get hlt
      obtain ⟨i', s', j', h, p, hy, rfl, hh, c4, c5, c6⟩ := (HB.out.below hb).get hlt
      obtain ⟨rfl, rfl, rfl⟩ : i = i' ∧ s = s' ∧ j = j' := by rw [hx] at hy; simpa using hy
      have i0 : (0 : Int) ≤ (k : Int) := by omega
      have i1 : (k : Int) < (n : Int) := by omega
      clear hx hy
      go_wp2
      go_region_held3 (fun w' => w'.cell? ⟨g, o + k * 3, none⟩ = some (.int .i64 i) ∧ w'.cell? ⟨g, o + k * 3 + 1, none⟩ = some (.string s) ∧ w'.cell? ⟨g, o + k * 3 + 2, none⟩ = some (.int .i64 j) ∧ w'.cell? ⟨h, p + k * 3, none⟩ = some (.int .i64 i) ∧ w'.cell? ⟨h, p + k * 3 + 1, none⟩ = some (.string s) ∧ w'.cell? ⟨h, p + k * 3 + 2, none⟩ = some (.int .i64 j)) (first | exact ⟨c1, c2, c3, c4, c5, c6⟩ | exact ⟨d1, d2, d3, d4, d5, d6⟩) ((go_at_call 26; refine (eqNode_same i s j _).mono ?_; rintro e w1 ⟨rfl, hb1⟩; have d1 := (hb1.cell (p := ⟨g, o + k * 3, none⟩) hg).trans c1; have d2 := (hb1.cell (p := ⟨g, o + k * 3 + 1, none⟩) hg).trans c2; have d3 := (hb1.cell (p := ⟨g, o + k * 3 + 2, none⟩) hg).trans c3; have d4 := (hb1.cell (p := ⟨h, p + k * 3, none⟩) hh).trans c4; have d5 := (hb1.cell (p := ⟨h, p + k * 3 + 1, none⟩) hh).trans c5; have d6 := (hb1.cell (p := ⟨h, p + k * 3 + 2, none⟩) hh).trans c6))
      all_goals
        go_wp2
        go_roundw
        case rel => exact ⟨k + 1, by omega, by go_num, hb.drew.trans (hb1.mono hb.size)⟩
        case measure => simp [intOf]; omega
    · go_wp2
      go_ret
      exact ⟨rfl, hb⟩

/-! ### one element brought over -/
theorem toEntry_any (s : ByteArray) (i : Int) (w : World) :
    Calls Try.prog 25 #[.agg #[.string s, .int .i64 i]] w fun e w' => e = .returned (.agg #[.string s, .int .i64 i]) ∧ Below w.heap.size w w' := by
  go_enter Try.func25, Try.ntmps25
  go_wp2
  refine bodyPost_ret (v := .agg #[.string s, .int .i64 i]) (by simp [results, Try.results25, go_sem]) rfl ⟨rfl, ?_⟩
  exact ((((Below.refl _ _).alloc (Nat.le_refl _) _).alloc (by simp) _).alloc (by simp; omega) _)
theorem toNode_any (i : Int) (s : ByteArray) (j : Int) (w : World) :
    Calls Try.prog 24 #[.agg #[.int .i64 i, .string s, .int .i64 j]] w fun e w' => e = .returned (.agg #[.int .i64 i, .string s, .int .i64 j]) ∧ Below w.heap.size w w' := by
  go_enter Try.func24, Try.ntmps24
  go_wp2
  refine bodyPost_ret (v := .agg #[.int .i64 i, .string s, .int .i64 j]) (by simp [results, Try.results24, go_sem]) rfl ⟨rfl, ?_⟩
  exact ((((Below.refl _ _).alloc (Nat.le_refl _) _).alloc (by simp) _).alloc (by simp; omega) _)

end Go.Proofs.Ytdacdbidennjhaa.recs
