/-
  Contracts of spec's deeds: l06Same, l06Put, l06Drop, Brought.
-/
import Derived.Test.YtnhcianahmfdhaaGreatDoorDpMath
import Derived.Test.YtnhcianahmfdhaaGreatDoorKinds
import Derived.Test.YtnhcianahmfdhaaGreatDoorDkB
import Derived.Test.YtnhcianahmfdhaaGreatDoorAppN
namespace Go.Proofs.YtnhcianahmfdhaaGreatDoor.deed
open Go.RowKit
open kit strs recs disk kd

theorem take_ne {α : Type} {xs ys : List α} {k : Nat} {x y : α} (hx : xs[k]? = some x) (hy : ys[k]? = some y) (h : ¬ x = y) : ¬ xs = ys := fun e => h (by rw [e, hy] at hx; exact (Option.some.inj hx).symm)
theorem ent_ne {s t : ByteArray} {i j : Int} (h : ¬ ((s, i) : Ent) = (t, j)) : ¬ s = t ∨ ¬ i = j := by
  by_cases h1 : s = t
  · exact .inr fun h2 => h (by rw [h1, h2])
  · exact .inl h1
theorem int_ne {i j : Int} (h : ¬ i = j) : (i == j) = false := by simpa using h

set_option maxHeartbeats 400000 in
theorem specSame (a b : Option Addr) (c e n m : Nat) (xs ys : List Ent) (w : World) (hn : n ≤ maxLen) (hm : m ≤ maxLen) (ha : AtE w a n xs) (hb : AtE w b m ys) :
    Calls Tryz.prog 32 #[.slice a n c, .slice b m e] w fun e w' => e = .returned (.bool (decide (xs = ys))) ∧ Below w.heap.size w w' := by
  unfold maxLen at hn hm
  have HA := Lib.hid ha
  have HB := Lib.hid hb
  by_cases hl : n = m
  · subst hl
    clear ha hb
    go_enter Tryz.func32, Tryz.ntmps32
    go_wp2
    go_loopw [5] (fun i wr => ∃ k : Nat, k ≤ n ∧ i = .int .i64 k ∧ Hid (xs.take k = ys.take k) ∧ Below w.heap.size w wr) (fun i _ => n - (intOf i).toNat)
    case atStart => exact ⟨0, Nat.zero_le _, rfl, Lib.hid (by simp), Below.refl _ _⟩
    case round =>
      obtain ⟨k, hk, rfl, hf, hb⟩ := hrel
      by_cases hlt : k < n
      · obtain ⟨s, i, g, o, hx, rfl, hg, c1, c2⟩ := (HA.out.below hb).get hlt
        obtain ⟨t, j, h, p, hy, rfl, hh, c3, c4⟩ := (HB.out.below hb).get hlt
        have i0 : (0 : Int) ≤ (k : Int) := by omega
        have i1 : (k : Int) < (n : Int) := by omega
        by_cases e : ((s, i) : Ent) = (t, j)
        · have HF := Lib.hid (show xs.take (k + 1) = ys.take (k + 1) by rw [List.take_add_one, List.take_add_one, hf.out, hx, hy, e])
          obtain ⟨rfl, rfl⟩ : s = t ∧ i = j := by simpa using e
          have hs := bytes_eq (rfl : s = s)
          have hi : (i == i) = true := by simp
          clear hx hy e
          go_wp2
          go_quiet (fail)
          go_wp2
          go_roundw
          case rel => exact ⟨k + 1, by omega, by go_num, HF, below_drewN hb _⟩
          case measure => simp [intOf]; omega
        · have HF := Lib.hid (show decide (xs = ys) = false by simpa using take_ne hx hy e)
          clear hx hy
          by_cases hs : s = t
          · have hij : ¬ i = j := fun h2 => e (by rw [hs, h2])
            have hs2 := bytes_eq hs
            have hi2 := int_ne hij
            clear hs hij e
            go_wp2
            go_quiet (fail)
            go_wp2
            go_ret
            exact ⟨by rw [HF.out]; rfl, below_drewN hb _⟩
          · have hs2 := bytes_ne hs
            clear hs e
            go_wp2
            go_quiet (fail)
            go_wp2
            go_ret
            exact ⟨by rw [HF.out]; rfl, below_drewN hb _⟩
      · obtain rfl : k = n := by omega
        have HF := Lib.hid (show decide (xs = ys) = true by
          have h := hf.out
          rw [List.take_of_length_le (by rw [HA.out.len]; exact Nat.le_refl _), List.take_of_length_le (by rw [HB.out.len]; exact Nat.le_refl _)] at h
          simpa using h)
        go_wp2
        go_ret
        exact ⟨by rw [HF.out]; rfl, hb⟩
  · have HF := Lib.hid (show decide (xs = ys) = false by
      simp only [decide_eq_false_iff_not]
      intro h
      exact hl (by rw [← ha.len, ← hb.len, h]))
    have hne : ¬ (n : Int) = (m : Int) := by omega
    have hd : decide (n = m) = false := by simpa using hl
    clear ha hb hl
    go_enter Tryz.func32, Tryz.ntmps32
    go_wp2
    go_ret
    exact ⟨by rw [HF.out]; rfl, Below.refl _ _⟩

/-- entries that a call hands back, in memory of its own -/
def EntsR (xs : List Ent) (w : World) (e : Ending) (w' : World) : Prop := ∃ v, e = .returned v ∧ OwnE w.heap.size w' v xs ∧ Below w.heap.size w w'
theorem two_one (s : ByteArray) (i : Int) : ∀ u ∈ ([.string s, .int .i64 i] : List Value), u.oneCell' = true := by simp [Value.oneCell']

set_option maxHeartbeats 1000000 in
theorem specDrop (a : Option Addr) (c n : Nat) (xs : List Ent) (s : ByteArray) (w : World) (hm : n ≤ 10000000) (ha : AtE w a n xs) :
    Calls Tryz.prog 61 #[.slice a n c, .string s] w (EntsR (dropE xs s) w) := by
  obtain ⟨i0, hi, hz0, hz1, hz2⟩ := info_parts Tryz.infoEnt
  have HA := Lib.hid ha
  clear ha
  go_enter Tryz.func61, Tryz.ntmps61
  go_wp2
  go_loopw [5, 6] (fun o i wr => ∃ k m : Nat, k ≤ n ∧ m ≤ k ∧ i = .int .i64 k ∧ wr.ownsRow w.heap.size 62 2 o m (cellsE (dropE (xs.take k) s)) ∧ Below w.heap.size w wr) (fun _ i _ => n - (intOf i).toNat)
  case atStart => exact ⟨0, 0, Nat.zero_le _, Nat.zero_le _, rfl, World.ownsRow_made _ _ _ (Nat.le_refl _) (by decide) rfl, (Below.refl _ _).alloc (Nat.le_refl _) _⟩
  case round =>
    obtain ⟨k, m, hk, hmk, rfl, hown, hb⟩ := hrel
    by_cases hlt : k < n
    · obtain ⟨t, i, g, o, hx, rfl, hg, c1, c2⟩ := (HA.out.below hb).get hlt
      have HX := Lib.hid (dropE_snoc (s := s) hx)
      have j0 : (0 : Int) ≤ (k : Int) := by omega
      have j1 : (k : Int) < (n : Int) := by omega
      by_cases e : t = s
      · have HY := Lib.hid (show dropE (xs.take (k + 1)) s = dropE (xs.take k) s by rw [HX.out, if_pos e, List.append_nil])
        have hs := bytes_eq e
        clear hx e
        go_wp2
        go_roundw
        case rel => exact ⟨k + 1, m, by omega, by omega, by go_num, by rw [HY.out]; exact hown, hb⟩
        case measure => simp [intOf]; omega
      · have HY := Lib.hid (show dropE (xs.take (k + 1)) s = dropE (xs.take k) s ++ [(t, i)] by rw [HX.out, if_neg e])
        have hs := bytes_ne e
        clear hx e
        go_wp2_with (at_builtin; refine list_appN (by rfl) (.tmp 21) (.tmp 26) 25 (by rfl) w wr 62 i0 (.agg #[.string { data := #[] }, .int .i64 0]) 2 24 Tryz.underlying25 hi hz0 hz1 hz2 (by rfl) (by decide) _ m _ hown hb [.string t, .int .i64 i] 1 ?_ ?_ ?_ ?_ (by rfl) (by rfl) (by rfl) ?_ ?_; rfl; exact two_one t i; unfold maxLen; omega; omega; exact ⟨rfl, rfl, rfl⟩; intro v' w' hown' hb')
        go_roundw
        case rel => exact ⟨k + 1, m + 1, by omega, by omega, by go_num, by rw [HY.out, cellsE_app]; exact hown', hb'⟩
        case measure => simp [intOf]; omega
    · obtain rfl : k = n := by omega
      have hend : xs.take k = xs := List.take_of_length_le (by rw [HA.out.len]; exact Nat.le_refl _)
      rw [hend] at hown
      clear hend
      go_wp2
      go_ret
      exact ⟨_, rfl, ⟨m, hown⟩, hb⟩

end Go.Proofs.YtnhcianahmfdhaaGreatDoor.deed
