/-
  The landed program's slices.Equal of nodes, of texts and of entries.
-/
import Derived.Test.YtdacdbidennjhaaKinds
import Derived.Test.YtdacdbidennjhaaDpA
namespace Go.Proofs.Ytdacdbidennjhaa.fall
open Go.RowKit
open kit strs recs disk deed kd

theorem strAt {w : World} {b : Option Addr} {m k : Nat} {ss : List ByteArray} (h : strs.At w b m ss) (hk : k < m) : ∃ s g o, ss[k]? = some s ∧ b = some ⟨g, o, none⟩ ∧ g < w.heap.size ∧ w.cell? ⟨g, o + k, none⟩ = some (.string s) := by
  have hx : ss[k]? = some (ss[k]'(by rw [h.1]; exact hk)) := List.getElem?_eq_getElem _
  obtain ⟨g, o, h1, h2, h3⟩ := h.2.resolve_left (by omega)
  exact ⟨_, g, o, hx, h1, h2, h3 k _ hx⟩

set_option maxHeartbeats 1000000 in
theorem implEqualN (a b : Option Addr) (c e n m : Nat) (xs ys : List Nod) (w : World) (hn : n ≤ maxLen) (hm : m ≤ maxLen) (ha : AtN w a n xs) (hb : AtN w b m ys) :
    Calls Try.prog 16 #[.slice a n c, .slice b m e] w fun e w' => e = .returned (.bool (decide (xs = ys))) ∧ Below w.heap.size w w' := by
  unfold maxLen at hn hm
  have HA := Lib.hid ha
  have HB := Lib.hid hb
  have la : xs.length = n := ha.len
  have lb : ys.length = m := hb.len
  by_cases hl : n = m
  · subst hl
    have LA := Lib.hid la
    have LB := Lib.hid lb
    clear ha hb la lb
    go_enter Try.func16, Try.ntmps16
    go_wp2
    go_loopw [13] (fun i wr => ∃ k : Nat, k ≤ n ∧ i = .int .i64 k ∧ Hid (xs.take k = ys.take k) ∧ Below w.heap.size w wr) (fun i _ => n - (intOf i).toNat)
    case atStart => exact ⟨0, Nat.zero_le _, rfl, Lib.hid (by simp), Below.refl _ _⟩
    case round =>
      obtain ⟨k, hk, rfl, hf, hb⟩ := hrel
      by_cases hlt : k < n
      · obtain ⟨i, s, j, g, o, hx, rfl, hg, c1, c2, c3⟩ := (HA.out.below hb).get hlt
        obtain ⟨i2, s2, j2, h, p, hy, rfl, hh, c4, c5, c6⟩ := (HB.out.below hb).get hlt
        have i0 : (0 : Int) ≤ (k : Int) := by omega
        have i1 : (k : Int) < (n : Int) := by omega
        by_cases e : ((i, s, j) : Nod) = (i2, s2, j2)
        · have HF := Lib.hid (show xs.take (k + 1) = ys.take (k + 1) by rw [List.take_add_one, List.take_add_one, hf.out, hx, hy, e])
          obtain ⟨rfl, rfl, rfl⟩ : i = i2 ∧ s = s2 ∧ j = j2 := by simpa using e
          have hs := bytes_eq (rfl : s = s)
          have hi : (i == i) = true := by simp
          have hj : (j == j) = true := by simp
          clear hx hy e
          go_wp2
          go_quiet (fail)
          go_wp2
          go_roundw
          case rel => exact ⟨k + 1, by omega, by go_num, HF, below_drewN hb _⟩
          case measure => simp [intOf]; omega
        · have HF := Lib.hid (show decide (xs = ys) = false by simpa using take_ne hx hy e)
          clear hx hy
          by_cases hi : i = i2
          · have hi3 : (i == i2) = true := by simpa using hi
            by_cases hs : s = s2
            · have hjj : ¬ j = j2 := fun h2 => e (by rw [hi, hs, h2])
              have hs3 := bytes_eq hs
              have hj3 := int_ne hjj
              clear hi hs hjj e
              go_wp2
              go_quiet (fail)
              go_wp2
              go_ret
              exact ⟨by rw [HF.out]; rfl, below_drewN hb _⟩
            · have hs3 := bytes_ne hs
              clear hi hs e
              go_wp2
              go_quiet (fail)
              go_wp2
              go_ret
              exact ⟨by rw [HF.out]; rfl, below_drewN hb _⟩
          · have hi3 := int_ne hi
            clear hi e
            go_wp2
            go_quiet (fail)
            go_wp2
            go_ret
            exact ⟨by rw [HF.out]; rfl, below_drewN hb _⟩
      · obtain rfl : k = n := by omega
        have HF := Lib.hid (show decide (xs = ys) = true by
          have h := hf.out
          rw [List.take_of_length_le (by rw [LA.out]; exact Nat.le_refl _), List.take_of_length_le (by rw [LB.out]; exact Nat.le_refl _)] at h
          simpa using h)
        go_wp2
        go_ret
        exact ⟨by rw [HF.out]; rfl, hb⟩
  · have HF := Lib.hid (show decide (xs = ys) = false by
      simp only [decide_eq_false_iff_not]
      intro h
      exact hl (by rw [← la, ← lb, h]))
    have hne : ¬ (n : Int) = (m : Int) := by omega
    have hd : decide (n = m) = false := by simpa using hl
    clear ha hb hl la lb
    go_enter Try.func16, Try.ntmps16
    go_wp2
    go_ret
    exact ⟨by rw [HF.out]; rfl, Below.refl _ _⟩

set_option maxHeartbeats 1000000 in
theorem implEqualS (a b : Option Addr) (c e n m : Nat) (xs ys : List ByteArray) (w : World) (hn : n ≤ maxLen) (hm : m ≤ maxLen) (ha : strs.At w a n xs) (hb : strs.At w b m ys) :
    Calls Try.prog 18 #[.slice a n c, .slice b m e] w fun e w' => e = .returned (.bool (decide (xs = ys))) ∧ Below w.heap.size w w' := by
  unfold maxLen at hn hm
  have HA := Lib.hid ha
  have HB := Lib.hid hb
  have la : xs.length = n := ha.1
  have lb : ys.length = m := hb.1
  by_cases hl : n = m
  · subst hl
    have LA := Lib.hid la
    have LB := Lib.hid lb
    clear ha hb la lb
    go_enter Try.func18, Try.ntmps18
    go_wp2
    go_loopw [13] (fun i wr => ∃ k : Nat, k ≤ n ∧ i = .int .i64 k ∧ Hid (xs.take k = ys.take k) ∧ Below w.heap.size w wr) (fun i _ => n - (intOf i).toNat)
    case atStart => exact ⟨0, Nat.zero_le _, rfl, Lib.hid (by simp), Below.refl _ _⟩
    case round =>
      obtain ⟨k, hk, rfl, hf, hb⟩ := hrel
      by_cases hlt : k < n
      · obtain ⟨s, g, o, hx, rfl, hg, c1⟩ := strAt (HA.out.below hb) hlt
        obtain ⟨s2, h, p, hy, rfl, hh, c2⟩ := strAt (HB.out.below hb) hlt
        have i0 : (0 : Int) ≤ (k : Int) := by omega
        have i1 : (k : Int) < (n : Int) := by omega
        by_cases e : (s : ByteArray) = s2
        · have HF := Lib.hid (show xs.take (k + 1) = ys.take (k + 1) by rw [List.take_add_one, List.take_add_one, hf.out, hx, hy, e])
          obtain rfl : s = s2 := id e
          have hs := bytes_eq (rfl : s = s)
          clear hx hy e
          go_wp2
          go_quiet (fail)
          go_wp2
          go_roundw
          case rel => exact ⟨k + 1, by omega, by go_num, HF, below_drewN hb _⟩
          case measure => simp [intOf]; omega
        · have HF := Lib.hid (show decide (xs = ys) = false by simpa using take_ne hx hy e)
          clear hx hy
          have hs3 := bytes_ne e
          clear e
          go_wp2
          go_quiet (fail)
          go_wp2
          go_ret
          exact ⟨by rw [HF.out]; rfl, below_drewN hb _⟩
      · obtain rfl : k = n := by omega
        have HF := Lib.hid (show decide (xs = ys) = true by
          have h := hf.out
          rw [List.take_of_length_le (by rw [LA.out]; exact Nat.le_refl _), List.take_of_length_le (by rw [LB.out]; exact Nat.le_refl _)] at h
          simpa using h)
        go_wp2
        go_ret
        exact ⟨by rw [HF.out]; rfl, hb⟩
  · have HF := Lib.hid (show decide (xs = ys) = false by
      simp only [decide_eq_false_iff_not]
      intro h
      exact hl (by rw [← la, ← lb, h]))
    have hne : ¬ (n : Int) = (m : Int) := by omega
    have hd : decide (n = m) = false := by simpa using hl
    clear ha hb hl la lb
    go_enter Try.func18, Try.ntmps18
    go_wp2
    go_ret
    exact ⟨by rw [HF.out]; rfl, Below.refl _ _⟩

set_option maxHeartbeats 1000000 in
theorem implEqualE (a b : Option Addr) (c e n m : Nat) (xs ys : List Ent) (w : World) (hn : n ≤ maxLen) (hm : m ≤ maxLen) (ha : AtE w a n xs) (hb : AtE w b m ys) :
    Calls Try.prog 17 #[.slice a n c, .slice b m e] w fun e w' => e = .returned (.bool (decide (xs = ys))) ∧ Below w.heap.size w w' := by
  unfold maxLen at hn hm
  have HA := Lib.hid ha
  have HB := Lib.hid hb
  have la : xs.length = n := ha.len
  have lb : ys.length = m := hb.len
  by_cases hl : n = m
  · subst hl
    have LA := Lib.hid la
    have LB := Lib.hid lb
    clear ha hb la lb
    go_enter Try.func17, Try.ntmps17
    go_wp2
    go_loopw [13] (fun i wr => ∃ k : Nat, k ≤ n ∧ i = .int .i64 k ∧ Hid (xs.take k = ys.take k) ∧ Below w.heap.size w wr) (fun i _ => n - (intOf i).toNat)
    case atStart => exact ⟨0, Nat.zero_le _, rfl, Lib.hid (by simp), Below.refl _ _⟩
    case round =>
      obtain ⟨k, hk, rfl, hf, hb⟩ := hrel
      by_cases hlt : k < n
      · obtain ⟨s, i, g, o, hx, rfl, hg, c1, c2⟩ := (HA.out.below hb).get hlt
        obtain ⟨s2, i2, h, p, hy, rfl, hh, c3, c4⟩ := (HB.out.below hb).get hlt
        have i0 : (0 : Int) ≤ (k : Int) := by omega
        have i1 : (k : Int) < (n : Int) := by omega
        by_cases e : ((s, i) : Ent) = (s2, i2)
        · have HF := Lib.hid (show xs.take (k + 1) = ys.take (k + 1) by rw [List.take_add_one, List.take_add_one, hf.out, hx, hy, e])
          obtain ⟨rfl, rfl⟩ : s = s2 ∧ i = i2 := by simpa using e
          have hs := bytes_eq (rfl : s = s)
          have hi : (i == i) = true := by simp
          clear hx hy e
          go_wp2
          go_quiet (fail)
          go_wp2
          go_roundw
          case rel => exact ⟨k + 1, by omega, by go_num, HF, below_drewN hb _⟩
          case measure => simp [intOf]; omega
        · have HF := Lib.hid (show decide (xs = ys) = false by simpa using take_ne hx hy e)
          clear hx hy
          by_cases hs : s = s2
          · have hij : ¬ i = i2 := fun h2 => e (by rw [hs, h2])
            have hs3 := bytes_eq hs
            have hi3 := int_ne hij
            clear hs hij e
            go_wp2
            go_quiet (fail)
            go_wp2
            go_ret
            exact ⟨by rw [HF.out]; rfl, below_drewN hb _⟩
          · have hs3 := bytes_ne hs
            clear hs e
            go_wp2
            go_quiet (fail)
            go_wp2
            go_ret
            exact ⟨by rw [HF.out]; rfl, below_drewN hb _⟩
      · obtain rfl : k = n := by omega
        have HF := Lib.hid (show decide (xs = ys) = true by
          have h := hf.out
          rw [List.take_of_length_le (by rw [LA.out]; exact Nat.le_refl _), List.take_of_length_le (by rw [LB.out]; exact Nat.le_refl _)] at h
          simpa using h)
        go_wp2
        go_ret
        exact ⟨by rw [HF.out]; rfl, hb⟩
  · have HF := Lib.hid (show decide (xs = ys) = false by
      simp only [decide_eq_false_iff_not]
      intro h
      exact hl (by rw [← la, ← lb, h]))
    have hne : ¬ (n : Int) = (m : Int) := by omega
    have hd : decide (n = m) = false := by simpa using hl
    clear ha hb hl la lb
    go_enter Try.func17, Try.ntmps17
    go_wp2
    go_ret
    exact ⟨by rw [HF.out]; rfl, Below.refl _ _⟩

end Go.Proofs.Ytdacdbidennjhaa.fall
