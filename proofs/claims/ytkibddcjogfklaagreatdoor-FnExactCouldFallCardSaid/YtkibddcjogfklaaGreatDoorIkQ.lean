/-
  The landed program's look at a disk's names, its room, its nodes; slices.Equal of entries.
-/
import Derived.Test.YtkibddcjogfklaaGreatDoorIkP
import Derived.Test.YtkibddcjogfklaaGreatDoorDpX
namespace Go.Proofs.YtkibddcjogfklaaGreatDoor.ik
open Go.RowKit Go.Maps
open kit strs recs disk deed kd

set_option maxHeartbeats 400000 in
theorem implEqual (a b : Option Addr) (c e n m : Nat) (xs ys : List Ent) (w : World) (hn : n ≤ maxLen) (hm : m ≤ maxLen) (ha : AtE w a n xs) (hb : AtE w b m ys) :
    Calls Tryz.prog 48 #[.slice a n c, .slice b m e] w fun e w' => e = .returned (.bool (decide (xs = ys))) ∧ Below w.heap.size w w' := by
  unfold maxLen at hn hm
  have HA := Lib.hid ha
  have HB := Lib.hid hb
  by_cases hl : n = m
  · subst hl
    clear ha hb
    go_enter Tryz.func48, Tryz.ntmps48
    go_wp2
    go_loopw [13] (fun i wr => ∃ k : Nat, k ≤ n ∧ i = .int .i64 k ∧ Hid (xs.take k = ys.take k) ∧ Below w.heap.size w wr) (fun i _ => n - (intOf i).toNat)
    case atStart => exact ⟨0, Nat.zero_le _, rfl, Lib.hid (by simp), Below.refl _ _⟩
    case round =>
      obtain ⟨k, hk, rfl, hf, hb⟩ := hrel
      by_cases hlt : k < n
      · obtain ⟨s, i, g, o, hx, rfl, hg, c1, c2⟩ := (HA.out.below hb).get hlt
        obtain ⟨t, j, h, p, hy, rfl, hh, c3, c4⟩ := (HB.out.below hb).get hlt
        have i0 : (0 : Int) ≤ (k : Int) := by omega
        have i1 : (k : Int) < (n : Int) := by omega
        by_cases e : ((s, i) : Ent) = (t, j)
        · have HF := Lib.hid (show xs.take (k + 1) = ys.take (k + 1) by rw [List.take_add_one, List.take_add_one, hf.out, hx, hy, e])
          obtain ⟨rfl, rfl⟩ : s = t ∧ i = j := by simpa using e
          have hs := bytes_eq (rfl : s = s)
          have hi : (i == i) = true := by simp
          clear hx hy e
          go_wp2
          go_quiet (fail)
          go_wp2
          go_roundw
          case rel => exact ⟨k + 1, by omega, by go_num, HF, below_drewN hb _⟩
          case measure => simp [intOf]; omega
        · have HF := Lib.hid (show decide (xs = ys) = false by simpa using take_ne hx hy e)
          clear hx hy
          by_cases hs : s = t
          · have hij : ¬ i = j := fun h2 => e (by rw [hs, h2])
            have hs2 := bytes_eq hs
            have hi2 := int_ne hij
            clear hs hij e
            go_wp2
            go_quiet (fail)
            go_wp2
            go_ret
            exact ⟨by rw [HF.out]; rfl, below_drewN hb _⟩
          · have hs2 := bytes_ne hs
            clear hs e
            go_wp2
            go_quiet (fail)
            go_wp2
            go_ret
            exact ⟨by rw [HF.out]; rfl, below_drewN hb _⟩
      · obtain rfl : k = n := by omega
        have HF := Lib.hid (show decide (xs = ys) = true by
          have h := hf.out
          rw [List.take_of_length_le (by rw [HA.out.len]; exact Nat.le_refl _), List.take_of_length_le (by rw [HB.out.len]; exact Nat.le_refl _)] at h
          simpa using h)
        go_wp2
        go_ret
        exact ⟨by rw [HF.out]; rfl, hb⟩
  · have HF := Lib.hid (show decide (xs = ys) = false by
      simp only [decide_eq_false_iff_not]
      intro h
      exact hl (by rw [← ha.len, ← hb.len, h]))
    have hne : ¬ (n : Int) = (m : Int) := by omega
    have hd : decide (n = m) = false := by simpa using hl
    clear ha hb hl
    go_enter Tryz.func48, Tryz.ntmps48
    go_wp2
    go_ret
    exact ⟨by rw [HF.out]; rfl, Below.refl _ _⟩

theorem names_step {l : List Ent} {k : Nat} {p : ByteArray} {e : Ent} (hx : l[k]? = some e) : namesFrom p (l.drop k) = (lessB p e.1 && nam.nok e.1 && namesFrom e.1 (l.drop (k + 1))) := by rw [drop_cons hx]; rfl
set_option maxHeartbeats 1000000 in
set_option maxRecDepth 100000 in
theorem implNamesRight (a : Option Addr) (c n : Nat) (xs : List Ent) (w : World) (hm : n ≤ maxLen) (hz : ∀ e ∈ xs, e.1.size ≤ 1048576) (ha : AtE w a n xs) (hg : nam.Hand w) :
    Calls Tryz.prog 42 #[.slice a n c] w fun e w' => e = .returned (.bool (namesFrom { data := #[] } xs)) ∧ Below w.heap.size w w' := by
  unfold maxLen at hm
  have HA := Lib.hid ha
  have HG := Lib.hid hg
  have HZ := Lib.hid hz
  clear ha hg hz
  go_enter Tryz.func42, Tryz.ntmps42
  go_wp2
  go_loopw [3, 8] (fun q i wr => ∃ (k : Nat) (p : ByteArray), k ≤ n ∧ i = .int .i64 k ∧ q = .string p ∧ Hid (namesFrom { data := #[] } xs = namesFrom p (xs.drop k)) ∧ Below w.heap.size w wr) (fun _ i _ => n - (intOf i).toNat)
  case atStart => exact ⟨0, { data := #[] }, Nat.zero_le _, rfl, rfl, Lib.hid (by simp), Below.refl _ _⟩
  case round =>
    obtain ⟨k, p, hk, rfl, rfl, hf, hbl⟩ := hrel
    by_cases hlt : k < n
    · obtain ⟨t, i, g, o, hx, rfl, hg, c1, c2⟩ := (HA.out.below hbl).get hlt
      have i0 : (0 : Int) ≤ (k : Int) := by omega
      have i1 : (k : Int) < (n : Int) := by omega
      have HE := Lib.hid (hf.out.trans (names_step hx))
      have ht := HZ.out _ (List.mem_of_getElem? hx)
      have hr1 : Below wr.heap.size wr (wr.alloc (.cells #[.string t, .int .i64 i] 66)) := (Below.refl _ _).alloc (Nat.le_refl _) _
      have hb1 := hbl.trans (hr1.mono hbl.size)
      have CN := Lib.hid (fun (w1 : World) (hb : Below w.heap.size w w1) => nam.implOk_any t w1 ht (nam.hand_below HG.out hb))
      have HB1 := Lib.hid hb1
      clear hx hr1 hb1 hbl hf ht
      cases hpt : lessB p t with
      | true =>
        have hpt2 : Op.bytesLess p.toList t.toList = true := hpt
        have htp : Op.bytesLess t.toList p.toList = false := by
          have := less_no hpt
          unfold lessB at this
          simpa using this
        have hne := bytes_ne (t := t) (s := p) (fun e => less_ne hpt e.symm)
        rw [hpt] at HE
        clear hpt
        cases hn : nam.nok t with
        | false =>
          rw [hn] at CN HE
          clear hn
          go_wp2_with (fail)
          refine (CN.out _ HB1.out).mono ?_
          rintro e w1 ⟨rfl, hb2⟩
          go_wp2
          go_ret
          exact ⟨by rw [HE.out]; rfl, HB1.out.trans (hb2.mono HB1.out.size)⟩
        | true =>
          rw [hn] at CN HE
          clear hn
          go_wp2_with (fail)
          refine (CN.out _ HB1.out).mono ?_
          rintro e w1 ⟨rfl, hb2⟩
          have n0 := (hb2.cell (p := ⟨wr.heap.size, 0, none⟩) (by simp)).trans (show (wr.alloc (.cells #[.string t, .int .i64 i] 66)).cell? ⟨wr.heap.size, 0, none⟩ = some (.string t) by simp)
          go_wp2
          go_roundw
          case rel => exact ⟨k + 1, t, by omega, by go_num, rfl, Lib.hid (by rw [HE.out]; rfl), HB1.out.trans (hb2.mono HB1.out.size)⟩
          case measure => simp [intOf]; omega
      | false =>
        rw [hpt] at HE
        rcases less_or (x := p) (y := t) (by rw [hpt]; simp) with h | h
        · have he := bytes_eq h.symm
          have htp : Op.bytesLess t.toList p.toList = false := by
            have := less_irr p
            unfold lessB at this
            rw [h] at this ⊢
            simpa using this
          clear hpt h
          go_wp2
          go_ret
          exact ⟨by rw [HE.out]; rfl, HB1.out⟩
        · have htp : Op.bytesLess t.toList p.toList = true := h
          clear hpt h
          go_wp2
          go_ret
          exact ⟨by rw [HE.out]; rfl, HB1.out⟩
    · obtain rfl : k = n := by omega
      have HE := Lib.hid (show namesFrom { data := #[] } xs = true by rw [hf.out, drop_end HA.out.len]; rfl)
      go_wp2
      go_ret
      exact ⟨by rw [HE.out]; rfl, hbl⟩

end Go.Proofs.YtkibddcjogfklaaGreatDoor.ik
