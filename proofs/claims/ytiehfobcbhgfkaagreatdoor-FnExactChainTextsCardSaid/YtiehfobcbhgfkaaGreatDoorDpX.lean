/-
  Contracts of spec's deeds: l06Same, l06Put, l06Drop, Brought.
-/
import Derived.Test.YtiehfobcbhgfkaaGreatDoorRdX
import Derived.Test.YtiehfobcbhgfkaaGreatDoorKinds
import Derived.Test.YtiehfobcbhgfkaaGreatDoorDkX
import Derived.Test.YtiehfobcbhgfkaaGreatDoorAppX
import Derived.Test.YtiehfobcbhgfkaaGreatDoorNameX
import Derived.IntWalk
import Derived.Test.YtiehfobcbhgfkaaGreatDoorLater
import Derived.Test.YtiehfobcbhgfkaaGreatDoorStrQ
namespace Go.Proofs.YtiehfobcbhgfkaaGreatDoor.deed
set_option maxRecDepth 20000
open Go.RowKit
open kit strs recs disk kd

theorem take_ne {α : Type} {xs ys : List α} {k : Nat} {x y : α} (hx : xs[k]? = some x) (hy : ys[k]? = some y) (h : ¬ x = y) : ¬ xs = ys := fun e => h (by rw [e, hy] at hx; exact (Option.some.inj hx).symm)
theorem int_ne {i j : Int} (h : ¬ i = j) : (i == j) = false := by simpa using h

set_option maxHeartbeats 400000 in
theorem specSame (a b : Option Addr) (c e n m : Nat) (xs ys : List Ent) (w : World) (hn : n ≤ maxLen) (hm : m ≤ maxLen) (ha : AtE w a n xs) (hb : AtE w b m ys) :
    Calls Tryz.prog 122 #[.slice a n c, .slice b m e] w fun e w' => e = .returned (.bool (decide (xs = ys))) ∧ Below w.heap.size w w' := by
  unfold maxLen at hn hm
  have HA := Lib.hid ha
  have HB := Lib.hid hb
  by_cases hl : n = m
  · subst hl
    clear ha hb
    go_enter Tryz.func122, Tryz.ntmps122
    go_wp2
    go_loopw [5] (fun i wr => ∃ k : Nat, k ≤ n ∧ i = .int .i64 k ∧ Hid (xs.take k = ys.take k) ∧ Below w.heap.size w wr) (fun i _ => n - (intOf i).toNat)
    case atStart => exact ⟨0, Nat.zero_le _, rfl, Lib.hid (by simp), Below.refl _ _⟩
    case round =>
      obtain ⟨k, hk, rfl, hf, hb⟩ := hrel
      by_cases hlt : k < n
      · obtain ⟨s, i, g, o, hx, rfl, hg, c1, c2⟩ := (HA.out.below hb).get hlt
        obtain ⟨t, j, h, p, hy, rfl, hh, c3, c4⟩ := (HB.out.below hb).get hlt
        have i0 : (0 : Int) ≤ (k : Int) := by omega
        have i1 : (k : Int) < (n : Int) := by omega
        by_cases e : ((s, i) : Ent) = (t, j)
        · have HF := Lib.hid (show xs.take (k + 1) = ys.take (k + 1) by rw [List.take_add_one, List.take_add_one, hf.out, hx, hy, e])
          obtain ⟨rfl, rfl⟩ : s = t ∧ i = j := by simpa using e
          have hs := bytes_eq (rfl : s = s)
          have hi : (i == i) = true := by simp
          clear hx hy e
          go_wp2
          go_quiet (fail)
          go_wp2
          go_roundw
          case rel => exact ⟨k + 1, by omega, by go_num, HF, below_drewN hb _⟩
          case measure => simp [intOf]; omega
        · have HF := Lib.hid (show decide (xs = ys) = false by simpa using take_ne hx hy e)
          clear hx hy
          by_cases hs : s = t
          · have hij : ¬ i = j := fun h2 => e (by rw [hs, h2])
            have hs2 := bytes_eq hs
            have hi2 := int_ne hij
            clear hs hij e
            go_wp2
            go_quiet (fail)
            go_wp2
            go_ret
            exact ⟨by rw [HF.out]; rfl, below_drewN hb _⟩
          · have hs2 := bytes_ne hs
            clear hs e
            go_wp2
            go_quiet (fail)
            go_wp2
            go_ret
            exact ⟨by rw [HF.out]; rfl, below_drewN hb _⟩
      · obtain rfl : k = n := by omega
        have HF := Lib.hid (show decide (xs = ys) = true by
          have h := hf.out
          rw [List.take_of_length_le (by rw [HA.out.len]; exact Nat.le_refl _), List.take_of_length_le (by rw [HB.out.len]; exact Nat.le_refl _)] at h
          simpa using h)
        go_wp2
        go_ret
        exact ⟨by rw [HF.out]; rfl, hb⟩
  · have HF := Lib.hid (show decide (xs = ys) = false by
      simp only [decide_eq_false_iff_not]
      intro h
      exact hl (by rw [← ha.len, ← hb.len, h]))
    have hne : ¬ (n : Int) = (m : Int) := by omega
    have hd : decide (n = m) = false := by simpa using hl
    clear ha hb hl
    go_enter Tryz.func122, Tryz.ntmps122
    go_wp2
    go_ret
    exact ⟨by rw [HF.out]; rfl, Below.refl _ _⟩

/-- entries that a call hands back, in memory of its own -/
def EntsR (xs : List Ent) (w : World) (e : Ending) (w' : World) : Prop := ∃ v, e = .returned v ∧ OwnE w.heap.size w' v xs ∧ Below w.heap.size w w'
theorem two_one (s : ByteArray) (i : Int) : ∀ u ∈ ([.string s, .int .i64 i] : List Value), u.oneCell' = true := by simp [Value.oneCell']

set_option maxHeartbeats 1000000 in
theorem specDrop (a : Option Addr) (c n : Nat) (xs : List Ent) (s : ByteArray) (w : World) (hm : n ≤ 10000000) (ha : AtE w a n xs) :
    Calls Tryz.prog 177 #[.slice a n c, .string s] w (EntsR (dropE xs s) w) := by
  obtain ⟨i0, hi, hz0, hz1, hz2⟩ := info_parts Tryz.infoEnt
  have HA := Lib.hid ha
  clear ha
  go_enter Tryz.func177, Tryz.ntmps177
  go_wp2
  go_loopw [5, 6] (fun o i wr => ∃ k m : Nat, k ≤ n ∧ m ≤ k ∧ i = .int .i64 k ∧ wr.ownsRow w.heap.size 71 2 o m (cellsE (dropE (xs.take k) s)) ∧ Below w.heap.size w wr) (fun _ i _ => n - (intOf i).toNat)
  case atStart => exact ⟨0, 0, Nat.zero_le _, Nat.zero_le _, rfl, World.ownsRow_made _ _ _ (Nat.le_refl _) (by decide) rfl, (Below.refl _ _).alloc (Nat.le_refl _) _⟩
  case round =>
    obtain ⟨k, m, hk, hmk, rfl, hown, hb⟩ := hrel
    by_cases hlt : k < n
    · obtain ⟨t, i, g, o, hx, rfl, hg, c1, c2⟩ := (HA.out.below hb).get hlt
      have HX := Lib.hid (dropE_snoc (s := s) hx)
      have j0 : (0 : Int) ≤ (k : Int) := by omega
      have j1 : (k : Int) < (n : Int) := by omega
      by_cases e : t = s
      · have HY := Lib.hid (show dropE (xs.take (k + 1)) s = dropE (xs.take k) s by rw [HX.out, if_pos e, List.append_nil])
        have hs := bytes_eq e
        clear hx e
        go_wp2
        go_roundw
        case rel => exact ⟨k + 1, m, by omega, by omega, by go_num, by rw [HY.out]; exact hown, hb⟩
        case measure => simp [intOf]; omega
      · have HY := Lib.hid (show dropE (xs.take (k + 1)) s = dropE (xs.take k) s ++ [(t, i)] by rw [HX.out, if_neg e])
        have hs := bytes_ne e
        clear hx e
        go_wp2_with (at_builtin; refine list_appN (by rfl) (.tmp 21) (.tmp 26) 25 (by rfl) w wr 71 i0 (.agg #[.string { data := #[] }, .int .i64 0]) 2 24 Tryz.underlying25 hi hz0 hz1 hz2 (by rfl) (by decide) _ m _ hown hb [.string t, .int .i64 i] 1 ?_ ?_ ?_ ?_ (by rfl) (by rfl) (by rfl) ?_ ?_; rfl; exact two_one t i; unfold maxLen; omega; omega; exact ⟨rfl, rfl, rfl⟩; intro v' w' hown' hb')
        go_roundw
        case rel => exact ⟨k + 1, m + 1, by omega, by omega, by go_num, by rw [HY.out, cellsE_app]; exact hown', hb'⟩
        case measure => simp [intOf]; omega
    · obtain rfl : k = n := by omega
      have hend : xs.take k = xs := List.take_of_length_le (by rw [HA.out.len]; exact Nat.le_refl _)
      rw [hend] at hown
      clear hend
      go_wp2
      go_ret
      exact ⟨_, rfl, ⟨m, hown⟩, hb⟩

end Go.Proofs.YtiehfobcbhgfkaaGreatDoor.deed

namespace Go.Proofs.YtiehfobcbhgfkaaGreatDoor.deed
set_option maxRecDepth 20000
open Go.RowKit
open kit strs recs disk kd

theorem putStep_a {e x : Ent} {st : List Ent × Bool} (h1 : st.2 = false) (h2 : lessB x.1 e.1 = false) (h3 : x.1 = e.1) : putStep e st x = (st.1 ++ [e], true) := by unfold putStep; rw [if_pos ⟨h1, h2⟩, if_pos h3]
theorem putStep_b {e x : Ent} {st : List Ent × Bool} (h1 : st.2 = false) (h2 : lessB x.1 e.1 = false) (h3 : ¬ x.1 = e.1) : putStep e st x = (st.1 ++ [e] ++ [x], true) := by unfold putStep; rw [if_pos ⟨h1, h2⟩, if_neg h3]
theorem putStep_c {e x : Ent} {st : List Ent × Bool} (h1 : st.2 = true ∨ lessB x.1 e.1 = true) (h3 : x.1 = e.1) : putStep e st x = st := by
  unfold putStep
  rw [if_neg (fun h => by rcases h1 with h1 | h1 <;> simp [h1] at h), if_pos h3]
theorem putStep_d {e x : Ent} {st : List Ent × Bool} (h1 : st.2 = true ∨ lessB x.1 e.1 = true) (h3 : ¬ x.1 = e.1) : putStep e st x = (st.1 ++ [x], st.2) := by
  unfold putStep
  rw [if_neg (fun h => by rcases h1 with h1 | h1 <;> simp [h1] at h), if_neg h3]

theorem drew_facts {w w2 : World} {n : Nat} (h : w2 = w.drewN n) : Below w.heap.size w w2 := by subst h; exact below_drewN (Below.refl _ _) n

theorem specBrought (n : Int) (m : Nat) (w : World) :
    Calls Tryz.prog 175 #[.int .i64 n, .int .i64 0, .int .i64 m] w fun e w' => e = .returned (.int .i64 (clampN n m : Nat)) ∧ w = w' := by
  have hm : ¬ (m : Int) < 0 := by omega
  by_cases h1 : n < 0
  · have hc := Lib.hid (show clampN n m = 0 by unfold clampN; rw [if_pos h1])
    go_enter Tryz.func175, Tryz.ntmps175
    go_wp2
    go_ret
    exact ⟨by rw [hc.out]; rfl, rfl⟩
  · by_cases h2 : (m : Int) < n
    · have hc := Lib.hid (show clampN n m = m by unfold clampN; rw [if_neg h1, if_pos h2])
      go_enter Tryz.func175, Tryz.ntmps175
      go_wp2
      go_ret
      exact ⟨by rw [hc.out]; rfl, rfl⟩
    · have hc := Lib.hid (show ((clampN n m : Nat) : Int) = n by unfold clampN; rw [if_neg h1, if_neg h2]; omega)
      have h3 : n ≤ (m : Int) := by omega
      go_enter Tryz.func175, Tryz.ntmps175
      go_wp2
      go_ret
      exact ⟨by rw [hc.out]; rfl, rfl⟩

set_option maxHeartbeats 4000000 in
theorem specPut (a : Option Addr) (c n : Nat) (xs : List Ent) (s : ByteArray) (id : Int) (w : World) (hm : n ≤ 10000000) (ha : AtE w a n xs) :
    Calls Tryz.prog 71 #[.slice a n c, .agg #[.string s, .int .i64 id]] w (EntsR (putE xs (s, id)) w) := by
  obtain ⟨i0, hi, hz0, hz1, hz2⟩ := info_parts Tryz.infoEnt
  have HA := Lib.hid (ha.below (w' := w.alloc (.cells #[.string s, .int .i64 id] 71)) ((Below.refl _ _).alloc (Nat.le_refl _) _))
  have HL := Lib.hid (fun k => putTo_length (s, id) (xs.take k))
  clear ha
  go_enter Tryz.func71, Tryz.ntmps71
  go_wp2
  obtain ⟨W, hW⟩ : ∃ W, W = w.alloc (.cells #[.string s, .int .i64 id] 71) := ⟨_, rfl⟩
  have x0 : W.cell? ⟨w.heap.size, 0, none⟩ = some (.string s) := by rw [hW]; simp
  have x1 : W.cell? ⟨w.heap.size, 1, none⟩ = some (.int .i64 id) := by rw [hW]; simp
  have hB := Lib.hid (show Below w.heap.size w W by rw [hW]; exact (Below.refl _ _).alloc (Nat.le_refl _) _)
  have hz : w.heap.size < W.heap.size := by rw [hW]; simp
  have hsz : w.heap.size + 1 = W.heap.size := by rw [hW]; simp
  rw [← hW] at HA ⊢
  rw [hsz]
  clear hW hsz
  go_loopw [5, 6, 7] (fun o dn i wr => ∃ k m : Nat, k ≤ n ∧ m ≤ k + one (putTo (s, id) (xs.take k)).2 ∧ i = .int .i64 k ∧ dn = .bool (putTo (s, id) (xs.take k)).2 ∧ wr.ownsRow W.heap.size 71 2 o m (cellsE (putTo (s, id) (xs.take k)).1) ∧ Below W.heap.size W wr) (fun _ _ i _ => n - (intOf i).toNat)
  case atStart => exact ⟨0, 0, Nat.zero_le _, Nat.zero_le _, rfl, rfl, World.ownsRow_made _ _ _ (Nat.le_refl _) (by decide) rfl, (Below.refl _ _).alloc (Nat.le_refl _) _⟩
  case round =>
    obtain ⟨k, m, hk, hmk, rfl, rfl, hown, hb⟩ := hrel
    have y0 := (hb.cell (p := ⟨w.heap.size, 0, none⟩) hz).trans x0
    have y1 := (hb.cell (p := ⟨w.heap.size, 1, none⟩) hz).trans x1
    obtain ⟨st, hst⟩ : ∃ st, st = putTo (s, id) (xs.take k) := ⟨_, rfl⟩
    rw [← hst] at hown hmk ⊢
    obtain ⟨L, dn⟩ := st
    simp only at hown hmk ⊢
    have o1 : one true ≤ 1 ∧ 1 ≤ one true := ⟨Nat.le_refl _, Nat.le_refl _⟩
    have o0 : one false ≤ 0 := Nat.le_refl _
    have hzr : w.heap.size < wr.heap.size := Nat.lt_of_lt_of_le hz hb.size
    by_cases hlt : k < n
    · obtain ⟨t, i, g, o, hx, rfl, hg0, c1, c2⟩ := (HA.out.below hb).get hlt
      have hgW : g < W.heap.size := by
        obtain ⟨_, _, b, off, hx2, ha2, hlt2, _⟩ := HA.out.get hlt
        simp only [Option.some.injEq, Addr.mk.injEq] at ha2
        rw [ha2.1]; exact hlt2
      have hg := hg0
      clear hg0
      have j0 : (0 : Int) ≤ (k : Int) := by omega
      have j1 : (k : Int) < (n : Int) := by omega
      have HS := Lib.hid (show putTo (s, id) (xs.take (k + 1)) = putStep (s, id) (L, dn) (t, i) by rw [putTo_snoc hx, ← hst])
      clear hx hst
      cases dn with
      | true =>
        by_cases e : t = s
        · have HP := Lib.hid (HS.out.trans (putStep_c (.inl rfl) e))
          have hs := bytes_eq e
          clear e
          go_wp2
          go_quiet (fail)
          obtain ⟨wa, hw2⟩ : ∃ wx, wx = wr.drewN nq := ⟨_, rfl⟩
          have dq := drew_facts hw2
          rw [← hw2]
          clear hw2
          replace hown := own_below hown dq
          replace hb := hb.trans (dq.mono hb.size)
          replace y0 := (dq.cell (p := ⟨w.heap.size, 0, none⟩) hzr).trans y0
          replace y1 := (dq.cell (p := ⟨w.heap.size, 1, none⟩) hzr).trans y1
          replace c1 := (dq.cell (p := ⟨g, o + k * 2, none⟩) hg).trans c1
          replace c2 := (dq.cell (p := ⟨g, o + k * 2 + 1, none⟩) hg).trans c2
          replace hzr := Nat.lt_of_lt_of_le hzr dq.size
          replace hg := Nat.lt_of_lt_of_le hg dq.size
          clear dq
          go_wp2
          go_quiet (fail)
          obtain ⟨wb, hw2⟩ : ∃ wx, wx = wa.drewN nq := ⟨_, rfl⟩
          have dq := drew_facts hw2
          rw [← hw2]
          clear hw2
          replace hown := own_below hown dq
          replace hb := hb.trans (dq.mono hb.size)
          replace y0 := (dq.cell (p := ⟨w.heap.size, 0, none⟩) hzr).trans y0
          replace y1 := (dq.cell (p := ⟨w.heap.size, 1, none⟩) hzr).trans y1
          replace c1 := (dq.cell (p := ⟨g, o + k * 2, none⟩) hg).trans c1
          replace c2 := (dq.cell (p := ⟨g, o + k * 2 + 1, none⟩) hg).trans c2
          replace hzr := Nat.lt_of_lt_of_le hzr dq.size
          replace hg := Nat.lt_of_lt_of_le hg dq.size
          clear dq
          go_wp2
          go_roundw
          case rel => exact ⟨k + 1, m, by omega, by rw [HP.out]; dsimp only; omega, by go_num, by rw [HP.out], by rw [HP.out]; exact hown, hb⟩
          case measure => simp [intOf]; omega
        · have HP := Lib.hid (HS.out.trans (putStep_d (.inl rfl) e))
          have hs := bytes_ne e
          clear e
          go_wp2
          go_quiet (fail)
          obtain ⟨wa, hw2⟩ : ∃ wx, wx = wr.drewN nq := ⟨_, rfl⟩
          have dq := drew_facts hw2
          rw [← hw2]
          clear hw2
          replace hown := own_below hown dq
          replace hb := hb.trans (dq.mono hb.size)
          replace y0 := (dq.cell (p := ⟨w.heap.size, 0, none⟩) hzr).trans y0
          replace y1 := (dq.cell (p := ⟨w.heap.size, 1, none⟩) hzr).trans y1
          replace c1 := (dq.cell (p := ⟨g, o + k * 2, none⟩) hg).trans c1
          replace c2 := (dq.cell (p := ⟨g, o + k * 2 + 1, none⟩) hg).trans c2
          replace hzr := Nat.lt_of_lt_of_le hzr dq.size
          replace hg := Nat.lt_of_lt_of_le hg dq.size
          clear dq
          go_wp2
          go_quiet (fail)
          obtain ⟨wb, hw2⟩ : ∃ wx, wx = wa.drewN nq := ⟨_, rfl⟩
          have dq := drew_facts hw2
          rw [← hw2]
          clear hw2
          replace hown := own_below hown dq
          replace hb := hb.trans (dq.mono hb.size)
          replace y0 := (dq.cell (p := ⟨w.heap.size, 0, none⟩) hzr).trans y0
          replace y1 := (dq.cell (p := ⟨w.heap.size, 1, none⟩) hzr).trans y1
          replace c1 := (dq.cell (p := ⟨g, o + k * 2, none⟩) hg).trans c1
          replace c2 := (dq.cell (p := ⟨g, o + k * 2 + 1, none⟩) hg).trans c2
          replace hzr := Nat.lt_of_lt_of_le hzr dq.size
          replace hg := Nat.lt_of_lt_of_le hg dq.size
          clear dq
          go_wp2_with (at_builtin; refine list_appN (by rfl) (.tmp 39) (.tmp 44) 25 (by rfl) W wb 71 i0 (.agg #[.string { data := #[] }, .int .i64 0]) 2 24 Tryz.underlying25 hi hz0 hz1 hz2 (by rfl) (by decide) _ (m) _ hown hb [.string t, .int .i64 i] 1 ?_ ?_ ?_ ?_ (by rfl) (by rfl) (by rfl) ?_ ?_; rfl; exact two_one t i; unfold maxLen; omega; omega; exact ⟨rfl, rfl, rfl⟩; intro v3 w3 hown2 hb2)
          clear hown hb
          have hown := hown2
          have hb := hb2
          go_roundw
          case rel => exact ⟨k + 1, m + 1, by omega, by rw [HP.out]; dsimp only; omega, by go_num, by rw [HP.out], by rw [HP.out, cellsE_app]; exact hown, hb⟩
          case measure => simp [intOf]; omega
      | false =>
        by_cases hle : lessB t s = true
        · have hl2 : Op.bytesLess t.toList s.toList = true := hle
          by_cases e : t = s
          · have HP := Lib.hid (HS.out.trans (putStep_c (.inr hle) e))
            have hs := bytes_eq e
            clear e hle
            go_wp2
            go_quiet (fail)
            obtain ⟨wa, hw2⟩ : ∃ wx, wx = wr.drewN nq := ⟨_, rfl⟩
            have dq := drew_facts hw2
            rw [← hw2]
            clear hw2
            replace hown := own_below hown dq
            replace hb := hb.trans (dq.mono hb.size)
            replace y0 := (dq.cell (p := ⟨w.heap.size, 0, none⟩) hzr).trans y0
            replace y1 := (dq.cell (p := ⟨w.heap.size, 1, none⟩) hzr).trans y1
            replace c1 := (dq.cell (p := ⟨g, o + k * 2, none⟩) hg).trans c1
            replace c2 := (dq.cell (p := ⟨g, o + k * 2 + 1, none⟩) hg).trans c2
            replace hzr := Nat.lt_of_lt_of_le hzr dq.size
            replace hg := Nat.lt_of_lt_of_le hg dq.size
            clear dq
            go_wp2
            go_quiet (fail)
            obtain ⟨wb, hw2⟩ : ∃ wx, wx = wa.drewN nq := ⟨_, rfl⟩
            have dq := drew_facts hw2
            rw [← hw2]
            clear hw2
            replace hown := own_below hown dq
            replace hb := hb.trans (dq.mono hb.size)
            replace y0 := (dq.cell (p := ⟨w.heap.size, 0, none⟩) hzr).trans y0
            replace y1 := (dq.cell (p := ⟨w.heap.size, 1, none⟩) hzr).trans y1
            replace c1 := (dq.cell (p := ⟨g, o + k * 2, none⟩) hg).trans c1
            replace c2 := (dq.cell (p := ⟨g, o + k * 2 + 1, none⟩) hg).trans c2
            replace hzr := Nat.lt_of_lt_of_le hzr dq.size
            replace hg := Nat.lt_of_lt_of_le hg dq.size
            clear dq
            go_wp2
            go_roundw
            case rel => exact ⟨k + 1, m, by omega, by rw [HP.out]; dsimp only; omega, by go_num, by rw [HP.out], by rw [HP.out]; exact hown, hb⟩
            case measure => simp [intOf]; omega
          · have HP := Lib.hid (HS.out.trans (putStep_d (.inr hle) e))
            have hs := bytes_ne e
            clear e hle
            go_wp2
            go_quiet (fail)
            obtain ⟨wa, hw2⟩ : ∃ wx, wx = wr.drewN nq := ⟨_, rfl⟩
            have dq := drew_facts hw2
            rw [← hw2]
            clear hw2
            replace hown := own_below hown dq
            replace hb := hb.trans (dq.mono hb.size)
            replace y0 := (dq.cell (p := ⟨w.heap.size, 0, none⟩) hzr).trans y0
            replace y1 := (dq.cell (p := ⟨w.heap.size, 1, none⟩) hzr).trans y1
            replace c1 := (dq.cell (p := ⟨g, o + k * 2, none⟩) hg).trans c1
            replace c2 := (dq.cell (p := ⟨g, o + k * 2 + 1, none⟩) hg).trans c2
            replace hzr := Nat.lt_of_lt_of_le hzr dq.size
            replace hg := Nat.lt_of_lt_of_le hg dq.size
            clear dq
            go_wp2
            go_quiet (fail)
            obtain ⟨wb, hw2⟩ : ∃ wx, wx = wa.drewN nq := ⟨_, rfl⟩
            have dq := drew_facts hw2
            rw [← hw2]
            clear hw2
            replace hown := own_below hown dq
            replace hb := hb.trans (dq.mono hb.size)
            replace y0 := (dq.cell (p := ⟨w.heap.size, 0, none⟩) hzr).trans y0
            replace y1 := (dq.cell (p := ⟨w.heap.size, 1, none⟩) hzr).trans y1
            replace c1 := (dq.cell (p := ⟨g, o + k * 2, none⟩) hg).trans c1
            replace c2 := (dq.cell (p := ⟨g, o + k * 2 + 1, none⟩) hg).trans c2
            replace hzr := Nat.lt_of_lt_of_le hzr dq.size
            replace hg := Nat.lt_of_lt_of_le hg dq.size
            clear dq
            go_wp2_with (at_builtin; refine list_appN (by rfl) (.tmp 39) (.tmp 44) 25 (by rfl) W wb 71 i0 (.agg #[.string { data := #[] }, .int .i64 0]) 2 24 Tryz.underlying25 hi hz0 hz1 hz2 (by rfl) (by decide) _ (m) _ hown hb [.string t, .int .i64 i] 1 ?_ ?_ ?_ ?_ (by rfl) (by rfl) (by rfl) ?_ ?_; rfl; exact two_one t i; unfold maxLen; omega; omega; exact ⟨rfl, rfl, rfl⟩; intro v3 w3 hown2 hb2)
            clear hown hb
            have hown := hown2
            have hb := hb2
            go_roundw
            case rel => exact ⟨k + 1, m + 1, by omega, by rw [HP.out]; dsimp only; omega, by go_num, by rw [HP.out], by rw [HP.out, cellsE_app]; exact hown, hb⟩
            case measure => simp [intOf]; omega
        · have hl0 : lessB t s = false := by simpa using hle
          have hl2 : Op.bytesLess t.toList s.toList = false := hl0
          have C1 := Lib.hid (show W.cell? ⟨g, o + k * 2, none⟩ = some (.string t) from (hb.cell (p := ⟨g, o + k * 2, none⟩) hgW).symm.trans c1)
          have C2 := Lib.hid (show W.cell? ⟨g, o + k * 2 + 1, none⟩ = some (.int .i64 i) from (hb.cell (p := ⟨g, o + k * 2 + 1, none⟩) hgW).symm.trans c2)
          by_cases e : t = s
          · have HP := Lib.hid (HS.out.trans (putStep_a rfl hl0 e))
            have hs := bytes_eq e
            clear e hle hl0
            go_wp2
            go_quiet (fail)
            obtain ⟨wa, hw2⟩ : ∃ wx, wx = wr.drewN nq := ⟨_, rfl⟩
            have dq := drew_facts hw2
            rw [← hw2]
            clear hw2
            replace hown := own_below hown dq
            replace hb := hb.trans (dq.mono hb.size)
            replace y0 := (dq.cell (p := ⟨w.heap.size, 0, none⟩) hzr).trans y0
            replace y1 := (dq.cell (p := ⟨w.heap.size, 1, none⟩) hzr).trans y1
            replace c1 := (dq.cell (p := ⟨g, o + k * 2, none⟩) hg).trans c1
            replace c2 := (dq.cell (p := ⟨g, o + k * 2 + 1, none⟩) hg).trans c2
            replace hzr := Nat.lt_of_lt_of_le hzr dq.size
            replace hg := Nat.lt_of_lt_of_le hg dq.size
            clear dq
            go_wp2_with (at_builtin; refine list_appN (by rfl) (.tmp 27) (.tmp 29) 25 (by rfl) W wa 71 i0 (.agg #[.string { data := #[] }, .int .i64 0]) 2 24 Tryz.underlying25 hi hz0 hz1 hz2 (by rfl) (by decide) _ (m) _ hown hb [.string s, .int .i64 id] 1 ?_ ?_ ?_ ?_ (by rfl) (by rfl) (by rfl) ?_ ?_; rfl; exact two_one s id; unfold maxLen; omega; omega; exact ⟨rfl, rfl, rfl⟩; intro v2 w2 hown2 hb2)
            clear hown hb
            have hown := hown2
            have hb := hb2
            clear hown2 hb2
            have hzr : w.heap.size < w2.heap.size := Nat.lt_of_lt_of_le hz hb.size
            have hg : g < w2.heap.size := Nat.lt_of_lt_of_le hgW hb.size
            have y0 := (hb.cell (p := ⟨w.heap.size, 0, none⟩) hz).trans x0
            have y1 := (hb.cell (p := ⟨w.heap.size, 1, none⟩) hz).trans x1
            have c1 := (hb.cell (p := ⟨g, o + k * 2, none⟩) hgW).trans C1.out
            have c2 := (hb.cell (p := ⟨g, o + k * 2 + 1, none⟩) hgW).trans C2.out
            go_wp2
            go_quiet (fail)
            obtain ⟨wb, hw2⟩ : ∃ wx, wx = w2.drewN nq := ⟨_, rfl⟩
            have dq := drew_facts hw2
            rw [← hw2]
            clear hw2
            replace hown := own_below hown dq
            replace hb := hb.trans (dq.mono hb.size)
            replace y0 := (dq.cell (p := ⟨w.heap.size, 0, none⟩) hzr).trans y0
            replace y1 := (dq.cell (p := ⟨w.heap.size, 1, none⟩) hzr).trans y1
            replace c1 := (dq.cell (p := ⟨g, o + k * 2, none⟩) hg).trans c1
            replace c2 := (dq.cell (p := ⟨g, o + k * 2 + 1, none⟩) hg).trans c2
            replace hzr := Nat.lt_of_lt_of_le hzr dq.size
            replace hg := Nat.lt_of_lt_of_le hg dq.size
            clear dq
            go_wp2
            go_roundw
            case rel => exact ⟨k + 1, m + 1, by omega, by rw [HP.out]; dsimp only; omega, by go_num, by rw [HP.out], by rw [HP.out, cellsE_app]; exact hown, hb⟩
            case measure => simp [intOf]; omega
          · have HP := Lib.hid (HS.out.trans (putStep_b rfl hl0 e))
            have hs := bytes_ne e
            clear e hle hl0
            go_wp2
            go_quiet (fail)
            obtain ⟨wa, hw2⟩ : ∃ wx, wx = wr.drewN nq := ⟨_, rfl⟩
            have dq := drew_facts hw2
            rw [← hw2]
            clear hw2
            replace hown := own_below hown dq
            replace hb := hb.trans (dq.mono hb.size)
            replace y0 := (dq.cell (p := ⟨w.heap.size, 0, none⟩) hzr).trans y0
            replace y1 := (dq.cell (p := ⟨w.heap.size, 1, none⟩) hzr).trans y1
            replace c1 := (dq.cell (p := ⟨g, o + k * 2, none⟩) hg).trans c1
            replace c2 := (dq.cell (p := ⟨g, o + k * 2 + 1, none⟩) hg).trans c2
            replace hzr := Nat.lt_of_lt_of_le hzr dq.size
            replace hg := Nat.lt_of_lt_of_le hg dq.size
            clear dq
            go_wp2_with (at_builtin; refine list_appN (by rfl) (.tmp 27) (.tmp 29) 25 (by rfl) W wa 71 i0 (.agg #[.string { data := #[] }, .int .i64 0]) 2 24 Tryz.underlying25 hi hz0 hz1 hz2 (by rfl) (by decide) _ (m) _ hown hb [.string s, .int .i64 id] 1 ?_ ?_ ?_ ?_ (by rfl) (by rfl) (by rfl) ?_ ?_; rfl; exact two_one s id; unfold maxLen; omega; omega; exact ⟨rfl, rfl, rfl⟩; intro v2 w2 hown2 hb2)
            clear hown hb
            have hown := hown2
            have hb := hb2
            clear hown2 hb2
            have hzr : w.heap.size < w2.heap.size := Nat.lt_of_lt_of_le hz hb.size
            have hg : g < w2.heap.size := Nat.lt_of_lt_of_le hgW hb.size
            have y0 := (hb.cell (p := ⟨w.heap.size, 0, none⟩) hz).trans x0
            have y1 := (hb.cell (p := ⟨w.heap.size, 1, none⟩) hz).trans x1
            have c1 := (hb.cell (p := ⟨g, o + k * 2, none⟩) hgW).trans C1.out
            have c2 := (hb.cell (p := ⟨g, o + k * 2 + 1, none⟩) hgW).trans C2.out
            go_wp2
            go_quiet (fail)
            obtain ⟨wb, hw2⟩ : ∃ wx, wx = w2.drewN nq := ⟨_, rfl⟩
            have dq := drew_facts hw2
            rw [← hw2]
            clear hw2
            replace hown := own_below hown dq
            replace hb := hb.trans (dq.mono hb.size)
            replace y0 := (dq.cell (p := ⟨w.heap.size, 0, none⟩) hzr).trans y0
            replace y1 := (dq.cell (p := ⟨w.heap.size, 1, none⟩) hzr).trans y1
            replace c1 := (dq.cell (p := ⟨g, o + k * 2, none⟩) hg).trans c1
            replace c2 := (dq.cell (p := ⟨g, o + k * 2 + 1, none⟩) hg).trans c2
            replace hzr := Nat.lt_of_lt_of_le hzr dq.size
            replace hg := Nat.lt_of_lt_of_le hg dq.size
            clear dq
            go_wp2_with (at_builtin; refine list_appN (by rfl) (.tmp 39) (.tmp 44) 25 (by rfl) W wb 71 i0 (.agg #[.string { data := #[] }, .int .i64 0]) 2 24 Tryz.underlying25 hi hz0 hz1 hz2 (by rfl) (by decide) _ (m + 1) _ hown hb [.string t, .int .i64 i] 1 ?_ ?_ ?_ ?_ (by rfl) (by rfl) (by rfl) ?_ ?_; rfl; exact two_one t i; unfold maxLen; omega; omega; exact ⟨rfl, rfl, rfl⟩; intro v3 w3 hown2 hb2)
            clear hown hb
            have hown := hown2
            have hb := hb2
            go_roundw
            case rel => exact ⟨k + 1, m + 1 + 1, by omega, by rw [HP.out]; dsimp only; omega, by go_num, by rw [HP.out], by rw [HP.out, cellsE_app, cellsE_app]; exact hown, hb⟩
            case measure => simp [intOf]; omega
    · obtain rfl : k = n := by omega
      have hend : xs.take k = xs := List.take_of_length_le (by rw [HA.out.len]; exact Nat.le_refl _)
      rw [hend] at hst
      cases dn with
      | true =>
        have HP := Lib.hid (show putE xs (s, id) = L by unfold putE; rw [← hst]; rfl)
        clear hst
        go_wp2
        go_ret
        exact ⟨_, rfl, ⟨m, by rw [HP.out]; exact own_base hown (Nat.le_of_lt hz)⟩, hB.out.trans (hb.mono (Nat.le_of_lt hz))⟩
      | false =>
        have HP := Lib.hid (show putE xs (s, id) = L ++ [(s, id)] by unfold putE; rw [← hst]; rfl)
        clear hst
        go_wp2_with (at_builtin; refine list_appN (by rfl) (.tmp 48) (.tmp 50) 25 (by rfl) W wr 71 i0 (.agg #[.string { data := #[] }, .int .i64 0]) 2 24 Tryz.underlying25 hi hz0 hz1 hz2 (by rfl) (by decide) _ (m) _ hown hb [.string s, .int .i64 id] 1 ?_ ?_ ?_ ?_ (by rfl) (by rfl) (by rfl) ?_ ?_; rfl; exact two_one s id; unfold maxLen; omega; omega; exact ⟨rfl, rfl, rfl⟩; intro v3 w3 hown2 hb2)
        go_ret
        exact ⟨_, rfl, ⟨m + 1, by rw [HP.out, cellsE_app]; exact own_base hown2 (Nat.le_of_lt hz)⟩, hB.out.trans (hb2.mono (Nat.le_of_lt hz))⟩

end Go.Proofs.YtiehfobcbhgfkaaGreatDoor.deed

namespace Go.Proofs.YtiehfobcbhgfkaaGreatDoor.deed
set_option maxRecDepth 20000
open Go.RowKit
open kit strs recs disk kd

theorem said_short {s : ByteArray} (h : s.size < 2) : saidOf s = noSaid := by unfold saidOf; rw [if_pos h]
theorem said_other {s : ByteArray} (h : ¬ s.size < 2) (h1 : ¬ byteAt s 0 = 45) (h2 : ¬ (byteAt s 0 = 43 ∨ byteAt s 0 = 62)) : saidOf s = noSaid := by unfold saidOf; rw [if_neg h, if_neg h1, if_neg h2]
theorem said_minus {s : ByteArray} (h : ¬ s.size < 2) (h1 : byteAt s 0 = 45) : saidOf s = ⟨s.extract 1 s.size, { data := #[] }, 0, true⟩ := by unfold saidOf; rw [if_neg h, if_pos h1]
theorem said_none {s : ByteArray} (h : ¬ s.size < 2) (h2 : byteAt s 0 = 43 ∨ byteAt s 0 = 62) (hc : colon s (s.size - 1) 1 = none) : saidOf s = noSaid := by
  unfold saidOf
  rw [if_neg h, if_neg (by omega), if_pos h2, hc]
theorem said_move {s : ByteArray} {i : Nat} (h : ¬ s.size < 2) (h2 : byteAt s 0 = 62) (hc : colon s (s.size - 1) 1 = some i) :
    saidOf s = ⟨s.extract 1 i, s.extract (i + 1) s.size, 0, nam.nok (s.extract (i + 1) s.size) && !decide (s.extract 1 i = s.extract (i + 1) s.size)⟩ := by
  unfold saidOf
  rw [if_neg h, if_neg (by omega), if_pos (.inr h2), hc]
  simp only [h2, if_true]
theorem said_plus {s : ByteArray} {i : Nat} (h : ¬ s.size < 2) (h2 : byteAt s 0 = 43) (hc : colon s (s.size - 1) 1 = some i) :
    saidOf s = ⟨s.extract 1 i, { data := #[] }, (readN (s.extract (i + 1) s.size)).1, (readN (s.extract (i + 1) s.size)).2 && nam.nok (s.extract 1 i)⟩ := by
  unfold saidOf
  rw [if_neg h, if_neg (by omega), if_pos (.inl h2), hc]
  simp only [show ¬ byteAt s 0 = 62 by omega, if_false]
theorem colon_yes {s : ByteArray} {f i : Nat} (h : byteAt s i = 58) : colon s (f + 1) i = some i := by simp [colon, h]
theorem colon_no {s : ByteArray} {f i : Nat} (h : ¬ byteAt s i = 58) : colon s (f + 1) i = colon s f (i + 1) := by simp [colon, h]
def saidV (q : Said) : Value := .tuple #[.string q.name, .string q.to, .int .i64 q.id, .bool q.ok]
theorem read_V (b : ByteArray) : rd.rdV b = .tuple #[.int .i64 (readN b).1, .bool (readN b).2] := by unfold rd.rdV readN; cases rd.RD b.data.toList <;> rfl
theorem byte_at {s : ByteArray} {i c : Nat} (h : i < s.size) (hc : byteAt s i = c) : ((s[i]'h).toNat : Int) = (c : Int) := by rw [← hc, byteAt_in h]

theorem okQ {b : ByteArray} {q : Bool} (hm : b.size ≤ 9223372036854775807) (h : nam.nok b = q) : ∀ w, Calls Tryz.prog 69 #[.string b] w fun e w' => e = .returned (.bool q) ∧ w' = w :=
  fun w => (nam.specOk_any b w hm).mono fun _ _ ⟨h1, h2⟩ => ⟨by rw [h1, h], h2.symm⟩

set_option maxHeartbeats 4000000 in
set_option maxRecDepth 100000 in
theorem specStep (s : ByteArray) (w : World) (hm : s.size ≤ 1000000000) :
    Calls Tryz.prog 176 #[.string s] w fun e w' => e = .returned (saidV (saidOf s)) ∧ Below w.heap.size w w' := by
  by_cases hsz : s.size < 2
  · have HR := Lib.hid (said_short hsz)
    go_enter Tryz.func176, Tryz.ntmps176
    go_wp2
    exact bodyPost_ret (v := .tuple #[.string { data := #[] }, .string { data := #[] }, .int .i64 0, .bool false]) (by simp [results, Tryz.results176, go_sem]) rfl ⟨by rw [HR.out]; rfl, Below.refl _ _⟩
  · have hp : 0 < s.size := by omega
    have hp2 : ¬ (s.size : Int) < 2 := by omega
    obtain ⟨c, hc⟩ : ∃ c, byteAt s 0 = c := ⟨_, rfl⟩
    have hb0 := byte_at hp hc
    by_cases h45 : c = 45
    · have HR := Lib.hid (said_minus hsz (hc.trans h45))
      rw [h45] at hb0
      clear hc h45
      go_enter Tryz.func176, Tryz.ntmps176
      go_wp2
      exact bodyPost_ret (v := .tuple #[.string (s.extract 1 s.size), .string { data := #[] }, .int .i64 0, .bool true]) (by simp [results, Tryz.results176, go_sem]) rfl ⟨by rw [HR.out]; rfl, Below.refl _ _⟩
    · by_cases hother : ¬ (c = 43 ∨ c = 62)
      · have HR := Lib.hid (said_other hsz (by rw [hc]; exact h45) (by rw [hc]; exact hother))
        have g1 : ((c : Int) == 43) = false := by simp; omega
        have n1 : ((c : Int) != 43) = true := by simp; omega
        have p1 : ¬ (c : Int) = 43 := by omega
        have g2 : ((c : Int) == 45) = false := by simp; omega
        have n2 : ((c : Int) != 45) = true := by simp; omega
        have p2 : ¬ (c : Int) = 45 := by omega
        have g3 : ((c : Int) == 62) = false := by simp; omega
        have n3 : ((c : Int) != 62) = true := by simp; omega
        have p3 : ¬ (c : Int) = 62 := by omega
        clear hc h45 hother
        go_enter Tryz.func176, Tryz.ntmps176
        go_wp2
        exact bodyPost_ret (v := .tuple #[.string { data := #[] }, .string { data := #[] }, .int .i64 0, .bool false]) (by simp [results, Tryz.results176, go_sem]) rfl ⟨by rw [HR.out]; rfl, Below.refl _ _⟩
      · rcases (show c = 43 ∨ c = 62 by omega) with h | h
        · rw [h] at hb0
          have HC := Lib.hid (hc.trans h)
          clear hc h h45 hother
          go_enter Tryz.func176, Tryz.ntmps176
          go_wp2
          go_loopw [6] (fun i wr => ∃ k : Nat, 1 ≤ k ∧ k ≤ s.size ∧ i = .int .i64 k ∧ Hid (colon s (s.size - 1) 1 = colon s (s.size - k) k) ∧ wr = w) (fun i _ => s.size - (intOf i).toNat)
          case atStart => exact ⟨1, Nat.le_refl _, by omega, rfl, Lib.hid rfl, rfl⟩
          case round =>
            obtain ⟨k, hk1, hk, rfl, hf, rfl⟩ := hrel
            by_cases hlt : k < s.size
            · obtain ⟨f, hfu⟩ : ∃ f, s.size - k = f + 1 := ⟨s.size - k - 1, by omega⟩
              have HF := Lib.hid (show colon s (s.size - 1) 1 = colon s (f + 1) k by rw [hf.out, hfu])
              have hf2 : s.size - (k + 1) = f := by omega
              have HF2 := Lib.hid hf2
              obtain ⟨x, hx⟩ : ∃ x, byteAt s k = x := ⟨_, rfl⟩
              have hbk := byte_at hlt hx
              clear hfu hf2
              by_cases e : x = 58
              · have HR := Lib.hid (said_plus hsz HC.out (HF.out.trans (colon_yes (hx.trans e))))
                rw [e] at hbk
                clear hx e
                have k1 : (1 : Int) ≤ (k : Int) := by omega
                have hs1 : (s.extract 1 k).size ≤ 9223372036854775807 := by rw [ByteArray.size_extract]; omega
                have hs2 : (s.extract (k + 1) s.size).size ≤ 9223372036854775807 := by rw [ByteArray.size_extract]; omega
                have kw : IntKind.i64.wrap ((k : Int) + 1) = (k : Int) + 1 := IntWalk.i64_in _ (by omega)
                cases hok : (readN (s.extract (k + 1) s.size)).2 with
                | false =>
                  have HR2 := Lib.hid (show saidV (saidOf s) = .tuple #[.string (s.extract 1 k), .string { data := #[] }, .int .i64 (readN (s.extract (k + 1) s.size)).1, .bool false] by rw [HR.out, hok]; rfl)
                  have HV := Lib.hid (show rd.rdV (s.extract (k + 1) s.size) = .tuple #[.int .i64 (readN (s.extract (k + 1) s.size)).1, .bool false] by rw [read_V, hok])
                  obtain ⟨n, hn⟩ : ∃ n, n = (readN (s.extract (k + 1) s.size)).1 := ⟨_, rfl⟩
                  rw [← hn] at HV HR2
                  clear hn hok
                  go_wp2_with (fail)
                  refine (rd.specRead_any _ _ hs2).mono ?_
                  rw [HV.out]
                  rintro e w1 ⟨rfl, hb1⟩
                  go_wp2
                  go_quiet (fail)
                  go_wp2
                  exact bodyPost_ret (v := .tuple #[.string (s.extract 1 k), .string { data := #[] }, .int .i64 n, .bool false]) (by simp [results, Tryz.results176, go_sem]) rfl ⟨by rw [HR2.out], below_drewN hb1 _⟩
                | true =>
                  have HR2 := Lib.hid (show saidV (saidOf s) = .tuple #[.string (s.extract 1 k), .string { data := #[] }, .int .i64 (readN (s.extract (k + 1) s.size)).1, .bool (nam.nok (s.extract 1 k))] by rw [HR.out, hok]; simp [saidV])
                  have HV := Lib.hid (show rd.rdV (s.extract (k + 1) s.size) = .tuple #[.int .i64 (readN (s.extract (k + 1) s.size)).1, .bool true] by rw [read_V, hok])
                  obtain ⟨n, hn⟩ : ∃ n, n = (readN (s.extract (k + 1) s.size)).1 := ⟨_, rfl⟩
                  obtain ⟨q, hq⟩ : ∃ q, q = nam.nok (s.extract 1 k) := ⟨_, rfl⟩
                  have CQ := Lib.hid (okQ hs1 hq.symm)
                  rw [← hn] at HV HR2
                  rw [← hq] at HR2
                  clear hn hok hq
                  go_wp2_with (fail)
                  refine (rd.specRead_any _ _ hs2).mono ?_
                  rw [HV.out]
                  rintro e w1 ⟨rfl, hb1⟩
                  go_wp2
                  go_quiet ((go_at_call 69; exact Calls.quiet_of_same (CQ.out _)))
                  go_wp2
                  exact bodyPost_ret (v := .tuple #[.string (s.extract 1 k), .string { data := #[] }, .int .i64 n, .bool q]) (by simp [results, Tryz.results176, go_sem]) rfl ⟨by rw [HR2.out], below_drewN hb1 _⟩
              · have HN := Lib.hid (HF.out.trans (colon_no (by rw [hx]; exact e)))
                have g1 : ((x : Int) == 58) = false := by simp; omega
                clear hx e
                go_wp2
                go_roundw
                case rel => exact ⟨k + 1, by omega, by omega, by go_num, Lib.hid (by rw [HF2.out]; exact HN.out), trivial⟩
                case measure => simp [intOf]; omega
            · obtain rfl : k = s.size := by omega
              have HR := Lib.hid (said_none hsz (.inl HC.out) (hf.out.trans (by rw [Nat.sub_self]; rfl)))
              go_wp2
              exact bodyPost_ret (v := .tuple #[.string { data := #[] }, .string { data := #[] }, .int .i64 0, .bool false]) (by simp [results, Tryz.results176, go_sem]) rfl ⟨by rw [HR.out]; rfl, Below.refl _ _⟩
        · rw [h] at hb0
          have HC := Lib.hid (hc.trans h)
          clear hc h h45 hother
          go_enter Tryz.func176, Tryz.ntmps176
          go_wp2
          go_loopw [6] (fun i wr => ∃ k : Nat, 1 ≤ k ∧ k ≤ s.size ∧ i = .int .i64 k ∧ Hid (colon s (s.size - 1) 1 = colon s (s.size - k) k) ∧ wr = w) (fun i _ => s.size - (intOf i).toNat)
          case atStart => exact ⟨1, Nat.le_refl _, by omega, rfl, Lib.hid rfl, rfl⟩
          case round =>
            obtain ⟨k, hk1, hk, rfl, hf, rfl⟩ := hrel
            by_cases hlt : k < s.size
            · obtain ⟨f, hfu⟩ : ∃ f, s.size - k = f + 1 := ⟨s.size - k - 1, by omega⟩
              have HF := Lib.hid (show colon s (s.size - 1) 1 = colon s (f + 1) k by rw [hf.out, hfu])
              have hf2 : s.size - (k + 1) = f := by omega
              have HF2 := Lib.hid hf2
              obtain ⟨x, hx⟩ : ∃ x, byteAt s k = x := ⟨_, rfl⟩
              have hbk := byte_at hlt hx
              clear hfu hf2
              by_cases e : x = 58
              · have HR := Lib.hid (said_move hsz HC.out (HF.out.trans (colon_yes (hx.trans e))))
                rw [e] at hbk
                clear hx e
                have k1 : (1 : Int) ≤ (k : Int) := by omega
                have k0 : (0 : Int) ≤ (k : Int) + 1 := by omega
                have kn : ((k : Int) + 1).toNat = k + 1 := by omega
                have ks : k + 1 ≤ s.size := by omega
                have hs2 : (s.extract (k + 1) s.size).size ≤ 9223372036854775807 := by rw [ByteArray.size_extract]; omega
                cases hok : nam.nok (s.extract (k + 1) s.size) with
                | false =>
                  have HR2 := Lib.hid (show saidV (saidOf s) = .tuple #[.string (s.extract 1 k), .string (s.extract (k + 1) s.size), .int .i64 0, .bool false] by rw [HR.out, hok]; rfl)
                  have CQ := Lib.hid (okQ hs2 hok)
                  clear hok
                  have kw : IntKind.i64.wrap ((k : Int) + 1) = (k : Int) + 1 := IntWalk.i64_in _ (by omega)
                  go_wp2
                  go_quiet ((go_at_call 69; exact Calls.quiet_of_same (CQ.out _)))
                  go_wp2
                  exact bodyPost_ret (v := .tuple #[.string (s.extract 1 k), .string (s.extract (k + 1) s.size), .int .i64 0, .bool false]) (by simp [results, Tryz.results176, go_sem]) rfl ⟨by rw [HR2.out], below_drewN (Below.refl _ _) _⟩
                | true =>
                  have CQ := Lib.hid (okQ hs2 hok)
                  have kw : IntKind.i64.wrap ((k : Int) + 1) = (k : Int) + 1 := IntWalk.i64_in _ (by omega)
                  by_cases heq : s.extract 1 k = s.extract (k + 1) s.size
                  · have HR2 := Lib.hid (show saidV (saidOf s) = .tuple #[.string (s.extract 1 k), .string (s.extract (k + 1) s.size), .int .i64 0, .bool false] by rw [HR.out, hok]; simp [saidV, heq])
                    have hbe := bytes_eq heq
                    clear hok heq
                    go_wp2
                    go_quiet ((go_at_call 69; exact Calls.quiet_of_same (CQ.out _)))
                    go_wp2
                    exact bodyPost_ret (v := .tuple #[.string (s.extract 1 k), .string (s.extract (k + 1) s.size), .int .i64 0, .bool false]) (by simp [results, Tryz.results176, go_sem]) rfl ⟨by rw [HR2.out], below_drewN (Below.refl _ _) _⟩
                  · have HR2 := Lib.hid (show saidV (saidOf s) = .tuple #[.string (s.extract 1 k), .string (s.extract (k + 1) s.size), .int .i64 0, .bool true] by rw [HR.out, hok]; simp [saidV, heq])
                    have hbe := bytes_ne heq
                    clear hok heq
                    go_wp2
                    go_quiet ((go_at_call 69; exact Calls.quiet_of_same (CQ.out _)))
                    go_wp2
                    exact bodyPost_ret (v := .tuple #[.string (s.extract 1 k), .string (s.extract (k + 1) s.size), .int .i64 0, .bool true]) (by simp [results, Tryz.results176, go_sem]) rfl ⟨by rw [HR2.out], below_drewN (Below.refl _ _) _⟩
              · have HN := Lib.hid (HF.out.trans (colon_no (by rw [hx]; exact e)))
                have g1 : ((x : Int) == 58) = false := by simp; omega
                clear hx e
                go_wp2
                go_roundw
                case rel => exact ⟨k + 1, by omega, by omega, by go_num, Lib.hid (by rw [HF2.out]; exact HN.out), trivial⟩
                case measure => simp [intOf]; omega
            · obtain rfl : k = s.size := by omega
              have HR := Lib.hid (said_none hsz (.inr HC.out) (hf.out.trans (by rw [Nat.sub_self]; rfl)))
              go_wp2
              exact bodyPost_ret (v := .tuple #[.string { data := #[] }, .string { data := #[] }, .int .i64 0, .bool false]) (by simp [results, Tryz.results176, go_sem]) rfl ⟨by rw [HR.out]; rfl, Below.refl _ _⟩

end Go.Proofs.YtiehfobcbhgfkaaGreatDoor.deed

namespace Go.Proofs.YtiehfobcbhgfkaaGreatDoor.deed
set_option maxRecDepth 20000
open Go.RowKit
open kit strs recs disk kd

theorem said_ok {s : ByteArray} (h : (saidOf s).ok = true) : 0 < s.size ∧ (byteAt s 0 = 43 ∨ byteAt s 0 = 45 ∨ byteAt s 0 = 62) := by
  unfold saidOf at h
  split at h
  · cases h
  · rename_i h1
    refine ⟨by omega, ?_⟩
    split at h
    · rename_i h2; exact .inr (.inl h2)
    · split at h
      · rename_i h3; omega
      · cases h
theorem said_sizes (s : ByteArray) : (saidOf s).name.size ≤ s.size ∧ (saidOf s).to.size ≤ s.size := by
  unfold saidOf
  split
  · exact ⟨Nat.zero_le _, Nat.zero_le _⟩
  · split
    · refine ⟨?_, Nat.zero_le _⟩
      show (s.extract 1 s.size).size ≤ s.size
      rw [ByteArray.size_extract]; omega
    · split
      · split
        · exact ⟨Nat.zero_le _, Nat.zero_le _⟩
        · rename_i i _
          have e1 : (s.extract 1 i).size ≤ s.size := by rw [ByteArray.size_extract]; omega
          have e2 : (s.extract (i + 1) s.size).size ≤ s.size := by rw [ByteArray.size_extract]; omega
          dsimp only
          split
          · exact ⟨e1, e2⟩
          · exact ⟨e1, Nat.zero_le _⟩
      · exact ⟨Nat.zero_le _, Nat.zero_le _⟩
theorem stepsTo_none {l : List Ent} {xs : List ByteArray} {k n : Nat} (h : stepsTo l (xs.take k) = none) (hk : k ≤ n) : stepsTo l (xs.take n) = none := by
  have e : xs.take n = xs.take k ++ (xs.take n).drop k := by
    have h1 : (xs.take n).take k = xs.take k := by rw [List.take_take, Nat.min_eq_left hk]
    rw [← h1, List.take_append_drop]
  rw [e, stepsTo_app, h]
  rfl
/-- the entries behind the steps, and whether all of them could be taken -/
def StepsR (r : Option (List Ent)) (w : World) (e : Ending) (w' : World) : Prop := ∃ v, e = .returned (.tuple #[v, .bool r.isSome]) ∧ OwnE w.heap.size w' v (r.getD []) ∧ Below w.heap.size w w'
theorem step_bad {l : List Ent} {s : ByteArray} (h : (saidOf s).ok = false ∨ nam.nok (saidOf s).name = false) : doStep l s = none := by unfold doStep; rw [if_pos h]
theorem step_plus {l : List Ent} {s : ByteArray} (h : ¬ ((saidOf s).ok = false ∨ nam.nok (saidOf s).name = false)) (h1 : byteAt s 0 = 43) : doStep l s = some (putE l ((saidOf s).name, (saidOf s).id)) := by unfold doStep; rw [if_neg h, if_pos h1]
theorem step_gone {l : List Ent} {s : ByteArray} (h1 : ¬ byteAt s 0 = 43) (h2 : hasE l (saidOf s).name = false) : doStep l s = none := by
  unfold doStep
  by_cases h : (saidOf s).ok = false ∨ nam.nok (saidOf s).name = false
  · rw [if_pos h]
  · rw [if_neg h, if_neg h1, if_pos h2]
theorem step_move {l : List Ent} {s : ByteArray} (h : ¬ ((saidOf s).ok = false ∨ nam.nok (saidOf s).name = false)) (h1 : byteAt s 0 = 62) (h2 : hasE l (saidOf s).name = true) : doStep l s = some (putE (dropE l (saidOf s).name) ((saidOf s).to, idE l (saidOf s).name)) := by
  unfold doStep
  rw [if_neg h, if_neg (show ¬ byteAt s 0 = 43 by omega), if_neg (show ¬ hasE l (saidOf s).name = false by rw [h2]; simp), if_pos h1]
theorem step_minus {l : List Ent} {s : ByteArray} (h : ¬ ((saidOf s).ok = false ∨ nam.nok (saidOf s).name = false)) (h1 : byteAt s 0 = 45) (h2 : hasE l (saidOf s).name = true) : doStep l s = some (dropE l (saidOf s).name) := by
  unfold doStep
  rw [if_neg h, if_neg (show ¬ byteAt s 0 = 43 by omega), if_neg (show ¬ hasE l (saidOf s).name = false by rw [h2]; simp), if_neg (show ¬ byteAt s 0 = 62 by omega)]
theorem strAt {w : World} {b : Option Addr} {m k : Nat} {ss : List ByteArray} (h : strs.At w b m ss) (hk : k < m) : ∃ s g o, ss[k]? = some s ∧ b = some ⟨g, o, none⟩ ∧ g < w.heap.size ∧ w.cell? ⟨g, o + k, none⟩ = some (.string s) := by
  have hx : ss[k]? = some (ss[k]'(by rw [h.1]; exact hk)) := List.getElem?_eq_getElem _
  obtain ⟨g, o, h1, h2, h3⟩ := h.2.resolve_left (by omega)
  exact ⟨_, g, o, hx, h1, h2, h3 k _ hx⟩

set_option maxHeartbeats 8000000 in
set_option maxRecDepth 100000 in
theorem specSteps (a b : Option Addr) (n c m e : Nat) (xs : List Ent) (ss : List ByteArray) (num : Int) (w : World) (hn : n ≤ 2000000) (hm : m ≤ 2000000) (hS : ∀ s ∈ ss, s.size ≤ 1000000000) (ha : AtE w a n xs) (hb : strs.At w b m ss) :
    Calls Tryz.prog 120 #[.slice a n c, .slice b m e, .int .i64 num] w (StepsR (stepsDone xs ss num) w) := by
  obtain ⟨i0, hi, hz0, hz1, hz2⟩ := info_parts Tryz.infoEnt
  have HA := Lib.hid ha
  have HB := Lib.hid hb
  have HS := Lib.hid hS
  clear ha hb hS
  obtain ⟨N, hN⟩ : ∃ N, N = clampN num m := ⟨_, rfl⟩
  have hNm : N ≤ m := by rw [hN]; exact clampN_le _ _
  have HR := Lib.hid (show stepsDone xs ss num = stepsTo xs (ss.take N) by unfold stepsDone; rw [HB.out.1, hN])
  have HN := Lib.hid hN
  clear hN
  have own0 : (w.alloc (.cells #[] 71)).ownsRow w.heap.size 71 2 (.slice (some ⟨w.heap.size, 0, none⟩) 0 0) 0 [] := World.ownsRow_made _ _ _ (Nat.le_refl _) (by decide) rfl
  have bo0 : w.heap.size ≤ (w.alloc (.cells #[] 71)).heap.size := by simp
  have C0 := Lib.hid (show Cells (w.alloc (.cells #[] 71)) a n 2 (cellsE xs) from HA.out.below ((Below.refl _ _).alloc (Nat.le_refl _) _))
  have bn0 : 0 + n ≤ maxLen := by unfold maxLen; omega
  have bm0 : (0 + n) * 24 ≤ 140737488355328 := by omega
  go_enter Tryz.func120, Tryz.ntmps120
  go_wp2_with (at_builtin; refine list_copy (by rfl) (.tmp 14) (.tmp 15) 25 (by rfl) w.heap.size 71 i0 (.agg #[.string { data := #[] }, .int .i64 0]) 2 24 Tryz.underlying25 hi hz0 hz1 hz2 (by rfl) (by decide) _ 0 [] own0 bo0 a n c (cellsE xs) C0.out (oneE xs) bn0 bm0 (by rfl) (by rfl) ?_; intro v1 w1 hown1 hg1)
  have hb1 : Below w.heap.size w w1 := ((Below.refl w.heap.size w).alloc (Nat.le_refl _) _).grown hg1 bo0 (fun k hk => by simp [Value.ownBlock] at hk; omega)
  rw [List.nil_append, Nat.zero_add] at hown1
  clear hg1 own0 bo0 C0 bn0 bm0
  refine (specBrought num m _).mono ?_
  rintro e w' ⟨he, rfl⟩
  rw [← HN.out] at he
  subst he
  go_wp2
  go_loopw [8, 9] (fun v i wr => ∃ (k q : Nat) (l : List Ent), k ≤ N ∧ q ≤ n + k ∧ i = .int .i64 k ∧ Hid (stepsTo xs (ss.take k) = some l) ∧ wr.ownsRow w.heap.size 71 2 v q (cellsE l) ∧ Below w.heap.size w wr) (fun _ i _ => N - (intOf i).toNat)
  case atStart => exact ⟨0, n, xs, Nat.zero_le _, Nat.le_refl _, rfl, Lib.hid rfl, hown1, hb1⟩
  case round =>
    clear hown1 hb1
    obtain ⟨k, q, l, hk, hq, rfl, hf, hown, hbl⟩ := hrel
    by_cases hlt : k < N
    · obtain ⟨s, g, o, hx, rfl, hg, c1⟩ := strAt (HB.out.below hbl) (show k < m by omega)
      have hss := HS.out s (List.mem_of_getElem? hx)
      have HT := Lib.hid (show stepsTo xs (ss.take (k + 1)) = doStep l s by rw [stepsTo_snoc hx, hf.out]; rfl)
      have HS2 := Lib.hid (said_sizes s)
      have j0 : (0 : Int) ≤ (k : Int) := by omega
      have j1 : (k : Int) < (m : Int) := by omega
      have j2 : (k : Int) < (N : Int) := by omega
      obtain ⟨al, cl, rfl, _, _⟩ := own_shape hown
      have HO := Lib.hid hown
      clear hx hown
      go_wp2_with (fail)
      refine (specStep s _ hss).mono ?_
      rintro e w2 ⟨rfl, hb2⟩
      have hown2 := own_below HO.out hb2
      have hAl := Lib.hid (show AtE w2 al q l from own_cells hown2)
      have d1 := (hb2.cell (p := ⟨g, o + k, none⟩) hg).trans c1
      have hB2 := hbl.trans (hb2.mono hbl.size)
      have HO2 := Lib.hid hown2
      obtain ⟨sd, hsd⟩ : ∃ sd, sd = saidOf s := ⟨_, rfl⟩
      obtain ⟨nm, to, id, ok⟩ := sd
      have hnmz : nm.size ≤ 9223372036854775807 := by have := HS2.out.1; rw [← hsd] at this; dsimp only at this; omega
      have hV := Lib.hid (show saidV (saidOf s) = .tuple #[.string nm, .string to, .int .i64 id, .bool ok] by rw [← hsd]; rfl)
      have HSD := Lib.hid hsd
      have hb2s := hb2.size
      clear hsd hown2 hb2 c1 HO
      rw [hV.out]
      cases ok with
      | false =>
        have HZ := Lib.hid (show stepsDone xs ss num = none by rw [HR.out]; exact stepsTo_none (HT.out.trans (step_bad (.inl (by rw [← HSD.out])))) (by omega))
        go_wp2
        exact bodyPost_ret (v := .tuple #[.slice (some ⟨w2.heap.size, 0, none⟩) 0 0, .bool false]) (by simp [results, Tryz.results120, go_sem]) rfl ⟨_, by rw [HZ.out]; rfl, by rw [HZ.out]; exact ⟨0, own_base (World.ownsRow_made _ _ _ (Nat.le_refl _) (by decide) rfl) hB2.size⟩, hB2.alloc hB2.size _⟩
      | true =>
        obtain ⟨hs0, hc3⟩ := said_ok (s := s) (by rw [← HSD.out])
        obtain ⟨c, hc⟩ : ∃ c, byteAt s 0 = c := ⟨_, rfl⟩
        have hb0 := byte_at hs0 hc
        rw [hc] at hc3
        have HC := Lib.hid hc
        clear hc
        obtain ⟨okn, hok⟩ : ∃ okn, nam.nok nm = okn := ⟨_, rfl⟩
        have CQ := Lib.hid (fun w => ((nam.specOk_any nm w hnmz).mono (fun e w' (h : e = Ending.returned (.bool (nam.nok nm)) ∧ w = w') => (show e = Ending.returned (.bool okn) ∧ w = w' from ⟨by rw [h.1, hok], h.2⟩))))
        cases okn with
        | false =>
          have HZ := Lib.hid (show stepsDone xs ss num = none by rw [HR.out]; exact stepsTo_none (HT.out.trans (step_bad (.inr (by rw [← HSD.out]; exact hok)))) (by omega))
          clear hok hc3
          go_wp2_with (go_at_call 69; refine (CQ.out _).mono ?_; rintro e w3 ⟨rfl, rfl⟩)
          exact bodyPost_ret (v := .tuple #[.slice (some ⟨w2.heap.size, 0, none⟩) 0 0, .bool false]) (by simp [results, Tryz.results120, go_sem]) rfl ⟨_, by rw [HZ.out]; rfl, by rw [HZ.out]; exact ⟨0, own_base (World.ownsRow_made _ _ _ (Nat.le_refl _) (by decide) rfl) hB2.size⟩, hB2.alloc hB2.size _⟩
        | true =>
          have HG := Lib.hid (show ¬ ((saidOf s).ok = false ∨ nam.nok (saidOf s).name = false) by rw [← HSD.out]; dsimp only; rw [hok]; simp)
          clear hok
          have hq2 : q ≤ 10000000 := by omega
          have hqm : q ≤ maxLen := by unfold maxLen; omega
          have hgl : g < w2.heap.size := Nat.lt_of_lt_of_le hg hb2s
          rcases hc3 with h | h | h
          · rw [h] at hb0
            have HD := Lib.hid (show doStep l s = some (putE l (nm, id)) by rw [step_plus HG.out (HC.out.trans h), ← HSD.out])
            have HL := Lib.hid (putE_length l (nm, id))
            clear h
            go_wp2_with (first | (go_at_call 69; refine (CQ.out _).mono ?_; rintro e w3 ⟨rfl, rfl⟩) | (go_at_call 71; refine (specPut al cl q l nm id _ hq2 hAl.out).mono ?_; rintro e w4 ⟨v4, rfl, ho4, hb4⟩))
            obtain ⟨q4, ho4⟩ := ho4
            have hq4 : q4 ≤ q + 1 := by have h1 := ho4.1; have h2 := hAl.out.len; have h3 := HL.out; rw [cellsE_len] at h1; omega
            go_roundw
            case rel => exact ⟨k + 1, q4, _, by omega, by omega, by go_num, Lib.hid (HT.out.trans HD.out), own_base ho4 hB2.size, hB2.trans (hb4.mono hB2.size)⟩
            case measure => simp [intOf]; omega
          · rw [h] at hb0
            obtain ⟨hs, hhs⟩ : ∃ hs, hasE l nm = hs := ⟨_, rfl⟩
            have CH := Lib.hid (fun (w : World) (h : AtE w al q l) => ((specHas al cl q l nm w hqm h).mono (fun e w' (h : e = Ending.returned (.bool (hasE l nm)) ∧ w = w') => (show e = Ending.returned (.bool hs) ∧ w = w' from ⟨by rw [h.1, hhs], h.2⟩))))
            cases hs with
            | false =>
              have HZ := Lib.hid (show stepsDone xs ss num = none by rw [HR.out]; exact stepsTo_none (HT.out.trans (step_gone (by rw [HC.out]; omega) (by rw [← HSD.out]; exact hhs))) (by omega))
              clear h hhs
              go_wp2_with (first | (go_at_call 69; refine (CQ.out _).mono ?_; rintro e w3 ⟨rfl, rfl⟩) | (go_at_call 70; refine (CH.out _ hAl.out).mono ?_; rintro e w3 ⟨rfl, rfl⟩))
              exact bodyPost_ret (v := .tuple #[.slice (some ⟨w2.heap.size, 0, none⟩) 0 0, .bool false]) (by simp [results, Tryz.results120, go_sem]) rfl ⟨_, by rw [HZ.out]; rfl, by rw [HZ.out]; exact ⟨0, own_base (World.ownsRow_made _ _ _ (Nat.le_refl _) (by decide) rfl) hB2.size⟩, hB2.alloc hB2.size _⟩
            | true =>
              have HX := Lib.hid (HC.out.trans h)
              have HD := Lib.hid (show doStep l s = some (dropE l nm) by rw [step_minus HG.out HX.out (by rw [← HSD.out]; exact hhs), ← HSD.out])
              have HL := Lib.hid (dropE_length l nm)
              clear h hhs
              go_wp2_with (first | (go_at_call 69; refine (CQ.out _).mono ?_; rintro e w3 ⟨rfl, rfl⟩) | (go_at_call 70; refine (CH.out _ hAl.out).mono ?_; rintro e w3 ⟨rfl, rfl⟩) | (go_at_call 177; refine (specDrop al cl q l nm _ hq2 hAl.out).mono ?_; rintro e w4 ⟨v4, rfl, ho4, hb4⟩; have d2 := (hb4.cell (p := ⟨g, o + k, none⟩) hgl).trans d1))
              obtain ⟨q4, ho4⟩ := ho4
              have hq4 : q4 ≤ q := by have h1 := ho4.1; have h2 := hAl.out.len; have h3 := HL.out; rw [cellsE_len] at h1; omega
              go_roundw
              case rel => exact ⟨k + 1, q4, _, by omega, by omega, by go_num, Lib.hid (HT.out.trans HD.out), own_base ho4 hB2.size, hB2.trans (hb4.mono hB2.size)⟩
              case measure => simp [intOf]; omega
          · rw [h] at hb0
            obtain ⟨hs, hhs⟩ : ∃ hs, hasE l nm = hs := ⟨_, rfl⟩
            have CH := Lib.hid (fun (w : World) (h : AtE w al q l) => ((specHas al cl q l nm w hqm h).mono (fun e w' (h : e = Ending.returned (.bool (hasE l nm)) ∧ w = w') => (show e = Ending.returned (.bool hs) ∧ w = w' from ⟨by rw [h.1, hhs], h.2⟩))))
            cases hs with
            | false =>
              have HZ := Lib.hid (show stepsDone xs ss num = none by rw [HR.out]; exact stepsTo_none (HT.out.trans (step_gone (by rw [HC.out]; omega) (by rw [← HSD.out]; exact hhs))) (by omega))
              clear h hhs
              go_wp2_with (first | (go_at_call 69; refine (CQ.out _).mono ?_; rintro e w3 ⟨rfl, rfl⟩) | (go_at_call 70; refine (CH.out _ hAl.out).mono ?_; rintro e w3 ⟨rfl, rfl⟩))
              exact bodyPost_ret (v := .tuple #[.slice (some ⟨w2.heap.size, 0, none⟩) 0 0, .bool false]) (by simp [results, Tryz.results120, go_sem]) rfl ⟨_, by rw [HZ.out]; rfl, by rw [HZ.out]; exact ⟨0, own_base (World.ownsRow_made _ _ _ (Nat.le_refl _) (by decide) rfl) hB2.size⟩, hB2.alloc hB2.size _⟩
            | true =>
              have HX := Lib.hid (HC.out.trans h)
              have HD := Lib.hid (show doStep l s = some (putE (dropE l nm) (to, idE l nm)) by rw [step_move HG.out HX.out (by rw [← HSD.out]; exact hhs), ← HSD.out])
              have HL := Lib.hid (dropE_length l nm)
              have HL2 := Lib.hid (putE_length (dropE l nm) (to, idE l nm))
              clear h hhs
              go_wp2_with (first | (go_at_call 69; refine (CQ.out _).mono ?_; rintro e w3 ⟨rfl, rfl⟩) | (go_at_call 70; refine (CH.out _ hAl.out).mono ?_; rintro e w3 ⟨rfl, rfl⟩) | (go_at_call 75; refine (specEntryAt al cl q l nm _ hqm hAl.out).mono ?_; rintro e w3 ⟨rfl, rfl⟩) | (go_at_call 177; refine (specDrop al cl q l nm _ hq2 hAl.out).mono ?_; rintro e w4 ⟨v4, rfl, ho4, hb4⟩; have d2 := (hb4.cell (p := ⟨g, o + k, none⟩) hgl).trans d1; obtain ⟨q4, ho4⟩ := ho4; obtain ⟨a4, c4, rfl, _, _⟩ := own_shape ho4; have hA4 := Lib.hid (own_cells ho4); have hq4 : q4 ≤ q := (by have h1 := ho4.1; have h2 := hAl.out.len; have h3 := HL.out; rw [cellsE_len] at h1; omega); have hq5 : q4 ≤ 10000000 := (by omega)) | (go_at_call 71; refine (specPut a4 c4 q4 (dropE l nm) to (idE l nm) _ hq5 hA4.out).mono ?_; rintro e w5 ⟨v5, rfl, ho5, hb5⟩))
              obtain ⟨q6, ho6⟩ := ho5
              have hq6 : q6 ≤ q + 1 := by have h1 := ho6.1; have h2 := hAl.out.len; have h3 := HL.out; have h4 := HL2.out; rw [cellsE_len] at h1; omega
              go_roundw
              case rel => exact ⟨k + 1, q6, _, by omega, by omega, by go_num, Lib.hid (HT.out.trans HD.out), own_base ho6 (Nat.le_trans hB2.size hb4.size), (hB2.trans (hb4.mono hB2.size)).trans (hb5.mono (Nat.le_trans hB2.size hb4.size))⟩
              case measure => simp [intOf]; omega
    · obtain rfl : k = N := by omega
      have HZ := Lib.hid (show stepsDone xs ss num = some l by rw [HR.out]; exact hf.out)
      obtain ⟨al, cl, rfl, _, _⟩ := own_shape hown
      go_wp2
      exact bodyPost_ret (v := .tuple #[.slice al q cl, .bool true]) (by simp [results, Tryz.results120, go_sem]) rfl ⟨_, by rw [HZ.out]; rfl, by rw [HZ.out]; exact ⟨q, hown⟩, hbl⟩

end Go.Proofs.YtiehfobcbhgfkaaGreatDoor.deed

namespace Go.Proofs.YtiehfobcbhgfkaaGreatDoor.deed
set_option maxRecDepth 20000
open Go.RowKit
open kit strs recs disk kd

theorem ents_step {d : D} {l : List Ent} {k : Nat} {p : Option ByteArray} {t : ByteArray} {i : Int} (hx : l[k]? = some (t, i)) :
    entsFrom d p (l.drop k) = (nam.nok t && (nodeIx d.nodes i).isSome && (match p with | none => true | some q => lessB q t) && entsFrom d (some t) (l.drop (k + 1))) := by rw [drop_cons hx]; rfl
/-- the name ahead of the k-th -/
def ahead (l : List Ent) (k : Nat) : Option ByteArray := if k = 0 then none else (l[k - 1]?).map (·.1)
theorem ahead_next {l : List Ent} {k : Nat} {t : ByteArray} {i : Int} (hx : l[k]? = some (t, i)) : ahead l (k + 1) = some t := by unfold ahead; rw [if_neg (by omega), Nat.add_sub_cancel, hx]; rfl
theorem ixI_none : ixI none = -1 := rfl
theorem ixI_some (k : Nat) : ixI (some k) = (k : Int) := rfl

set_option maxHeartbeats 8000000 in
set_option maxRecDepth 100000 in
theorem specEntries (v : Value) (d : D) (a : Option Addr) (n c : Nat) (l : List Ent) (w : World) (hd : d.nodes.length ≤ maxLen) (hn : n ≤ 10000000) (hS : ∀ e ∈ l, e.1.size ≤ 9223372036854775807) (hv : IsDisk w v d) (ha : AtE w a n l) :
    Calls Tryz.prog 121 #[v, .slice a n c] w fun e w' => e = .returned (.bool (entsOk d l)) ∧ Below w.heap.size w w' := by
  have hv0 := hv
  obtain ⟨aN, aE, aO, aS, nN, cN, nE, cE, nO, cO, nS, cS, rfl, hN, hE, hO, hSt⟩ := hv
  obtain ⟨W, hW⟩ : ∃ W, W = w.alloc (.cells #[.slice aN nN cN, .slice aE nE cE, .slice aO nO cO, .slice aS nS cS, .int .i64 d.room, .int .i64 d.next] 28) := ⟨_, rfl⟩
  have hWB : Below w.heap.size w W := by rw [hW]; exact (Below.refl _ _).alloc (Nat.le_refl _) _
  have BX := Lib.hid (show disk.Box W w.heap.size [.slice aN nN cN, .slice aE nE cE, .slice aO nO cO, .slice aS nS cS, .int .i64 d.room, .int .i64 d.next] from by rw [hW]; exact Box.new _ _ _)
  have HV := Lib.hid (hv0.below hWB)
  have HA := Lib.hid (ha.below hWB)
  have HL := Lib.hid ha.len
  have HS := Lib.hid hS
  have HB := Lib.hid hWB
  have HD := Lib.hid hd
  clear hN hE hO hSt hv0 hWB ha hS hd
  go_enter Tryz.func121, Tryz.ntmps121
  go_wp2
  rw [← hW]
  clear hW
  go_loopw [5] (fun i wr => ∃ k : Nat, k ≤ n ∧ i = .int .i64 k ∧ Hid (entsFrom d none l = entsFrom d (ahead l k) (l.drop k)) ∧ Below W.heap.size W wr) (fun i _ => n - (intOf i).toNat)
  case atStart => exact ⟨0, Nat.zero_le _, rfl, Lib.hid rfl, Below.refl _ _⟩
  case round =>
    obtain ⟨k, hk, rfl, hf, hb⟩ := hrel
    by_cases hlt : k < n
    · obtain ⟨t, i, g, o, hx, rfl, hg, c1, c2⟩ := (HA.out.below hb).get hlt
      have hts := HS.out (t, i) (List.mem_of_getElem? hx)
      dsimp only at hts
      have HF := Lib.hid (hf.out.trans (ents_step hx))
      have j0 : (0 : Int) ≤ (k : Int) := by omega
      have j1 : (k : Int) < (n : Int) := by omega
      have bx := BX.out.below hb
      have y0 := Later.cell (bx.at 0 _ rfl) bx.1
      have y1 := Later.cell (bx.at 1 _ rfl) bx.1
      have y2 := Later.cell (bx.at 2 _ rfl) bx.1
      have y3 := Later.cell (bx.at 3 _ rfl) bx.1
      have y4 := Later.cell (bx.at 4 _ rfl) bx.1
      have y5 := Later.cell (bx.at 5 _ rfl) bx.1
      have z1 := Later.cell c1 hg
      have z2 := Later.cell c2 hg
      have HVr := Lib.hid (HV.out.below hb)
      clear c1 c2 bx
      obtain ⟨okn, hok⟩ : ∃ okn, nam.nok t = okn := ⟨_, rfl⟩
      have CQ := Lib.hid (fun w => ((nam.specOk_any t w hts).mono (fun e w' (h : e = Ending.returned (.bool (nam.nok t)) ∧ w = w') => (show e = Ending.returned (.bool okn) ∧ w = w' from ⟨by rw [h.1, hok], h.2⟩))))
      cases okn with
      | false =>
        have HZ := Lib.hid (show entsOk d l = false by unfold entsOk; rw [HF.out, hok]; simp)
        clear hok hx
        go_wp2
        refine wp_region_later (by kernel_rfl) (by kernel_rfl) ?_
        repeat (first | go_big_quiet_skip | (go_big_quiet_want; go_big_quiet_op; first | go_big_quiet_on | (apply Exists.intro; refine ⟨fun x => ?_, ?_⟩; (first | (go_at_call 69; exact Calls.later_same (CQ.out _))); go_big_quiet_on)))
        refine wpQuiet_nil ?_
        rintro w2 ⟨x2, hx2⟩
        have hb2 : Below wr.heap.size wr w2 := hx2 ▸ x2.2
        clear hx2 x2
        go_wp2
        go_ret
        exact ⟨by rw [HZ.out]; rfl, (HB.out.trans (hb.mono HB.out.size)).trans (hb2.mono (Nat.le_trans HB.out.size hb.size))⟩
      | true =>
        obtain ⟨ix, hix⟩ : ∃ ix, ix = nodeIx d.nodes i := ⟨_, rfl⟩
        have CN := Lib.hid (fun (x : Later wr) => (show Calls Tryz.prog 74 #[.agg #[.slice aN nN cN, .slice aE nE cE, .slice aO nO cO, .slice aS nS cS, .int .i64 d.room, .int .i64 d.next], .int .i64 i] x.val fun e w' => e = .returned (.int .i64 (ixI ix)) ∧ Below x.val.heap.size x.val w' by rw [hix]; exact specNode _ d i x.val HD.out (HVr.out.below x.2)))
        cases ix with
        | none =>
          have HZ := Lib.hid (show entsOk d l = false by unfold entsOk; rw [HF.out, hok, ← hix]; simp)
          rw [ixI_none] at CN
          clear hok hx hix
          go_wp2
          refine wp_region_later (by kernel_rfl) (by kernel_rfl) ?_
          repeat (first | go_big_quiet_skip | (go_big_quiet_want; go_big_quiet_op; first | go_big_quiet_on | (apply Exists.intro; refine ⟨fun x => ?_, ?_⟩; (first | (go_at_call 69; exact Calls.later_same (CQ.out _)) | (go_at_call 74; exact Calls.later (CN.out x))); go_big_quiet_on)))
          refine wpQuiet_nil ?_
          rintro w2 ⟨x2, hx2⟩
          have hb2 : Below wr.heap.size wr w2 := hx2 ▸ x2.2
          clear hx2 x2
          go_wp2
          go_ret
          exact ⟨by rw [HZ.out]; rfl, (HB.out.trans (hb.mono HB.out.size)).trans (hb2.mono (Nat.le_trans HB.out.size hb.size))⟩
        | some m =>
          rw [ixI_some] at CN
          have m0 : decide ((m : Int) < 0) = false := by simp
          by_cases hk0 : k = 0
          · have k0 : decide (0 < k) = false := by simp [hk0]
            have HT := Lib.hid (show entsFrom d none l = entsFrom d (ahead l (k + 1)) (l.drop (k + 1)) by rw [HF.out, hok, ← hix, ahead_next hx]; simp [ahead, hk0])
            clear hok hx hix HF hf hk0
            go_wp2
            refine wp_region_later (by kernel_rfl) (by kernel_rfl) ?_
            repeat (first | go_big_quiet_skip | (go_big_quiet_want; go_big_quiet_op; first | go_big_quiet_on | (apply Exists.intro; refine ⟨fun x => ?_, ?_⟩; (first | (go_at_call 69; exact Calls.later_same (CQ.out _)) | (go_at_call 74; exact Calls.later (CN.out x))); go_big_quiet_on)))
            refine wpQuiet_nil ?_
            rintro w2 ⟨x2, hx2⟩
            have hb2 : Below wr.heap.size wr w2 := hx2 ▸ x2.2
            clear hx2 x2
            go_wp2
            go_roundw
            case rel => exact ⟨k + 1, by omega, by go_num, HT, hb.trans (hb2.mono hb.size)⟩
            case measure => simp [intOf]; omega
          · obtain ⟨q, hq⟩ : ∃ q, k = q + 1 := ⟨k - 1, by omega⟩
            obtain ⟨p, pi, g', o', hxp, ha', hg', e1, _⟩ := (HA.out.below hb).get (show q < n by omega)
            obtain ⟨rfl, rfl⟩ : g = g' ∧ o = o' := by simpa using ha'
            have w1 := Later.cell e1 hg
            have hah : ahead l k = some p := by rw [hq]; exact ahead_next hxp
            have q0 : (0 : Int) ≤ (q : Int) := by omega
            have q1 : (q : Int) < (n : Int) := by omega
            have q2 : decide (0 < k) = true := by simp; omega
            have qw : IntKind.i64.wrap ((k : Int) - 1) = (q : Int) := by rw [show (k : Int) - 1 = (q : Int) by omega]; exact IntWalk.i64_in _ (by omega)
            cases hle : lessB p t with
            | false =>
              have HZ := Lib.hid (show entsOk d l = false by unfold entsOk; rw [HF.out, hok, ← hix, hah]; simp [hle])
              have hl2 : Op.bytesLess p.toList t.toList = false := hle
              clear hok hx hix HF hf hah hxp ha' e1 hg' hle hq hk0
              go_wp2
              refine wp_region_later (by kernel_rfl) (by kernel_rfl) ?_
              repeat (first | go_big_quiet_skip | (go_big_quiet_want; go_big_quiet_op; first | go_big_quiet_on | (apply Exists.intro; refine ⟨fun x => ?_, ?_⟩; (first | (go_at_call 69; exact Calls.later_same (CQ.out _)) | (go_at_call 74; exact Calls.later (CN.out x))); go_big_quiet_on)))
              refine wpQuiet_nil ?_
              rintro w2 ⟨x2, hx2⟩
              have hb2 : Below wr.heap.size wr w2 := hx2 ▸ x2.2
              clear hx2 x2
              go_wp2
              go_ret
              exact ⟨by rw [HZ.out]; rfl, (HB.out.trans (hb.mono HB.out.size)).trans (hb2.mono (Nat.le_trans HB.out.size hb.size))⟩
            | true =>
              have HT := Lib.hid (show entsFrom d none l = entsFrom d (ahead l (k + 1)) (l.drop (k + 1)) by rw [HF.out, hok, ← hix, hah, ahead_next hx]; simp [hle])
              have hl2 : Op.bytesLess p.toList t.toList = true := hle
              clear hok hx hix HF hf hah hxp ha' e1 hg' hle hq hk0
              go_wp2
              refine wp_region_later (by kernel_rfl) (by kernel_rfl) ?_
              repeat (first | go_big_quiet_skip | (go_big_quiet_want; go_big_quiet_op; first | go_big_quiet_on | (apply Exists.intro; refine ⟨fun x => ?_, ?_⟩; (first | (go_at_call 69; exact Calls.later_same (CQ.out _)) | (go_at_call 74; exact Calls.later (CN.out x))); go_big_quiet_on)))
              refine wpQuiet_nil ?_
              rintro w2 ⟨x2, hx2⟩
              have hb2 : Below wr.heap.size wr w2 := hx2 ▸ x2.2
              clear hx2 x2
              go_wp2
              go_roundw
              case rel => exact ⟨k + 1, by omega, by go_num, HT, hb.trans (hb2.mono hb.size)⟩
              case measure => simp [intOf]; omega
    · obtain rfl : k = n := by omega
      have HZ := Lib.hid (show entsOk d l = decide (k ≤ 16) by unfold entsOk; rw [hf.out, drop_end HL.out, HL.out]; simp [entsFrom])
      by_cases h16 : k ≤ 16
      · have h2 : (k : Int) ≤ 16 := by omega
        go_wp2
        go_ret
        exact ⟨by rw [HZ.out]; simp [h16], HB.out.trans (hb.mono HB.out.size)⟩
      · have h2 : ¬ (k : Int) ≤ 16 := by omega
        go_wp2
        go_ret
        exact ⟨by rw [HZ.out]; simp [h16], HB.out.trans (hb.mono HB.out.size)⟩

end Go.Proofs.YtiehfobcbhgfkaaGreatDoor.deed

namespace Go.Proofs.YtiehfobcbhgfkaaGreatDoor.deed
set_option maxRecDepth 20000
open Go.RowKit
open kit strs recs disk kd

/-- Well-formed, and a little more than a law lets in: what a deed adds has room. -/
def okL (d : D) : Prop := wfD d ∧ bulk d ≤ 1500000
theorem okD.loose {d : D} (h : okD d) : okL d := ⟨h.1, by have := h.2; omega⟩
theorem usedL_le {d : D} (h : bulk d ≤ 1500000) : usedOn d ≤ 1500000 := by unfold bulk bulkN at h; unfold usedOn; omega
theorem okL_lens {d : D} (h : okL d) : d.nodes.length ≤ 1500000 ∧ d.ents.length ≤ 1500000 ∧ d.old.length ≤ 1500000 ∧ d.steps.length ≤ 1500000 := by
  have h := h.2
  unfold bulk bulkN bulkE at h
  simp only [List.length_map] at h
  omega
theorem in_yes' (x least most : Int) (W : World) (h1 : least ≤ x) (h2 : x ≤ most) (y : Later W) :
    Calls Tryz.prog 109 #[.int .i64 x, .int .i64 least, .int .i64 most] y.val fun e w'' => e = .returned (.bool true) ∧ ∃ z : Later W, w'' = z.val := Calls.later_same (in_yes x least most y.val h1 h2)
theorem in_no' (x least most : Int) (W : World) (h : x < least ∨ most < x) (y : Later W) :
    Calls Tryz.prog 109 #[.int .i64 x, .int .i64 least, .int .i64 most] y.val fun e w'' => e = .returned (.bool false) ∧ ∃ z : Later W, w'' = z.val := Calls.later_same (in_no x least most y.val h)
theorem nodes_step {next : Int} {l : List Nod} {k : Nat} {p : Option Int} {n : Nod} (hx : l[k]? = some n) :
    nodesFrom next p (l.drop k) = (decide (1 ≤ n.1 ∧ n.1 ≤ next - 1) && (match p with | none => true | some q => decide (q < n.1)) && decide (0 ≤ n.2.2 ∧ n.2.2 ≤ (n.2.1.size : Int)) && nodesFrom next (some n.1) (l.drop (k + 1))) := by rw [drop_cons hx]; rfl
def aheadN (l : List Nod) (k : Nat) : Option Int := if k = 0 then none else (l[k - 1]?).map (·.1)
theorem aheadN_next {l : List Nod} {k : Nat} {n : Nod} (hx : l[k]? = some n) : aheadN l (k + 1) = some n.1 := by unfold aheadN; rw [if_neg (by omega), Nat.add_sub_cancel, hx]; rfl
theorem all_range_snoc (f : Nat → Bool) (k : Nat) : (List.range (k + 1)).all f = ((List.range k).all f && f k) := by rw [List.range_succ, List.all_append]; simp
theorem all_range_false {f : Nat → Bool} {k n : Nat} (h : f k = false) (hk : k < n) : (List.range n).all f = false := by
  rw [List.all_eq_false]
  exact ⟨k, List.mem_range.2 hk, by simp [h]⟩
theorem disk_head {d : D} (h : okHead d = false) : diskOk d = false := by unfold diskOk; rw [h]; rfl
theorem disk_nodes {d : D} (h : nodesFrom d.next none d.nodes = false) : diskOk d = false := by unfold diskOk; rw [h]; simp
theorem disk_hist {d : D} (h : okHist d = false) : diskOk d = false := by unfold diskOk; rw [h]; simp

theorem putTo_mem {e x : Ent} {xs : List Ent} : x ∈ (putTo e xs).1 → x = e ∨ x ∈ xs := by
  have : ∀ (xs : List Ent) (st : List Ent × Bool), x ∈ (xs.foldl (putStep e) st).1 → x = e ∨ x ∈ xs ∨ x ∈ st.1 := by
    intro xs
    induction xs with
    | nil => intro st h; exact .inr (.inr h)
    | cons y r ih =>
      intro st h
      rw [List.foldl_cons] at h
      rcases ih _ h with h | h | h
      · exact .inl h
      · exact .inr (.inl (List.mem_cons_of_mem _ h))
      · have hs : x = e ∨ x = y ∨ x ∈ st.1 := by
          unfold putStep at h
          split at h
          · split at h
            · simp at h; rcases h with h | h; exact .inr (.inr h); exact .inl h
            · simp at h; rcases h with h | h | h; exact .inr (.inr h); exact .inl h; exact .inr (.inl h)
          · split at h
            · exact .inr (.inr h)
            · simp at h; rcases h with h | h; exact .inr (.inr h); exact .inr (.inl h)
        rcases hs with h | h | h
        · exact .inl h
        · exact .inr (.inl (by rw [h]; exact List.mem_cons_self))
        · exact .inr (.inr h)
  intro h
  rcases this xs ([], false) h with h | h | h
  · exact .inl h
  · exact .inr h
  · cases h
theorem putE_mem {e x : Ent} {xs : List Ent} (h : x ∈ putE xs e) : x = e ∨ x ∈ xs := by
  unfold putE at h
  split at h
  · exact putTo_mem h
  · rcases List.mem_append.1 h with h | h
    · exact putTo_mem h
    · exact .inl (by simpa using h)
theorem doStep_small {l l' : List Ent} {s : ByteArray} {B : Nat} (h : doStep l s = some l') (hl : ∀ e ∈ l, e.1.size ≤ B) (hs : s.size ≤ B) : ∀ e ∈ l', e.1.size ≤ B := by
  have hz := said_sizes s
  have hd : ∀ e ∈ dropE l (saidOf s).name, e.1.size ≤ B := fun e he => hl e (List.mem_filter.1 he).1
  unfold doStep at h
  split at h
  · cases h
  · split at h
    · cases h
      intro e he
      rcases putE_mem he with rfl | he
      · dsimp only; omega
      · exact hl e he
    · split at h
      · cases h
      · split at h
        · cases h
          intro e he
          rcases putE_mem he with rfl | he
          · dsimp only; omega
          · exact hd e he
        · cases h
          exact hd
theorem stepsTo_small : ∀ (xs : List ByteArray) (l l' : List Ent) (B : Nat), stepsTo l xs = some l' → (∀ e ∈ l, e.1.size ≤ B) → (∀ s ∈ xs, s.size ≤ B) → ∀ e ∈ l', e.1.size ≤ B
  | [], l, l', B, h, hl, _ => by cases h; exact hl
  | s :: r, l, l', B, h, hl, hs => by
    simp only [stepsTo] at h
    cases h1 : doStep l s with
    | none => rw [h1] at h; cases h
    | some l1 =>
      rw [h1] at h
      exact stepsTo_small r l1 l' B h (doStep_small h1 hl (hs s List.mem_cons_self)) (fun s hs' => hs s (List.mem_cons_of_mem _ hs'))
theorem step_small {d : D} (h : okL d) : ∀ s ∈ d.steps, s.size ≤ 1000000000 := by
  intro s hs
  have h := h.2
  have := tot_each d.steps s hs
  unfold bulk at h
  omega
theorem hist_length {d : D} {k : Nat} {l : List Ent} (h : okL d) (hl : some l = histAt d k) : l.length ≤ 3000000 := by
  have h1 := stepsTo_length _ _ _ hl.symm
  have h2 := okL_lens h
  rw [List.length_take] at h1
  omega
theorem hist_small {d : D} {k : Nat} {l : List Ent} (h : okL d) (hl : some l = histAt d k) : ∀ e ∈ l, e.1.size ≤ 9223372036854775807 :=
  stepsTo_small _ _ _ _ hl.symm (fun e he => by have := (h.1.2.2.1 e he).1; unfold maxLen at this; omega) (fun s hs => by have := step_small h s (List.mem_of_mem_take hs); omega)

set_option maxHeartbeats 16000000 in
set_option maxRecDepth 100000 in
theorem specDiskOk (v : Value) (d : D) (w : World) (hk : okL d) (hv : IsDisk w v d) :
    Calls Tryz.prog 68 #[v] w fun e w' => e = .returned (.bool (diskOk d)) ∧ Below w.heap.size w w' := by
  have hv0 := hv
  obtain ⟨l1, l2, l3, l4⟩ := okL_lens hk
  obtain ⟨aN, aE, aO, aS, nN, cN, nE, cE, nO, cO, nS, cS, rfl, hN, hE, hO, hSt⟩ := hv
  rw [hN.len] at l1
  rw [hE.len] at l2
  rw [hO.len] at l3
  rw [hSt.1] at l4
  obtain ⟨W, hW⟩ : ∃ W, W = w.alloc (.cells #[.slice aN nN cN, .slice aE nE cE, .slice aO nO cO, .slice aS nS cS, .int .i64 d.room, .int .i64 d.next] 28) := ⟨_, rfl⟩
  have hWB : Below w.heap.size w W := by rw [hW]; exact (Below.refl _ _).alloc (Nat.le_refl _) _
  have bx := show disk.Box W w.heap.size [.slice aN nN cN, .slice aE nE cE, .slice aO nO cO, .slice aS nS cS, .int .i64 d.room, .int .i64 d.next] from by rw [hW]; exact Box.new _ _ _
  have BX := Lib.hid bx
  have HV := Lib.hid (hv0.below hWB)
  have HN := Lib.hid (hN.below hWB)
  have HE := Lib.hid (hE.below hWB)
  have HO := Lib.hid (hO.below hWB)
  have HS := Lib.hid (hSt.below hWB)
  have HL := Lib.hid (show d.nodes.length = nN ∧ d.steps.length = nS from ⟨hN.len, hSt.1⟩)
  have HB := Lib.hid hWB
  have HK := Lib.hid hk
  have y0 := Later.cell (bx.at 0 _ rfl) bx.1
  have y1 := Later.cell (bx.at 1 _ rfl) bx.1
  have y2 := Later.cell (bx.at 2 _ rfl) bx.1
  have y3 := Later.cell (bx.at 3 _ rfl) bx.1
  have y4 := Later.cell (bx.at 4 _ rfl) bx.1
  have y5 := Later.cell (bx.at 5 _ rfl) bx.1
  have CU := Lib.hid (fun (x : Later W) => specUsedOn _ d x.val (by have := usedL_le hk.2; omega) hk.1 (HV.out.below x.2))
  clear hN hE hO hSt hv0 hWB bx hk
  go_enter Tryz.func68, Tryz.ntmps68
  go_wp2
  rw [← hW]
  clear hW
  by_cases c1 : 64 < nN
  · have HZ := Lib.hid (disk_head (d := d) (by unfold okHead; rw [HL.out.1]; simp; omega))
    have c1' : decide ((64 : Int) < (nN : Int)) = true := by simp; omega
    have c1'' : decide (64 < nN) = true := by simp; omega
    refine wp_region_later (by kernel_rfl) (by kernel_rfl) ?_
    repeat (first | go_big_quiet_skip | (go_big_quiet_want; go_big_quiet_op; first | go_big_quiet_on | fail))
    refine wpQuiet_nil ?_
    rintro w2 ⟨x2, hx2⟩
    have hb2 : Below W.heap.size W w2 := hx2 ▸ x2.2
    clear hx2 x2
    go_wp2
    go_ret
    exact ⟨by rw [HZ.out]; rfl, HB.out.trans (hb2.mono HB.out.size)⟩
  · have c1' : decide ((64 : Int) < (nN : Int)) = false := by simp; omega
    have c1'' : decide (64 < nN) = false := by simp; omega
    by_cases c2 : 0 ≤ d.room ∧ d.room ≤ 1000000000
    · have C2 := Lib.hid c2
      by_cases c3 : 1 ≤ d.next ∧ d.next ≤ 1000000000
      · have C3 := Lib.hid c3
        by_cases c4 : (usedOn d : Int) ≤ d.room
        · have HH := Lib.hid (show okHead d = true by unfold okHead; rw [HL.out.1]; simp; omega)
          have c4' : decide (d.room < ((usedOn d : Nat) : Int)) = false := by simp; omega
          clear c4 c2 c3
          refine wp_region_later (by kernel_rfl) (by kernel_rfl) ?_
          repeat (first | go_big_quiet_skip | (go_big_quiet_want; go_big_quiet_op; first | go_big_quiet_on | (apply Exists.intro; refine ⟨fun x => ?_, ?_⟩; (first | (go_at_call 109; (with_reducible exact in_yes' d.room 0 1000000000 W C2.out.1 C2.out.2 x)) | (go_at_call 109; (with_reducible exact in_yes' d.next 1 1000000000 W C3.out.1 C3.out.2 x)) | (go_at_call 76; exact Calls.later (CU.out x))); go_big_quiet_on)))
          refine wpQuiet_nil ?_
          rintro w2 ⟨x2, hx2⟩
          have hb2 : Below W.heap.size W w2 := hx2 ▸ x2.2
          clear hx2 x2
          have HBW := Lib.hid hb2
          clear y0 y1 y2 y3 y4 y5 c4' c1' c1'' hb2
          go_wp2
          go_loopw [3] (fun i wr => ∃ k : Nat, k ≤ nN ∧ i = .int .i64 k ∧ Hid (nodesFrom d.next none d.nodes = nodesFrom d.next (aheadN d.nodes k) (d.nodes.drop k)) ∧ Below W.heap.size W wr) (fun i _ => nN - (intOf i).toNat)
          case atStart => exact ⟨0, Nat.zero_le _, rfl, Lib.hid rfl, HBW.out⟩
          case round =>
            clear HBW
            obtain ⟨k, hk, rfl, hf, hb⟩ := hrel
            have bx := BX.out.below hb
            by_cases hlt : k < nN
            · obtain ⟨i, t, j, g, o, hx, rfl, hg, e1, e2, e3⟩ := (HN.out.below hb).get hlt
              have HF := Lib.hid (hf.out.trans (nodes_step hx))
              have j0 : (0 : Int) ≤ (k : Int) := by omega
              have j1 : (k : Int) < (nN : Int) := by omega
              obtain ⟨W1, hW1⟩ : ∃ W1, W1 = wr.alloc (.cells #[.int .i64 i, .string t, .int .i64 j] 87) := ⟨_, rfl⟩
              have hr1 : Below wr.heap.size wr W1 := by rw [hW1]; exact (Below.refl _ _).alloc (Nat.le_refl _) _
              have nb := show disk.Box W1 wr.heap.size [.int .i64 i, .string t, .int .i64 j] from by rw [hW1]; exact Box.new _ _ _
              have bx1 := bx.below hr1
              have n0 := Later.cell (nb.at 0 _ rfl) nb.1
              have n1 := Later.cell (nb.at 1 _ rfl) nb.1
              have n2 := Later.cell (nb.at 2 _ rfl) nb.1
              have y0 := Later.cell (bx1.at 0 _ rfl) bx1.1
              have y5 := Later.cell (bx1.at 5 _ rfl) bx1.1
              have x0 := bx.at 0 _ rfl
              have HBr := Lib.hid (hb.trans (hr1.mono hb.size))
              have wN : IntKind.i64.wrap (d.next - 1) = d.next - 1 := IntWalk.i64_in _ (by have := C3.out; omega)
              have h1r := hr1.size
              have hsz : HB.out.size = HB.out.size := rfl
              have HR1 := Lib.hid hr1
              clear hr1 nb bx1 hsz
              by_cases a1 : 1 ≤ i ∧ i ≤ d.next - 1
              · have A1 := Lib.hid a1
                by_cases a3 : 0 ≤ j ∧ j ≤ (t.size : Int)
                · have A3 := Lib.hid a3
                  by_cases hk0 : k = 0
                  · have HT := Lib.hid (show nodesFrom d.next none d.nodes = nodesFrom d.next (aheadN d.nodes (k + 1)) (d.nodes.drop (k + 1)) by rw [HF.out, aheadN_next hx]; simp only [aheadN, hk0, if_true]; simp [a1, a3])
                    have k0 : decide (0 < k) = false := by simp [hk0]
                    clear hx HF hf hk0 a1 a3
                    go_wp2
                    rw [← hW1]
                    clear hW1
                    refine wp_region_later (by kernel_rfl) (by kernel_rfl) ?_
                    repeat (first | go_big_quiet_skip | (go_big_quiet_want; go_big_quiet_op; first | go_big_quiet_on | (apply Exists.intro; refine ⟨fun x => ?_, ?_⟩; (first | (go_at_call 109; (with_reducible exact in_yes' i 1 (d.next - 1) W1 A1.out.1 A1.out.2 x)) | (go_at_call 109; (with_reducible exact in_yes' j 0 (t.size : Int) W1 A3.out.1 A3.out.2 x))); go_big_quiet_on)))
                    refine wpQuiet_nil ?_
                    rintro w3 ⟨x2, hx2⟩
                    have hb3 : Below W1.heap.size W1 w3 := hx2 ▸ x2.2
                    clear hx2 x2
                    go_wp2
                    go_roundw
                    case rel => exact ⟨k + 1, by omega, by go_num, HT, HBr.out.trans (hb3.mono HBr.out.size)⟩
                    case measure => simp [intOf]; omega
                  · obtain ⟨q, hq⟩ : ∃ q, k = q + 1 := ⟨k - 1, by omega⟩
                    obtain ⟨pi, pt, pj, g', o', hxp, ha', _, f1, _, _⟩ := (HN.out.below hb).get (show q < nN by omega)
                    obtain ⟨rfl, rfl⟩ : g = g' ∧ o = o' := by simpa using ha'
                    have w1 := Later.cell (show W1.cell? ⟨g, o + q * 3, none⟩ = some (.int .i64 pi) from (HR1.out.cell (p := ⟨g, o + q * 3, none⟩) hg).trans f1) (by omega)
                    have hah : aheadN d.nodes k = some pi := by rw [hq]; exact aheadN_next hxp
                    have q0 : (0 : Int) ≤ (q : Int) := by omega
                    have q1 : (q : Int) < (nN : Int) := by omega
                    have q2 : decide (0 < k) = true := by simp; omega
                    have qw : IntKind.i64.wrap ((k : Int) - 1) = (q : Int) := by rw [show (k : Int) - 1 = (q : Int) by omega]; exact IntWalk.i64_in _ (by omega)
                    by_cases a2 : pi < i
                    · have HT := Lib.hid (show nodesFrom d.next none d.nodes = nodesFrom d.next (aheadN d.nodes (k + 1)) (d.nodes.drop (k + 1)) by rw [HF.out, aheadN_next hx, hah]; simp [a1, a2, a3])
                      have p2 : decide (i ≤ pi) = false := by simp; omega
                      clear hx HF hf hk0 a1 a2 a3 hah hxp ha' f1 hq
                      go_wp2
                      rw [← hW1]
                      clear hW1
                      refine wp_region_later (by kernel_rfl) (by kernel_rfl) ?_
                      repeat (first | go_big_quiet_skip | (go_big_quiet_want; go_big_quiet_op; first | go_big_quiet_on | (apply Exists.intro; refine ⟨fun x => ?_, ?_⟩; (first | (go_at_call 109; (with_reducible exact in_yes' i 1 (d.next - 1) W1 A1.out.1 A1.out.2 x)) | (go_at_call 109; (with_reducible exact in_yes' j 0 (t.size : Int) W1 A3.out.1 A3.out.2 x))); go_big_quiet_on)))
                      refine wpQuiet_nil ?_
                      rintro w3 ⟨x2, hx2⟩
                      have hb3 : Below W1.heap.size W1 w3 := hx2 ▸ x2.2
                      clear hx2 x2
                      go_wp2
                      go_roundw
                      case rel => exact ⟨k + 1, by omega, by go_num, HT, HBr.out.trans (hb3.mono HBr.out.size)⟩
                      case measure => simp [intOf]; omega
                    · have HZ := Lib.hid (disk_nodes (d := d) (by rw [HF.out, hah]; simp [a2]))
                      have p2 : decide (i ≤ pi) = true := by simp; omega
                      clear hx HF hf hk0 a1 a2 a3 hah hxp ha' f1 hq
                      go_wp2
                      rw [← hW1]
                      clear hW1
                      refine wp_region_later (by kernel_rfl) (by kernel_rfl) ?_
                      repeat (first | go_big_quiet_skip | (go_big_quiet_want; go_big_quiet_op; first | go_big_quiet_on | (apply Exists.intro; refine ⟨fun x => ?_, ?_⟩; (first | (go_at_call 109; (with_reducible exact in_yes' i 1 (d.next - 1) W1 A1.out.1 A1.out.2 x))); go_big_quiet_on)))
                      refine wpQuiet_nil ?_
                      rintro w3 ⟨x2, hx2⟩
                      have hb3 : Below W1.heap.size W1 w3 := hx2 ▸ x2.2
                      clear hx2 x2
                      go_wp2
                      go_ret
                      exact ⟨by rw [HZ.out]; rfl, HB.out.trans ((HBr.out.trans (hb3.mono HBr.out.size)).mono HB.out.size)⟩
                · have HZ := Lib.hid (disk_nodes (d := d) (by rw [HF.out]; simp [a3]))
                  have p3 : j < 0 ∨ (t.size : Int) < j := by omega
                  by_cases hk0 : k = 0
                  · have k0 : decide (0 < k) = false := by simp [hk0]
                    clear hx HF hf hk0 a1 a3
                    go_wp2
                    rw [← hW1]
                    clear hW1
                    refine wp_region_later (by kernel_rfl) (by kernel_rfl) ?_
                    repeat (first | go_big_quiet_skip | (go_big_quiet_want; go_big_quiet_op; first | go_big_quiet_on | (apply Exists.intro; refine ⟨fun x => ?_, ?_⟩; (first | (go_at_call 109; (with_reducible exact in_yes' i 1 (d.next - 1) W1 A1.out.1 A1.out.2 x)) | (go_at_call 109; (with_reducible exact in_no' j 0 (t.size : Int) W1 p3 x))); go_big_quiet_on)))
                    refine wpQuiet_nil ?_
                    rintro w3 ⟨x2, hx2⟩
                    have hb3 : Below W1.heap.size W1 w3 := hx2 ▸ x2.2
                    clear hx2 x2
                    go_wp2
                    go_ret
                    exact ⟨by rw [HZ.out]; rfl, HB.out.trans ((HBr.out.trans (hb3.mono HBr.out.size)).mono HB.out.size)⟩
                  · obtain ⟨q, hq⟩ : ∃ q, k = q + 1 := ⟨k - 1, by omega⟩
                    obtain ⟨pi, pt, pj, g', o', hxp, ha', _, f1, _, _⟩ := (HN.out.below hb).get (show q < nN by omega)
                    obtain ⟨rfl, rfl⟩ : g = g' ∧ o = o' := by simpa using ha'
                    have w1 := Later.cell (show W1.cell? ⟨g, o + q * 3, none⟩ = some (.int .i64 pi) from (HR1.out.cell (p := ⟨g, o + q * 3, none⟩) hg).trans f1) (by omega)
                    have q0 : (0 : Int) ≤ (q : Int) := by omega
                    have q1 : (q : Int) < (nN : Int) := by omega
                    have q2 : decide (0 < k) = true := by simp; omega
                    have qw : IntKind.i64.wrap ((k : Int) - 1) = (q : Int) := by rw [show (k : Int) - 1 = (q : Int) by omega]; exact IntWalk.i64_in _ (by omega)
                    cases p2 : decide (i ≤ pi) with
                    | true =>
                      clear hx HF hf hk0 a1 a3 hxp ha' f1 hq
                      go_wp2
                      rw [← hW1]
                      clear hW1
                      refine wp_region_later (by kernel_rfl) (by kernel_rfl) ?_
                      repeat (first | go_big_quiet_skip | (go_big_quiet_want; go_big_quiet_op; first | go_big_quiet_on | (apply Exists.intro; refine ⟨fun x => ?_, ?_⟩; (first | (go_at_call 109; (with_reducible exact in_yes' i 1 (d.next - 1) W1 A1.out.1 A1.out.2 x))); go_big_quiet_on)))
                      refine wpQuiet_nil ?_
                      rintro w3 ⟨x2, hx2⟩
                      have hb3 : Below W1.heap.size W1 w3 := hx2 ▸ x2.2
                      clear hx2 x2
                      go_wp2
                      go_ret
                      exact ⟨by rw [HZ.out]; rfl, HB.out.trans ((HBr.out.trans (hb3.mono HBr.out.size)).mono HB.out.size)⟩
                    | false =>
                      clear hx HF hf hk0 a1 a3 hxp ha' f1 hq
                      go_wp2
                      rw [← hW1]
                      clear hW1
                      refine wp_region_later (by kernel_rfl) (by kernel_rfl) ?_
                      repeat (first | go_big_quiet_skip | (go_big_quiet_want; go_big_quiet_op; first | go_big_quiet_on | (apply Exists.intro; refine ⟨fun x => ?_, ?_⟩; (first | (go_at_call 109; (with_reducible exact in_yes' i 1 (d.next - 1) W1 A1.out.1 A1.out.2 x)) | (go_at_call 109; (with_reducible exact in_no' j 0 (t.size : Int) W1 p3 x))); go_big_quiet_on)))
                      refine wpQuiet_nil ?_
                      rintro w3 ⟨x2, hx2⟩
                      have hb3 : Below W1.heap.size W1 w3 := hx2 ▸ x2.2
                      clear hx2 x2
                      go_wp2
                      go_ret
                      exact ⟨by rw [HZ.out]; rfl, HB.out.trans ((HBr.out.trans (hb3.mono HBr.out.size)).mono HB.out.size)⟩
              · have HZ := Lib.hid (disk_nodes (d := d) (by rw [HF.out]; simp [a1]))
                have p1 : i < 1 ∨ d.next - 1 < i := by omega
                clear hx HF hf a1
                go_wp2
                rw [← hW1]
                clear hW1
                refine wp_region_later (by kernel_rfl) (by kernel_rfl) ?_
                repeat (first | go_big_quiet_skip | (go_big_quiet_want; go_big_quiet_op; first | go_big_quiet_on | (apply Exists.intro; refine ⟨fun x => ?_, ?_⟩; (first | (go_at_call 109; (with_reducible exact in_no' i 1 (d.next - 1) W1 p1 x))); go_big_quiet_on)))
                refine wpQuiet_nil ?_
                rintro w3 ⟨x2, hx2⟩
                have hb3 : Below W1.heap.size W1 w3 := hx2 ▸ x2.2
                clear hx2 x2
                go_wp2
                go_ret
                exact ⟨by rw [HZ.out]; rfl, HB.out.trans ((HBr.out.trans (hb3.mono HBr.out.size)).mono HB.out.size)⟩
            · obtain rfl : nN = k := by omega
              have HNd := Lib.hid (show nodesFrom d.next none d.nodes = true by rw [hf.out, drop_end HL.out.1]; rfl)
              have HBW := Lib.hid hb
              have x0 := bx.at 0 _ rfl
              clear hf hb bx hlt
              go_wp2
              go_loopw [5] (fun i wr => ∃ k : Nat, k ≤ nS + 1 ∧ i = .int .i64 k ∧ Hid ((List.range k).all (okAt d) = true) ∧ Below W.heap.size W wr) (fun i _ => nS + 1 - (intOf i).toNat)
              case atStart => exact ⟨0, Nat.zero_le _, rfl, Lib.hid rfl, HBW.out⟩
              case round =>
                clear HBW x0
                obtain ⟨k, hk, rfl, hf, hb⟩ := hrel
                have bx := BX.out.below hb
                have x0 := bx.at 0 _ rfl
                have x1 := bx.at 1 _ rfl
                have x2 := bx.at 2 _ rfl
                have x3 := bx.at 3 _ rfl
                have x4 := bx.at 4 _ rfl
                have x5 := bx.at 5 _ rfl
                by_cases hlt : k ≤ nS
                · have j2 : (k : Int) ≤ (nS : Int) := by omega
                  have HLt := Lib.hid hlt
                  have HW := Lib.hid HK.out.1
                  have hhist := Lib.hid (show stepsDone d.old d.steps (k : Int) = histAt d k by unfold stepsDone histAt; rw [HL.out.2, clampN_nat k nS hlt])
                  obtain ⟨hi, hhi⟩ : ∃ h, h = histAt d k := ⟨_, rfl⟩
                  have HHI := Lib.hid hhi
                  have CS := Lib.hid (show Calls Tryz.prog 120 #[.slice aO nO cO, .slice aS nS cS, .int .i64 (k : Int)] wr (StepsR hi wr) by rw [hhi, ← hhist.out]; exact specSteps aO aS nO cO nS cS d.old d.steps k wr (by omega) (by omega) (fun s hs => step_small HK.out s hs) (HO.out.below hb) (HS.out.below hb))
                  clear hhi hlt
                  go_wp2_with (fail)
                  refine CS.out.mono ?_
                  rintro e w4 ⟨v4, he, ho4, hb4⟩
                  cases hi with
                  | none =>
                    have HZ := Lib.hid (disk_hist (d := d) (all_range_false (k := k) (by unfold okAt; rw [← HHI.out]) (by rw [HL.out.2]; have := HLt.out; omega)))
                    rw [show (Option.isSome (none : Option (List Ent))) = false from rfl] at he
                    obtain ⟨q, ho4⟩ := ho4
                    obtain ⟨a4, c4, rfl, _, _⟩ := own_shape ho4
                    subst he
                    go_wp2
                    go_ret
                    exact ⟨by rw [HZ.out]; rfl, HB.out.trans ((hb.trans (hb4.mono hb.size)).mono HB.out.size)⟩
                  | some l =>
                    rw [show (Option.isSome (some l)) = true from rfl] at he
                    have ho4 : OwnE wr.heap.size w4 v4 l := ho4
                    obtain ⟨q, ho4⟩ := ho4
                    obtain ⟨a4, c4, rfl, _, _⟩ := own_shape ho4
                    subst he
                    have HA4 := Lib.hid (show AtE w4 a4 q l from own_cells ho4)
                    have HOK := Lib.hid (show okAt d k = (entsOk d l && (decide (k ≠ d.steps.length) || decide (l = d.ents))) by unfold okAt; rw [← HHI.out])
                    have hql : q ≤ 3000000 := by have h1 := HA4.out.len; have h2 := hist_length HK.out HHI.out; omega
                    have hqm : q ≤ 10000000 := by omega
                    have hqM : q ≤ maxLen := by unfold maxLen; omega
                    have HB4 := Lib.hid (hb.trans (hb4.mono hb.size))
                    have HV4 := Lib.hid (HV.out.below HB4.out)
                    have HE4 := Lib.hid (HE.out.below HB4.out)
                    have bx4 := bx.below hb4
                    have z0 := bx4.at 0 _ rfl
                    have z1 := bx4.at 1 _ rfl
                    have z2 := bx4.at 2 _ rfl
                    have z3 := bx4.at 3 _ rfl
                    have z4 := bx4.at 4 _ rfl
                    have z5 := bx4.at 5 _ rfl
                    have zl := bx4.1
                    obtain ⟨ek, hek⟩ : ∃ b, b = entsOk d l := ⟨_, rfl⟩
                    have CE := Lib.hid (show Calls Tryz.prog 121 #[.agg #[.slice aN nN cN, .slice aE nE cE, .slice aO nO cO, .slice aS nS cS, .int .i64 d.room, .int .i64 d.next], .slice a4 q c4] w4 fun e w' => e = .returned (.bool ek) ∧ Below w4.heap.size w4 w' by rw [hek]; exact specEntries _ d a4 q c4 l w4 (by rw [HL.out.1]; unfold maxLen; omega) hqm (hist_small HK.out HHI.out) HV4.out HA4.out)
                    have HEK := Lib.hid hek
                    clear hek hb4 ho4 bx4 bx x0 x1 x2 x3 x4 x5
                    cases ek with
                    | false =>
                      have HZ := Lib.hid (disk_hist (d := d) (all_range_false (k := k) (by rw [HOK.out, ← HEK.out]; rfl) (by rw [HL.out.2]; have := HLt.out; omega)))
                      go_wp2_with (fail)
                      refine CE.out.mono ?_
                      rintro e w5 ⟨rfl, hb5⟩
                      go_wp2
                      go_ret
                      exact ⟨by rw [HZ.out]; rfl, HB.out.trans ((HB4.out.trans (hb5.mono HB4.out.size)).mono HB.out.size)⟩
                    | true =>
                      go_wp2_with (fail)
                      refine CE.out.mono ?_
                      rintro e w5 ⟨rfl, hb5⟩
                      have u1 := (hb5.cell (p := ⟨w.heap.size, 1, none⟩) zl).trans z1
                      have u3 := (hb5.cell (p := ⟨w.heap.size, 3, none⟩) zl).trans z3
                      have HA5 := Lib.hid (HA4.out.below hb5)
                      have HE5 := Lib.hid (HE4.out.below hb5)
                      have HB5 := Lib.hid (HB4.out.trans (hb5.mono HB4.out.size))
                      clear z0 z1 z2 z3 z4 z5 zl hb5
                      by_cases hks : k = nS
                      · have g1 : ((k : Int) == (nS : Int)) = true := by simp [hks]
                        have g2 : decide (k = nS) = true := by simp [hks]
                        obtain ⟨sm, hsm⟩ : ∃ b, b = decide (l = d.ents) := ⟨_, rfl⟩
                        have CM := Lib.hid (show Calls Tryz.prog 122 #[.slice a4 q c4, .slice aE nE cE] w5 fun e w' => e = .returned (.bool sm) ∧ Below w5.heap.size w5 w' by rw [hsm]; exact specSame a4 aE c4 cE q nE l d.ents w5 hqM (by unfold maxLen; omega) HA5.out HE5.out)
                        cases sm with
                        | false =>
                          have HZ := Lib.hid (disk_hist (d := d) (all_range_false (k := k) (by rw [HOK.out, ← HEK.out, ← hsm, HL.out.2]; simp [hks]) (by rw [HL.out.2]; have := HLt.out; omega)))
                          clear hsm hks
                          go_wp2_with (go_at_call 122; refine CM.out.mono ?_; rintro e w6 ⟨rfl, hb6⟩)
                          go_ret
                          exact ⟨by rw [HZ.out]; rfl, HB.out.trans ((HB5.out.trans (hb6.mono HB5.out.size)).mono HB.out.size)⟩
                        | true =>
                          have HK1 := Lib.hid (show (List.range (k + 1)).all (okAt d) = true by rw [all_range_snoc, hf.out]; unfold okAt; rw [← HHI.out]; dsimp only; rw [← HEK.out, ← hsm]; simp)
                          clear hsm hks
                          go_wp2_with (go_at_call 122; refine CM.out.mono ?_; rintro e w6 ⟨rfl, hb6⟩)
                          go_roundw
                          case rel => exact ⟨k + 1, by have := HLt.out; omega, by go_num, HK1, HB5.out.trans (hb6.mono HB5.out.size)⟩
                          case measure => have := HLt.out; simp [intOf]; omega
                      · have g1 : ((k : Int) == (nS : Int)) = false := by simp; omega
                        have g2 : decide (k = nS) = false := by simp [hks]
                        have HK1 := Lib.hid (show (List.range (k + 1)).all (okAt d) = true by rw [all_range_snoc, hf.out]; unfold okAt; rw [← HHI.out]; dsimp only; rw [← HEK.out, HL.out.2]; simp [hks])
                        clear hks
                        go_wp2
                        go_roundw
                        case rel => exact ⟨k + 1, by have := HLt.out; omega, by go_num, HK1, HB5.out⟩
                        case measure => have := HLt.out; simp [intOf]; omega
                · obtain rfl : k = nS + 1 := by omega
                  have HZ := Lib.hid (show diskOk d = true by unfold diskOk okHist; rw [HH.out, HNd.out, HL.out.2, hf.out]; rfl)
                  have j2 : ¬ ((nS : Int) + 1) ≤ (nS : Int) := by omega
                  go_wp2
                  go_ret
                  exact ⟨by rw [HZ.out]; rfl, HB.out.trans (hb.mono HB.out.size)⟩
        · have HZ := Lib.hid (disk_head (d := d) (by unfold okHead; simp; omega))
          have c4' : decide (d.room < ((usedOn d : Nat) : Int)) = true := by simp; omega
          clear c4 c2 c3
          refine wp_region_later (by kernel_rfl) (by kernel_rfl) ?_
          repeat (first | go_big_quiet_skip | (go_big_quiet_want; go_big_quiet_op; first | go_big_quiet_on | (apply Exists.intro; refine ⟨fun x => ?_, ?_⟩; (first | (go_at_call 109; (with_reducible exact in_yes' d.room 0 1000000000 W C2.out.1 C2.out.2 x)) | (go_at_call 109; (with_reducible exact in_yes' d.next 1 1000000000 W C3.out.1 C3.out.2 x)) | (go_at_call 76; exact Calls.later (CU.out x))); go_big_quiet_on)))
          refine wpQuiet_nil ?_
          rintro w2 ⟨x2, hx2⟩
          have hb2 : Below W.heap.size W w2 := hx2 ▸ x2.2
          clear hx2 x2
          go_wp2
          go_ret
          exact ⟨by rw [HZ.out]; rfl, HB.out.trans (hb2.mono HB.out.size)⟩
      · have HZ := Lib.hid (disk_head (d := d) (by unfold okHead; simp; omega))
        have c3' : d.next < 1 ∨ 1000000000 < d.next := by omega
        clear c3 c2
        refine wp_region_later (by kernel_rfl) (by kernel_rfl) ?_
        repeat (first | go_big_quiet_skip | (go_big_quiet_want; go_big_quiet_op; first | go_big_quiet_on | (apply Exists.intro; refine ⟨fun x => ?_, ?_⟩; (first | (go_at_call 109; (with_reducible exact in_yes' d.room 0 1000000000 W C2.out.1 C2.out.2 x)) | (go_at_call 109; (with_reducible exact in_no' d.next 1 1000000000 W c3' x))); go_big_quiet_on)))
        refine wpQuiet_nil ?_
        rintro w2 ⟨x2, hx2⟩
        have hb2 : Below W.heap.size W w2 := hx2 ▸ x2.2
        clear hx2 x2
        go_wp2
        go_ret
        exact ⟨by rw [HZ.out]; rfl, HB.out.trans (hb2.mono HB.out.size)⟩
    · have HZ := Lib.hid (disk_head (d := d) (by unfold okHead; simp; omega))
      have c2' : d.room < 0 ∨ 1000000000 < d.room := by omega
      clear c2
      refine wp_region_later (by kernel_rfl) (by kernel_rfl) ?_
      repeat (first | go_big_quiet_skip | (go_big_quiet_want; go_big_quiet_op; first | go_big_quiet_on | (apply Exists.intro; refine ⟨fun x => ?_, ?_⟩; (first | (go_at_call 109; (with_reducible exact in_no' d.room 0 1000000000 W c2' x))); go_big_quiet_on)))
      refine wpQuiet_nil ?_
      rintro w2 ⟨x2, hx2⟩
      have hb2 : Below W.heap.size W w2 := hx2 ▸ x2.2
      clear hx2 x2
      go_wp2
      go_ret
      exact ⟨by rw [HZ.out]; rfl, HB.out.trans (hb2.mono HB.out.size)⟩

end Go.Proofs.YtiehfobcbhgfkaaGreatDoor.deed

namespace Go.Proofs.YtiehfobcbhgfkaaGreatDoor.deed
set_option maxRecDepth 20000
open Go.RowKit
open kit strs recs disk kd

/-- a disk that a call hands back, in memory of its own -/
def DiskR (d : D) (w : World) (e : Ending) (w' : World) : Prop := ∃ u, e = .returned u ∧ OwnDisk w.heap.size w' u d ∧ Below w.heap.size w w'
theorem off_of {w w' : World} {B B' s s' n n' : Nat} {e e' : TypeId} {u v : Value} {xs ys : List Value} (hu : w.ownsRow B e s u n xs) (hv : w'.ownsRow B' e' s' v n' ys) (h : w.heap.size ≤ B') : Off u v := fun g h1 h2 => by
  have a := (own_block_ge hu g h1).2
  have b := (own_block_ge hv g h2).1
  omega

theorem set_other {w : World} {g i j : Nat} {u : Value} (v : Value) (h : w.cell? ⟨g, j, none⟩ = some u) (hij : i ≠ j) : (w.setCell ⟨g, i, none⟩ v).cell? ⟨g, j, none⟩ = some u := by
  have _h := hij
  simp [go_sem, h]
theorem set_same {w : World} {g i : Nat} {u : Value} (v : Value) (h : w.cell? ⟨g, i, none⟩ = some u) : (w.setCell ⟨g, i, none⟩ v).cell? ⟨g, i, none⟩ = some v := by simp [go_sem, h]
theorem set_far {w : World} {g b i j : Nat} {u : Value} (v : Value) (h : w.cell? ⟨b, j, none⟩ = some u) (hg : g ≠ b) : (w.setCell ⟨g, i, none⟩ v).cell? ⟨b, j, none⟩ = some u := (World.cell?_setCell_far w ⟨g, i, none⟩ ⟨b, j, none⟩ v hg).trans h
theorem below_empty {X w' : World} {e : TypeId} {cs : Array Value} {g : Nat} (h0 : g = X.heap.size) (hg : (X.alloc (.cells cs e)).grownBy w' (Value.slice (some ⟨g, 0, none⟩) 0 0).ownBlock) : Below X.heap.size X w' := by
  subst h0
  exact ((Below.refl _ _).alloc (Nat.le_refl _) _).grown hg (by simp) (fun k hk => by simp [Value.ownBlock] at hk; omega)
theorem own_fresh (X : World) (E : TypeId) (s : Nat) {g : Nat} (h0 : g = X.heap.size) : (X.alloc (.cells #[] E)).ownsRow g E s (.slice (some ⟨g, 0, none⟩) 0 0) 0 [] := by
  subst h0
  exact World.ownsRow_made _ _ _ (Nat.le_refl _) (by decide) (by simp)
theorem own_not {w : World} {B s n g : Nat} {e : TypeId} {v : Value} {xs : List Value} (h : w.ownsRow B e s v n xs) (hg : g < B) : v.ownBlock ≠ some g := fun e => by
  have := (own_block_ge h g e).1
  omega

set_option maxHeartbeats 4000000 in
set_option maxRecDepth 100000 in
theorem specCopy (v : Value) (d : D) (w : World) (hk : okL d) (hv : IsDisk w v d) :
    Calls Tryz.prog 67 #[v] w (DiskR d w) := by
  obtain ⟨j0, ji0, jz0, jz1, jz2⟩ := info_parts Tryz.infoNod
  obtain ⟨j1, ji1, jy0, jy1, jy2⟩ := info_parts Tryz.infoEnt
  obtain ⟨j3, ji3, jx0, jx1, jx2⟩ := info_parts strs.Tryz.infoStr
  obtain ⟨l1, l2, l3, l4⟩ := okL_lens hk
  obtain ⟨aN, aE, aO, aS, nN, cN, nE, cE, nO, cO, nS, cS, rfl, hN, hE, hO, hS⟩ := hv
  rw [hN.len] at l1
  rw [hE.len] at l2
  rw [hO.len] at l3
  rw [hS.1] at l4
  have hN := Lib.hid (show Cells w aN nN 3 (cellsN d.nodes) from hN)
  have hE := Lib.hid (show Cells w aE nE 2 (cellsE d.ents) from hE)
  have hO := Lib.hid (show Cells w aO nO 2 (cellsE d.old) from hO)
  have hS := Lib.hid (at_cells hS)
  have bn1 : 0 + nN ≤ maxLen := by unfold maxLen; omega
  have bn2 : 0 + nE ≤ maxLen := by unfold maxLen; omega
  have bn3 : 0 + nO ≤ maxLen := by unfold maxLen; omega
  have bn4 : 0 + nS ≤ maxLen := by unfold maxLen; omega
  have bm1 : (0 + nN) * 32 ≤ 140737488355328 := by omega
  have bm2 : (0 + nE) * 24 ≤ 140737488355328 := by omega
  have bm3 : (0 + nO) * 24 ≤ 140737488355328 := by omega
  have bm4 : (0 + nS) * 16 ≤ 140737488355328 := by omega
  have Q0 : Below w.heap.size w ((w.alloc (.cells #[.slice aN nN cN, .slice aE nE cE, .slice aO nO cO, .slice aS nS cS, .int .i64 d.room, .int .i64 d.next] 28)).alloc (.cells #[.slice none 0 0, .slice none 0 0, .slice none 0 0, .slice none 0 0, .int .i64 0, .int .i64 0] 28)) := ((Below.refl _ _).alloc (Nat.le_refl _) _).alloc (by simp) _
  have G1 := Lib.hid (show (w.heap.size + 1 + 1) = ((w.alloc (.cells #[.slice aN nN cN, .slice aE nE cE, .slice aO nO cO, .slice aS nS cS, .int .i64 d.room, .int .i64 d.next] 28)).alloc (.cells #[.slice none 0 0, .slice none 0 0, .slice none 0 0, .slice none 0 0, .int .i64 0, .int .i64 0] 28)).heap.size from (by simp))
  have own1 : (((w.alloc (.cells #[.slice aN nN cN, .slice aE nE cE, .slice aO nO cO, .slice aS nS cS, .int .i64 d.room, .int .i64 d.next] 28)).alloc (.cells #[.slice none 0 0, .slice none 0 0, .slice none 0 0, .slice none 0 0, .int .i64 0, .int .i64 0] 28)).alloc (.cells #[] 87)).ownsRow (w.heap.size + 1 + 1) 87 3 (.slice (some ⟨(w.heap.size + 1 + 1), 0, none⟩) 0 0) 0 [] := own_fresh _ _ _ G1.out
  have bo1 : (w.heap.size + 1 + 1) ≤ (((w.alloc (.cells #[.slice aN nN cN, .slice aE nE cE, .slice aO nO cO, .slice aS nS cS, .int .i64 d.room, .int .i64 d.next] 28)).alloc (.cells #[.slice none 0 0, .slice none 0 0, .slice none 0 0, .slice none 0 0, .int .i64 0, .int .i64 0] 28)).alloc (.cells #[] 87)).heap.size := (by simp)
  have C1 := Lib.hid (show Cells (((w.alloc (.cells #[.slice aN nN cN, .slice aE nE cE, .slice aO nO cO, .slice aS nS cS, .int .i64 d.room, .int .i64 d.next] 28)).alloc (.cells #[.slice none 0 0, .slice none 0 0, .slice none 0 0, .slice none 0 0, .int .i64 0, .int .i64 0] 28)).alloc (.cells #[] 87)) aN nN 3 (cellsN d.nodes) from hN.out.below (Q0.alloc Q0.size _))
  have zz1 : w.heap.size + 1 < ((w.alloc (.cells #[.slice aN nN cN, .slice aE nE cE, .slice aO nO cO, .slice aS nS cS, .int .i64 d.room, .int .i64 d.next] 28)).alloc (.cells #[.slice none 0 0, .slice none 0 0, .slice none 0 0, .slice none 0 0, .int .i64 0, .int .i64 0] 28)).heap.size := (by first | (simp; done) | (simp; omega))
  go_enter Tryz.func67, Tryz.ntmps67
  go_wp2_with (first | (at_builtin; refine list_copy (by rfl) (.tmp 3) (.tmp 5) 24 (by rfl) (w.heap.size + 1 + 1) 87 j0 (.agg #[.int .i64 0, .string { data := #[] }, .int .i64 0]) 3 32 Tryz.underlying24 ji0 jz0 jz1 jz2 (by rfl) (by decide) _ 0 [] own1 bo1 aN nN cN (cellsN d.nodes) C1.out (oneN d.nodes) bn1 bm1 (by rfl) (by rfl) ?_; intro v1 w1 hown1 hg1; have hb1 := below_empty G1.out hg1; rw [List.nil_append, Nat.zero_add] at hown1; obtain ⟨b1, e1, rfl, _, _⟩ := own_shape hown1; have z1 : w.heap.size + 1 < w1.heap.size := (Nat.lt_of_lt_of_le zz1 hb1.size); have y1 : w.heap.size < w1.heap.size := (by omega); have Q1 : Below w.heap.size w (w1.setCell ⟨w.heap.size, 0, none⟩ (.slice b1 nN e1)) := (Q0.trans (hb1.mono Q0.size)).setCell (by simp) _; have c1_0 : w1.cell? ⟨w.heap.size, 0, none⟩ = some (.slice aN nN cN) := (hb1.cell (p := ⟨w.heap.size, 0, none⟩) (by show w.heap.size < _; omega)).trans (by simp); have s1_0 : w1.cell? ⟨w.heap.size + 1, 0, none⟩ = some (.slice none 0 0) := (hb1.cell (p := ⟨w.heap.size + 1, 0, none⟩) (by show w.heap.size + 1 < _; omega)).trans (by simp); have c1_1 : w1.cell? ⟨w.heap.size, 1, none⟩ = some (.slice aE nE cE) := (hb1.cell (p := ⟨w.heap.size, 1, none⟩) (by show w.heap.size < _; omega)).trans (by simp); have s1_1 : w1.cell? ⟨w.heap.size + 1, 1, none⟩ = some (.slice none 0 0) := (hb1.cell (p := ⟨w.heap.size + 1, 1, none⟩) (by show w.heap.size + 1 < _; omega)).trans (by simp); have c1_2 : w1.cell? ⟨w.heap.size, 2, none⟩ = some (.slice aO nO cO) := (hb1.cell (p := ⟨w.heap.size, 2, none⟩) (by show w.heap.size < _; omega)).trans (by simp); have s1_2 : w1.cell? ⟨w.heap.size + 1, 2, none⟩ = some (.slice none 0 0) := (hb1.cell (p := ⟨w.heap.size + 1, 2, none⟩) (by show w.heap.size + 1 < _; omega)).trans (by simp); have c1_3 : w1.cell? ⟨w.heap.size, 3, none⟩ = some (.slice aS nS cS) := (hb1.cell (p := ⟨w.heap.size, 3, none⟩) (by show w.heap.size < _; omega)).trans (by simp); have s1_3 : w1.cell? ⟨w.heap.size + 1, 3, none⟩ = some (.slice none 0 0) := (hb1.cell (p := ⟨w.heap.size + 1, 3, none⟩) (by show w.heap.size + 1 < _; omega)).trans (by simp); have c1_4 : w1.cell? ⟨w.heap.size, 4, none⟩ = some (.int .i64 d.room) := (hb1.cell (p := ⟨w.heap.size, 4, none⟩) (by show w.heap.size < _; omega)).trans (by simp); have s1_4 : w1.cell? ⟨w.heap.size + 1, 4, none⟩ = some (.int .i64 0) := (hb1.cell (p := ⟨w.heap.size + 1, 4, none⟩) (by show w.heap.size + 1 < _; omega)).trans (by simp); have c1_5 : w1.cell? ⟨w.heap.size, 5, none⟩ = some (.int .i64 d.next) := (hb1.cell (p := ⟨w.heap.size, 5, none⟩) (by show w.heap.size < _; omega)).trans (by simp); have s1_5 : w1.cell? ⟨w.heap.size + 1, 5, none⟩ = some (.int .i64 0) := (hb1.cell (p := ⟨w.heap.size + 1, 5, none⟩) (by show w.heap.size + 1 < _; omega)).trans (by simp); have f1 : ∀ j, w1.frozen? ⟨w.heap.size, j, none⟩ = false := (fun j => (hb1.frozen (p := ⟨w.heap.size, j, none⟩) (by show w.heap.size < _; omega)).trans (by simp)); have F1 : ∀ j, w1.frozen? ⟨w.heap.size + 1, j, none⟩ = false := (fun j => (hb1.frozen (p := ⟨w.heap.size + 1, j, none⟩) (by show w.heap.size + 1 < _; omega)).trans (by simp)); have R1 := Lib.hid (own_setOther hown1 w.heap.size 0 (.slice b1 nN e1) (own_not hown1 (by omega))); clear own1 bo1 C1 hg1 hown1 hb1 G1; have G2 := Lib.hid (show w1.heap.size = (w1.setCell ⟨w.heap.size, 0, none⟩ (.slice b1 nN e1)).heap.size from (by simp)); have own2 : ((w1.setCell ⟨w.heap.size, 0, none⟩ (.slice b1 nN e1)).alloc (.cells #[] 71)).ownsRow w1.heap.size 71 2 (.slice (some ⟨w1.heap.size, 0, none⟩) 0 0) 0 [] := own_fresh _ _ _ G2.out; have bo2 : w1.heap.size ≤ ((w1.setCell ⟨w.heap.size, 0, none⟩ (.slice b1 nN e1)).alloc (.cells #[] 71)).heap.size := (by simp); have C2 := Lib.hid (show Cells ((w1.setCell ⟨w.heap.size, 0, none⟩ (.slice b1 nN e1)).alloc (.cells #[] 71)) aE nE 2 (cellsE d.ents) from hE.out.below (Q1.alloc Q1.size _)); have zz2 : w.heap.size + 1 < (w1.setCell ⟨w.heap.size, 0, none⟩ (.slice b1 nN e1)).heap.size := (by first | (simp; done) | (simp; omega))) | (at_builtin; refine list_copy (by rfl) (.tmp 8) (.tmp 10) 25 (by rfl) w1.heap.size 71 j1 (.agg #[.string { data := #[] }, .int .i64 0]) 2 24 Tryz.underlying25 ji1 jy0 jy1 jy2 (by rfl) (by decide) _ 0 [] own2 bo2 aE nE cE (cellsE d.ents) C2.out (oneE d.ents) bn2 bm2 (by rfl) (by rfl) ?_; intro v2 w2 hown2 hg2; have hb2 := below_empty G2.out hg2; rw [List.nil_append, Nat.zero_add] at hown2; obtain ⟨b2, e2, rfl, _, _⟩ := own_shape hown2; have z2 : w.heap.size + 1 < w2.heap.size := (Nat.lt_of_lt_of_le zz2 hb2.size); have y2 : w.heap.size < w2.heap.size := (by omega); have Q2 : Below w.heap.size w (w2.setCell ⟨w.heap.size, 1, none⟩ (.slice b2 nE e2)) := (Q1.trans (hb2.mono Q1.size)).setCell (by simp) _; have c2_0 := (hb2.cell (p := ⟨w.heap.size, 0, none⟩) (by show w.heap.size < _; omega)).trans (set_same (.slice b1 nN e1) c1_0); have s2_0 := (hb2.cell (p := ⟨w.heap.size + 1, 0, none⟩) (by show w.heap.size + 1 < _; omega)).trans (set_far (i := 0) (.slice b1 nN e1) s1_0 (by omega)); have c2_1 := (hb2.cell (p := ⟨w.heap.size, 1, none⟩) (by show w.heap.size < _; omega)).trans (set_other (.slice b1 nN e1) c1_1 (by decide)); have s2_1 := (hb2.cell (p := ⟨w.heap.size + 1, 1, none⟩) (by show w.heap.size + 1 < _; omega)).trans (set_far (i := 0) (.slice b1 nN e1) s1_1 (by omega)); have c2_2 := (hb2.cell (p := ⟨w.heap.size, 2, none⟩) (by show w.heap.size < _; omega)).trans (set_other (.slice b1 nN e1) c1_2 (by decide)); have s2_2 := (hb2.cell (p := ⟨w.heap.size + 1, 2, none⟩) (by show w.heap.size + 1 < _; omega)).trans (set_far (i := 0) (.slice b1 nN e1) s1_2 (by omega)); have c2_3 := (hb2.cell (p := ⟨w.heap.size, 3, none⟩) (by show w.heap.size < _; omega)).trans (set_other (.slice b1 nN e1) c1_3 (by decide)); have s2_3 := (hb2.cell (p := ⟨w.heap.size + 1, 3, none⟩) (by show w.heap.size + 1 < _; omega)).trans (set_far (i := 0) (.slice b1 nN e1) s1_3 (by omega)); have c2_4 := (hb2.cell (p := ⟨w.heap.size, 4, none⟩) (by show w.heap.size < _; omega)).trans (set_other (.slice b1 nN e1) c1_4 (by decide)); have s2_4 := (hb2.cell (p := ⟨w.heap.size + 1, 4, none⟩) (by show w.heap.size + 1 < _; omega)).trans (set_far (i := 0) (.slice b1 nN e1) s1_4 (by omega)); have c2_5 := (hb2.cell (p := ⟨w.heap.size, 5, none⟩) (by show w.heap.size < _; omega)).trans (set_other (.slice b1 nN e1) c1_5 (by decide)); have s2_5 := (hb2.cell (p := ⟨w.heap.size + 1, 5, none⟩) (by show w.heap.size + 1 < _; omega)).trans (set_far (i := 0) (.slice b1 nN e1) s1_5 (by omega)); have f2 : ∀ j, w2.frozen? ⟨w.heap.size, j, none⟩ = false := (fun j => (hb2.frozen (p := ⟨w.heap.size, j, none⟩) (by show w.heap.size < _; omega)).trans (by have h := f1 j; simpa [go_sem] using h)); have F2 : ∀ j, w2.frozen? ⟨w.heap.size + 1, j, none⟩ = false := (fun j => (hb2.frozen (p := ⟨w.heap.size + 1, j, none⟩) (by show w.heap.size + 1 < _; omega)).trans (by have h := F1 j; simpa [go_sem] using h)); have O12 := off_of R1.out hown2 (Nat.le_of_eq G2.out.symm); replace R1 := Lib.hid (own_setOther (own_below R1.out hb2) w.heap.size 1 (.slice b2 nE e2) (own_not R1.out (by omega))); have R2 := Lib.hid (own_setOther hown2 w.heap.size 1 (.slice b2 nE e2) (own_not hown2 (by omega))); clear own2 bo2 C2 hg2 hown2 hb2 G2 c1_0 s1_0 c1_1 s1_1 c1_2 s1_2 c1_3 s1_3 c1_4 s1_4 c1_5 s1_5 f1 F1; have G3 := Lib.hid (show w2.heap.size = (w2.setCell ⟨w.heap.size, 1, none⟩ (.slice b2 nE e2)).heap.size from (by simp)); have own3 : ((w2.setCell ⟨w.heap.size, 1, none⟩ (.slice b2 nE e2)).alloc (.cells #[] 71)).ownsRow w2.heap.size 71 2 (.slice (some ⟨w2.heap.size, 0, none⟩) 0 0) 0 [] := own_fresh _ _ _ G3.out; have bo3 : w2.heap.size ≤ ((w2.setCell ⟨w.heap.size, 1, none⟩ (.slice b2 nE e2)).alloc (.cells #[] 71)).heap.size := (by simp); have C3 := Lib.hid (show Cells ((w2.setCell ⟨w.heap.size, 1, none⟩ (.slice b2 nE e2)).alloc (.cells #[] 71)) aO nO 2 (cellsE d.old) from hO.out.below (Q2.alloc Q2.size _)); have zz3 : w.heap.size + 1 < (w2.setCell ⟨w.heap.size, 1, none⟩ (.slice b2 nE e2)).heap.size := (by first | (simp; done) | (simp; omega))) | (at_builtin; refine list_copy (by rfl) (.tmp 13) (.tmp 15) 25 (by rfl) w2.heap.size 71 j1 (.agg #[.string { data := #[] }, .int .i64 0]) 2 24 Tryz.underlying25 ji1 jy0 jy1 jy2 (by rfl) (by decide) _ 0 [] own3 bo3 aO nO cO (cellsE d.old) C3.out (oneE d.old) bn3 bm3 (by rfl) (by rfl) ?_; intro v3 w3 hown3 hg3; have hb3 := below_empty G3.out hg3; rw [List.nil_append, Nat.zero_add] at hown3; obtain ⟨b3, e3, rfl, _, _⟩ := own_shape hown3; have z3 : w.heap.size + 1 < w3.heap.size := (Nat.lt_of_lt_of_le zz3 hb3.size); have y3 : w.heap.size < w3.heap.size := (by omega); have Q3 : Below w.heap.size w (w3.setCell ⟨w.heap.size, 2, none⟩ (.slice b3 nO e3)) := (Q2.trans (hb3.mono Q2.size)).setCell (by simp) _; have c3_0 := (hb3.cell (p := ⟨w.heap.size, 0, none⟩) (by show w.heap.size < _; omega)).trans (set_other (.slice b2 nE e2) c2_0 (by decide)); have s3_0 := (hb3.cell (p := ⟨w.heap.size + 1, 0, none⟩) (by show w.heap.size + 1 < _; omega)).trans (set_far (i := 1) (.slice b2 nE e2) s2_0 (by omega)); have c3_1 := (hb3.cell (p := ⟨w.heap.size, 1, none⟩) (by show w.heap.size < _; omega)).trans (set_same (.slice b2 nE e2) c2_1); have s3_1 := (hb3.cell (p := ⟨w.heap.size + 1, 1, none⟩) (by show w.heap.size + 1 < _; omega)).trans (set_far (i := 1) (.slice b2 nE e2) s2_1 (by omega)); have c3_2 := (hb3.cell (p := ⟨w.heap.size, 2, none⟩) (by show w.heap.size < _; omega)).trans (set_other (.slice b2 nE e2) c2_2 (by decide)); have s3_2 := (hb3.cell (p := ⟨w.heap.size + 1, 2, none⟩) (by show w.heap.size + 1 < _; omega)).trans (set_far (i := 1) (.slice b2 nE e2) s2_2 (by omega)); have c3_3 := (hb3.cell (p := ⟨w.heap.size, 3, none⟩) (by show w.heap.size < _; omega)).trans (set_other (.slice b2 nE e2) c2_3 (by decide)); have s3_3 := (hb3.cell (p := ⟨w.heap.size + 1, 3, none⟩) (by show w.heap.size + 1 < _; omega)).trans (set_far (i := 1) (.slice b2 nE e2) s2_3 (by omega)); have c3_4 := (hb3.cell (p := ⟨w.heap.size, 4, none⟩) (by show w.heap.size < _; omega)).trans (set_other (.slice b2 nE e2) c2_4 (by decide)); have s3_4 := (hb3.cell (p := ⟨w.heap.size + 1, 4, none⟩) (by show w.heap.size + 1 < _; omega)).trans (set_far (i := 1) (.slice b2 nE e2) s2_4 (by omega)); have c3_5 := (hb3.cell (p := ⟨w.heap.size, 5, none⟩) (by show w.heap.size < _; omega)).trans (set_other (.slice b2 nE e2) c2_5 (by decide)); have s3_5 := (hb3.cell (p := ⟨w.heap.size + 1, 5, none⟩) (by show w.heap.size + 1 < _; omega)).trans (set_far (i := 1) (.slice b2 nE e2) s2_5 (by omega)); have f3 : ∀ j, w3.frozen? ⟨w.heap.size, j, none⟩ = false := (fun j => (hb3.frozen (p := ⟨w.heap.size, j, none⟩) (by show w.heap.size < _; omega)).trans (by have h := f2 j; simpa [go_sem] using h)); have F3 : ∀ j, w3.frozen? ⟨w.heap.size + 1, j, none⟩ = false := (fun j => (hb3.frozen (p := ⟨w.heap.size + 1, j, none⟩) (by show w.heap.size + 1 < _; omega)).trans (by have h := F2 j; simpa [go_sem] using h)); have O13 := off_of R1.out hown3 (Nat.le_of_eq G3.out.symm); have O23 := off_of R2.out hown3 (Nat.le_of_eq G3.out.symm); replace R1 := Lib.hid (own_setOther (own_below R1.out hb3) w.heap.size 2 (.slice b3 nO e3) (own_not R1.out (by omega))); replace R2 := Lib.hid (own_setOther (own_below R2.out hb3) w.heap.size 2 (.slice b3 nO e3) (own_not R2.out (by omega))); have R3 := Lib.hid (own_setOther hown3 w.heap.size 2 (.slice b3 nO e3) (own_not hown3 (by omega))); clear own3 bo3 C3 hg3 hown3 hb3 G3 c2_0 s2_0 c2_1 s2_1 c2_2 s2_2 c2_3 s2_3 c2_4 s2_4 c2_5 s2_5 f2 F2; have G4 := Lib.hid (show w3.heap.size = (w3.setCell ⟨w.heap.size, 2, none⟩ (.slice b3 nO e3)).heap.size from (by simp)); have own4 : ((w3.setCell ⟨w.heap.size, 2, none⟩ (.slice b3 nO e3)).alloc (.cells #[] 9)).ownsRow w3.heap.size 9 1 (.slice (some ⟨w3.heap.size, 0, none⟩) 0 0) 0 [] := own_fresh _ _ _ G4.out; have bo4 : w3.heap.size ≤ ((w3.setCell ⟨w.heap.size, 2, none⟩ (.slice b3 nO e3)).alloc (.cells #[] 9)).heap.size := (by simp); have C4 := Lib.hid (show Cells ((w3.setCell ⟨w.heap.size, 2, none⟩ (.slice b3 nO e3)).alloc (.cells #[] 9)) aS nS 1 (d.steps.map Value.string) from hS.out.below (Q3.alloc Q3.size _)); have zz4 : w.heap.size + 1 < (w3.setCell ⟨w.heap.size, 2, none⟩ (.slice b3 nO e3)).heap.size := (by first | (simp; done) | (simp; omega))) | (at_builtin; refine list_copy (by rfl) (.tmp 18) (.tmp 20) 26 (by rfl) w3.heap.size 9 j3 (.string { data := #[] }) 1 16 Tryz.underlying26 ji3 jx0 jx1 jx2 (by rfl) (by decide) _ 0 [] own4 bo4 aS nS cS (d.steps.map Value.string) C4.out (oneS d.steps) bn4 bm4 (by rfl) (by rfl) ?_; intro v4 w4 hown4 hg4; have hb4 := below_empty G4.out hg4; rw [List.nil_append, Nat.zero_add] at hown4; obtain ⟨b4, e4, rfl, _, _⟩ := own_shape hown4; have z4 : w.heap.size + 1 < w4.heap.size := (Nat.lt_of_lt_of_le zz4 hb4.size); have y4 : w.heap.size < w4.heap.size := (by omega); have Q4 : Below w.heap.size w (w4.setCell ⟨w.heap.size, 3, none⟩ (.slice b4 nS e4)) := (Q3.trans (hb4.mono Q3.size)).setCell (by simp) _; have c4_0 := (hb4.cell (p := ⟨w.heap.size, 0, none⟩) (by show w.heap.size < _; omega)).trans (set_other (.slice b3 nO e3) c3_0 (by decide)); have s4_0 := (hb4.cell (p := ⟨w.heap.size + 1, 0, none⟩) (by show w.heap.size + 1 < _; omega)).trans (set_far (i := 2) (.slice b3 nO e3) s3_0 (by omega)); have c4_1 := (hb4.cell (p := ⟨w.heap.size, 1, none⟩) (by show w.heap.size < _; omega)).trans (set_other (.slice b3 nO e3) c3_1 (by decide)); have s4_1 := (hb4.cell (p := ⟨w.heap.size + 1, 1, none⟩) (by show w.heap.size + 1 < _; omega)).trans (set_far (i := 2) (.slice b3 nO e3) s3_1 (by omega)); have c4_2 := (hb4.cell (p := ⟨w.heap.size, 2, none⟩) (by show w.heap.size < _; omega)).trans (set_same (.slice b3 nO e3) c3_2); have s4_2 := (hb4.cell (p := ⟨w.heap.size + 1, 2, none⟩) (by show w.heap.size + 1 < _; omega)).trans (set_far (i := 2) (.slice b3 nO e3) s3_2 (by omega)); have c4_3 := (hb4.cell (p := ⟨w.heap.size, 3, none⟩) (by show w.heap.size < _; omega)).trans (set_other (.slice b3 nO e3) c3_3 (by decide)); have s4_3 := (hb4.cell (p := ⟨w.heap.size + 1, 3, none⟩) (by show w.heap.size + 1 < _; omega)).trans (set_far (i := 2) (.slice b3 nO e3) s3_3 (by omega)); have c4_4 := (hb4.cell (p := ⟨w.heap.size, 4, none⟩) (by show w.heap.size < _; omega)).trans (set_other (.slice b3 nO e3) c3_4 (by decide)); have s4_4 := (hb4.cell (p := ⟨w.heap.size + 1, 4, none⟩) (by show w.heap.size + 1 < _; omega)).trans (set_far (i := 2) (.slice b3 nO e3) s3_4 (by omega)); have c4_5 := (hb4.cell (p := ⟨w.heap.size, 5, none⟩) (by show w.heap.size < _; omega)).trans (set_other (.slice b3 nO e3) c3_5 (by decide)); have s4_5 := (hb4.cell (p := ⟨w.heap.size + 1, 5, none⟩) (by show w.heap.size + 1 < _; omega)).trans (set_far (i := 2) (.slice b3 nO e3) s3_5 (by omega)); have f4 : ∀ j, w4.frozen? ⟨w.heap.size, j, none⟩ = false := (fun j => (hb4.frozen (p := ⟨w.heap.size, j, none⟩) (by show w.heap.size < _; omega)).trans (by have h := f3 j; simpa [go_sem] using h)); have F4 : ∀ j, w4.frozen? ⟨w.heap.size + 1, j, none⟩ = false := (fun j => (hb4.frozen (p := ⟨w.heap.size + 1, j, none⟩) (by show w.heap.size + 1 < _; omega)).trans (by have h := F3 j; simpa [go_sem] using h)); have O14 := off_of R1.out hown4 (Nat.le_of_eq G4.out.symm); have O24 := off_of R2.out hown4 (Nat.le_of_eq G4.out.symm); have O34 := off_of R3.out hown4 (Nat.le_of_eq G4.out.symm); replace R1 := Lib.hid (own_setOther (own_below R1.out hb4) w.heap.size 3 (.slice b4 nS e4) (own_not R1.out (by omega))); replace R2 := Lib.hid (own_setOther (own_below R2.out hb4) w.heap.size 3 (.slice b4 nS e4) (own_not R2.out (by omega))); replace R3 := Lib.hid (own_setOther (own_below R3.out hb4) w.heap.size 3 (.slice b4 nS e4) (own_not R3.out (by omega))); have R4 := Lib.hid (own_setOther hown4 w.heap.size 3 (.slice b4 nS e4) (own_not hown4 (by omega))); clear own4 bo4 C4 hg4 hown4 hb4 G4 c3_0 s3_0 c3_1 s3_1 c3_2 s3_2 c3_3 s3_3 c3_4 s3_4 c3_5 s3_5 f3 F3))
  refine bodyPost_ret (v := .agg #[.slice b1 nN e1, .slice b2 nE e2, .slice b3 nO e3, .slice b4 nS e4, .int .i64 d.room, .int .i64 d.next]) (by simp [results, Tryz.results67, go_sem, s4_0, s4_1, s4_2, s4_3, s4_4, s4_5]) rfl ⟨_, rfl, ?_, ?_⟩
  · have hs0 := Q0.size
    refine ⟨_, _, _, _, nN, nE, nO, nS, rfl, ?_, ?_, ?_, ?_, O12, O13, O14, O23, O24, O34⟩
    · iterate 6 refine own_setOther ?_ _ _ _ (own_not (R1.out) (by omega))
      exact own_base R1.out (by omega)
    · iterate 6 refine own_setOther ?_ _ _ _ (own_not (R2.out) (by omega))
      exact own_base R2.out (by omega)
    · iterate 6 refine own_setOther ?_ _ _ _ (own_not (R3.out) (by omega))
      exact own_base R3.out (by omega)
    · iterate 6 refine own_setOther ?_ _ _ _ (own_not (R4.out) (by omega))
      exact own_base R4.out (by omega)
  · iterate 6 refine Below.setCell ?_ (by first | (simp; done) | (simp; omega)) _
    exact Q4

end Go.Proofs.YtiehfobcbhgfkaaGreatDoor.deed

namespace Go.Proofs.YtiehfobcbhgfkaaGreatDoor.deed
set_option maxRecDepth 20000
open Go.RowKit
open kit strs recs disk kd

theorem any_range_snoc (f : Nat → Bool) (k : Nat) : (List.range (k + 1)).any f = ((List.range k).any f || f k) := by rw [List.range_succ, List.any_append]; simp
theorem any_take_snoc {α : Type} (f : α → Bool) {xs : List α} {k : Nat} {x : α} (h : xs[k]? = some x) : (xs.take (k + 1)).any f = ((xs.take k).any f || f x) := by rw [List.take_add_one, h, List.any_append]; simp
theorem any_range_true {f : Nat → Bool} {m n : Nat} (h : (List.range m).any f = true) (hm : m ≤ n) : (List.range n).any f = true := by
  rw [List.any_eq_true] at h ⊢
  obtain ⟨x, hx, hf⟩ := h
  exact ⟨x, List.mem_range.2 (by have := List.mem_range.1 hx; omega), hf⟩
theorem filter_snoc {α : Type} (f : α → Bool) {xs : List α} {k : Nat} {x : α} (h : xs[k]? = some x) : (xs.take (k + 1)).filter f = (xs.take k).filter f ++ (if f x then [x] else []) := by
  rw [List.take_add_one, h, List.filter_append]
  cases hx : f x <;> simp [hx]
def usedAt (d : D) (id : Int) (k : Nat) : Bool := ((histAt d k).getD []).any fun e => decide (e.2 = id)
theorem three_one (i : Int) (s : ByteArray) (j : Int) : ∀ u ∈ ([.int .i64 i, .string s, .int .i64 j] : List Value), u.oneCell' = true := by simp [Value.oneCell']
theorem usedN_eq (d : D) (n : Nod) : usedN d n = (List.range (d.steps.length + 1)).any (usedAt d n.1) := rfl

theorem own_lt {w : World} {B s n g : Nat} {e : TypeId} {v : Value} {xs : List Value} (h : w.ownsRow B e s v n xs) (hg : w.heap.size ≤ g) : v.ownBlock ≠ some g := fun e => by
  have := (own_block_ge h g e).2
  omega
theorem off_symm {u v : Value} (h : Off u v) : Off v u := fun g h1 h2 => h g h2 h1
theorem take_full {α : Type} {xs : List α} {k n : Nat} (h : xs.length = n) (hk : ¬ k < n) : xs.take k = xs := List.take_of_length_le (by omega)

set_option maxHeartbeats 16000000 in
set_option maxRecDepth 100000 in
theorem specClean (B : Nat) (v : Value) (d : D) (w : World) (hB : B ≤ w.heap.size) (hk : okL d) (hv : OwnDisk B w v d) :
    Calls Tryz.prog 73 #[v] w fun e w' => ∃ u, e = .returned u ∧ OwnDisk B w' u (clean d) ∧ Below w.heap.size w w' := by
  obtain ⟨i0, hi, hz0, hz1, hz2⟩ := info_parts Tryz.infoNod
  obtain ⟨l1, l2, l3, l4⟩ := okL_lens hk
  have hown := hv
  obtain ⟨sN, sE, sO, sS, nN, nE, nO, nS, rfl, rN, rE, rO, rS, o1, o2, o3, o4, o5, o6⟩ := hv
  obtain ⟨aN, cN, rfl, _, _⟩ := own_shape rN
  obtain ⟨aE, cE, rfl, _, _⟩ := own_shape rE
  obtain ⟨aO, cO, rfl, _, _⟩ := own_shape rO
  obtain ⟨aS, cS, rfl, _, _⟩ := own_shape rS
  have hN : AtN w aN nN d.nodes := own_cells rN
  have hO : AtE w aO nO d.old := own_cells rO
  have hS : strs.At w aS nS d.steps := At.of_own rS
  rw [hN.len] at l1
  rw [hO.len] at l3
  rw [hS.1] at l4
  obtain ⟨W, hW⟩ : ∃ W, W = (w.alloc (.cells #[.slice aN nN cN, .slice aE nE cE, .slice aO nO cO, .slice aS nS cS, .int .i64 d.room, .int .i64 d.next] 28)).alloc (.cells #[.slice none 0 0, .slice none 0 0, .slice none 0 0, .slice none 0 0, .int .i64 0, .int .i64 0] 28) := ⟨_, rfl⟩
  have hWB : Below w.heap.size w W := by rw [hW]; exact ((Below.refl _ _).alloc (Nat.le_refl _) _).alloc (by simp) _
  have hWs : w.heap.size + 1 < W.heap.size ∧ W.heap.size = w.heap.size + 1 + 1 := by rw [hW]; simp
  have bx := show disk.Box W w.heap.size [.slice aN nN cN, .slice aE nE cE, .slice aO nO cO, .slice aS nS cS, .int .i64 d.room, .int .i64 d.next] from by rw [hW]; exact (Box.new _ #[.slice aN nN cN, .slice aE nE cE, .slice aO nO cO, .slice aS nS cS, .int .i64 d.room, .int .i64 d.next] _).below ((Below.refl _ _).alloc (Nat.le_refl _) _)
  have br := show disk.Box W (w.heap.size + 1) [.slice none 0 0, .slice none 0 0, .slice none 0 0, .slice none 0 0, .int .i64 0, .int .i64 0] from by
    have h := Box.new (w.alloc (.cells #[.slice aN nN cN, .slice aE nE cE, .slice aO nO cO, .slice aS nS cS, .int .i64 d.room, .int .i64 d.next] 28)) #[.slice none 0 0, .slice none 0 0, .slice none 0 0, .slice none 0 0, .int .i64 0, .int .i64 0] 28
    rw [hW]
    simpa using h
  have fz : W.frozen? ⟨w.heap.size, 0, none⟩ = false := by rw [hW]; simp
  have fr : ∀ j, W.frozen? ⟨w.heap.size + 1, j, none⟩ = false := fun j => by rw [hW]; simp
  have BX := Lib.hid bx
  have BR := Lib.hid br
  have FZ := Lib.hid fz
  have FR := Lib.hid fr
  have HN := Lib.hid (hN.below hWB)
  have HO := Lib.hid (hO.below hWB)
  have HS := Lib.hid (hS.below hWB)
  have HL := Lib.hid (show d.nodes.length = nN ∧ d.steps.length = nS from ⟨hN.len, hS.1⟩)
  have HB := Lib.hid hWB
  have HK := Lib.hid hk
  have R2 := Lib.hid (own_below rE hWB)
  have R3 := Lib.hid (own_below rO hWB)
  have R4 := Lib.hid (own_below rS hWB)
  have OF := Lib.hid (And.intro o4 (And.intro o5 o6))
  have HWs := Lib.hid hWs
  have hz1' : w.heap.size < W.heap.size := by omega
  have NE := Lib.hid (And.intro (own_lt rE (Nat.le_refl _)) (own_lt rE (Nat.le_succ _)))
  have NO := Lib.hid (And.intro (own_lt rO (Nat.le_refl _)) (own_lt rO (Nat.le_succ _)))
  have NS := Lib.hid (And.intro (own_lt rS (Nat.le_refl _)) (own_lt rS (Nat.le_succ _)))
  clear rN rE rO rS o1 o2 o3 o4 o5 o6 hown hN hO hS hWB bx br fz fr hk
  go_enter Tryz.func73, Tryz.ntmps73
  go_wp2
  rw [← hW, ← HWs.out.2]
  clear hW hWs
  go_loopw [3, 4] (fun o i wr => ∃ k q : Nat, k ≤ nN ∧ q ≤ k ∧ i = .int .i64 k ∧ wr.ownsRow W.heap.size 87 3 o q (cellsN ((d.nodes.take k).filter (usedN d))) ∧ Below W.heap.size W wr) (fun _ i _ => nN - (intOf i).toNat)
  case atStart => exact ⟨0, 0, Nat.zero_le _, Nat.zero_le _, rfl, World.ownsRow_made _ _ _ (Nat.le_refl _) (by decide) rfl, (Below.refl _ _).alloc (Nat.le_refl _) _⟩
  case round =>
    obtain ⟨k, q, hk, hq, rfl, hown, hb⟩ := hrel
    have bx := BX.out.below hb
    have x0 := bx.at 0 _ rfl
    have x1 := bx.at 1 _ rfl
    have x2 := bx.at 2 _ rfl
    have x3 := bx.at 3 _ rfl
    have x4 := bx.at 4 _ rfl
    have x5 := bx.at 5 _ rfl
    have hxl := bx.1
    by_cases hlt : k < nN
    · rename World => w0
      obtain ⟨i, t, j, g, o, hx, rfl, hg, e1, e2, e3⟩ := (HN.out.below hb).get hlt
      have HX := Lib.hid hx
      have HOw := Lib.hid hown
      have HBx := Lib.hid bx
      have j0 : (0 : Int) ≤ (k : Int) := by omega
      have j1 : (k : Int) < (nN : Int) := by omega
      clear hx hown bx
      go_wp2
      have hg0 := hg
      go_loopw [5, 6] (fun us i' wr => ∃ (m : Nat) (u : Bool), m ≤ nS + 1 ∧ i' = .int .i64 m ∧ us = .bool u ∧ Hid (u = (List.range m).any (usedAt d i)) ∧ Below w0.heap.size w0 wr) (fun _ i' _ => nS + 1 - (intOf i').toNat)
      case atStart => exact ⟨0, false, Nat.zero_le _, rfl, rfl, Lib.hid rfl, Below.refl _ _⟩
      case round =>
        have HB0 := Lib.hid hb
        obtain ⟨m, u, hm, rfl, rfl, HU, hb2⟩ := hrel
        have bx := HBx.out.below hb2
        replace x0 := bx.at 0 _ rfl
        replace x2 := bx.at 2 _ rfl
        replace x3 := bx.at 3 _ rfl
        replace e1 := (hb2.cell (p := ⟨g, o + k * 3, none⟩) hg0).trans e1
        replace e2 := (hb2.cell (p := ⟨g, o + k * 3 + 1, none⟩) hg0).trans e2
        replace e3 := (hb2.cell (p := ⟨g, o + k * 3 + 2, none⟩) hg0).trans e3
        clear bx hb x1 x4 x5
        cases u with
        | true =>
          by_cases hms : m ≤ nS
          · have g1 : (m : Int) ≤ (nS : Int) := by omega
            have YU := Lib.hid (show usedN d (i, t, j) = true by rw [usedN_eq]; exact any_range_true HU.out.symm (by rw [HL.out.2]; omega))
            have HP := Lib.hid (show (d.nodes.take (k + 1)).filter (usedN d) = (d.nodes.take k).filter (usedN d) ++ [(i, t, j)] by rw [filter_snoc _ HX.out, YU.out]; rfl)
            have hown2 := own_below HOw.out hb2
            have HBW := Lib.hid (HB0.out.trans (hb2.mono HB0.out.size))
            go_wp2_with (at_builtin; refine list_appN (by rfl) (.tmp 60) (.tmp 66) 24 (by rfl) W wr 87 i0 (.agg #[.int .i64 0, .string { data := #[] }, .int .i64 0]) 3 32 Tryz.underlying24 hi hz0 hz1 hz2 (by rfl) (by decide) _ q _ hown2 HBW.out [.int .i64 i, .string t, .int .i64 j] 1 ?_ ?_ ?_ ?_ (by rfl) (by rfl) (by rfl) ?_ ?_; rfl; exact three_one i t j; unfold maxLen; omega; omega; exact ⟨rfl, rfl, rfl⟩; intro v' w' hown' hb')
            go_roundw
            case rel => exact ⟨k + 1, q + 1, by omega, by omega, by go_num, by rw [HP.out, cellsN_app]; exact hown', hb'⟩
            case measure => simp [intOf]; omega
          · have g1 : ¬ (m : Int) ≤ (nS : Int) := by omega
            have YU := Lib.hid (show usedN d (i, t, j) = true by rw [usedN_eq]; exact any_range_true HU.out.symm (by rw [HL.out.2]; omega))
            have HP := Lib.hid (show (d.nodes.take (k + 1)).filter (usedN d) = (d.nodes.take k).filter (usedN d) ++ [(i, t, j)] by rw [filter_snoc _ HX.out, YU.out]; rfl)
            have hown2 := own_below HOw.out hb2
            have HBW := Lib.hid (HB0.out.trans (hb2.mono HB0.out.size))
            go_wp2_with (at_builtin; refine list_appN (by rfl) (.tmp 60) (.tmp 66) 24 (by rfl) W wr 87 i0 (.agg #[.int .i64 0, .string { data := #[] }, .int .i64 0]) 3 32 Tryz.underlying24 hi hz0 hz1 hz2 (by rfl) (by decide) _ q _ hown2 HBW.out [.int .i64 i, .string t, .int .i64 j] 1 ?_ ?_ ?_ ?_ (by rfl) (by rfl) (by rfl) ?_ ?_; rfl; exact three_one i t j; unfold maxLen; omega; omega; exact ⟨rfl, rfl, rfl⟩; intro v' w' hown' hb')
            go_roundw
            case rel => exact ⟨k + 1, q + 1, by omega, by omega, by go_num, by rw [HP.out, cellsN_app]; exact hown', hb'⟩
            case measure => simp [intOf]; omega
        | false =>
          by_cases hms : m ≤ nS
          · have g1 : (m : Int) ≤ (nS : Int) := by omega
            have HMS := Lib.hid hms
            have HB1 := Lib.hid (HB0.out.trans (hb2.mono HB0.out.size))
            have hhist := Lib.hid (show stepsDone d.old d.steps (m : Int) = histAt d m by unfold stepsDone histAt; rw [HL.out.2, clampN_nat m nS hms])
            obtain ⟨hi5, hhi⟩ : ∃ h, h = histAt d m := ⟨_, rfl⟩
            have HHI := Lib.hid hhi
            have CS := Lib.hid (show Calls Tryz.prog 120 #[.slice aO nO cO, .slice aS nS cS, .int .i64 (m : Int)] wr (StepsR hi5 wr) by rw [hhi, ← hhist.out]; exact specSteps aO aS nO cO nS cS d.old d.steps m wr (by omega) (by omega) (fun s hs => step_small HK.out s hs) (HO.out.below HB1.out) (HS.out.below HB1.out))
            clear hhi hms
            go_wp2_with (fail)
            refine CS.out.mono ?_
            rintro e w4 ⟨v4, he, ho4, hb4⟩
            obtain ⟨q4, ho4⟩ := ho4
            obtain ⟨a4, c4, rfl, _, _⟩ := own_shape ho4
            subst he
            have HA4 := Lib.hid (show AtE w4 a4 q4 (hi5.getD []) from own_cells ho4)
            have hq4 : q4 ≤ 3000000 := by
              have h1 := HA4.out.len
              cases hi5 with
              | none => have h2 : (0 : Nat) = q4 := h1; omega
              | some l => have h2 : l.length = q4 := h1; have h3 := hist_length HK.out HHI.out; omega
            have HB4 := Lib.hid (hb2.trans (hb4.mono hb2.size))
            have bx4 := HBx.out.below HB4.out
            have z0 := bx4.at 0 _ rfl
            have z3 := bx4.at 3 _ rfl
            have hg4 : g < w4.heap.size := Nat.lt_of_lt_of_le hg0 HB4.out.size
            replace e1 := (hb4.cell (p := ⟨g, o + k * 3, none⟩) (Nat.lt_of_lt_of_le hg0 hb2.size)).trans e1
            have hx4 : w.heap.size < w4.heap.size := bx4.1
            clear x0 x2 x3 e2 e3 bx4 hb2 hb4 ho4 hxl
            go_wp2
            go_loopw [5, 9] (fun us i' wr' => ∃ (p : Nat) (u : Bool), p ≤ q4 ∧ i' = .int .i64 p ∧ us = .bool u ∧ Hid (u = ((hi5.getD []).take p).any (fun e => decide (e.2 = i))) ∧ Below w4.heap.size w4 wr') (fun _ i' _ => q4 - (intOf i').toNat)
            case atStart => exact ⟨0, false, Nat.zero_le _, rfl, rfl, Lib.hid rfl, Below.refl _ _⟩
            case round =>
              obtain ⟨p, u, hp, rfl, rfl, HU3, hb5⟩ := hrel
              rename World => w5
              by_cases hpq : p < q4
              · obtain ⟨nm, id, g', o', hxp, rfl, hg', f1, f2⟩ := (HA4.out.below hb5).get hpq
                have y0 := Later.cell ((hb5.cell (p := ⟨w.heap.size, 0, none⟩) hx4).trans z0) (Nat.lt_of_lt_of_le hx4 hb5.size)
                have y1 := Later.cell ((hb5.cell (p := ⟨g, o + k * 3, none⟩) hg4).trans e1) (Nat.lt_of_lt_of_le hg4 hb5.size)
                have y2 := Later.cell f2 hg'
                have p0 : (0 : Int) ≤ (p : Int) := by omega
                have p1 : (p : Int) < (q4 : Int) := by omega
                have HN3 := Lib.hid (show ((hi5.getD []).take (p + 1)).any (fun e => decide (e.2 = i)) = (u || decide (id = i)) by rw [any_take_snoc _ hxp, ← HU3.out])
                clear hxp f1 f2 z0 z3
                cases u with
                | true =>
                  rw [Bool.true_or] at HN3
                  go_wp2
                  refine wp_region_later (by kernel_rfl) (by kernel_rfl) ?_
                  repeat (first | go_big_quiet_skip | (go_big_quiet_want; go_big_quiet_op; first | go_big_quiet_on | fail))
                  refine wpQuiet_nil ?_
                  rintro w6 ⟨x2, hx2⟩
                  have hb6 : Below w5.heap.size w5 w6 := hx2 ▸ x2.2
                  clear hx2 x2
                  go_wp2
                  go_roundw
                  case rel => exact ⟨p + 1, true, by omega, by go_num, rfl, Lib.hid HN3.out.symm, hb5.trans (hb6.mono hb5.size)⟩
                  case measure => simp [intOf]; omega
                | false =>
                  rw [Bool.false_or] at HN3
                  go_wp2
                  refine wp_region_later (by kernel_rfl) (by kernel_rfl) ?_
                  repeat (first | go_big_quiet_skip | (go_big_quiet_want; go_big_quiet_op; first | go_big_quiet_on | fail))
                  refine wpQuiet_nil ?_
                  rintro w6 ⟨x2, hx2⟩
                  have hb6 : Below w5.heap.size w5 w6 := hx2 ▸ x2.2
                  clear hx2 x2
                  go_wp2
                  go_roundw
                  case rel => exact ⟨p + 1, decide (id = i), by omega, by go_num, by simp [go_sem]; first | rfl | (by_cases hh : id = i <;> simp [hh]), Lib.hid HN3.out.symm, hb5.trans (hb6.mono hb5.size)⟩
                  case measure => simp [intOf]; omega
              · have p1 : ¬ (p : Int) < (q4 : Int) := by omega
                have HU4 := Lib.hid (show u = (List.range (m + 1)).any (usedAt d i) by
                  rw [any_range_snoc, ← HU.out, Bool.false_or, HU3.out, List.take_of_length_le (by have := HA4.out.len; omega), HHI.out]; rfl)
                clear z0 z3
                go_wp2
                go_roundw
                case rel => exact ⟨m + 1, u, by have := HMS.out; omega, by go_num, rfl, HU4, HB4.out.trans (hb5.mono HB4.out.size)⟩
                case measure => have := HMS.out; simp [intOf]; omega
          · have g1 : ¬ (m : Int) ≤ (nS : Int) := by omega
            have NU := Lib.hid (show usedN d (i, t, j) = false by rw [usedN_eq, HL.out.2, show nS + 1 = m by omega]; exact HU.out.symm)
            have HP := Lib.hid (show (d.nodes.take (k + 1)).filter (usedN d) = (d.nodes.take k).filter (usedN d) by rw [filter_snoc _ HX.out, NU.out]; simp)
            have hown2 := own_below HOw.out hb2
            have HBW := Lib.hid (HB0.out.trans (hb2.mono HB0.out.size))
            go_wp2
            go_roundw
            case rel => exact ⟨k + 1, q, by omega, by omega, by go_num, by rw [HP.out]; exact hown2, HBW.out⟩
            case measure => simp [intOf]; omega
    · have hkn : (d.nodes.take k).filter (usedN d) = (clean d).nodes := by rw [take_full HL.out.1 hlt]; rfl
      rw [hkn] at hown
      obtain ⟨ao, co, rfl, _, _⟩ := own_shape hown
      have j1 : ¬ (k : Int) < (nN : Int) := by omega
      have bxr := BR.out.below hb
      have hsz := HWs.out
      have hbs := hb.size
      have f0 : wr.frozen? ⟨w.heap.size, 0, none⟩ = false := (hb.frozen (p := ⟨w.heap.size, 0, none⟩) hz1').trans FZ.out
      have F1 : ∀ j, (wr.setCell ⟨w.heap.size, 0, none⟩ (.slice ao q co)).frozen? ⟨w.heap.size + 1, j, none⟩ = false := fun j => by
        have h := (hb.frozen (p := ⟨w.heap.size + 1, j, none⟩) hsz.1).trans (FR.out j)
        simpa [go_sem] using h
      have c0 := set_same (.slice ao q co) x0
      have c1 := set_other (i := 0) (.slice ao q co) x1 (by decide)
      have c2 := set_other (i := 0) (.slice ao q co) x2 (by decide)
      have c3 := set_other (i := 0) (.slice ao q co) x3 (by decide)
      have c4 := set_other (i := 0) (.slice ao q co) x4 (by decide)
      have c5 := set_other (i := 0) (.slice ao q co) x5 (by decide)
      have s0 := set_far (i := 0) (.slice ao q co) (bxr.at 0 _ rfl) (show w.heap.size ≠ w.heap.size + 1 by omega)
      have s1 := set_far (i := 0) (.slice ao q co) (bxr.at 1 _ rfl) (show w.heap.size ≠ w.heap.size + 1 by omega)
      have s2 := set_far (i := 0) (.slice ao q co) (bxr.at 2 _ rfl) (show w.heap.size ≠ w.heap.size + 1 by omega)
      have s3 := set_far (i := 0) (.slice ao q co) (bxr.at 3 _ rfl) (show w.heap.size ≠ w.heap.size + 1 by omega)
      have s4 := set_far (i := 0) (.slice ao q co) (bxr.at 4 _ rfl) (show w.heap.size ≠ w.heap.size + 1 by omega)
      have s5 := set_far (i := 0) (.slice ao q co) (bxr.at 5 _ rfl) (show w.heap.size ≠ w.heap.size + 1 by omega)
      have HW2 := Lib.hid hown
      have HBR := Lib.hid hb
      clear hown hb bxr
      go_wp2
      refine bodyPost_ret (v := .agg #[.slice ao q co, .slice aE nE cE, .slice aO nO cO, .slice aS nS cS, .int .i64 d.room, .int .i64 d.next]) (by simp [results, Tryz.results73, go_sem, s0, s1, s2, s3, s4, s5]) rfl ⟨_, rfl, ?_, ?_⟩
      · have n0 : Value.ownBlock (.slice ao q co) ≠ some w.heap.size := own_not HW2.out hz1'
        have n1 : Value.ownBlock (.slice ao q co) ≠ some (w.heap.size + 1) := own_not HW2.out hsz.1
        refine ⟨_, _, _, _, q, nE, nO, nS, rfl, ?_, ?_, ?_, ?_, off_symm (off_of R2.out HW2.out (Nat.le_refl _)), off_symm (off_of R3.out HW2.out (Nat.le_refl _)), off_symm (off_of R4.out HW2.out (Nat.le_refl _)), OF.out.1, OF.out.2.1, OF.out.2.2⟩
        · iterate 6 refine own_setOther ?_ _ _ _ n1
          refine own_setOther ?_ _ _ _ n0
          exact own_base HW2.out (by omega)
        · iterate 6 refine own_setOther ?_ _ _ _ NE.out.2
          refine own_setOther ?_ _ _ _ NE.out.1
          exact own_below R2.out HBR.out
        · iterate 6 refine own_setOther ?_ _ _ _ NO.out.2
          refine own_setOther ?_ _ _ _ NO.out.1
          exact own_below R3.out HBR.out
        · iterate 6 refine own_setOther ?_ _ _ _ NS.out.2
          refine own_setOther ?_ _ _ _ NS.out.1
          exact own_below R4.out HBR.out
      · iterate 7 refine Below.setCell ?_ (by first | (simp; done) | (simp; omega)) _
        exact HB.out.trans (HBR.out.mono HB.out.size)

end Go.Proofs.YtiehfobcbhgfkaaGreatDoor.deed

namespace Go.Proofs.YtiehfobcbhgfkaaGreatDoor.deed
set_option maxRecDepth 20000
open Go.RowKit
open kit strs recs disk kd

theorem box_set {w : World} {g i : Nat} {cs : List Value} {u : Value} (h : Box w g cs) (hi : i < cs.length) : Box (w.setCell ⟨g, i, none⟩ u) g (cs.set i u) := by
  refine ⟨by simpa using h.1, fun j v hj => ?_⟩
  by_cases e : i = j
  · subst e
    obtain rfl : u = v := by simpa [List.getElem?_set, hi] using hj
    exact set_same _ (h.2 i _ (List.getElem?_eq_getElem hi))
  · rw [List.getElem?_set_ne e] at hj
    exact set_other _ (h.2 j v hj) e
theorem box_far {w : World} {g k i : Nat} {cs : List Value} {u : Value} (h : Box w g cs) (hg : k ≠ g) : Box (w.setCell ⟨k, i, none⟩ u) g cs :=
  ⟨by simpa using h.1, fun j v hj => set_far _ (h.2 j v hj) hg⟩
theorem frozen_set {w : World} {g k i : Nat} {u : Value} (h : ∀ j, w.frozen? ⟨g, j, none⟩ = false) : ∀ j, (w.setCell ⟨k, i, none⟩ u).frozen? ⟨g, j, none⟩ = false := fun j => by
  have h := h j
  simpa [go_sem] using h
/-- Rows of unlike elements share no block. -/
theorem off_type {w : World} {B B' s s' n n' : Nat} {e e' : TypeId} {u v : Value} {xs ys : List Value} (hu : w.ownsRow B e s u n xs) (hv : w.ownsRow B' e' s' v n' ys) (hne : e ≠ e') : Off u v := fun g h1 h2 => by
  rcases hu.2 with ⟨rfl, _⟩ | ⟨g1, c1, cur1, rfl, _, k1, _⟩
  · simp [Value.ownBlock] at h1
  rcases hv.2 with ⟨rfl, _⟩ | ⟨g2, c2, cur2, rfl, _, k2, _⟩
  · simp [Value.ownBlock] at h2
  simp only [Value.ownBlock, Option.some.injEq] at h1 h2
  subst h1
  subst h2
  rw [k1] at k2
  simp only [Option.some.injEq] at k2
  injection k2 with _ h
  exact hne h
theorem disk_setOther {B : Nat} {w : World} {v : Value} {d : D} {g j : Nat} {u : Value} (h : OwnDisk B w v d) (hg : g < B) : OwnDisk B (w.setCell ⟨g, j, none⟩ u) v d := by
  obtain ⟨sN, sE, sO, sS, nN, nE, nO, nS, rfl, rN, rE, rO, rS, o⟩ := h
  exact ⟨sN, sE, sO, sS, nN, nE, nO, nS, rfl, own_setOther rN _ _ _ (own_not rN hg), own_setOther rE _ _ _ (own_not rE hg), own_setOther rO _ _ _ (own_not rO hg), own_setOther rS _ _ _ (own_not rS hg), o⟩
theorem disk_below {B : Nat} {w w' : World} {v : Value} {d : D} (h : OwnDisk B w v d) (hb : Below w.heap.size w w') : OwnDisk B w' v d := by
  obtain ⟨sN, sE, sO, sS, nN, nE, nO, nS, rfl, rN, rE, rO, rS, o⟩ := h
  exact ⟨sN, sE, sO, sS, nN, nE, nO, nS, rfl, own_below rN hb, own_below rE hb, own_below rO hb, own_below rS hb, o⟩
/-- Block b holds the disk, block r is the result's; both lie below B, and the four lists are owned from B on. -/
structure Desk (B : Nat) (w : World) (b r : Nat) (sN sE sO sS : Value) (d : D) : Prop where
  box : Box w b [sN, sE, sO, sS, .int .i64 d.room, .int .i64 d.next]
  fz : ∀ j, w.frozen? ⟨b, j, none⟩ = false
  out : ∃ u0 u1 u2 u3 u4 u5, Box w r [u0, u1, u2, u3, u4, u5]
  fr : ∀ j, w.frozen? ⟨r, j, none⟩ = false
  own : OwnDisk B w (.agg #[sN, sE, sO, sS, .int .i64 d.room, .int .i64 d.next]) d
  hb : b < B
  hr : r < B
  ne : b ≠ r
  size : B ≤ w.heap.size
theorem frozen_below {w w' : World} {g : Nat} (h : ∀ j, w.frozen? ⟨g, j, none⟩ = false) (hg : g < w.heap.size) (hb : Below w.heap.size w w') : ∀ j, w'.frozen? ⟨g, j, none⟩ = false :=
  fun j => (hb.frozen (p := ⟨g, j, none⟩) hg).trans (h j)
theorem Desk.below {B : Nat} {w w' : World} {b r : Nat} {sN sE sO sS : Value} {d : D} (h : Desk B w b r sN sE sO sS d) (hb : Below w.heap.size w w') : Desk B w' b r sN sE sO sS d := by
  obtain ⟨u0, u1, u2, u3, u4, u5, ho⟩ := h.out
  exact ⟨h.box.below hb, frozen_below h.fz h.box.1 hb, ⟨u0, u1, u2, u3, u4, u5, ho.below hb⟩, frozen_below h.fr ho.1 hb, disk_below h.own hb, h.hb, h.hr, h.ne, Nat.le_trans h.size hb.size⟩
/-- New entries, which a call has made, are put into the box. -/
theorem Desk.setE {B : Nat} {w w' : World} {b r : Nat} {sN sE sO sS : Value} {d : D} {u : Value} {es : List Ent} (h : Desk B w b r sN sE sO sS d) (hb : Below w.heap.size w w') (hu : OwnE w.heap.size w' u es) :
    Desk B (w'.setCell ⟨b, 1, none⟩ u) b r sN u sO sS { d with ents := es } := by
  have hB := h.size
  have h' := h.below hb
  obtain ⟨u0, u1, u2, u3, u4, u5, ho⟩ := h'.out
  obtain ⟨q, hu⟩ := hu
  obtain ⟨_, _, _, _, nN, nE, nO, nS, hv, rN, rE, rO, rS, o1, o2, o3, o4, o5, o6⟩ := h.own
  simp only [Value.agg.injEq, Array.mk.injEq, List.cons.injEq] at hv
  obtain ⟨rfl, rfl, rfl, rfl, _⟩ := hv
  have hu' := own_base hu hB
  exact ⟨box_set h'.box (by simp), frozen_set h'.fz, ⟨u0, u1, u2, u3, u4, u5, box_far ho h.ne⟩, frozen_set h'.fr,
    disk_setOther ⟨_, _, _, _, nN, q, nO, nS, rfl, own_below rN hb, hu', own_below rO hb, own_below rS hb, off_of rN hu (Nat.le_refl _), o2, o3, off_symm (off_of rO hu (Nat.le_refl _)), off_symm (off_of rS hu (Nat.le_refl _)), o6⟩ h.hb, h.hb, h.hr, h.ne, by simpa using h'.size⟩

theorem box_grown {w w' : World} {v : Value} {g : Nat} {cs : List Value} (h : Box w g cs) (hg : w.grownBy w' v.ownBlock) (ho : v.ownBlock ≠ some g) : Box w' g cs :=
  ⟨Nat.lt_of_lt_of_le h.1 hg.size, fun j x hj => (cell_grown hg h.1 ho).trans (h.2 j x hj)⟩
theorem frozen_grown {w w' : World} {v : Value} {g : Nat} (h : ∀ j, w.frozen? ⟨g, j, none⟩ = false) (hl : g < w.heap.size) (hg : w.grownBy w' v.ownBlock) (ho : v.ownBlock ≠ some g) : ∀ j, w'.frozen? ⟨g, j, none⟩ = false := fun j =>
  (World.frozen?_of_block (a := ⟨g, j, none⟩) (hg.block g hl (fun e => ho e.symm))).trans (h j)
/-- Steps that an append has made out of the disk's own are put into the box. -/
theorem Desk.setS {B n : Nat} {w w' : World} {b r : Nat} {sN sE sO sS : Value} {d : D} {u : Value} {ss : List ByteArray} (h : Desk B w b r sN sE sO sS d) (hg : w.grownBy w' sS.ownBlock) (hu : w'.ownsRow B 9 1 u n (ss.map Value.string)) :
    Desk B (w'.setCell ⟨b, 3, none⟩ u) b r sN sE sO u { d with steps := ss } := by
  obtain ⟨u0, u1, u2, u3, u4, u5, ho⟩ := h.out
  obtain ⟨_, _, _, _, nN, nE, nO, nS, hv, rN, rE, rO, rS, o1, o2, o3, o4, o5, o6⟩ := h.own
  simp only [Value.agg.injEq, Array.mk.injEq, List.cons.injEq] at hv
  obtain ⟨rfl, rfl, rfl, rfl, _⟩ := hv
  have rN' := own_grown rN hg o3
  have rE' := own_grown rE hg o5
  have rO' := own_grown rO hg o6
  have fb := own_not rS h.hb
  have gr := own_not rS h.hr
  exact ⟨box_set (box_grown h.box hg fb) (by simp), frozen_set (frozen_grown h.fz h.box.1 hg fb), ⟨u0, u1, u2, u3, u4, u5, box_far (box_grown ho hg gr) h.ne⟩, frozen_set (frozen_grown h.fr ho.1 hg gr),
    disk_setOther ⟨_, _, _, _, nN, nE, nO, n, rfl, rN', rE', rO', hu, o1, o2, off_type rN' hu (by decide), o4, off_type rE' hu (by decide), off_type rO' hu (by decide)⟩ h.hb, h.hb, h.hr, h.ne, by simpa using Nat.le_trans h.size hg.size⟩

end Go.Proofs.YtiehfobcbhgfkaaGreatDoor.deed
