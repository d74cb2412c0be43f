/-
  Contracts of spec's deeds: l06Put, Brought.
-/
import Derived.Test.YtnhcianahmfdhaaGreatDoorDpA
namespace Go.Proofs.YtnhcianahmfdhaaGreatDoor.deed
open Go.RowKit
open kit strs recs disk kd

theorem putStep_a {e x : Ent} {st : List Ent × Bool} (h1 : st.2 = false) (h2 : lessB x.1 e.1 = false) (h3 : x.1 = e.1) : putStep e st x = (st.1 ++ [e], true) := by unfold putStep; rw [if_pos ⟨h1, h2⟩, if_pos h3]
theorem putStep_b {e x : Ent} {st : List Ent × Bool} (h1 : st.2 = false) (h2 : lessB x.1 e.1 = false) (h3 : ¬ x.1 = e.1) : putStep e st x = (st.1 ++ [e] ++ [x], true) := by unfold putStep; rw [if_pos ⟨h1, h2⟩, if_neg h3]
theorem putStep_c {e x : Ent} {st : List Ent × Bool} (h1 : st.2 = true ∨ lessB x.1 e.1 = true) (h3 : x.1 = e.1) : putStep e st x = st := by
  unfold putStep
  rw [if_neg (fun h => by rcases h1 with h1 | h1 <;> simp [h1] at h), if_pos h3]
theorem putStep_d {e x : Ent} {st : List Ent × Bool} (h1 : st.2 = true ∨ lessB x.1 e.1 = true) (h3 : ¬ x.1 = e.1) : putStep e st x = (st.1 ++ [x], st.2) := by
  unfold putStep
  rw [if_neg (fun h => by rcases h1 with h1 | h1 <;> simp [h1] at h), if_neg h3]

theorem drew_facts {w w2 : World} {n : Nat} (h : w2 = w.drewN n) : Below w.heap.size w w2 := by subst h; exact below_drewN (Below.refl _ _) n

theorem specBrought (n : Int) (m : Nat) (w : World) :
    Calls Tryz.prog 56 #[.int .i64 n, .int .i64 0, .int .i64 m] w fun e w' => e = .returned (.int .i64 (clampN n m : Nat)) ∧ w = w' := by
  have hm : ¬ (m : Int) < 0 := by omega
  by_cases h1 : n < 0
  · have hc := Lib.hid (show clampN n m = 0 by unfold clampN; rw [if_pos h1])
    go_enter Tryz.func56, Tryz.ntmps56
    go_wp2
    go_ret
    exact ⟨by rw [hc.out]; rfl, rfl⟩
  · by_cases h2 : (m : Int) < n
    · have hc := Lib.hid (show clampN n m = m by unfold clampN; rw [if_neg h1, if_pos h2])
      go_enter Tryz.func56, Tryz.ntmps56
      go_wp2
      go_ret
      exact ⟨by rw [hc.out]; rfl, rfl⟩
    · have hc := Lib.hid (show ((clampN n m : Nat) : Int) = n by unfold clampN; rw [if_neg h1, if_neg h2]; omega)
      have h3 : n ≤ (m : Int) := by omega
      go_enter Tryz.func56, Tryz.ntmps56
      go_wp2
      go_ret
      exact ⟨by rw [hc.out]; rfl, rfl⟩

set_option maxHeartbeats 4000000 in
theorem specPut (a : Option Addr) (c n : Nat) (xs : List Ent) (s : ByteArray) (id : Int) (w : World) (hm : n ≤ 10000000) (ha : AtE w a n xs) :
    Calls Tryz.prog 62 #[.slice a n c, .agg #[.string s, .int .i64 id]] w (EntsR (putE xs (s, id)) w) := by
  obtain ⟨i0, hi, hz0, hz1, hz2⟩ := info_parts Tryz.infoEnt
  have HA := Lib.hid (ha.below (w' := w.alloc (.cells #[.string s, .int .i64 id] 62)) ((Below.refl _ _).alloc (Nat.le_refl _) _))
  have HL := Lib.hid (fun k => putTo_length (s, id) (xs.take k))
  clear ha
  go_enter Tryz.func62, Tryz.ntmps62
  go_wp2
  obtain ⟨W, hW⟩ : ∃ W, W = w.alloc (.cells #[.string s, .int .i64 id] 62) := ⟨_, rfl⟩
  have x0 : W.cell? ⟨w.heap.size, 0, none⟩ = some (.string s) := by rw [hW]; simp
  have x1 : W.cell? ⟨w.heap.size, 1, none⟩ = some (.int .i64 id) := by rw [hW]; simp
  have hB := Lib.hid (show Below w.heap.size w W by rw [hW]; exact (Below.refl _ _).alloc (Nat.le_refl _) _)
  have hz : w.heap.size < W.heap.size := by rw [hW]; simp
  have hsz : w.heap.size + 1 = W.heap.size := by rw [hW]; simp
  rw [← hW] at HA ⊢
  rw [hsz]
  clear hW hsz
  go_loopw [5, 6, 7] (fun o dn i wr => ∃ k m : Nat, k ≤ n ∧ m ≤ k + one (putTo (s, id) (xs.take k)).2 ∧ i = .int .i64 k ∧ dn = .bool (putTo (s, id) (xs.take k)).2 ∧ wr.ownsRow W.heap.size 62 2 o m (cellsE (putTo (s, id) (xs.take k)).1) ∧ Below W.heap.size W wr) (fun _ _ i _ => n - (intOf i).toNat)
  case atStart => exact ⟨0, 0, Nat.zero_le _, Nat.zero_le _, rfl, rfl, World.ownsRow_made _ _ _ (Nat.le_refl _) (by decide) rfl, (Below.refl _ _).alloc (Nat.le_refl _) _⟩
  case round =>
    obtain ⟨k, m, hk, hmk, rfl, rfl, hown, hb⟩ := hrel
    have y0 := (hb.cell (p := ⟨w.heap.size, 0, none⟩) hz).trans x0
    have y1 := (hb.cell (p := ⟨w.heap.size, 1, none⟩) hz).trans x1
    obtain ⟨st, hst⟩ : ∃ st, st = putTo (s, id) (xs.take k) := ⟨_, rfl⟩
    rw [← hst] at hown hmk ⊢
    obtain ⟨L, dn⟩ := st
    simp only at hown hmk ⊢
    have o1 : one true ≤ 1 ∧ 1 ≤ one true := ⟨Nat.le_refl _, Nat.le_refl _⟩
    have o0 : one false ≤ 0 := Nat.le_refl _
    have hzr : w.heap.size < wr.heap.size := Nat.lt_of_lt_of_le hz hb.size
    by_cases hlt : k < n
    · obtain ⟨t, i, g, o, hx, rfl, hg0, c1, c2⟩ := (HA.out.below hb).get hlt
      have hgW : g < W.heap.size := by
        obtain ⟨_, _, b, off, hx2, ha2, hlt2, _⟩ := HA.out.get hlt
        simp only [Option.some.injEq, Addr.mk.injEq] at ha2
        rw [ha2.1]; exact hlt2
      have hg := hg0
      clear hg0
      have j0 : (0 : Int) ≤ (k : Int) := by omega
      have j1 : (k : Int) < (n : Int) := by omega
      have HS := Lib.hid (show putTo (s, id) (xs.take (k + 1)) = putStep (s, id) (L, dn) (t, i) by rw [putTo_snoc hx, ← hst])
      clear hx hst
      cases dn with
      | true =>
        by_cases e : t = s
        · have HP := Lib.hid (HS.out.trans (putStep_c (.inl rfl) e))
          have hs := bytes_eq e
          clear e
          go_wp2
          go_quiet (fail)
          obtain ⟨wa, hw2⟩ : ∃ wx, wx = wr.drewN nq := ⟨_, rfl⟩
          have dq := drew_facts hw2
          rw [← hw2]
          clear hw2
          replace hown := own_below hown dq
          replace hb := hb.trans (dq.mono hb.size)
          replace y0 := (dq.cell (p := ⟨w.heap.size, 0, none⟩) hzr).trans y0
          replace y1 := (dq.cell (p := ⟨w.heap.size, 1, none⟩) hzr).trans y1
          replace c1 := (dq.cell (p := ⟨g, o + k * 2, none⟩) hg).trans c1
          replace c2 := (dq.cell (p := ⟨g, o + k * 2 + 1, none⟩) hg).trans c2
          replace hzr := Nat.lt_of_lt_of_le hzr dq.size
          replace hg := Nat.lt_of_lt_of_le hg dq.size
          clear dq
          go_wp2
          go_quiet (fail)
          obtain ⟨wb, hw2⟩ : ∃ wx, wx = wa.drewN nq := ⟨_, rfl⟩
          have dq := drew_facts hw2
          rw [← hw2]
          clear hw2
          replace hown := own_below hown dq
          replace hb := hb.trans (dq.mono hb.size)
          replace y0 := (dq.cell (p := ⟨w.heap.size, 0, none⟩) hzr).trans y0
          replace y1 := (dq.cell (p := ⟨w.heap.size, 1, none⟩) hzr).trans y1
          replace c1 := (dq.cell (p := ⟨g, o + k * 2, none⟩) hg).trans c1
          replace c2 := (dq.cell (p := ⟨g, o + k * 2 + 1, none⟩) hg).trans c2
          replace hzr := Nat.lt_of_lt_of_le hzr dq.size
          replace hg := Nat.lt_of_lt_of_le hg dq.size
          clear dq
          go_wp2
          go_roundw
          case rel => exact ⟨k + 1, m, by omega, by rw [HP.out]; dsimp only; omega, by go_num, by rw [HP.out], by rw [HP.out]; exact hown, hb⟩
          case measure => simp [intOf]; omega
        · have HP := Lib.hid (HS.out.trans (putStep_d (.inl rfl) e))
          have hs := bytes_ne e
          clear e
          go_wp2
          go_quiet (fail)
          obtain ⟨wa, hw2⟩ : ∃ wx, wx = wr.drewN nq := ⟨_, rfl⟩
          have dq := drew_facts hw2
          rw [← hw2]
          clear hw2
          replace hown := own_below hown dq
          replace hb := hb.trans (dq.mono hb.size)
          replace y0 := (dq.cell (p := ⟨w.heap.size, 0, none⟩) hzr).trans y0
          replace y1 := (dq.cell (p := ⟨w.heap.size, 1, none⟩) hzr).trans y1
          replace c1 := (dq.cell (p := ⟨g, o + k * 2, none⟩) hg).trans c1
          replace c2 := (dq.cell (p := ⟨g, o + k * 2 + 1, none⟩) hg).trans c2
          replace hzr := Nat.lt_of_lt_of_le hzr dq.size
          replace hg := Nat.lt_of_lt_of_le hg dq.size
          clear dq
          go_wp2
          go_quiet (fail)
          obtain ⟨wb, hw2⟩ : ∃ wx, wx = wa.drewN nq := ⟨_, rfl⟩
          have dq := drew_facts hw2
          rw [← hw2]
          clear hw2
          replace hown := own_below hown dq
          replace hb := hb.trans (dq.mono hb.size)
          replace y0 := (dq.cell (p := ⟨w.heap.size, 0, none⟩) hzr).trans y0
          replace y1 := (dq.cell (p := ⟨w.heap.size, 1, none⟩) hzr).trans y1
          replace c1 := (dq.cell (p := ⟨g, o + k * 2, none⟩) hg).trans c1
          replace c2 := (dq.cell (p := ⟨g, o + k * 2 + 1, none⟩) hg).trans c2
          replace hzr := Nat.lt_of_lt_of_le hzr dq.size
          replace hg := Nat.lt_of_lt_of_le hg dq.size
          clear dq
          go_wp2_with (at_builtin; refine list_appN (by rfl) (.tmp 39) (.tmp 44) 25 (by rfl) W wb 62 i0 (.agg #[.string { data := #[] }, .int .i64 0]) 2 24 Tryz.underlying25 hi hz0 hz1 hz2 (by rfl) (by decide) _ (m) _ hown hb [.string t, .int .i64 i] 1 ?_ ?_ ?_ ?_ (by rfl) (by rfl) (by rfl) ?_ ?_; rfl; exact two_one t i; unfold maxLen; omega; omega; exact ⟨rfl, rfl, rfl⟩; intro v3 w3 hown2 hb2)
          clear hown hb
          have hown := hown2
          have hb := hb2
          go_roundw
          case rel => exact ⟨k + 1, m + 1, by omega, by rw [HP.out]; dsimp only; omega, by go_num, by rw [HP.out], by rw [HP.out, cellsE_app]; exact hown, hb⟩
          case measure => simp [intOf]; omega
      | false =>
        by_cases hle : lessB t s = true
        · have hl2 : Op.bytesLess t.toList s.toList = true := hle
          by_cases e : t = s
          · have HP := Lib.hid (HS.out.trans (putStep_c (.inr hle) e))
            have hs := bytes_eq e
            clear e hle
            go_wp2
            go_quiet (fail)
            obtain ⟨wa, hw2⟩ : ∃ wx, wx = wr.drewN nq := ⟨_, rfl⟩
            have dq := drew_facts hw2
            rw [← hw2]
            clear hw2
            replace hown := own_below hown dq
            replace hb := hb.trans (dq.mono hb.size)
            replace y0 := (dq.cell (p := ⟨w.heap.size, 0, none⟩) hzr).trans y0
            replace y1 := (dq.cell (p := ⟨w.heap.size, 1, none⟩) hzr).trans y1
            replace c1 := (dq.cell (p := ⟨g, o + k * 2, none⟩) hg).trans c1
            replace c2 := (dq.cell (p := ⟨g, o + k * 2 + 1, none⟩) hg).trans c2
            replace hzr := Nat.lt_of_lt_of_le hzr dq.size
            replace hg := Nat.lt_of_lt_of_le hg dq.size
            clear dq
            go_wp2
            go_quiet (fail)
            obtain ⟨wb, hw2⟩ : ∃ wx, wx = wa.drewN nq := ⟨_, rfl⟩
            have dq := drew_facts hw2
            rw [← hw2]
            clear hw2
            replace hown := own_below hown dq
            replace hb := hb.trans (dq.mono hb.size)
            replace y0 := (dq.cell (p := ⟨w.heap.size, 0, none⟩) hzr).trans y0
            replace y1 := (dq.cell (p := ⟨w.heap.size, 1, none⟩) hzr).trans y1
            replace c1 := (dq.cell (p := ⟨g, o + k * 2, none⟩) hg).trans c1
            replace c2 := (dq.cell (p := ⟨g, o + k * 2 + 1, none⟩) hg).trans c2
            replace hzr := Nat.lt_of_lt_of_le hzr dq.size
            replace hg := Nat.lt_of_lt_of_le hg dq.size
            clear dq
            go_wp2
            go_roundw
            case rel => exact ⟨k + 1, m, by omega, by rw [HP.out]; dsimp only; omega, by go_num, by rw [HP.out], by rw [HP.out]; exact hown, hb⟩
            case measure => simp [intOf]; omega
          · have HP := Lib.hid (HS.out.trans (putStep_d (.inr hle) e))
            have hs := bytes_ne e
            clear e hle
            go_wp2
            go_quiet (fail)
            obtain ⟨wa, hw2⟩ : ∃ wx, wx = wr.drewN nq := ⟨_, rfl⟩
            have dq := drew_facts hw2
            rw [← hw2]
            clear hw2
            replace hown := own_below hown dq
            replace hb := hb.trans (dq.mono hb.size)
            replace y0 := (dq.cell (p := ⟨w.heap.size, 0, none⟩) hzr).trans y0
            replace y1 := (dq.cell (p := ⟨w.heap.size, 1, none⟩) hzr).trans y1
            replace c1 := (dq.cell (p := ⟨g, o + k * 2, none⟩) hg).trans c1
            replace c2 := (dq.cell (p := ⟨g, o + k * 2 + 1, none⟩) hg).trans c2
            replace hzr := Nat.lt_of_lt_of_le hzr dq.size
            replace hg := Nat.lt_of_lt_of_le hg dq.size
            clear dq
            go_wp2
            go_quiet (fail)
            obtain ⟨wb, hw2⟩ : ∃ wx, wx = wa.drewN nq := ⟨_, rfl⟩
            have dq := drew_facts hw2
            rw [← hw2]
            clear hw2
            replace hown := own_below hown dq
            replace hb := hb.trans (dq.mono hb.size)
            replace y0 := (dq.cell (p := ⟨w.heap.size, 0, none⟩) hzr).trans y0
            replace y1 := (dq.cell (p := ⟨w.heap.size, 1, none⟩) hzr).trans y1
            replace c1 := (dq.cell (p := ⟨g, o + k * 2, none⟩) hg).trans c1
            replace c2 := (dq.cell (p := ⟨g, o + k * 2 + 1, none⟩) hg).trans c2
            replace hzr := Nat.lt_of_lt_of_le hzr dq.size
            replace hg := Nat.lt_of_lt_of_le hg dq.size
            clear dq
            go_wp2_with (at_builtin; refine list_appN (by rfl) (.tmp 39) (.tmp 44) 25 (by rfl) W wb 62 i0 (.agg #[.string { data := #[] }, .int .i64 0]) 2 24 Tryz.underlying25 hi hz0 hz1 hz2 (by rfl) (by decide) _ (m) _ hown hb [.string t, .int .i64 i] 1 ?_ ?_ ?_ ?_ (by rfl) (by rfl) (by rfl) ?_ ?_; rfl; exact two_one t i; unfold maxLen; omega; omega; exact ⟨rfl, rfl, rfl⟩; intro v3 w3 hown2 hb2)
            clear hown hb
            have hown := hown2
            have hb := hb2
            go_roundw
            case rel => exact ⟨k + 1, m + 1, by omega, by rw [HP.out]; dsimp only; omega, by go_num, by rw [HP.out], by rw [HP.out, cellsE_app]; exact hown, hb⟩
            case measure => simp [intOf]; omega
        · have hl0 : lessB t s = false := by simpa using hle
          have hl2 : Op.bytesLess t.toList s.toList = false := hl0
          have C1 := Lib.hid (show W.cell? ⟨g, o + k * 2, none⟩ = some (.string t) from (hb.cell (p := ⟨g, o + k * 2, none⟩) hgW).symm.trans c1)
          have C2 := Lib.hid (show W.cell? ⟨g, o + k * 2 + 1, none⟩ = some (.int .i64 i) from (hb.cell (p := ⟨g, o + k * 2 + 1, none⟩) hgW).symm.trans c2)
          by_cases e : t = s
          · have HP := Lib.hid (HS.out.trans (putStep_a rfl hl0 e))
            have hs := bytes_eq e
            clear e hle hl0
            go_wp2
            go_quiet (fail)
            obtain ⟨wa, hw2⟩ : ∃ wx, wx = wr.drewN nq := ⟨_, rfl⟩
            have dq := drew_facts hw2
            rw [← hw2]
            clear hw2
            replace hown := own_below hown dq
            replace hb := hb.trans (dq.mono hb.size)
            replace y0 := (dq.cell (p := ⟨w.heap.size, 0, none⟩) hzr).trans y0
            replace y1 := (dq.cell (p := ⟨w.heap.size, 1, none⟩) hzr).trans y1
            replace c1 := (dq.cell (p := ⟨g, o + k * 2, none⟩) hg).trans c1
            replace c2 := (dq.cell (p := ⟨g, o + k * 2 + 1, none⟩) hg).trans c2
            replace hzr := Nat.lt_of_lt_of_le hzr dq.size
            replace hg := Nat.lt_of_lt_of_le hg dq.size
            clear dq
            go_wp2_with (at_builtin; refine list_appN (by rfl) (.tmp 27) (.tmp 29) 25 (by rfl) W wa 62 i0 (.agg #[.string { data := #[] }, .int .i64 0]) 2 24 Tryz.underlying25 hi hz0 hz1 hz2 (by rfl) (by decide) _ (m) _ hown hb [.string s, .int .i64 id] 1 ?_ ?_ ?_ ?_ (by rfl) (by rfl) (by rfl) ?_ ?_; rfl; exact two_one s id; unfold maxLen; omega; omega; exact ⟨rfl, rfl, rfl⟩; intro v2 w2 hown2 hb2)
            clear hown hb
            have hown := hown2
            have hb := hb2
            clear hown2 hb2
            have hzr : w.heap.size < w2.heap.size := Nat.lt_of_lt_of_le hz hb.size
            have hg : g < w2.heap.size := Nat.lt_of_lt_of_le hgW hb.size
            have y0 := (hb.cell (p := ⟨w.heap.size, 0, none⟩) hz).trans x0
            have y1 := (hb.cell (p := ⟨w.heap.size, 1, none⟩) hz).trans x1
            have c1 := (hb.cell (p := ⟨g, o + k * 2, none⟩) hgW).trans C1.out
            have c2 := (hb.cell (p := ⟨g, o + k * 2 + 1, none⟩) hgW).trans C2.out
            go_wp2
            go_quiet (fail)
            obtain ⟨wb, hw2⟩ : ∃ wx, wx = w2.drewN nq := ⟨_, rfl⟩
            have dq := drew_facts hw2
            rw [← hw2]
            clear hw2
            replace hown := own_below hown dq
            replace hb := hb.trans (dq.mono hb.size)
            replace y0 := (dq.cell (p := ⟨w.heap.size, 0, none⟩) hzr).trans y0
            replace y1 := (dq.cell (p := ⟨w.heap.size, 1, none⟩) hzr).trans y1
            replace c1 := (dq.cell (p := ⟨g, o + k * 2, none⟩) hg).trans c1
            replace c2 := (dq.cell (p := ⟨g, o + k * 2 + 1, none⟩) hg).trans c2
            replace hzr := Nat.lt_of_lt_of_le hzr dq.size
            replace hg := Nat.lt_of_lt_of_le hg dq.size
            clear dq
            go_wp2
            go_roundw
            case rel => exact ⟨k + 1, m + 1, by omega, by rw [HP.out]; dsimp only; omega, by go_num, by rw [HP.out], by rw [HP.out, cellsE_app]; exact hown, hb⟩
            case measure => simp [intOf]; omega
          · have HP := Lib.hid (HS.out.trans (putStep_b rfl hl0 e))
            have hs := bytes_ne e
            clear e hle hl0
            go_wp2
            go_quiet (fail)
            obtain ⟨wa, hw2⟩ : ∃ wx, wx = wr.drewN nq := ⟨_, rfl⟩
            have dq := drew_facts hw2
            rw [← hw2]
            clear hw2
            replace hown := own_below hown dq
            replace hb := hb.trans (dq.mono hb.size)
            replace y0 := (dq.cell (p := ⟨w.heap.size, 0, none⟩) hzr).trans y0
            replace y1 := (dq.cell (p := ⟨w.heap.size, 1, none⟩) hzr).trans y1
            replace c1 := (dq.cell (p := ⟨g, o + k * 2, none⟩) hg).trans c1
            replace c2 := (dq.cell (p := ⟨g, o + k * 2 + 1, none⟩) hg).trans c2
            replace hzr := Nat.lt_of_lt_of_le hzr dq.size
            replace hg := Nat.lt_of_lt_of_le hg dq.size
            clear dq
            go_wp2_with (at_builtin; refine list_appN (by rfl) (.tmp 27) (.tmp 29) 25 (by rfl) W wa 62 i0 (.agg #[.string { data := #[] }, .int .i64 0]) 2 24 Tryz.underlying25 hi hz0 hz1 hz2 (by rfl) (by decide) _ (m) _ hown hb [.string s, .int .i64 id] 1 ?_ ?_ ?_ ?_ (by rfl) (by rfl) (by rfl) ?_ ?_; rfl; exact two_one s id; unfold maxLen; omega; omega; exact ⟨rfl, rfl, rfl⟩; intro v2 w2 hown2 hb2)
            clear hown hb
            have hown := hown2
            have hb := hb2
            clear hown2 hb2
            have hzr : w.heap.size < w2.heap.size := Nat.lt_of_lt_of_le hz hb.size
            have hg : g < w2.heap.size := Nat.lt_of_lt_of_le hgW hb.size
            have y0 := (hb.cell (p := ⟨w.heap.size, 0, none⟩) hz).trans x0
            have y1 := (hb.cell (p := ⟨w.heap.size, 1, none⟩) hz).trans x1
            have c1 := (hb.cell (p := ⟨g, o + k * 2, none⟩) hgW).trans C1.out
            have c2 := (hb.cell (p := ⟨g, o + k * 2 + 1, none⟩) hgW).trans C2.out
            go_wp2
            go_quiet (fail)
            obtain ⟨wb, hw2⟩ : ∃ wx, wx = w2.drewN nq := ⟨_, rfl⟩
            have dq := drew_facts hw2
            rw [← hw2]
            clear hw2
            replace hown := own_below hown dq
            replace hb := hb.trans (dq.mono hb.size)
            replace y0 := (dq.cell (p := ⟨w.heap.size, 0, none⟩) hzr).trans y0
            replace y1 := (dq.cell (p := ⟨w.heap.size, 1, none⟩) hzr).trans y1
            replace c1 := (dq.cell (p := ⟨g, o + k * 2, none⟩) hg).trans c1
            replace c2 := (dq.cell (p := ⟨g, o + k * 2 + 1, none⟩) hg).trans c2
            replace hzr := Nat.lt_of_lt_of_le hzr dq.size
            replace hg := Nat.lt_of_lt_of_le hg dq.size
            clear dq
            go_wp2_with (at_builtin; refine list_appN (by rfl) (.tmp 39) (.tmp 44) 25 (by rfl) W wb 62 i0 (.agg #[.string { data := #[] }, .int .i64 0]) 2 24 Tryz.underlying25 hi hz0 hz1 hz2 (by rfl) (by decide) _ (m + 1) _ hown hb [.string t, .int .i64 i] 1 ?_ ?_ ?_ ?_ (by rfl) (by rfl) (by rfl) ?_ ?_; rfl; exact two_one t i; unfold maxLen; omega; omega; exact ⟨rfl, rfl, rfl⟩; intro v3 w3 hown2 hb2)
            clear hown hb
            have hown := hown2
            have hb := hb2
            go_roundw
            case rel => exact ⟨k + 1, m + 1 + 1, by omega, by rw [HP.out]; dsimp only; omega, by go_num, by rw [HP.out], by rw [HP.out, cellsE_app, cellsE_app]; exact hown, hb⟩
            case measure => simp [intOf]; omega
    · obtain rfl : k = n := by omega
      have hend : xs.take k = xs := List.take_of_length_le (by rw [HA.out.len]; exact Nat.le_refl _)
      rw [hend] at hst
      cases dn with
      | true =>
        have HP := Lib.hid (show putE xs (s, id) = L by unfold putE; rw [← hst]; rfl)
        clear hst
        go_wp2
        go_ret
        exact ⟨_, rfl, ⟨m, by rw [HP.out]; exact own_base hown (Nat.le_of_lt hz)⟩, hB.out.trans (hb.mono (Nat.le_of_lt hz))⟩
      | false =>
        have HP := Lib.hid (show putE xs (s, id) = L ++ [(s, id)] by unfold putE; rw [← hst]; rfl)
        clear hst
        go_wp2_with (at_builtin; refine list_appN (by rfl) (.tmp 48) (.tmp 50) 25 (by rfl) W wr 62 i0 (.agg #[.string { data := #[] }, .int .i64 0]) 2 24 Tryz.underlying25 hi hz0 hz1 hz2 (by rfl) (by decide) _ (m) _ hown hb [.string s, .int .i64 id] 1 ?_ ?_ ?_ ?_ (by rfl) (by rfl) (by rfl) ?_ ?_; rfl; exact two_one s id; unfold maxLen; omega; omega; exact ⟨rfl, rfl, rfl⟩; intro v3 w3 hown2 hb2)
        go_ret
        exact ⟨_, rfl, ⟨m + 1, by rw [HP.out, cellsE_app]; exact own_base hown2 (Nat.le_of_lt hz)⟩, hB.out.trans (hb2.mono (Nat.le_of_lt hz))⟩

end Go.Proofs.YtnhcianahmfdhaaGreatDoor.deed
