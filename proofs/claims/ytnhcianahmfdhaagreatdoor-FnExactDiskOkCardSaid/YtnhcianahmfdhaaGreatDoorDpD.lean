/-
  Contract of spec.StepsDone.
-/
import Derived.Test.YtnhcianahmfdhaaGreatDoorDpC
import Derived.Test.YtnhcianahmfdhaaGreatDoorCopy
namespace Go.Proofs.YtnhcianahmfdhaaGreatDoor.deed
open Go.RowKit
open kit strs recs disk kd

theorem said_ok {s : ByteArray} (h : (saidOf s).ok = true) : 0 < s.size ∧ (byteAt s 0 = 43 ∨ byteAt s 0 = 45 ∨ byteAt s 0 = 62) := by
  unfold saidOf at h
  split at h
  · cases h
  · rename_i h1
    refine ⟨by omega, ?_⟩
    split at h
    · rename_i h2; exact .inr (.inl h2)
    · split at h
      · rename_i h3; omega
      · cases h
theorem said_sizes (s : ByteArray) : (saidOf s).name.size ≤ s.size ∧ (saidOf s).to.size ≤ s.size := by
  unfold saidOf
  split
  · exact ⟨Nat.zero_le _, Nat.zero_le _⟩
  · split
    · refine ⟨?_, Nat.zero_le _⟩
      show (s.extract 1 s.size).size ≤ s.size
      rw [ByteArray.size_extract]; omega
    · split
      · split
        · exact ⟨Nat.zero_le _, Nat.zero_le _⟩
        · rename_i i _
          have e1 : (s.extract 1 i).size ≤ s.size := by rw [ByteArray.size_extract]; omega
          have e2 : (s.extract (i + 1) s.size).size ≤ s.size := by rw [ByteArray.size_extract]; omega
          dsimp only
          split
          · exact ⟨e1, e2⟩
          · exact ⟨e1, Nat.zero_le _⟩
      · exact ⟨Nat.zero_le _, Nat.zero_le _⟩
theorem stepsTo_none {l : List Ent} {xs : List ByteArray} {k n : Nat} (h : stepsTo l (xs.take k) = none) (hk : k ≤ n) : stepsTo l (xs.take n) = none := by
  have e : xs.take n = xs.take k ++ (xs.take n).drop k := by
    have h1 : (xs.take n).take k = xs.take k := by rw [List.take_take, Nat.min_eq_left hk]
    rw [← h1, List.take_append_drop]
  rw [e, stepsTo_app, h]
  rfl
/-- the entries behind the steps, and whether all of them could be taken -/
def StepsR (r : Option (List Ent)) (w : World) (e : Ending) (w' : World) : Prop := ∃ v, e = .returned (.tuple #[v, .bool r.isSome]) ∧ OwnE w.heap.size w' v (r.getD []) ∧ Below w.heap.size w w'
theorem step_bad {l : List Ent} {s : ByteArray} (h : (saidOf s).ok = false ∨ nam.nok (saidOf s).name = false) : doStep l s = none := by unfold doStep; rw [if_pos h]
theorem step_plus {l : List Ent} {s : ByteArray} (h : ¬ ((saidOf s).ok = false ∨ nam.nok (saidOf s).name = false)) (h1 : byteAt s 0 = 43) : doStep l s = some (putE l ((saidOf s).name, (saidOf s).id)) := by unfold doStep; rw [if_neg h, if_pos h1]
theorem step_gone {l : List Ent} {s : ByteArray} (h1 : ¬ byteAt s 0 = 43) (h2 : hasE l (saidOf s).name = false) : doStep l s = none := by
  unfold doStep
  by_cases h : (saidOf s).ok = false ∨ nam.nok (saidOf s).name = false
  · rw [if_pos h]
  · rw [if_neg h, if_neg h1, if_pos h2]
theorem step_move {l : List Ent} {s : ByteArray} (h : ¬ ((saidOf s).ok = false ∨ nam.nok (saidOf s).name = false)) (h1 : byteAt s 0 = 62) (h2 : hasE l (saidOf s).name = true) : doStep l s = some (putE (dropE l (saidOf s).name) ((saidOf s).to, idE l (saidOf s).name)) := by
  unfold doStep
  rw [if_neg h, if_neg (show ¬ byteAt s 0 = 43 by omega), if_neg (show ¬ hasE l (saidOf s).name = false by rw [h2]; simp), if_pos h1]
theorem step_minus {l : List Ent} {s : ByteArray} (h : ¬ ((saidOf s).ok = false ∨ nam.nok (saidOf s).name = false)) (h1 : byteAt s 0 = 45) (h2 : hasE l (saidOf s).name = true) : doStep l s = some (dropE l (saidOf s).name) := by
  unfold doStep
  rw [if_neg h, if_neg (show ¬ byteAt s 0 = 43 by omega), if_neg (show ¬ hasE l (saidOf s).name = false by rw [h2]; simp), if_neg (show ¬ byteAt s 0 = 62 by omega)]
theorem strAt {w : World} {b : Option Addr} {m k : Nat} {ss : List ByteArray} (h : strs.At w b m ss) (hk : k < m) : ∃ s g o, ss[k]? = some s ∧ b = some ⟨g, o, none⟩ ∧ g < w.heap.size ∧ w.cell? ⟨g, o + k, none⟩ = some (.string s) := by
  have hx : ss[k]? = some (ss[k]'(by rw [h.1]; exact hk)) := List.getElem?_eq_getElem _
  obtain ⟨g, o, h1, h2, h3⟩ := h.2.resolve_left (by omega)
  exact ⟨_, g, o, hx, h1, h2, h3 k _ hx⟩

set_option maxHeartbeats 8000000 in
set_option maxRecDepth 100000 in
theorem specSteps (a b : Option Addr) (n c m e : Nat) (xs : List Ent) (ss : List ByteArray) (num : Int) (w : World) (hn : n ≤ 2000000) (hm : m ≤ 2000000) (hS : ∀ s ∈ ss, s.size ≤ 1000000000) (ha : AtE w a n xs) (hb : strs.At w b m ss) :
    Calls Tryz.prog 30 #[.slice a n c, .slice b m e, .int .i64 num] w (StepsR (stepsDone xs ss num) w) := by
  obtain ⟨i0, hi, hz0, hz1, hz2⟩ := info_parts Tryz.infoEnt
  have HA := Lib.hid ha
  have HB := Lib.hid hb
  have HS := Lib.hid hS
  clear ha hb hS
  obtain ⟨N, hN⟩ : ∃ N, N = clampN num m := ⟨_, rfl⟩
  have hNm : N ≤ m := by rw [hN]; exact clampN_le _ _
  have HR := Lib.hid (show stepsDone xs ss num = stepsTo xs (ss.take N) by unfold stepsDone; rw [HB.out.1, hN])
  have HN := Lib.hid hN
  clear hN
  have own0 : (w.alloc (.cells #[] 62)).ownsRow w.heap.size 62 2 (.slice (some ⟨w.heap.size, 0, none⟩) 0 0) 0 [] := World.ownsRow_made _ _ _ (Nat.le_refl _) (by decide) rfl
  have bo0 : w.heap.size ≤ (w.alloc (.cells #[] 62)).heap.size := by simp
  have C0 := Lib.hid (show Cells (w.alloc (.cells #[] 62)) a n 2 (cellsE xs) from HA.out.below ((Below.refl _ _).alloc (Nat.le_refl _) _))
  have bn0 : 0 + n ≤ maxLen := by unfold maxLen; omega
  have bm0 : (0 + n) * 24 ≤ 140737488355328 := by omega
  go_enter Tryz.func30, Tryz.ntmps30
  go_wp2_with (at_builtin; refine list_copy (by rfl) (.tmp 14) (.tmp 15) 25 (by rfl) w.heap.size 62 i0 (.agg #[.string { data := #[] }, .int .i64 0]) 2 24 Tryz.underlying25 hi hz0 hz1 hz2 (by rfl) (by decide) _ 0 [] own0 bo0 a n c (cellsE xs) C0.out (oneE xs) bn0 bm0 (by rfl) (by rfl) ?_; intro v1 w1 hown1 hg1)
  have hb1 : Below w.heap.size w w1 := ((Below.refl w.heap.size w).alloc (Nat.le_refl _) _).grown hg1 bo0 (fun k hk => by simp [Value.ownBlock] at hk; omega)
  rw [List.nil_append, Nat.zero_add] at hown1
  clear hg1 own0 bo0 C0 bn0 bm0
  refine (specBrought num m _).mono ?_
  rintro e w' ⟨he, rfl⟩
  rw [← HN.out] at he
  subst he
  go_wp2
  go_loopw [8, 9] (fun v i wr => ∃ (k q : Nat) (l : List Ent), k ≤ N ∧ q ≤ n + k ∧ i = .int .i64 k ∧ Hid (stepsTo xs (ss.take k) = some l) ∧ wr.ownsRow w.heap.size 62 2 v q (cellsE l) ∧ Below w.heap.size w wr) (fun _ i _ => N - (intOf i).toNat)
  case atStart => exact ⟨0, n, xs, Nat.zero_le _, Nat.le_refl _, rfl, Lib.hid rfl, hown1, hb1⟩
  case round =>
    clear hown1 hb1
    obtain ⟨k, q, l, hk, hq, rfl, hf, hown, hbl⟩ := hrel
    by_cases hlt : k < N
    · obtain ⟨s, g, o, hx, rfl, hg, c1⟩ := strAt (HB.out.below hbl) (show k < m by omega)
      have hss := HS.out s (List.mem_of_getElem? hx)
      have HT := Lib.hid (show stepsTo xs (ss.take (k + 1)) = doStep l s by rw [stepsTo_snoc hx, hf.out]; rfl)
      have HS2 := Lib.hid (said_sizes s)
      have j0 : (0 : Int) ≤ (k : Int) := by omega
      have j1 : (k : Int) < (m : Int) := by omega
      have j2 : (k : Int) < (N : Int) := by omega
      obtain ⟨al, cl, rfl, _, _⟩ := own_shape hown
      have HO := Lib.hid hown
      clear hx hown
      go_wp2_with (fail)
      refine (specStep s _ hss).mono ?_
      rintro e w2 ⟨rfl, hb2⟩
      have hown2 := own_below HO.out hb2
      have hAl := Lib.hid (show AtE w2 al q l from own_cells hown2)
      have d1 := (hb2.cell (p := ⟨g, o + k, none⟩) hg).trans c1
      have hB2 := hbl.trans (hb2.mono hbl.size)
      have HO2 := Lib.hid hown2
      obtain ⟨sd, hsd⟩ : ∃ sd, sd = saidOf s := ⟨_, rfl⟩
      obtain ⟨nm, to, id, ok⟩ := sd
      have hnmz : nm.size ≤ 9223372036854775807 := by have := HS2.out.1; rw [← hsd] at this; dsimp only at this; omega
      have hV := Lib.hid (show saidV (saidOf s) = .tuple #[.string nm, .string to, .int .i64 id, .bool ok] by rw [← hsd]; rfl)
      have HSD := Lib.hid hsd
      have hb2s := hb2.size
      clear hsd hown2 hb2 c1 HO
      rw [hV.out]
      cases ok with
      | false =>
        have HZ := Lib.hid (show stepsDone xs ss num = none by rw [HR.out]; exact stepsTo_none (HT.out.trans (step_bad (.inl (by rw [← HSD.out])))) (by omega))
        go_wp2
        exact bodyPost_ret (v := .tuple #[.slice (some ⟨w2.heap.size, 0, none⟩) 0 0, .bool false]) (by simp [results, Tryz.results30, go_sem]) rfl ⟨_, by rw [HZ.out]; rfl, by rw [HZ.out]; exact ⟨0, own_base (World.ownsRow_made _ _ _ (Nat.le_refl _) (by decide) rfl) hB2.size⟩, hB2.alloc hB2.size _⟩
      | true =>
        obtain ⟨hs0, hc3⟩ := said_ok (s := s) (by rw [← HSD.out])
        obtain ⟨c, hc⟩ : ∃ c, byteAt s 0 = c := ⟨_, rfl⟩
        have hb0 := byte_at hs0 hc
        rw [hc] at hc3
        have HC := Lib.hid hc
        clear hc
        obtain ⟨okn, hok⟩ : ∃ okn, nam.nok nm = okn := ⟨_, rfl⟩
        have CQ := Lib.hid (fun w => ((nam.specOk_any nm w hnmz).mono (fun e w' (h : e = Ending.returned (.bool (nam.nok nm)) ∧ w = w') => (show e = Ending.returned (.bool okn) ∧ w = w' from ⟨by rw [h.1, hok], h.2⟩))))
        cases okn with
        | false =>
          have HZ := Lib.hid (show stepsDone xs ss num = none by rw [HR.out]; exact stepsTo_none (HT.out.trans (step_bad (.inr (by rw [← HSD.out]; exact hok)))) (by omega))
          clear hok hc3
          go_wp2_with (go_at_call 58; refine (CQ.out _).mono ?_; rintro e w3 ⟨rfl, rfl⟩)
          exact bodyPost_ret (v := .tuple #[.slice (some ⟨w2.heap.size, 0, none⟩) 0 0, .bool false]) (by simp [results, Tryz.results30, go_sem]) rfl ⟨_, by rw [HZ.out]; rfl, by rw [HZ.out]; exact ⟨0, own_base (World.ownsRow_made _ _ _ (Nat.le_refl _) (by decide) rfl) hB2.size⟩, hB2.alloc hB2.size _⟩
        | true =>
          have HG := Lib.hid (show ¬ ((saidOf s).ok = false ∨ nam.nok (saidOf s).name = false) by rw [← HSD.out]; dsimp only; rw [hok]; simp)
          clear hok
          have hq2 : q ≤ 10000000 := by omega
          have hqm : q ≤ maxLen := by unfold maxLen; omega
          have hgl : g < w2.heap.size := Nat.lt_of_lt_of_le hg hb2s
          rcases hc3 with h | h | h
          · rw [h] at hb0
            have HD := Lib.hid (show doStep l s = some (putE l (nm, id)) by rw [step_plus HG.out (HC.out.trans h), ← HSD.out])
            have HL := Lib.hid (putE_length l (nm, id))
            clear h
            go_wp2_with (first | (go_at_call 58; refine (CQ.out _).mono ?_; rintro e w3 ⟨rfl, rfl⟩) | (go_at_call 62; refine (specPut al cl q l nm id _ hq2 hAl.out).mono ?_; rintro e w4 ⟨v4, rfl, ho4, hb4⟩))
            obtain ⟨q4, ho4⟩ := ho4
            have hq4 : q4 ≤ q + 1 := by have h1 := ho4.1; have h2 := hAl.out.len; have h3 := HL.out; rw [cellsE_len] at h1; omega
            go_roundw
            case rel => exact ⟨k + 1, q4, _, by omega, by omega, by go_num, Lib.hid (HT.out.trans HD.out), own_base ho4 hB2.size, hB2.trans (hb4.mono hB2.size)⟩
            case measure => simp [intOf]; omega
          · rw [h] at hb0
            obtain ⟨hs, hhs⟩ : ∃ hs, hasE l nm = hs := ⟨_, rfl⟩
            have CH := Lib.hid (fun (w : World) (h : AtE w al q l) => ((specHas al cl q l nm w hqm h).mono (fun e w' (h : e = Ending.returned (.bool (hasE l nm)) ∧ w = w') => (show e = Ending.returned (.bool hs) ∧ w = w' from ⟨by rw [h.1, hhs], h.2⟩))))
            cases hs with
            | false =>
              have HZ := Lib.hid (show stepsDone xs ss num = none by rw [HR.out]; exact stepsTo_none (HT.out.trans (step_gone (by rw [HC.out]; omega) (by rw [← HSD.out]; exact hhs))) (by omega))
              clear h hhs
              go_wp2_with (first | (go_at_call 58; refine (CQ.out _).mono ?_; rintro e w3 ⟨rfl, rfl⟩) | (go_at_call 59; refine (CH.out _ hAl.out).mono ?_; rintro e w3 ⟨rfl, rfl⟩))
              exact bodyPost_ret (v := .tuple #[.slice (some ⟨w2.heap.size, 0, none⟩) 0 0, .bool false]) (by simp [results, Tryz.results30, go_sem]) rfl ⟨_, by rw [HZ.out]; rfl, by rw [HZ.out]; exact ⟨0, own_base (World.ownsRow_made _ _ _ (Nat.le_refl _) (by decide) rfl) hB2.size⟩, hB2.alloc hB2.size _⟩
            | true =>
              have HX := Lib.hid (HC.out.trans h)
              have HD := Lib.hid (show doStep l s = some (dropE l nm) by rw [step_minus HG.out HX.out (by rw [← HSD.out]; exact hhs), ← HSD.out])
              have HL := Lib.hid (dropE_length l nm)
              clear h hhs
              go_wp2_with (first | (go_at_call 58; refine (CQ.out _).mono ?_; rintro e w3 ⟨rfl, rfl⟩) | (go_at_call 59; refine (CH.out _ hAl.out).mono ?_; rintro e w3 ⟨rfl, rfl⟩) | (go_at_call 61; refine (specDrop al cl q l nm _ hq2 hAl.out).mono ?_; rintro e w4 ⟨v4, rfl, ho4, hb4⟩; have d2 := (hb4.cell (p := ⟨g, o + k, none⟩) hgl).trans d1))
              obtain ⟨q4, ho4⟩ := ho4
              have hq4 : q4 ≤ q := by have h1 := ho4.1; have h2 := hAl.out.len; have h3 := HL.out; rw [cellsE_len] at h1; omega
              go_roundw
              case rel => exact ⟨k + 1, q4, _, by omega, by omega, by go_num, Lib.hid (HT.out.trans HD.out), own_base ho4 hB2.size, hB2.trans (hb4.mono hB2.size)⟩
              case measure => simp [intOf]; omega
          · rw [h] at hb0
            obtain ⟨hs, hhs⟩ : ∃ hs, hasE l nm = hs := ⟨_, rfl⟩
            have CH := Lib.hid (fun (w : World) (h : AtE w al q l) => ((specHas al cl q l nm w hqm h).mono (fun e w' (h : e = Ending.returned (.bool (hasE l nm)) ∧ w = w') => (show e = Ending.returned (.bool hs) ∧ w = w' from ⟨by rw [h.1, hhs], h.2⟩))))
            cases hs with
            | false =>
              have HZ := Lib.hid (show stepsDone xs ss num = none by rw [HR.out]; exact stepsTo_none (HT.out.trans (step_gone (by rw [HC.out]; omega) (by rw [← HSD.out]; exact hhs))) (by omega))
              clear h hhs
              go_wp2_with (first | (go_at_call 58; refine (CQ.out _).mono ?_; rintro e w3 ⟨rfl, rfl⟩) | (go_at_call 59; refine (CH.out _ hAl.out).mono ?_; rintro e w3 ⟨rfl, rfl⟩))
              exact bodyPost_ret (v := .tuple #[.slice (some ⟨w2.heap.size, 0, none⟩) 0 0, .bool false]) (by simp [results, Tryz.results30, go_sem]) rfl ⟨_, by rw [HZ.out]; rfl, by rw [HZ.out]; exact ⟨0, own_base (World.ownsRow_made _ _ _ (Nat.le_refl _) (by decide) rfl) hB2.size⟩, hB2.alloc hB2.size _⟩
            | true =>
              have HX := Lib.hid (HC.out.trans h)
              have HD := Lib.hid (show doStep l s = some (putE (dropE l nm) (to, idE l nm)) by rw [step_move HG.out HX.out (by rw [← HSD.out]; exact hhs), ← HSD.out])
              have HL := Lib.hid (dropE_length l nm)
              have HL2 := Lib.hid (putE_length (dropE l nm) (to, idE l nm))
              clear h hhs
              go_wp2_with (first | (go_at_call 58; refine (CQ.out _).mono ?_; rintro e w3 ⟨rfl, rfl⟩) | (go_at_call 59; refine (CH.out _ hAl.out).mono ?_; rintro e w3 ⟨rfl, rfl⟩) | (go_at_call 60; refine (specEntryAt al cl q l nm _ hqm hAl.out).mono ?_; rintro e w3 ⟨rfl, rfl⟩) | (go_at_call 61; refine (specDrop al cl q l nm _ hq2 hAl.out).mono ?_; rintro e w4 ⟨v4, rfl, ho4, hb4⟩; have d2 := (hb4.cell (p := ⟨g, o + k, none⟩) hgl).trans d1; obtain ⟨q4, ho4⟩ := ho4; obtain ⟨a4, c4, rfl, _, _⟩ := own_shape ho4; have hA4 := Lib.hid (own_cells ho4); have hq4 : q4 ≤ q := (by have h1 := ho4.1; have h2 := hAl.out.len; have h3 := HL.out; rw [cellsE_len] at h1; omega); have hq5 : q4 ≤ 10000000 := (by omega)) | (go_at_call 62; refine (specPut a4 c4 q4 (dropE l nm) to (idE l nm) _ hq5 hA4.out).mono ?_; rintro e w5 ⟨v5, rfl, ho5, hb5⟩))
              obtain ⟨q6, ho6⟩ := ho5
              have hq6 : q6 ≤ q + 1 := by have h1 := ho6.1; have h2 := hAl.out.len; have h3 := HL.out; have h4 := HL2.out; rw [cellsE_len] at h1; omega
              go_roundw
              case rel => exact ⟨k + 1, q6, _, by omega, by omega, by go_num, Lib.hid (HT.out.trans HD.out), own_base ho6 (Nat.le_trans hB2.size hb4.size), (hB2.trans (hb4.mono hB2.size)).trans (hb5.mono (Nat.le_trans hB2.size hb4.size))⟩
              case measure => simp [intOf]; omega
    · obtain rfl : k = N := by omega
      have HZ := Lib.hid (show stepsDone xs ss num = some l by rw [HR.out]; exact hf.out)
      obtain ⟨al, cl, rfl, _, _⟩ := own_shape hown
      go_wp2
      exact bodyPost_ret (v := .tuple #[.slice al q cl, .bool true]) (by simp [results, Tryz.results30, go_sem]) rfl ⟨_, by rw [HZ.out]; rfl, by rw [HZ.out]; exact ⟨q, hown⟩, hbl⟩

end Go.Proofs.YtnhcianahmfdhaaGreatDoor.deed
