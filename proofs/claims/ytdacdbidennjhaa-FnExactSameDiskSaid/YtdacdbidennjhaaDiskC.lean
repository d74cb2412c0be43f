/-
  Disks: equality, copies, how much.
-/
import Derived.Test.YtdacdbidennjhaaDiskB
namespace Go.Proofs.Ytdacdbidennjhaa.disk
open Go.RowKit
open kit strs recs

set_option maxHeartbeats 400000 in
theorem eqStr_at (a b : Option Addr) (c d n : Nat) (xs : List ByteArray) (w : World) (hm : n ≤ maxLen) (ha : At w a n xs) (hb : At w b n xs) :
    Calls Try.prog 21 #[.slice a n c, .slice b n d] w fun e w' => e = .returned (.bool true) ∧ Below w.heap.size w w' := by
  unfold maxLen at hm
  have HA := Lib.hid ha
  have HB := Lib.hid hb
  clear ha hb
  go_enter Try.func21, Try.ntmps21
  go_wp2
  go_loopw [5] (fun i wr => ∃ k : Nat, k ≤ n ∧ i = .int .i64 k ∧ Below w.heap.size w wr) (fun i _ => n - (intOf i).toNat)
  case atStart => exact ⟨0, Nat.zero_le _, rfl, Below.refl _ _⟩
  case round =>
    obtain ⟨k, hk, rfl, hb⟩ := hrel
    by_cases hlt : k < n
    · obtain ⟨x, hxk⟩ : ∃ x, xs[k]? = some x := ⟨_, List.getElem?_eq_getElem (by rw [HA.out.1]; exact hlt)⟩
      obtain ⟨g, o, rfl, hg, hx0⟩ := (HA.out.below hb).2.resolve_left (by omega)
      obtain ⟨h, p, rfl, hh, hy0⟩ := (HB.out.below hb).2.resolve_left (by omega)
      have c1 := hx0 k x hxk
      have c2 := hy0 k x hxk
      have i0 : (0 : Int) ≤ (k : Int) := by omega
      have i1 : (k : Int) < (n : Int) := by omega
      clear hx0 hy0 hxk
      go_wp2
      go_quiet (fail)
      go_wp2
      go_roundw
      case rel => exact ⟨k + 1, by omega, by go_num, below_drewN hb _⟩
      case measure => simp [intOf]; omega
    · go_wp2
      go_ret
      exact ⟨rfl, hb⟩

set_option maxHeartbeats 400000 in
theorem eqDisk_same {u v : Value} {d : D} (w : World) (hd : marksUp 1 d ≤ 1000000000) (hu : IsDisk w u d) (hv : IsDisk w v d) :
    Calls Try.prog 8 #[u, v] w fun e w' => e = .returned (.bool true) ∧ Below w.heap.size w w' := by
  obtain ⟨aN, aE, aO, aS, nN, cN, nE, cE, nO, cO, nS, cS, rfl, hN, hE, hO, hS⟩ := hu
  obtain ⟨aN', aE', aO', aS', nN', cN', nE', cE', nO', cO', nS', cS', rfl, hN', hE', hO', hS'⟩ := hv
  obtain rfl : nN = nN' := by rw [← hN.len, ← hN'.len]
  obtain rfl : nE = nE' := by rw [← hE.len, ← hE'.len]
  obtain rfl : nO = nO' := by rw [← hO.len, ← hO'.len]
  obtain rfl : nS = nS' := by rw [← hS.1, ← hS'.1]
  unfold marksUp at hd
  rw [hN.len, hE.len, hO.len, hS.1] at hd
  have m1 : nN ≤ maxLen := by unfold maxLen; omega
  have m2 : nE ≤ maxLen := by unfold maxLen; omega
  have m3 : nO ≤ maxLen := by unfold maxLen; omega
  have m4 : nS ≤ maxLen := by unfold maxLen; omega
  clear hd
  have hWB : Below w.heap.size w ((w.alloc (.cells #[.slice aN nN cN, .slice aE nE cE, .slice aO nO cO, .slice aS nS cS, .int .i64 d.room, .int .i64 d.next] 32)).alloc (.cells #[.slice aN' nN cN', .slice aE' nE cE', .slice aO' nO cO', .slice aS' nS cS', .int .i64 d.room, .int .i64 d.next] 32)) := ((Below.refl _ _).alloc (Nat.le_refl _) _).alloc (by simp) _
  have A0 := Lib.hid (And.intro (hN.below hWB) (And.intro (hE.below hWB) (And.intro (hO.below hWB) (hS.below hWB))))
  have B0 := Lib.hid (And.intro (hN'.below hWB) (And.intro (hE'.below hWB) (And.intro (hO'.below hWB) (hS'.below hWB))))
  clear hN hE hO hS hN' hE' hO' hS' hWB
  go_enter Try.func8, Try.ntmps8
  go_wp2_with (fail)
  refine (eqNodeS_same _ _ _ _ _ _ _ m1 A0.out.1 B0.out.1).mono ?_
  rintro e w1 ⟨rfl, hb1⟩
  have A1 := Lib.hid (And.intro (A0.out.2.1.below hb1) (And.intro (A0.out.2.2.1.below hb1) (A0.out.2.2.2.below hb1)))
  have B1 := Lib.hid (And.intro (B0.out.2.1.below hb1) (And.intro (B0.out.2.2.1.below hb1) (B0.out.2.2.2.below hb1)))
  obtain ⟨hc1, hf1⟩ := bcell hb1
  have z1 : w.heap.size + 1 < w1.heap.size := by have := hb1.size; simp at this; omega
  have y1 : w.heap.size < w1.heap.size := by omega
  go_wp2_with (fail)
  refine (eqEntryS_same _ _ _ _ _ _ _ m2 A1.out.1 B1.out.1).mono ?_
  rintro e w2 ⟨rfl, hb2⟩
  have A2 := Lib.hid (And.intro (A1.out.2.1.below hb2) (A1.out.2.2.below hb2))
  have B2 := Lib.hid (And.intro (B1.out.2.1.below hb2) (B1.out.2.2.below hb2))
  obtain ⟨hc2, hf2⟩ := bcell hb2
  have z2 : w.heap.size + 1 < w2.heap.size := Nat.lt_of_lt_of_le z1 hb2.size
  have y2 : w.heap.size < w2.heap.size := by omega
  go_wp2_with (fail)
  refine (eqEntryS_same _ _ _ _ _ _ _ m3 A2.out.1 B2.out.1).mono ?_
  rintro e w3 ⟨rfl, hb3⟩
  have A3 := Lib.hid (A2.out.2.below hb3)
  have B3 := Lib.hid (B2.out.2.below hb3)
  obtain ⟨hc3, hf3⟩ := bcell hb3
  have z3 : w.heap.size + 1 < w3.heap.size := Nat.lt_of_lt_of_le z2 hb3.size
  have y3 : w.heap.size < w3.heap.size := by omega
  go_wp2_with (fail)
  refine (eqStr_at _ _ _ _ _ _ _ m4 A3.out B3.out).mono ?_
  rintro e w4 ⟨rfl, hb4⟩
  obtain ⟨hc4, hf4⟩ := bcell hb4
  go_wp2
  go_ret
  exact ⟨rfl, ((((((Below.refl _ _).alloc (Nat.le_refl _) _).alloc (by simp) _).trans (hb1.mono (by simp; omega))).trans (hb2.mono (by omega))).trans (hb3.mono (by omega))).trans (hb4.mono (by omega))⟩

/-! ### a copy -/
theorem own_setOther {w : World} {B size : Nat} {e : TypeId} {v : Value} {n : Nat} {xs : List Value} (h : w.ownsRow B e size v n xs) (g j : Nat) (u : Value) (hg : v.ownBlock ≠ some g) : (w.setCell ⟨g, j, none⟩ u).ownsRow B e size v n xs := by
  refine ⟨h.1, ?_⟩
  rcases h.2 with hn | ⟨g', cap, cur, rfl, hB, hh, rest⟩
  · exact .inl hn
  · exact .inr ⟨g', cap, cur, rfl, hB, by rw [heap_setCell_other _ _ _ _ (fun e => hg (by rw [e]; rfl))]; exact hh, rest⟩
theorem off_slices {g h : Nat} {n c m d : Nat} (hne : g ≠ h) : Off (.slice (some ⟨g, 0, none⟩) n c) (.slice (some ⟨h, 0, none⟩) m d) := fun k hk e => by
  simp only [Value.ownBlock, Option.some.injEq] at hk e
  omega

set_option maxHeartbeats 400000 in
theorem toDisk_any {v : Value} {d : D} (w : World) (hb : bulk d ≤ 1048576) (hv : IsDisk w v d) :
    Calls Try.prog 6 #[v] w fun e w' => ∃ u, e = .returned u ∧ OwnDisk w.heap.size w' u d ∧ Below w.heap.size w w' := by
  obtain ⟨aN, aE, aO, aS, nN, cN, nE, cE, nO, cO, nS, cS, rfl, hN, hE, hO, hS⟩ := hv
  unfold bulk bulkN bulkE at hb
  simp only [List.length_map] at hb
  rw [hN.len, hE.len, hO.len, hS.1] at hb
  have m1 : nN ≤ 1048576 := by omega
  have m2 : nE ≤ 1048576 := by omega
  have m3 : nO ≤ 1048576 := by omega
  have m4 : nS ≤ 1048576 := by omega
  clear hb
  have hN := Lib.hid hN
  have hE := Lib.hid hE
  have hO := Lib.hid hO
  have hS := Lib.hid hS
  go_enter Try.func6, Try.ntmps6
  go_wp2_with (fail)
  have q0 : Below w.heap.size w (((w.alloc (.cells #[.slice aN nN cN, .slice aE nE cE, .slice aO nO cO, .slice aS nS cS, .int .i64 d.room, .int .i64 d.next] 26)).alloc (.cells #[.slice none 0 0, .slice none 0 0, .slice none 0 0, .slice none 0 0, .int .i64 0, .int .i64 0] 32)).alloc (.cells #[.slice none 0 0, .slice none 0 0, .slice none 0 0, .slice none 0 0, .int .i64 0, .int .i64 0] 32)) := (((Below.refl _ _).alloc (Nat.le_refl _) _).alloc (by simp) _).alloc (by simp; omega) _
  refine (toNodeS_any _ _ _ _ _ m1 (hN.out.below q0)).mono ?_
  rintro e w1 ⟨rfl, hr1, hb1⟩
  have Q1 := Lib.hid (q0.trans (hb1.mono q0.size))
  have R1 := Lib.hid (own_base (show w1.ownsRow (w.heap.size + 1 + 1 + 1) 40 3 (.slice (some ⟨w.heap.size + 1 + 1 + 1, 0, none⟩) nN nN) nN (cellsN d.nodes) by simpa using hr1) (show w.heap.size ≤ w.heap.size + 1 + 1 + 1 by omega))
  have z1 : w.heap.size + 3 < w1.heap.size := by have := (own_block_ge hr1 _ rfl).2; simp at this; omega
  obtain ⟨hc1, hf1⟩ := bcell hb1
  clear q0 hr1 hb1
  go_wp2_with (fail)
  have q1 : Below w.heap.size w (w1.setCell ⟨w.heap.size + 1 + 1, 0, none⟩ (.slice (some ⟨w.heap.size + 1 + 1 + 1, 0, none⟩) nN nN)) := Q1.out.setCell (by simp; omega) _
  refine (toEntryS_any _ _ _ _ _ m2 (hE.out.below q1)).mono ?_
  rintro e w2 ⟨rfl, hr2, hb2⟩
  have Q2 := Lib.hid (q1.trans (hb2.mono q1.size))
  have R2 := Lib.hid (own_base hr2 q1.size)
  have R1 := Lib.hid (own_below (own_setOther R1.out (w.heap.size + 1 + 1) 0 (.slice (some ⟨w.heap.size + 1 + 1 + 1, 0, none⟩) nN nN) (by simp [Value.ownBlock])) hb2)
  obtain ⟨g2, eg2⟩ : ∃ g, g = (w1.setCell ⟨w.heap.size + 1 + 1, 0, none⟩ (.slice (some ⟨w.heap.size + 1 + 1 + 1, 0, none⟩) nN nN)).heap.size := ⟨_, rfl⟩
  have hg2 : w.heap.size + 3 < g2 ∧ g2 < w2.heap.size := ⟨by rw [eg2]; simpa using z1, by rw [eg2]; exact (own_block_ge hr2 _ rfl).2⟩
  obtain ⟨hc2, hf2⟩ := bcell hb2
  rw [← eg2] at R2 hc2 hf2 ⊢
  clear q1 hr2 hb2 eg2
  have y1 : w.heap.size < g2 := by omega
  have y2 : w.heap.size + 1 < g2 := by omega
  have y3 : w.heap.size + 1 + 1 < g2 := by omega
  go_wp2_with (fail)
  have q2 : Below w.heap.size w (w2.setCell ⟨w.heap.size + 1 + 1, 1, none⟩ (.slice (some ⟨g2, 0, none⟩) nE nE)) := Q2.out.setCell (by simp; omega) _
  refine (toEntryS_any _ _ _ _ _ m3 (hO.out.below q2)).mono ?_
  rintro e w3 ⟨rfl, hr3, hb3⟩
  have Q3 := Lib.hid (q2.trans (hb3.mono q2.size))
  have R3 := Lib.hid (own_base hr3 q2.size)
  have R1 := Lib.hid (own_below (own_setOther R1.out (w.heap.size + 1 + 1) 1 (.slice (some ⟨g2, 0, none⟩) nE nE) (by simp [Value.ownBlock])) hb3)
  have R2 := Lib.hid (own_below (own_setOther R2.out (w.heap.size + 1 + 1) 1 (.slice (some ⟨g2, 0, none⟩) nE nE) (by simp [Value.ownBlock]; omega)) hb3)
  obtain ⟨g3, eg3⟩ : ∃ g, g = (w2.setCell ⟨w.heap.size + 1 + 1, 1, none⟩ (.slice (some ⟨g2, 0, none⟩) nE nE)).heap.size := ⟨_, rfl⟩
  have hg3 : g2 < g3 ∧ g3 < w3.heap.size := ⟨by rw [eg3]; simpa using hg2.2, by rw [eg3]; exact (own_block_ge hr3 _ rfl).2⟩
  obtain ⟨hc3, hf3⟩ := bcell hb3
  rw [← eg3] at R3 hc3 hf3 ⊢
  clear q2 hr3 hb3 eg3
  have y4 : w.heap.size < g3 := by omega
  have y5 : w.heap.size + 1 < g3 := by omega
  have y6 : w.heap.size + 1 + 1 < g3 := by omega
  go_wp2_with (fail)
  have q3 : Below w.heap.size w (w3.setCell ⟨w.heap.size + 1 + 1, 2, none⟩ (.slice (some ⟨g3, 0, none⟩) nO nO)) := Q3.out.setCell (by simp; omega) _
  refine (to_any _ _ _ _ _ m4 (hS.out.below q3)).mono ?_
  rintro e w4 ⟨rfl, hr4, hb4⟩
  have Q4 := Lib.hid (q3.trans (hb4.mono q3.size))
  have R4 := Lib.hid (own_base hr4 q3.size)
  have R1 := Lib.hid (own_below (own_setOther R1.out (w.heap.size + 1 + 1) 2 (.slice (some ⟨g3, 0, none⟩) nO nO) (by simp [Value.ownBlock])) hb4)
  have R2 := Lib.hid (own_below (own_setOther R2.out (w.heap.size + 1 + 1) 2 (.slice (some ⟨g3, 0, none⟩) nO nO) (by simp [Value.ownBlock]; omega)) hb4)
  have R3 := Lib.hid (own_below (own_setOther R3.out (w.heap.size + 1 + 1) 2 (.slice (some ⟨g3, 0, none⟩) nO nO) (by simp [Value.ownBlock]; omega)) hb4)
  obtain ⟨g4, eg4⟩ : ∃ g, g = (w3.setCell ⟨w.heap.size + 1 + 1, 2, none⟩ (.slice (some ⟨g3, 0, none⟩) nO nO)).heap.size := ⟨_, rfl⟩
  have hg4 : g3 < g4 ∧ g4 < w4.heap.size := ⟨by rw [eg4]; simpa using hg3.2, by rw [eg4]; exact (own_block_ge hr4 _ rfl).2⟩
  obtain ⟨hc4, hf4⟩ := bcell hb4
  rw [← eg4] at R4 hc4 hf4 ⊢
  clear q3 hr4 hb4 eg4
  have y7 : w.heap.size < g4 := by omega
  have y8 : w.heap.size + 1 < g4 := by omega
  have y9 : w.heap.size + 1 + 1 < g4 := by omega
  go_wp2
  refine bodyPost_ret (v := .agg #[.slice (some ⟨w.heap.size + 1 + 1 + 1, 0, none⟩) nN nN, .slice (some ⟨g2, 0, none⟩) nE nE, .slice (some ⟨g3, 0, none⟩) nO nO, .slice (some ⟨g4, 0, none⟩) nS nS, .int .i64 d.room, .int .i64 d.next]) (by simp [results, Try.results6, go_sem, hc1, hc2, hc3, hc4, y2, y5, y8]) rfl ⟨_, rfl, ?_, ?_⟩
  · refine ⟨_, _, _, _, nN, nE, nO, nS, rfl, ?_, ?_, ?_, ?_, off_slices (by omega), off_slices (by omega), off_slices (by omega), off_slices (by omega), off_slices (by omega), off_slices (by omega)⟩
    · iterate 9 refine own_setOther ?_ _ _ _ (by first | (simp [Value.ownBlock]; done) | (simp [Value.ownBlock]; omega))
      exact R1.out
    · iterate 9 refine own_setOther ?_ _ _ _ (by first | (simp [Value.ownBlock]; done) | (simp [Value.ownBlock]; omega))
      exact R2.out
    · iterate 9 refine own_setOther ?_ _ _ _ (by first | (simp [Value.ownBlock]; done) | (simp [Value.ownBlock]; omega))
      exact R3.out
    · iterate 9 refine own_setOther ?_ _ _ _ (by first | (simp [Value.ownBlock]; done) | (simp [Value.ownBlock]; omega))
      exact R4.out
  · iterate 9 refine Below.setCell ?_ (by first | (simp; done) | (simp; omega)) _
    exact Q4.out

/-! ### how much -/
theorem szI_yes {left : Nat} {xs : List ByteArray} {m : Nat} (h : xs.length + tot xs + m = left) : szI left xs = (m : Int) := by
  unfold szI
  rw [if_pos (by omega)]
  omega
theorem szI_no {left : Nat} {xs : List ByteArray} (h : left < xs.length + tot xs) : szI left xs = -1 := if_neg (by omega)
theorem wfN_sz {xs : List Nod} (h : wfN xs) : ∀ e ∈ xs, e.2.1.size ≤ 9223372036854775807 := fun e he => by have := (h e he).2.1; unfold maxLen at this; omega
theorem wfE_sz {xs : List Ent} (h : wfE xs) : ∀ e ∈ xs, e.1.size ≤ 9223372036854775807 := fun e he => by have := (h e he).1; unfold maxLen at this; omega
/-- the rest, or less than nothing -/
def Left (left : Nat) (b : Nat) (w : World) (e : Ending) (w' : World) : Prop := (if b ≤ left then e = .returned (.int .i64 ((left - b : Nat) : Int)) else e = .returned (.int .i64 (-1))) ∧ Below w.heap.size w w'

set_option maxHeartbeats 1000000 in
theorem szDisk_any {v : Value} {d : D} (left : Nat) (w : World) (hl : left ≤ 1048576) (hd : wfD d) (hv : IsDisk w v d) :
    Calls Try.prog 4 #[v, .int .i64 left] w (Left left (bulk d) w) := by
  obtain ⟨aN, aE, aO, aS, nN, cN, nE, cE, nO, cO, nS, cS, rfl, hN, hE, hO, hS⟩ := hv
  obtain ⟨w1, w2, w3, w4, _, _, m1, m2, m3, m4⟩ := hd
  rw [hN.len] at m1
  rw [hE.len] at m2
  rw [hO.len] at m3
  rw [hS.1] at m4
  unfold maxLen at m1 m2 m3 m4
  have hWB : Below w.heap.size w (w.alloc (.cells #[.slice aN nN cN, .slice aE nE cE, .slice aO nO cO, .slice aS nS cS, .int .i64 d.room, .int .i64 d.next] 26)) := (Below.refl _ _).alloc (Nat.le_refl _) _
  have C1 := Lib.hid (fun (l : Nat) (h : l ≤ 1048576) => szNodeS_any aN cN nN l d.nodes _ h (by omega) (hN.below hWB) (wfN_sz w1))
  have hEb := Lib.hid (hE.below hWB)
  have hOb := Lib.hid (hO.below hWB)
  have hSb := Lib.hid (hS.below hWB)
  have W2 := Lib.hid (wfE_sz w2)
  have W3 := Lib.hid (wfE_sz w3)
  have W4 := Lib.hid (show ∀ s ∈ d.steps, s.size ≤ 9223372036854775807 from fun s hs => by have := w4 s hs; unfold maxLen at this; omega)
  obtain ⟨b1, e1⟩ : ∃ b, b = (d.nodes.map (·.2.1)).length + tot (d.nodes.map (·.2.1)) := ⟨_, rfl⟩
  obtain ⟨b2, e2⟩ : ∃ b, b = (d.ents.map (·.1)).length + tot (d.ents.map (·.1)) := ⟨_, rfl⟩
  obtain ⟨b3, e3⟩ : ∃ b, b = (d.old.map (·.1)).length + tot (d.old.map (·.1)) := ⟨_, rfl⟩
  obtain ⟨b4, e4⟩ : ∃ b, b = d.steps.length + tot d.steps := ⟨_, rfl⟩
  have hbulk : bulk d = b1 + b2 + b3 + b4 := by unfold bulk bulkN bulkE; rw [e1, e2, e3, e4]
  rw [hbulk]
  clear hbulk w1 w2 w3 w4 hN hE hO hS hWB
  have E1 := Lib.hid e1
  have E2 := Lib.hid e2
  have E3 := Lib.hid e3
  have E4 := Lib.hid e4
  clear e1 e2 e3 e4
  go_enter Try.func4, Try.ntmps4
  go_wp2_with (fail)
  refine (C1.out left hl).mono ?_
  rintro e w1 ⟨he, hb1⟩
  have z1 : w.heap.size < w1.heap.size := by have := hb1.size; first | omega | (simp at this; omega)
  obtain ⟨hc1, hf1⟩ := bcell hb1
  by_cases h1 : left < b1
  · rw [szI_no (by rw [← E1.out]; omega)] at he
    subst he
    have bx := Lib.hid (show ¬ (b1 + b2 + b3 + b4 ≤ left) by
      try have := HR1.out
      try have := HR2.out
      omega)
    clear h1
    go_wp2
    go_ret
    exact ⟨by rw [if_neg bx.out]; rfl, (((Below.refl _ _).alloc (Nat.le_refl _) _).trans (hb1.mono (by simp)))⟩
  obtain ⟨r1, hr1⟩ : ∃ r, b1 + r = left := ⟨left - b1, by omega⟩
  rw [szI_yes (m := r1) (by rw [← E1.out]; exact hr1)] at he
  subst he
  have hE1 := Lib.hid (hEb.out.below hb1)
  have hO1 := Lib.hid (hOb.out.below hb1)
  have hS1 := Lib.hid (hSb.out.below hb1)
  have l1 : r1 ≤ 1048576 := by omega
  have HR1 := Lib.hid hr1
  clear h1 hr1
  go_wp2_with (fail)
  refine (szEntryS_any _ _ _ r1 _ _ (by omega) (by omega) hE1.out W2.out).mono ?_
  rintro e w2 ⟨he, hb2⟩
  have z2 : w.heap.size < w2.heap.size := by have := hb2.size; first | omega | (simp at this; omega)
  obtain ⟨hc2, hf2⟩ := bcell hb2
  by_cases h2 : r1 < b2
  · rw [szI_no (by rw [← E2.out]; omega)] at he
    subst he
    have bx := Lib.hid (show ¬ (b1 + b2 + b3 + b4 ≤ left) by
      try have := HR1.out
      try have := HR2.out
      omega)
    clear h2
    go_wp2
    go_ret
    exact ⟨by rw [if_neg bx.out]; rfl, ((((Below.refl _ _).alloc (Nat.le_refl _) _).trans (hb1.mono (by simp))).trans (hb2.mono (by omega)))⟩
  obtain ⟨r2, hr2⟩ : ∃ r, b2 + r = r1 := ⟨r1 - b2, by omega⟩
  rw [szI_yes (m := r2) (by rw [← E2.out]; exact hr2)] at he
  subst he
  have hO2 := Lib.hid (hO1.out.below hb2)
  have hS2 := Lib.hid (hS1.out.below hb2)
  have l2 : r2 ≤ 1048576 := by omega
  have HR2 := Lib.hid hr2
  clear h2 hr2
  go_wp2_with (fail)
  refine (szEntryS_any _ _ _ r2 _ _ (by omega) (by omega) hO2.out W3.out).mono ?_
  rintro e w3 ⟨he, hb3⟩
  have z3 : w.heap.size < w3.heap.size := by have := hb3.size; first | omega | (simp at this; omega)
  obtain ⟨hc3, hf3⟩ := bcell hb3
  by_cases h3 : r2 < b3
  · rw [szI_no (by rw [← E3.out]; omega)] at he
    subst he
    have bx := Lib.hid (show ¬ (b1 + b2 + b3 + b4 ≤ left) by
      try have := HR1.out
      try have := HR2.out
      omega)
    clear h3
    go_wp2
    go_ret
    exact ⟨by rw [if_neg bx.out]; rfl, (((((Below.refl _ _).alloc (Nat.le_refl _) _).trans (hb1.mono (by simp))).trans (hb2.mono (by omega))).trans (hb3.mono (by omega)))⟩
  obtain ⟨r3, hr3⟩ : ∃ r, b3 + r = r2 := ⟨r2 - b3, by omega⟩
  rw [szI_yes (m := r3) (by rw [← E3.out]; exact hr3)] at he
  subst he
  have hS3 := Lib.hid (hS2.out.below hb3)
  have l3 : r3 ≤ 1048576 := by omega
  have HR3 := Lib.hid hr3
  clear h3 hr3
  go_wp2_with (fail)
  refine (sz_any _ _ _ r3 _ _ l3 (by omega) hS3.out W4.out).mono ?_
  rintro e w4 ⟨he, rfl⟩
  by_cases h4 : r3 < b4
  · have bx := Lib.hid (show ¬ (b1 + b2 + b3 + b4 ≤ left) by have := HR1.out; have := HR2.out; have := HR3.out; omega)
    rw [szI_no (by rw [← E4.out]; omega)] at he
    subst he
    clear h4
    go_wp2
    go_ret
    exact ⟨by rw [if_neg bx.out]; rfl, (((((Below.refl _ _).alloc (Nat.le_refl _) _).trans (hb1.mono (by simp))).trans (hb2.mono (by omega))).trans (hb3.mono (by omega)))⟩
  · obtain ⟨r4, hr4⟩ : ∃ r, b4 + r = r3 := ⟨r3 - b4, by omega⟩
    rw [szI_yes (m := r4) (by rw [← E4.out]; exact hr4)] at he
    subst he
    have bx := Lib.hid (show b1 + b2 + b3 + b4 ≤ left ∧ left - (b1 + b2 + b3 + b4) = r4 by have := HR1.out; have := HR2.out; have := HR3.out; omega)
    clear h4 hr4
    go_wp2
    go_ret
    exact ⟨by rw [if_pos bx.out.1, bx.out.2]; rfl, (((((Below.refl _ _).alloc (Nat.le_refl _) _).trans (hb1.mono (by simp))).trans (hb2.mono (by omega))).trans (hb3.mono (by omega)))⟩

end Go.Proofs.Ytdacdbidennjhaa.disk
