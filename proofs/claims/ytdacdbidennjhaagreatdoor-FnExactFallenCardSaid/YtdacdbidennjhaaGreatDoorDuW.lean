/-
  Disks whose nodes' slice tells a smaller room than its block has (it was cut with three indexes): memory of their own, marks.
-/
import Derived.Test.YtdacdbidennjhaaGreatDoorKinds
namespace Go.Proofs.YtdacdbidennjhaaGreatDoor.recs
open Go.RowKit
open kit strs

set_option maxHeartbeats 400000 in
theorem markNodeS_cap (B g c c2 n k : Nat) (xs : List Nod) (w : World) (hk0 : 0 < k) (hk1 : k + 3 * n ≤ 1000000000) (hl : xs.length = n) (hg : g < w.heap.size)
    (hv : w.ownsRow B 51 3 (.slice (some ⟨g, 0, none⟩) n c2) n (cellsN xs)) :
    Calls Tryz.prog 118 #[.slice (some ⟨g, 0, none⟩) n c, .int .i64 k] w fun e w' => e = .returned (.int .i64 ((k + 3 * n : Nat) : Int)) ∧
      w'.ownsRow B 51 3 (.slice (some ⟨g, 0, none⟩) n c2) n (cellsN (marksN k n)) ∧ w.grownBy w' (some g) := by
  have HL := Lib.hid hl
  clear hl
  go_enter Tryz.func118, Tryz.ntmps118
  go_wp2
  go_loopw [1, 5] (fun x i wr => ∃ j : Nat, j ≤ n ∧ x = .int .i64 ((k + 3 * j : Nat) : Int) ∧ i = .int .i64 j ∧ wr.ownsRow B 51 3 (.slice (some ⟨g, 0, none⟩) n c2) n (cellsN (marksN k j ++ xs.drop j)) ∧ w.grownBy wr (some g)) (fun _ i _ => n - (intOf i).toNat)
  case atStart => exact ⟨0, Nat.zero_le _, rfl, rfl, by simpa [marksN] using hv, grown_refl _ _⟩
  case round =>
    obtain ⟨j, hj, rfl, rfl, hown, hgw⟩ := hrel
    by_cases hlt : j < n
    · have hjl : j < (marksN k j ++ xs.drop j).length := by have := HL.out; simp [marksN_len]; omega
      have hgr : g < wr.heap.size := Nat.lt_of_lt_of_le hg hgw.size
      have HP := Lib.hid (part_set (marksN k j) _ xs _ n j (marksN_len k j) (marksN_snoc k j) HL.out hlt)
      obtain ⟨q, hq⟩ : ∃ q, q = k + 3 * j := ⟨_, rfl⟩
      have q0 : 0 < q := by omega
      have q1 : q + 1 ≤ 1000000000 := by omega
      have HQ := Lib.hid hq
      rw [← hq]
      clear hq
      have hs0 := hown.stored (j * 3) (.int .i64 ((q : Nat) : Int))
      obtain ⟨u, hc1⟩ : ∃ u, wr.cell? ⟨g, j * 3, none⟩ = some u := ⟨_, (hown.cellAt (j * 3) (by omega)).trans (List.getElem?_eq_getElem (by rw [cellsN_len]; omega))⟩
      have hf1 := hown.frozenAt (j * 3)
      go_wp2_with (go_at_call 157; refine (markText_any (q + 1) _ (by omega) q1).mono ?_; rintro e w1 ⟨rfl, hb1⟩; have hown1 := own_below hs0.1 hb1; obtain ⟨u2, hc2⟩ : ∃ u, w1.cell? ⟨g, j * 3 + 1, none⟩ = some u := ⟨_, (hown1.cellAt (j * 3 + 1) (by omega)).trans (List.getElem?_eq_getElem (by rw [List.length_set, cellsN_len]; omega))⟩; obtain ⟨u3, hc3⟩ : ∃ u, w1.cell? ⟨g, j * 3 + 2, none⟩ = some u := ⟨_, (hown1.cellAt (j * 3 + 2) (by omega)).trans (List.getElem?_eq_getElem (by rw [List.length_set, cellsN_len]; omega))⟩; have hf3 := hown1.frozenAt (j * 3 + 2); have hf2 := hown1.frozenAt (j * 3 + 1))
      have hs1 := hown1.stored (j * 3 + 1) (.string (markB (q + 1)))
      have hs2 := hs1.1.stored (j * 3 + 2) (.int .i64 ((q + 2 : Nat) : Int))
      go_roundw
      case rel =>
        refine ⟨j + 1, by omega, by rw [show k + 3 * (j + 1) = q + 1 + 1 + 1 by have := HQ.out; omega]; go_num, by go_num, ?_, grown_trans (grown_trans (grown_trans (grown_trans hgw hs0.2) (grown_of_below hb1)) hs1.2) hs2.2⟩
        rw [← HP.out, ← cellsN_set _ _ _ _ _ hjl, ← HQ.out]
        exact hs2.1
      case measure => simp [intOf]; omega
    · obtain rfl : j = n := by omega
      have hend : marksN k j ++ xs.drop j = marksN k j := by rw [List.drop_of_length_le (by rw [HL.out]; exact Nat.le_refl _), List.append_nil]
      rw [hend] at hown
      clear hend
      go_wp2
      go_ret
      exact ⟨rfl, hown, hgw⟩

end Go.Proofs.YtdacdbidennjhaaGreatDoor.recs
namespace Go.Proofs.YtdacdbidennjhaaGreatDoor.disk
open Go.RowKit
open kit strs recs

/-- the same slice, but for the room that it tells -/
def Cap (u v : Value) : Prop := ∃ (a : Option Addr) (n c c2 : Nat), u = .slice a n c ∧ v = .slice a n c2
theorem Cap.block {u v : Value} (h : Cap u v) : u.ownBlock = v.ownBlock := by
  obtain ⟨a, n, c, c2, rfl, rfl⟩ := h
  cases a <;> rfl
theorem Cap.at {u : Value} {a : Option Addr} {n c : Nat} (h : Cap u (.slice a n c)) : ∃ c2, u = .slice a n c2 := by
  obtain ⟨a', n', c', c2, rfl, h2⟩ := h
  simp only [Value.slice.injEq] at h2
  obtain ⟨rfl, rfl, rfl⟩ := h2
  exact ⟨_, rfl⟩
theorem Cap.self {w : World} {B s n : Nat} {e : TypeId} {v : Value} {xs : List Value} (h : w.ownsRow B e s v n xs) : Cap v v := by
  rcases h.2 with ⟨rfl, _⟩ | ⟨g, cap, cur, rfl, _⟩
  · exact ⟨_, _, _, _, rfl, rfl⟩
  · exact ⟨_, _, _, _, rfl, rfl⟩
def OwnDiskW (B : Nat) (w : World) (v : Value) (d : D) : Prop :=
  ∃ (sN sE sO sS sM : Value), v = .agg #[sN, sE, sO, sS, .int .i64 d.room, .int .i64 d.next] ∧ Cap sN sM ∧ OwnDisk B w (.agg #[sM, sE, sO, sS, .int .i64 d.room, .int .i64 d.next]) d
theorem OwnDiskW.of {B : Nat} {w : World} {v : Value} {d : D} (h : OwnDisk B w v d) : OwnDiskW B w v d := by
  obtain ⟨sN, sE, sO, sS, nN, nE, nO, nS, rfl, hN, r⟩ := h
  exact ⟨sN, sE, sO, sS, sN, rfl, Cap.self hN, ⟨sN, sE, sO, sS, nN, nE, nO, nS, rfl, hN, r⟩⟩
theorem OwnDiskW.parts {B : Nat} {w : World} {v : Value} {d : D} (h : OwnDiskW B w v d) : ∃ (sN sE sO sS sM : Value), v = .agg #[sN, sE, sO, sS, .int .i64 d.room, .int .i64 d.next] ∧ Cap sN sM ∧ ∃ nN nE nO nS : Nat,
    w.ownsRow B 51 3 sM nN (cellsN d.nodes) ∧ w.ownsRow B 53 2 sE nE (cellsE d.ents) ∧ w.ownsRow B 53 2 sO nO (cellsE d.old) ∧ w.ownsRow B 9 1 sS nS (d.steps.map Value.string) ∧
    Off sM sE ∧ Off sM sO ∧ Off sM sS ∧ Off sE sO ∧ Off sE sS ∧ Off sO sS := by
  obtain ⟨sN, sE, sO, sS, sM, rfl, hc, tN, tE, tO, tS, nN, nE, nO, nS, hv, r⟩ := h
  simp only [Value.agg.injEq, Array.mk.injEq, List.cons.injEq] at hv
  obtain ⟨rfl, rfl, rfl, rfl, _⟩ := hv
  exact ⟨sN, sE, sO, sS, sM, rfl, hc, nN, nE, nO, nS, r⟩
theorem OwnDiskW.is {B : Nat} {w : World} {v : Value} {d : D} (h : OwnDiskW B w v d) : IsDisk w v d := by
  obtain ⟨sN, sE, sO, sS, sM, rfl, hc, nN, nE, nO, nS, hN, hE, hO, hS, _⟩ := h.parts
  obtain ⟨aN, cN, rfl, _, _⟩ := own_shape hN
  obtain ⟨c2, rfl⟩ := hc.at
  obtain ⟨aE, cE, rfl, _, _⟩ := own_shape hE
  obtain ⟨aO, cO, rfl, _, _⟩ := own_shape hO
  obtain ⟨aS, cS, rfl, _, _⟩ := own_shape hS
  exact ⟨aN, aE, aO, aS, nN, c2, nE, cE, nO, cO, nS, cS, rfl, own_cells hN, own_cells hE, own_cells hO, At.of_own hS⟩
theorem OwnDiskW.base {B B' : Nat} {w : World} {v : Value} {d : D} (h : OwnDiskW B w v d) (hB : B' ≤ B) : OwnDiskW B' w v d := by
  obtain ⟨sN, sE, sO, sS, sM, rfl, hc, hd⟩ := h
  exact ⟨sN, sE, sO, sS, sM, rfl, hc, hd.base hB⟩
theorem OwnDiskW.below {B : Nat} {w w' : World} {v : Value} {d : D} (h : OwnDiskW B w v d) (hb : Below w.heap.size w w') : OwnDiskW B w' v d := by
  obtain ⟨sN, sE, sO, sS, sM, rfl, hc, hd⟩ := h
  exact ⟨sN, sE, sO, sS, sM, rfl, hc, hd.below hb⟩
theorem rows_cap {sN sM sE sO sS x y : Value} (hc : Cap sN sM) (k : Nat) : rows (.agg #[sN, sE, sO, sS, x, y]) k ↔ rows (.agg #[sM, sE, sO, sS, x, y]) k := by
  have hb := hc.block
  constructor
  · rintro ⟨u, hu, hk⟩
    simp only [List.mem_cons, List.not_mem_nil, or_false] at hu
    rcases hu with rfl | hu
    · exact ⟨sM, by simp, hb.symm.trans hk⟩
    · exact ⟨u, by simp; exact .inr hu, hk⟩
  · rintro ⟨u, hu, hk⟩
    simp only [List.mem_cons, List.not_mem_nil, or_false] at hu
    rcases hu with rfl | hu
    · exact ⟨sN, by simp, hb.trans hk⟩
    · exact ⟨u, by simp; exact .inr hu, hk⟩
theorem OwnDiskW.rows {B : Nat} {w : World} {v : Value} {d : D} (h : OwnDiskW B w v d) : ∀ k, rows v k → B ≤ k ∧ k < w.heap.size := by
  obtain ⟨sN, sE, sO, sS, sM, rfl, hc, hd⟩ := h
  exact fun k hk => hd.rows k ((rows_cap hc k).1 hk)
theorem OwnDiskW.only {B : Nat} {w w' : World} {v : Value} {d : D} {S : Nat → Prop} (h : OwnDiskW B w v d) (o : Only w w' S) (hs : ∀ k, disk.rows v k → ¬ S k) : OwnDiskW B w' v d := by
  obtain ⟨sN, sE, sO, sS, sM, rfl, hc, hd⟩ := h
  exact ⟨sN, sE, sO, sS, sM, rfl, hc, hd.only o (fun k hk => hs k ((rows_cap hc k).2 hk))⟩
theorem markN_cap {B n k : Nat} {u v : Value} {xs : List Nod} (w : World) (hk0 : 0 < k) (hk1 : k + 3 * n ≤ 1000000000) (hc : Cap u v) (hv : w.ownsRow B 51 3 v n (cellsN xs)) :
    Calls Tryz.prog 118 #[u, .int .i64 k] w fun e w' => e = .returned (.int .i64 ((k + 3 * n : Nat) : Int)) ∧ w'.ownsRow B 51 3 v n (cellsN (marksN k n)) ∧ w.grownBy w' v.ownBlock := by
  have hl : xs.length = n := by have := hv.1; rw [cellsN_len] at this; omega
  obtain ⟨a, c, rfl, _, h1⟩ := own_shape hv
  obtain ⟨c3, rfl⟩ := hc.at
  by_cases h0 : n = 0
  · subst h0
    obtain rfl : xs = [] := List.length_eq_zero_iff.1 hl
    exact (markN_none a c3 k w).mono fun e w' ⟨h1, h2⟩ => ⟨h1, own_below hv h2, grown_of_below h2⟩
  · obtain ⟨g, rfl, _, hg⟩ := h1.resolve_left h0
    exact markNodeS_cap B g c3 c n k xs w hk0 hk1 hl hg hv

set_option maxHeartbeats 400000 in
theorem markDisk_cap {B k : Nat} {v : Value} {d : D} (w : World) (hk0 : 0 < k) (hk1 : marksUp k d ≤ 1000000000) (hv : OwnDiskW B w v d) :
    Calls Tryz.prog 50 #[v, .int .i64 k] w fun e w' => e = .returned (.int .i64 ((marksUp k d : Nat) : Int)) ∧ OwnDiskW B w' v (marked k d) ∧ Only w w' (rows v) := by
  obtain ⟨sN, sE, sO, sS, sM, rfl, hcap, nN, nE, nO, nS, hN, hE, hO, hS, o1, o2, o3, o4, o5, o6⟩ := hv.parts
  have hcb := hcap.block
  have lN : d.nodes.length = nN := by have := hN.1; rw [cellsN_len] at this; omega
  have lE : d.ents.length = nE := by have := hE.1; rw [cellsE_len] at this; omega
  have lO : d.old.length = nO := by have := hO.1; rw [cellsE_len] at this; omega
  have lS : d.steps.length = nS := by have := hS.1; rw [List.length_map] at this; omega
  have HM := Lib.hid (show marked k d = { d with nodes := marksN k nN, ents := marksE (k + 3 * nN) nE, old := marksE (k + 3 * nN + 2 * nE) nO, steps := marks (k + 3 * nN + 2 * nE + 2 * nO) nS } by unfold marked; rw [lN, lE, lO, lS])
  have HU := Lib.hid (show marksUp k d = k + 3 * nN + 2 * nE + 2 * nO + nS by unfold marksUp; rw [lN, lE, lO, lS])
  unfold marksUp at hk1
  rw [lN, lE, lO, lS] at hk1
  clear lN lE lO lS
  have bE := Lib.hid (own_block_ge hE)
  have bO := Lib.hid (own_block_ge hO)
  have bS := Lib.hid (own_block_ge hS)
  have bN := Lib.hid (own_block_ge hN)
  have hWB : Below w.heap.size w (w.alloc (.cells #[sN, sE, sO, sS, .int .i64 d.room, .int .i64 d.next] 28)) := (Below.refl _ _).alloc (Nat.le_refl _) _
  have hN0 := Lib.hid (own_below hN hWB)
  have hE0 := Lib.hid (own_below hE hWB)
  have hO0 := Lib.hid (own_below hO hWB)
  have hS0 := Lib.hid (own_below hS hWB)
  have nN' : sM.ownBlock ≠ some w.heap.size := fun e => by have := bN.out _ e; omega
  have nE' : sE.ownBlock ≠ some w.heap.size := fun e => by have := bE.out _ e; omega
  have nO' : sO.ownBlock ≠ some w.heap.size := fun e => by have := bO.out _ e; omega
  have z0 : w.heap.size < (w.alloc (.cells #[sN, sE, sO, sS, .int .i64 d.room, .int .i64 d.next] 28)).heap.size := by simp
  have O1 := Lib.hid (show ∀ g, sE.ownBlock = some g → sM.ownBlock ≠ some g from fun g h e => o1 g e h)
  have O2 := Lib.hid (show ∀ g, sO.ownBlock = some g → sM.ownBlock ≠ some g from fun g h e => o2 g e h)
  have O3 := Lib.hid (show ∀ g, sS.ownBlock = some g → sM.ownBlock ≠ some g from fun g h e => o3 g e h)
  have O4 := Lib.hid (show ∀ g, sO.ownBlock = some g → sE.ownBlock ≠ some g from fun g h e => o4 g e h)
  have O5 := Lib.hid (show ∀ g, sS.ownBlock = some g → sE.ownBlock ≠ some g from fun g h e => o5 g e h)
  have O6 := Lib.hid (show ∀ g, sS.ownBlock = some g → sO.ownBlock ≠ some g from fun g h e => o6 g e h)
  have A := Lib.hid (And.intro o1 (And.intro o2 (And.intro o3 (And.intro o4 (And.intro o5 o6)))))
  have NN := Lib.hid (And.intro nN' (And.intro nE' nO'))
  have HCAP := Lib.hid hcap
  have HCB := Lib.hid hcb
  clear hcap hcb o1 o2 o3 o4 o5 o6 hWB hN hE hO hS nN' nE' nO'
  obtain ⟨k1, e1⟩ : ∃ k1, k1 = k + 3 * nN := ⟨_, rfl⟩
  obtain ⟨k2, e2⟩ : ∃ k2, k2 = k1 + 2 * nE := ⟨_, rfl⟩
  obtain ⟨k3, e3⟩ : ∃ k3, k3 = k2 + 2 * nO := ⟨_, rfl⟩
  obtain ⟨k4, e4⟩ : ∃ k4, k4 = k3 + nS := ⟨_, rfl⟩
  have b1 : 0 < k1 ∧ k1 + 2 * nE ≤ 1000000000 := by omega
  have b2 : 0 < k2 ∧ k2 + 2 * nO ≤ 1000000000 := by omega
  have b3 : 0 < k3 ∧ k3 + nS ≤ 1000000000 := by omega
  have E1 := Lib.hid e1
  have E2 := Lib.hid e2
  have E3 := Lib.hid e3
  have E4 := Lib.hid e4
  clear e1 e2 e3 e4
  go_enter Tryz.func50, Tryz.ntmps50
  go_wp2_with (fail)
  refine (markN_cap _ hk0 (by omega) HCAP.out hN0.out).mono ?_
  rintro e w1 ⟨he, hr1, hg1⟩
  rw [← E1.out] at he
  subst he
  have x1 : w1.cell? ⟨w.heap.size, 1, none⟩ = some sE := (cell_grown hg1 z0 NN.out.1).trans (by simp)
  have x2 : w1.cell? ⟨w.heap.size, 2, none⟩ = some sO := (cell_grown hg1 z0 NN.out.1).trans (by simp)
  have x3 : w1.cell? ⟨w.heap.size, 3, none⟩ = some sS := (cell_grown hg1 z0 NN.out.1).trans (by simp)
  have z1 := Nat.lt_of_lt_of_le z0 hg1.size
  have hN1 := Lib.hid hr1
  have hE1 := Lib.hid (own_grown hE0.out hg1 O1.out)
  have hO1 := Lib.hid (own_grown hO0.out hg1 O2.out)
  have hS1 := Lib.hid (own_grown hS0.out hg1 O3.out)
  have G1 := Lib.hid hg1
  clear hr1 hg1
  go_wp2_with (fail)
  refine (markE_any (k := k1) _ b1.1 b1.2 hE1.out).mono ?_
  rintro e w2 ⟨he, hr2, hg2⟩
  rw [← E2.out] at he
  subst he
  have x4 : w2.cell? ⟨w.heap.size, 2, none⟩ = some sO := (cell_grown hg2 z1 NN.out.2.1).trans x2
  have x5 : w2.cell? ⟨w.heap.size, 3, none⟩ = some sS := (cell_grown hg2 z1 NN.out.2.1).trans x3
  have z2 := Nat.lt_of_lt_of_le z1 hg2.size
  have hN2 := Lib.hid (own_grown hN1.out hg2 A.out.1)
  have hE2 := Lib.hid hr2
  have hO2 := Lib.hid (own_grown hO1.out hg2 O4.out)
  have hS2 := Lib.hid (own_grown hS1.out hg2 O5.out)
  have G2 := Lib.hid hg2
  clear hr2 hg2 x1 x2 x3
  go_wp2_with (fail)
  refine (markE_any (k := k2) _ b2.1 b2.2 hO2.out).mono ?_
  rintro e w3 ⟨he, hr3, hg3⟩
  rw [← E3.out] at he
  subst he
  have x6 : w3.cell? ⟨w.heap.size, 3, none⟩ = some sS := (cell_grown hg3 z2 NN.out.2.2).trans x5
  have hN3 := Lib.hid (own_grown hN2.out hg3 A.out.2.1)
  have hE3 := Lib.hid (own_grown hE2.out hg3 A.out.2.2.2.1)
  have hO3 := Lib.hid hr3
  have hS3 := Lib.hid (own_grown hS2.out hg3 O6.out)
  have G3 := Lib.hid hg3
  clear hr3 hg3 x4 x5
  go_wp2_with (fail)
  refine (mark_any (k := k3) _ b3.1 b3.2 hS3.out).mono ?_
  rintro e w4 ⟨he, hr4, hg4⟩
  rw [← E4.out] at he
  subst he
  have hN4 := Lib.hid (own_grown hN3.out hg4 A.out.2.2.1)
  have hE4 := Lib.hid (own_grown hE3.out hg4 A.out.2.2.2.2.1)
  have hO4 := Lib.hid (own_grown hO3.out hg4 A.out.2.2.2.2.2)
  have hS4 := Lib.hid hr4
  have G4 := Lib.hid hg4
  clear hr4 hg4 x6
  go_wp2
  go_ret
  have p0 : Only w (w.alloc (.cells #[sN, sE, sO, sS, .int .i64 d.room, .int .i64 d.next] 28)) (rows (.agg #[sN, sE, sO, sS, .int .i64 d.room, .int .i64 d.next])) := Only.of_below ((Below.refl _ _).alloc (Nat.le_refl _) _)
  have q4 := (((p0.trans (Only.of_grown G1.out (fun k h => ⟨sN, by simp, HCB.out.trans h⟩))).trans (Only.of_grown G2.out (fun k h => ⟨sE, by simp, h⟩))).trans (Only.of_grown G3.out (fun k h => ⟨sO, by simp, h⟩))).trans (Only.of_grown G4.out (fun k h => ⟨sS, by simp, h⟩))
  have hk4 : marksUp k d = k4 := by rw [HU.out, E4.out, E3.out, E2.out, E1.out]
  refine ⟨by rw [hk4]; rfl, ?_, q4⟩
  rw [HM.out, ← E1.out, ← E2.out, ← E3.out]
  exact ⟨sN, sE, sO, sS, sM, rfl, HCAP.out, sM, sE, sO, sS, nN, nE, nO, nS, rfl, hN4.out, hE4.out, hO4.out, hS4.out, A.out⟩


end Go.Proofs.YtdacdbidennjhaaGreatDoor.disk
namespace Go.Proofs.YtdacdbidennjhaaGreatDoor.kd
open Go.RowKit
open kit strs recs disk

theorem markW' {B k q : Nat} {v : Value} {d : D} (w : World) (hk0 : 0 < k) (hk1 : k + cntD d ≤ 1000000000) (hq : q = k + cntD d) (hv : OwnDiskW B w v d) :
    Calls Tryz.prog 50 #[v, .int .i64 k] w fun e w' => e = .returned (.int .i64 ((q : Nat) : Int)) ∧ OwnDiskW B w' v (marked k d) ∧ Only w w' (rows v) := by
  rw [hq, ← upD]
  exact markDisk_cap w hk0 (by rw [upD]; exact hk1) hv

end Go.Proofs.YtdacdbidennjhaaGreatDoor.kd
