/-
  Disks: marks written and read, equality, copies, how much.
-/
import Derived.Test.YtnhcianahmfdhaaDisk
namespace Go.Proofs.Ytnhcianahmfdhaa.disk
open Go.RowKit
open kit strs recs

theorem bcell {W w1 : World} (hb : Below W.heap.size W w1) : (∀ b o, b < W.heap.size → w1.cell? ⟨b, o, none⟩ = W.cell? ⟨b, o, none⟩) ∧ (∀ b o, b < W.heap.size → w1.frozen? ⟨b, o, none⟩ = W.frozen? ⟨b, o, none⟩) :=
  ⟨fun b o h => hb.cell (p := ⟨b, o, none⟩) h, fun b o h => hb.frozen (p := ⟨b, o, none⟩) h⟩
theorem markE_none (a : Option Addr) (c k : Nat) (w : World) :
    Calls Try.prog 35 #[.slice a 0 c, .int .i64 k] w fun e w' => e = .returned (.int .i64 k) ∧ Below w.heap.size w w' := by
  go_enter Try.func35, Try.ntmps35
  go_wp2
  go_loopw [1, 5] (fun x i wr => x = .int .i64 k ∧ i = .int .i64 0 ∧ Below w.heap.size w wr) (fun _ i _ => (intOf i).toNat)
  case atStart => exact ⟨rfl, rfl, Below.refl _ _⟩
  case round =>
    obtain ⟨rfl, rfl, hb⟩ := hrel
    go_wp2
    go_ret
    exact ⟨rfl, hb⟩
theorem markN_none (a : Option Addr) (c k : Nat) (w : World) :
    Calls Try.prog 34 #[.slice a 0 c, .int .i64 k] w fun e w' => e = .returned (.int .i64 k) ∧ Below w.heap.size w w' := by
  go_enter Try.func34, Try.ntmps34
  go_wp2
  go_loopw [1, 5] (fun x i wr => x = .int .i64 k ∧ i = .int .i64 0 ∧ Below w.heap.size w wr) (fun _ i _ => (intOf i).toNat)
  case atStart => exact ⟨rfl, rfl, Below.refl _ _⟩
  case round =>
    obtain ⟨rfl, rfl, hb⟩ := hrel
    go_wp2
    go_ret
    exact ⟨rfl, hb⟩
theorem markE_any {B n k : Nat} {v : Value} {xs : List Ent} (w : World) (hk0 : 0 < k) (hk1 : k + 2 * n ≤ 1000000000) (hv : w.ownsRow B 61 2 v n (cellsE xs)) :
    Calls Try.prog 35 #[v, .int .i64 k] w fun e w' => e = .returned (.int .i64 ((k + 2 * n : Nat) : Int)) ∧ w'.ownsRow B 61 2 v n (cellsE (marksE k n)) ∧ w.grownBy w' v.ownBlock := by
  have hl : xs.length = n := by have := hv.1; rw [cellsE_len] at this; omega
  obtain ⟨a, c, rfl, _, h1⟩ := own_shape hv
  by_cases h0 : n = 0
  · subst h0
    obtain rfl : xs = [] := List.length_eq_zero_iff.1 hl
    exact (markE_none a c k w).mono fun e w' ⟨h1, h2⟩ => ⟨h1, own_below hv h2, grown_of_below h2⟩
  · obtain ⟨g, rfl, _, hg⟩ := h1.resolve_left h0
    exact markEntryS_some B g c n k xs w hk0 hk1 hl hg hv
theorem markN_any {B n k : Nat} {v : Value} {xs : List Nod} (w : World) (hk0 : 0 < k) (hk1 : k + 3 * n ≤ 1000000000) (hv : w.ownsRow B 42 3 v n (cellsN xs)) :
    Calls Try.prog 34 #[v, .int .i64 k] w fun e w' => e = .returned (.int .i64 ((k + 3 * n : Nat) : Int)) ∧ w'.ownsRow B 42 3 v n (cellsN (marksN k n)) ∧ w.grownBy w' v.ownBlock := by
  have hl : xs.length = n := by have := hv.1; rw [cellsN_len] at this; omega
  obtain ⟨a, c, rfl, _, h1⟩ := own_shape hv
  by_cases h0 : n = 0
  · subst h0
    obtain rfl : xs = [] := List.length_eq_zero_iff.1 hl
    exact (markN_none a c k w).mono fun e w' ⟨h1, h2⟩ => ⟨h1, own_below hv h2, grown_of_below h2⟩
  · obtain ⟨g, rfl, _, hg⟩ := h1.resolve_left h0
    exact markNodeS_some B g c n k xs w hk0 hk1 hl hg hv

/-- two rows in blocks of their own -/
def Off (u v : Value) : Prop := ∀ g, u.ownBlock = some g → v.ownBlock ≠ some g
/-- a disk in memory of its own, from block B on -/
def OwnDisk (B : Nat) (w : World) (v : Value) (d : D) : Prop :=
  ∃ (sN sE sO sS : Value) (nN nE nO nS : Nat), v = .agg #[sN, sE, sO, sS, .int .i64 d.room, .int .i64 d.next] ∧
    w.ownsRow B 42 3 sN nN (cellsN d.nodes) ∧ w.ownsRow B 61 2 sE nE (cellsE d.ents) ∧ w.ownsRow B 61 2 sO nO (cellsE d.old) ∧ w.ownsRow B 9 1 sS nS (d.steps.map Value.string) ∧
    Off sN sE ∧ Off sN sO ∧ Off sN sS ∧ Off sE sO ∧ Off sE sS ∧ Off sO sS
theorem OwnDisk.is {B : Nat} {w : World} {v : Value} {d : D} (h : OwnDisk B w v d) : IsDisk w v d := by
  obtain ⟨sN, sE, sO, sS, nN, nE, nO, nS, rfl, hN, hE, hO, hS, _⟩ := h
  obtain ⟨aN, cN, rfl, _, _⟩ := own_shape hN
  obtain ⟨aE, cE, rfl, _, _⟩ := own_shape hE
  obtain ⟨aO, cO, rfl, _, _⟩ := own_shape hO
  obtain ⟨aS, cS, rfl, _, _⟩ := own_shape hS
  exact ⟨aN, aE, aO, aS, nN, cN, nE, cE, nO, cO, nS, cS, rfl, own_cells hN, own_cells hE, own_cells hO, At.of_own hS⟩
theorem OwnDisk.base {B B' : Nat} {w : World} {v : Value} {d : D} (h : OwnDisk B w v d) (hB : B' ≤ B) : OwnDisk B' w v d := by
  obtain ⟨sN, sE, sO, sS, nN, nE, nO, nS, rfl, hN, hE, hO, hS, rest⟩ := h
  exact ⟨sN, sE, sO, sS, nN, nE, nO, nS, rfl, own_base hN hB, own_base hE hB, own_base hO hB, own_base hS hB, rest⟩
theorem OwnDisk.below {B : Nat} {w w' : World} {v : Value} {d : D} (h : OwnDisk B w v d) (hb : Below w.heap.size w w') : OwnDisk B w' v d := by
  obtain ⟨sN, sE, sO, sS, nN, nE, nO, nS, rfl, hN, hE, hO, hS, rest⟩ := h
  exact ⟨sN, sE, sO, sS, nN, nE, nO, nS, rfl, own_below hN hb, own_below hE hb, own_below hO hb, own_below hS hb, rest⟩
/-- a row stays as it was where another one is written -/
theorem OwnDisk.rows {B : Nat} {w : World} {v : Value} {d : D} (h : OwnDisk B w v d) : ∀ k, rows v k → B ≤ k ∧ k < w.heap.size := by
  obtain ⟨sN, sE, sO, sS, nN, nE, nO, nS, rfl, hN, hE, hO, hS, _⟩ := h
  rintro k ⟨u, hu, hk⟩
  simp only [List.mem_cons, List.not_mem_nil, or_false] at hu
  have one : ∀ {e : TypeId} {size n : Nat} {xs : List Value} {v : Value}, w.ownsRow B e size v n xs → v.ownBlock = some k → B ≤ k ∧ k < w.heap.size := fun h hk => by
    rcases h.2 with ⟨rfl, _⟩ | ⟨g', cap, cur, rfl, hB, hh, _⟩
    · simp [Value.ownBlock] at hk
    · simp only [Value.ownBlock, Option.some.injEq] at hk
      subst hk
      exact ⟨hB, (Array.getElem?_eq_some_iff.1 hh).1⟩
  rcases hu with rfl | rfl | rfl | rfl | rfl | rfl
  · exact one hN hk
  · exact one hE hk
  · exact one hO hk
  · exact one hS hk
  · simp [Value.ownBlock] at hk
  · simp [Value.ownBlock] at hk
theorem OwnDisk.only {B : Nat} {w w' : World} {v : Value} {d : D} {S : Nat → Prop} (h : OwnDisk B w v d) (o : Only w w' S) (hs : ∀ k, disk.rows v k → ¬ S k) : OwnDisk B w' v d := by
  obtain ⟨sN, sE, sO, sS, nN, nE, nO, nS, rfl, hN, hE, hO, hS, rest⟩ := h
  exact ⟨sN, sE, sO, sS, nN, nE, nO, nS, rfl, own_only hN o (fun k hk => hs k ⟨sN, by simp, hk⟩), own_only hE o (fun k hk => hs k ⟨sE, by simp, hk⟩), own_only hO o (fun k hk => hs k ⟨sO, by simp, hk⟩), own_only hS o (fun k hk => hs k ⟨sS, by simp, hk⟩), rest⟩
theorem own_grown {w w' : World} {B size : Nat} {e : TypeId} {v u : Value} {n : Nat} {xs : List Value} (h : w.ownsRow B e size v n xs) (hg : w.grownBy w' u.ownBlock) (ho : ∀ g, v.ownBlock = some g → u.ownBlock ≠ some g) : w'.ownsRow B e size v n xs := by
  refine ⟨h.1, ?_⟩
  rcases h.2 with hn | ⟨g, cap, cur, rfl, hB, hh, rest⟩
  · exact .inl hn
  · exact .inr ⟨g, cap, cur, rfl, hB, by rw [hg.block g (Array.getElem?_eq_some_iff.1 hh).1 (fun e => ho g rfl e.symm)]; exact hh, rest⟩
theorem own_block_ge {w : World} {B size : Nat} {e : TypeId} {v : Value} {n : Nat} {xs : List Value} (h : w.ownsRow B e size v n xs) (g : Nat) (hg : v.ownBlock = some g) : B ≤ g ∧ g < w.heap.size := by
  rcases h.2 with ⟨rfl, _⟩ | ⟨g', cap, cur, rfl, hB, hh, _⟩
  · simp [Value.ownBlock] at hg
  · simp only [Value.ownBlock, Option.some.injEq] at hg
    subst hg
    exact ⟨hB, (Array.getElem?_eq_some_iff.1 hh).1⟩
theorem below_grown {B : Nat} {w w' : World} {v : Value} (hg : w.grownBy w' v.ownBlock) (ho : ∀ g, v.ownBlock = some g → B ≤ g) (hB : B ≤ w.heap.size) : Below B w w' :=
  ⟨hg.os, hg.tape, hg.output, hg.size, fun k hk => hg.block k (by omega) (fun e => by have := ho k e.symm; omega)⟩
def marked (k : Nat) (d : D) : D :=
  { d with nodes := marksN k d.nodes.length, ents := marksE (k + 3 * d.nodes.length) d.ents.length, old := marksE (k + 3 * d.nodes.length + 2 * d.ents.length) d.old.length, steps := marks (k + 3 * d.nodes.length + 2 * d.ents.length + 2 * d.old.length) d.steps.length }
def marksUp (k : Nat) (d : D) : Nat := k + 3 * d.nodes.length + 2 * d.ents.length + 2 * d.old.length + d.steps.length
theorem cell_grown {w w' : World} {v : Value} {g j : Nat} (hg : w.grownBy w' v.ownBlock) (h : g < w.heap.size) (ho : v.ownBlock ≠ some g) : w'.cell? ⟨g, j, none⟩ = w.cell? ⟨g, j, none⟩ := by
  unfold World.cell?
  rw [hg.block g h (fun e => ho e.symm)]

set_option maxHeartbeats 400000 in
theorem markDisk_any {B k : Nat} {v : Value} {d : D} (w : World) (hk0 : 0 < k) (hk1 : marksUp k d ≤ 1000000000) (hv : OwnDisk B w v d) :
    Calls Try.prog 12 #[v, .int .i64 k] w fun e w' => e = .returned (.int .i64 ((marksUp k d : Nat) : Int)) ∧ OwnDisk B w' v (marked k d) ∧ Only w w' (rows v) := by
  obtain ⟨sN, sE, sO, sS, nN, nE, nO, nS, rfl, hN, hE, hO, hS, o1, o2, o3, o4, o5, o6⟩ := hv
  have lN : d.nodes.length = nN := by have := hN.1; rw [cellsN_len] at this; omega
  have lE : d.ents.length = nE := by have := hE.1; rw [cellsE_len] at this; omega
  have lO : d.old.length = nO := by have := hO.1; rw [cellsE_len] at this; omega
  have lS : d.steps.length = nS := by have := hS.1; rw [List.length_map] at this; omega
  have HM := Lib.hid (show marked k d = { d with nodes := marksN k nN, ents := marksE (k + 3 * nN) nE, old := marksE (k + 3 * nN + 2 * nE) nO, steps := marks (k + 3 * nN + 2 * nE + 2 * nO) nS } by unfold marked; rw [lN, lE, lO, lS])
  have HU := Lib.hid (show marksUp k d = k + 3 * nN + 2 * nE + 2 * nO + nS by unfold marksUp; rw [lN, lE, lO, lS])
  unfold marksUp at hk1
  rw [lN, lE, lO, lS] at hk1
  clear lN lE lO lS
  have bE := Lib.hid (own_block_ge hE)
  have bO := Lib.hid (own_block_ge hO)
  have bS := Lib.hid (own_block_ge hS)
  have bN := Lib.hid (own_block_ge hN)
  have hWB : Below w.heap.size w (w.alloc (.cells #[sN, sE, sO, sS, .int .i64 d.room, .int .i64 d.next] 26)) := (Below.refl _ _).alloc (Nat.le_refl _) _
  have hN0 := Lib.hid (own_below hN hWB)
  have hE0 := Lib.hid (own_below hE hWB)
  have hO0 := Lib.hid (own_below hO hWB)
  have hS0 := Lib.hid (own_below hS hWB)
  have nN' : sN.ownBlock ≠ some w.heap.size := fun e => by have := bN.out _ e; omega
  have nE' : sE.ownBlock ≠ some w.heap.size := fun e => by have := bE.out _ e; omega
  have nO' : sO.ownBlock ≠ some w.heap.size := fun e => by have := bO.out _ e; omega
  have z0 : w.heap.size < (w.alloc (.cells #[sN, sE, sO, sS, .int .i64 d.room, .int .i64 d.next] 26)).heap.size := by simp
  have O1 := Lib.hid (show ∀ g, sE.ownBlock = some g → sN.ownBlock ≠ some g from fun g h e => o1 g e h)
  have O2 := Lib.hid (show ∀ g, sO.ownBlock = some g → sN.ownBlock ≠ some g from fun g h e => o2 g e h)
  have O3 := Lib.hid (show ∀ g, sS.ownBlock = some g → sN.ownBlock ≠ some g from fun g h e => o3 g e h)
  have O4 := Lib.hid (show ∀ g, sO.ownBlock = some g → sE.ownBlock ≠ some g from fun g h e => o4 g e h)
  have O5 := Lib.hid (show ∀ g, sS.ownBlock = some g → sE.ownBlock ≠ some g from fun g h e => o5 g e h)
  have O6 := Lib.hid (show ∀ g, sS.ownBlock = some g → sO.ownBlock ≠ some g from fun g h e => o6 g e h)
  have A := Lib.hid (And.intro o1 (And.intro o2 (And.intro o3 (And.intro o4 (And.intro o5 o6)))))
  have NN := Lib.hid (And.intro nN' (And.intro nE' nO'))
  clear o1 o2 o3 o4 o5 o6 hWB hN hE hO hS nN' nE' nO'
  obtain ⟨k1, e1⟩ : ∃ k1, k1 = k + 3 * nN := ⟨_, rfl⟩
  obtain ⟨k2, e2⟩ : ∃ k2, k2 = k1 + 2 * nE := ⟨_, rfl⟩
  obtain ⟨k3, e3⟩ : ∃ k3, k3 = k2 + 2 * nO := ⟨_, rfl⟩
  obtain ⟨k4, e4⟩ : ∃ k4, k4 = k3 + nS := ⟨_, rfl⟩
  have b1 : 0 < k1 ∧ k1 + 2 * nE ≤ 1000000000 := by omega
  have b2 : 0 < k2 ∧ k2 + 2 * nO ≤ 1000000000 := by omega
  have b3 : 0 < k3 ∧ k3 + nS ≤ 1000000000 := by omega
  have E1 := Lib.hid e1
  have E2 := Lib.hid e2
  have E3 := Lib.hid e3
  have E4 := Lib.hid e4
  clear e1 e2 e3 e4
  go_enter Try.func12, Try.ntmps12
  go_wp2_with (fail)
  refine (markN_any _ hk0 (by omega) hN0.out).mono ?_
  rintro e w1 ⟨he, hr1, hg1⟩
  rw [← E1.out] at he
  subst he
  have x1 : w1.cell? ⟨w.heap.size, 1, none⟩ = some sE := (cell_grown hg1 z0 NN.out.1).trans (by simp)
  have x2 : w1.cell? ⟨w.heap.size, 2, none⟩ = some sO := (cell_grown hg1 z0 NN.out.1).trans (by simp)
  have x3 : w1.cell? ⟨w.heap.size, 3, none⟩ = some sS := (cell_grown hg1 z0 NN.out.1).trans (by simp)
  have z1 := Nat.lt_of_lt_of_le z0 hg1.size
  have hN1 := Lib.hid hr1
  have hE1 := Lib.hid (own_grown hE0.out hg1 O1.out)
  have hO1 := Lib.hid (own_grown hO0.out hg1 O2.out)
  have hS1 := Lib.hid (own_grown hS0.out hg1 O3.out)
  have G1 := Lib.hid hg1
  clear hr1 hg1
  go_wp2_with (fail)
  refine (markE_any (k := k1) _ b1.1 b1.2 hE1.out).mono ?_
  rintro e w2 ⟨he, hr2, hg2⟩
  rw [← E2.out] at he
  subst he
  have x4 : w2.cell? ⟨w.heap.size, 2, none⟩ = some sO := (cell_grown hg2 z1 NN.out.2.1).trans x2
  have x5 : w2.cell? ⟨w.heap.size, 3, none⟩ = some sS := (cell_grown hg2 z1 NN.out.2.1).trans x3
  have z2 := Nat.lt_of_lt_of_le z1 hg2.size
  have hN2 := Lib.hid (own_grown hN1.out hg2 A.out.1)
  have hE2 := Lib.hid hr2
  have hO2 := Lib.hid (own_grown hO1.out hg2 O4.out)
  have hS2 := Lib.hid (own_grown hS1.out hg2 O5.out)
  have G2 := Lib.hid hg2
  clear hr2 hg2 x1 x2 x3
  go_wp2_with (fail)
  refine (markE_any (k := k2) _ b2.1 b2.2 hO2.out).mono ?_
  rintro e w3 ⟨he, hr3, hg3⟩
  rw [← E3.out] at he
  subst he
  have x6 : w3.cell? ⟨w.heap.size, 3, none⟩ = some sS := (cell_grown hg3 z2 NN.out.2.2).trans x5
  have hN3 := Lib.hid (own_grown hN2.out hg3 A.out.2.1)
  have hE3 := Lib.hid (own_grown hE2.out hg3 A.out.2.2.2.1)
  have hO3 := Lib.hid hr3
  have hS3 := Lib.hid (own_grown hS2.out hg3 O6.out)
  have G3 := Lib.hid hg3
  clear hr3 hg3 x4 x5
  go_wp2_with (fail)
  refine (mark_any (k := k3) _ b3.1 b3.2 hS3.out).mono ?_
  rintro e w4 ⟨he, hr4, hg4⟩
  rw [← E4.out] at he
  subst he
  have hN4 := Lib.hid (own_grown hN3.out hg4 A.out.2.2.1)
  have hE4 := Lib.hid (own_grown hE3.out hg4 A.out.2.2.2.2.1)
  have hO4 := Lib.hid (own_grown hO3.out hg4 A.out.2.2.2.2.2)
  have hS4 := Lib.hid hr4
  have G4 := Lib.hid hg4
  clear hr4 hg4 x6
  go_wp2
  go_ret
  have p0 : Only w (w.alloc (.cells #[sN, sE, sO, sS, .int .i64 d.room, .int .i64 d.next] 26)) (rows (.agg #[sN, sE, sO, sS, .int .i64 d.room, .int .i64 d.next])) := Only.of_below ((Below.refl _ _).alloc (Nat.le_refl _) _)
  have q4 := (((p0.trans (Only.of_grown G1.out (fun k h => ⟨sN, by simp, h⟩))).trans (Only.of_grown G2.out (fun k h => ⟨sE, by simp, h⟩))).trans (Only.of_grown G3.out (fun k h => ⟨sO, by simp, h⟩))).trans (Only.of_grown G4.out (fun k h => ⟨sS, by simp, h⟩))
  have hk4 : marksUp k d = k4 := by rw [HU.out, E4.out, E3.out, E2.out, E1.out]
  refine ⟨by rw [hk4]; rfl, ?_, q4⟩
  rw [HM.out, ← E1.out, ← E2.out, ← E3.out]
  exact ⟨sN, sE, sO, sS, nN, nE, nO, nS, rfl, hN4.out, hE4.out, hO4.out, hS4.out, A.out⟩

/-! ### marks read -/
theorem heldE_any {a : Option Addr} {c n k m : Nat} (w : World) (hk0 : 0 < k) (hk1 : k + 2 * m ≤ 1000000000) (ha : AtE w a n (marksE k m)) :
    Calls Try.prog 37 #[.slice a n c, .int .i64 k] w fun e w' => e = .returned (.int .i64 ((k + 2 * m : Nat) : Int)) ∧ Below w.heap.size w w' := by
  obtain rfl : m = n := by rw [← ha.len, marksE_len]
  exact heldEntryS_any a c m k w hk0 hk1 ha
theorem heldN_any {a : Option Addr} {c n k m : Nat} (w : World) (hk0 : 0 < k) (hk1 : k + 3 * m ≤ 1000000000) (ha : AtN w a n (marksN k m)) :
    Calls Try.prog 36 #[.slice a n c, .int .i64 k] w fun e w' => e = .returned (.int .i64 ((k + 3 * m : Nat) : Int)) ∧ Below w.heap.size w w' := by
  obtain rfl : m = n := by rw [← ha.len, marksN_len]
  exact heldNodeS_any a c m k w hk0 hk1 ha
set_option maxHeartbeats 400000 in
theorem heldS_at {a : Option Addr} {c n k m : Nat} (w : World) (hk0 : 0 < k) (hk1 : k + m ≤ 1000000000) (ha : At w a n (marks k m)) :
    Calls Try.prog 30 #[.slice a n c, .int .i64 k] w fun e w' => e = .returned (.int .i64 ((k + m : Nat) : Int)) ∧ Below w.heap.size w w' := by
  obtain rfl : m = n := by rw [← ha.1, marks_length]
  have HA := Lib.hid ha
  clear ha
  go_enter Try.func30, Try.ntmps30
  go_wp2
  go_loopw [1, 5] (fun x i wr => ∃ j : Nat, j ≤ m ∧ x = .int .i64 ((k + j : Nat) : Int) ∧ i = .int .i64 j ∧ Below w.heap.size w wr) (fun _ i _ => m - (intOf i).toNat)
  case atStart => exact ⟨0, Nat.zero_le _, rfl, rfl, Below.refl _ _⟩
  case round =>
    obtain ⟨j, hj, rfl, rfl, hb⟩ := hrel
    by_cases hlt : j < m
    · obtain ⟨g, o, rfl, hg, hx0⟩ := (HA.out.below hb).2.resolve_left (by omega)
      have hx : wr.cell? ⟨g, o + j, none⟩ = some (.string (markB (k + j))) := hx0 j _ (by simp [marks, hlt])
      clear hx0
      have i0 : (0 : Int) ≤ (j : Int) := by omega
      have i1 : (j : Int) < (m : Int) := by omega
      go_wp2
      go_region_held3 (fun w' => w'.cell? ⟨g, o + j, none⟩ = some (.string (markB (k + j)))) (first | exact hx | exact hx1) (first | (go_at_call 48; refine (markText_any (k + j) _ (by omega) (by omega)).mono ?_; rintro e w1 ⟨rfl, hb1⟩; have hx1 := (hb1.cell (p := ⟨g, o + j, none⟩) hg).trans hx))
      all_goals
        go_wp2
        go_roundw
        case rel => exact ⟨j + 1, by omega, by go_num, by go_num, hb.drew.trans (hb1.mono hb.size)⟩
        case measure => simp [intOf]; omega
    · obtain rfl : j = m := by omega
      go_wp2
      go_ret
      exact ⟨rfl, hb⟩
set_option maxHeartbeats 400000 in
theorem heldDisk_any {k : Nat} {v : Value} {d : D} (w : World) (hk0 : 0 < k) (hk1 : marksUp k d ≤ 1000000000) (hv : IsDisk w v (marked k d)) :
    Calls Try.prog 13 #[v, .int .i64 k] w fun e w' => e = .returned (.int .i64 ((marksUp k d : Nat) : Int)) ∧ Below w.heap.size w w' := by
  obtain ⟨aN, aE, aO, aS, nN, cN, nE, cE, nO, cO, nS, cS, rfl, hN, hE, hO, hS⟩ := hv
  simp only [marked] at hN hE hO hS ⊢
  obtain ⟨mN, lN⟩ : ∃ m, m = d.nodes.length := ⟨_, rfl⟩
  obtain ⟨mE, lE⟩ : ∃ m, m = d.ents.length := ⟨_, rfl⟩
  obtain ⟨mO, lO⟩ : ∃ m, m = d.old.length := ⟨_, rfl⟩
  obtain ⟨mS, lS⟩ : ∃ m, m = d.steps.length := ⟨_, rfl⟩
  unfold marksUp at hk1
  rw [← lN] at hN hE hO hS hk1
  rw [← lE] at hE hO hS hk1
  rw [← lO] at hO hS hk1
  rw [← lS] at hS hk1
  have HU := Lib.hid (show marksUp k d = k + 3 * mN + 2 * mE + 2 * mO + mS by unfold marksUp; rw [lN, lE, lO, lS])
  clear lN lE lO lS
  obtain ⟨k1, e1⟩ : ∃ k1, k1 = k + 3 * mN := ⟨_, rfl⟩
  obtain ⟨k2, e2⟩ : ∃ k2, k2 = k1 + 2 * mE := ⟨_, rfl⟩
  obtain ⟨k3, e3⟩ : ∃ k3, k3 = k2 + 2 * mO := ⟨_, rfl⟩
  obtain ⟨k4, e4⟩ : ∃ k4, k4 = k3 + mS := ⟨_, rfl⟩
  have hk4 := Lib.hid (show marksUp k d = k4 by rw [HU.out, e4, e3, e2, e1])
  rw [← e1] at hE hO hS
  rw [← e2] at hO hS
  rw [← e3] at hS
  have b0 : k + 3 * mN ≤ 1000000000 := by omega
  have b1 : 0 < k1 ∧ k1 + 2 * mE ≤ 1000000000 := by omega
  have b2 : 0 < k2 ∧ k2 + 2 * mO ≤ 1000000000 := by omega
  have b3 : 0 < k3 ∧ k3 + mS ≤ 1000000000 := by omega
  have E1 := Lib.hid e1
  have E2 := Lib.hid e2
  have E3 := Lib.hid e3
  have E4 := Lib.hid e4
  clear e1 e2 e3 e4
  have hWB : Below w.heap.size w (w.alloc (.cells #[.slice aN nN cN, .slice aE nE cE, .slice aO nO cO, .slice aS nS cS, .int .i64 d.room, .int .i64 d.next] 26)) := (Below.refl _ _).alloc (Nat.le_refl _) _
  have hN0 := Lib.hid (hN.below hWB)
  have hE0 := Lib.hid (hE.below hWB)
  have hO0 := Lib.hid (hO.below hWB)
  have hS0 := Lib.hid (hS.below hWB)
  clear hN hE hO hS hWB
  go_enter Try.func13, Try.ntmps13
  go_wp2_with (fail)
  refine (heldN_any _ hk0 b0 hN0.out).mono ?_
  rintro e w1 ⟨he, hb1⟩
  rw [← E1.out] at he
  subst he
  have hE1 := Lib.hid (hE0.out.below hb1)
  have hO1 := Lib.hid (hO0.out.below hb1)
  have hS1 := Lib.hid (hS0.out.below hb1)
  obtain ⟨hc1, hf1⟩ := bcell hb1
  have z1 : w.heap.size < w1.heap.size := by have := hb1.size; simp at this; omega
  go_wp2_with (fail)
  refine (heldE_any (k := k1) _ b1.1 b1.2 hE1.out).mono ?_
  rintro e w2 ⟨he, hb2⟩
  rw [← E2.out] at he
  subst he
  have hO2 := Lib.hid (hO1.out.below hb2)
  have hS2 := Lib.hid (hS1.out.below hb2)
  obtain ⟨hc2, hf2⟩ := bcell hb2
  have z2 : w.heap.size < w2.heap.size := Nat.lt_of_lt_of_le z1 hb2.size
  go_wp2_with (fail)
  refine (heldE_any (k := k2) _ b2.1 b2.2 hO2.out).mono ?_
  rintro e w3 ⟨he, hb3⟩
  rw [← E3.out] at he
  subst he
  have hS3 := Lib.hid (hS2.out.below hb3)
  obtain ⟨hc3, hf3⟩ := bcell hb3
  go_wp2_with (fail)
  refine (heldS_at (k := k3) _ b3.1 b3.2 hS3.out).mono ?_
  rintro e w4 ⟨he, hb4⟩
  rw [← E4.out] at he
  subst he
  go_wp2
  go_ret
  exact ⟨by rw [hk4.out]; rfl, (((((Below.refl _ _).alloc (Nat.le_refl _) _).trans (hb1.mono (by simp))).trans (hb2.mono (by omega))).trans (hb3.mono (by omega))).trans (hb4.mono (by have := hb3.size; omega))⟩

end Go.Proofs.Ytnhcianahmfdhaa.disk
