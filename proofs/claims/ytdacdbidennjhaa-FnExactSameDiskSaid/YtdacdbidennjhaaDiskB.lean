/-
  Disks: marks written and read, equality, copies, how much.
-/
import Derived.Test.YtdacdbidennjhaaDisk
namespace Go.Proofs.Ytdacdbidennjhaa.disk
open Go.RowKit
open kit strs recs

theorem bcell {W w1 : World} (hb : Below W.heap.size W w1) : (∀ b o, b < W.heap.size → w1.cell? ⟨b, o, none⟩ = W.cell? ⟨b, o, none⟩) ∧ (∀ b o, b < W.heap.size → w1.frozen? ⟨b, o, none⟩ = W.frozen? ⟨b, o, none⟩) :=
  ⟨fun b o h => hb.cell (p := ⟨b, o, none⟩) h, fun b o h => hb.frozen (p := ⟨b, o, none⟩) h⟩
/-- two rows in blocks of their own -/
def Off (u v : Value) : Prop := ∀ g, u.ownBlock = some g → v.ownBlock ≠ some g
/-- a disk in memory of its own, from block B on -/
def OwnDisk (B : Nat) (w : World) (v : Value) (d : D) : Prop :=
  ∃ (sN sE sO sS : Value) (nN nE nO nS : Nat), v = .agg #[sN, sE, sO, sS, .int .i64 d.room, .int .i64 d.next] ∧
    w.ownsRow B 40 3 sN nN (cellsN d.nodes) ∧ w.ownsRow B 46 2 sE nE (cellsE d.ents) ∧ w.ownsRow B 46 2 sO nO (cellsE d.old) ∧ w.ownsRow B 9 1 sS nS (d.steps.map Value.string) ∧
    Off sN sE ∧ Off sN sO ∧ Off sN sS ∧ Off sE sO ∧ Off sE sS ∧ Off sO sS
theorem OwnDisk.is {B : Nat} {w : World} {v : Value} {d : D} (h : OwnDisk B w v d) : IsDisk w v d := by
  obtain ⟨sN, sE, sO, sS, nN, nE, nO, nS, rfl, hN, hE, hO, hS, _⟩ := h
  obtain ⟨aN, cN, rfl, _, _⟩ := own_shape hN
  obtain ⟨aE, cE, rfl, _, _⟩ := own_shape hE
  obtain ⟨aO, cO, rfl, _, _⟩ := own_shape hO
  obtain ⟨aS, cS, rfl, _, _⟩ := own_shape hS
  exact ⟨aN, aE, aO, aS, nN, cN, nE, cE, nO, cO, nS, cS, rfl, own_cells hN, own_cells hE, own_cells hO, At.of_own hS⟩
theorem OwnDisk.base {B B' : Nat} {w : World} {v : Value} {d : D} (h : OwnDisk B w v d) (hB : B' ≤ B) : OwnDisk B' w v d := by
  obtain ⟨sN, sE, sO, sS, nN, nE, nO, nS, rfl, hN, hE, hO, hS, rest⟩ := h
  exact ⟨sN, sE, sO, sS, nN, nE, nO, nS, rfl, own_base hN hB, own_base hE hB, own_base hO hB, own_base hS hB, rest⟩
theorem OwnDisk.below {B : Nat} {w w' : World} {v : Value} {d : D} (h : OwnDisk B w v d) (hb : Below w.heap.size w w') : OwnDisk B w' v d := by
  obtain ⟨sN, sE, sO, sS, nN, nE, nO, nS, rfl, hN, hE, hO, hS, rest⟩ := h
  exact ⟨sN, sE, sO, sS, nN, nE, nO, nS, rfl, own_below hN hb, own_below hE hb, own_below hO hb, own_below hS hb, rest⟩
/-- a row stays as it was where another one is written -/
theorem OwnDisk.rows {B : Nat} {w : World} {v : Value} {d : D} (h : OwnDisk B w v d) : ∀ k, rows v k → B ≤ k ∧ k < w.heap.size := by
  obtain ⟨sN, sE, sO, sS, nN, nE, nO, nS, rfl, hN, hE, hO, hS, _⟩ := h
  rintro k ⟨u, hu, hk⟩
  simp only [List.mem_cons, List.not_mem_nil, or_false] at hu
  have one : ∀ {e : TypeId} {size n : Nat} {xs : List Value} {v : Value}, w.ownsRow B e size v n xs → v.ownBlock = some k → B ≤ k ∧ k < w.heap.size := fun h hk => by
    rcases h.2 with ⟨rfl, _⟩ | ⟨g', cap, cur, rfl, hB, hh, _⟩
    · simp [Value.ownBlock] at hk
    · simp only [Value.ownBlock, Option.some.injEq] at hk
      subst hk
      exact ⟨hB, (Array.getElem?_eq_some_iff.1 hh).1⟩
  rcases hu with rfl | rfl | rfl | rfl | rfl | rfl
  · exact one hN hk
  · exact one hE hk
  · exact one hO hk
  · exact one hS hk
  · simp [Value.ownBlock] at hk
  · simp [Value.ownBlock] at hk
theorem OwnDisk.only {B : Nat} {w w' : World} {v : Value} {d : D} {S : Nat → Prop} (h : OwnDisk B w v d) (o : Only w w' S) (hs : ∀ k, disk.rows v k → ¬ S k) : OwnDisk B w' v d := by
  obtain ⟨sN, sE, sO, sS, nN, nE, nO, nS, rfl, hN, hE, hO, hS, rest⟩ := h
  exact ⟨sN, sE, sO, sS, nN, nE, nO, nS, rfl, own_only hN o (fun k hk => hs k ⟨sN, by simp, hk⟩), own_only hE o (fun k hk => hs k ⟨sE, by simp, hk⟩), own_only hO o (fun k hk => hs k ⟨sO, by simp, hk⟩), own_only hS o (fun k hk => hs k ⟨sS, by simp, hk⟩), rest⟩
theorem own_grown {w w' : World} {B size : Nat} {e : TypeId} {v u : Value} {n : Nat} {xs : List Value} (h : w.ownsRow B e size v n xs) (hg : w.grownBy w' u.ownBlock) (ho : ∀ g, v.ownBlock = some g → u.ownBlock ≠ some g) : w'.ownsRow B e size v n xs := by
  refine ⟨h.1, ?_⟩
  rcases h.2 with hn | ⟨g, cap, cur, rfl, hB, hh, rest⟩
  · exact .inl hn
  · exact .inr ⟨g, cap, cur, rfl, hB, by rw [hg.block g (Array.getElem?_eq_some_iff.1 hh).1 (fun e => ho g rfl e.symm)]; exact hh, rest⟩
theorem own_block_ge {w : World} {B size : Nat} {e : TypeId} {v : Value} {n : Nat} {xs : List Value} (h : w.ownsRow B e size v n xs) (g : Nat) (hg : v.ownBlock = some g) : B ≤ g ∧ g < w.heap.size := by
  rcases h.2 with ⟨rfl, _⟩ | ⟨g', cap, cur, rfl, hB, hh, _⟩
  · simp [Value.ownBlock] at hg
  · simp only [Value.ownBlock, Option.some.injEq] at hg
    subst hg
    exact ⟨hB, (Array.getElem?_eq_some_iff.1 hh).1⟩
theorem below_grown {B : Nat} {w w' : World} {v : Value} (hg : w.grownBy w' v.ownBlock) (ho : ∀ g, v.ownBlock = some g → B ≤ g) (hB : B ≤ w.heap.size) : Below B w w' :=
  ⟨hg.os, hg.tape, hg.output, hg.size, fun k hk => hg.block k (by omega) (fun e => by have := ho k e.symm; omega)⟩
def marked (k : Nat) (d : D) : D :=
  { d with nodes := marksN k d.nodes.length, ents := marksE (k + 3 * d.nodes.length) d.ents.length, old := marksE (k + 3 * d.nodes.length + 2 * d.ents.length) d.old.length, steps := marks (k + 3 * d.nodes.length + 2 * d.ents.length + 2 * d.old.length) d.steps.length }
def marksUp (k : Nat) (d : D) : Nat := k + 3 * d.nodes.length + 2 * d.ents.length + 2 * d.old.length + d.steps.length
theorem cell_grown {w w' : World} {v : Value} {g j : Nat} (hg : w.grownBy w' v.ownBlock) (h : g < w.heap.size) (ho : v.ownBlock ≠ some g) : w'.cell? ⟨g, j, none⟩ = w.cell? ⟨g, j, none⟩ := by
  unfold World.cell?
  rw [hg.block g h (fun e => ho e.symm)]

/-! ### marks read -/
end Go.Proofs.Ytdacdbidennjhaa.disk
