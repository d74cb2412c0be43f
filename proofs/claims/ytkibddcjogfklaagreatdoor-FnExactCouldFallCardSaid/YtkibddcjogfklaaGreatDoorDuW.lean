/-
  Disks whose nodes' slice tells a smaller room than its block has (it was cut with three indexes): memory of their own, marks.
-/
import Derived.Test.YtkibddcjogfklaaGreatDoorKinds
namespace Go.Proofs.YtkibddcjogfklaaGreatDoor.recs
open Go.RowKit
open kit strs

end Go.Proofs.YtkibddcjogfklaaGreatDoor.recs
namespace Go.Proofs.YtkibddcjogfklaaGreatDoor.disk
open Go.RowKit
open kit strs recs

/-- the same slice, but for the room that it tells -/
def Cap (u v : Value) : Prop := ∃ (a : Option Addr) (n c c2 : Nat), u = .slice a n c ∧ v = .slice a n c2
theorem Cap.block {u v : Value} (h : Cap u v) : u.ownBlock = v.ownBlock := by
  obtain ⟨a, n, c, c2, rfl, rfl⟩ := h
  cases a <;> rfl
theorem Cap.at {u : Value} {a : Option Addr} {n c : Nat} (h : Cap u (.slice a n c)) : ∃ c2, u = .slice a n c2 := by
  obtain ⟨a', n', c', c2, rfl, h2⟩ := h
  simp only [Value.slice.injEq] at h2
  obtain ⟨rfl, rfl, rfl⟩ := h2
  exact ⟨_, rfl⟩
theorem Cap.self {w : World} {B s n : Nat} {e : TypeId} {v : Value} {xs : List Value} (h : w.ownsRow B e s v n xs) : Cap v v := by
  rcases h.2 with ⟨rfl, _⟩ | ⟨g, cap, cur, rfl, _⟩
  · exact ⟨_, _, _, _, rfl, rfl⟩
  · exact ⟨_, _, _, _, rfl, rfl⟩
def OwnDiskW (B : Nat) (w : World) (v : Value) (d : D) : Prop :=
  ∃ (sN sE sO sS sM : Value), v = .agg #[sN, sE, sO, sS, .int .i64 d.room, .int .i64 d.next] ∧ Cap sN sM ∧ OwnDisk B w (.agg #[sM, sE, sO, sS, .int .i64 d.room, .int .i64 d.next]) d
theorem OwnDiskW.of {B : Nat} {w : World} {v : Value} {d : D} (h : OwnDisk B w v d) : OwnDiskW B w v d := by
  obtain ⟨sN, sE, sO, sS, nN, nE, nO, nS, rfl, hN, r⟩ := h
  exact ⟨sN, sE, sO, sS, sN, rfl, Cap.self hN, ⟨sN, sE, sO, sS, nN, nE, nO, nS, rfl, hN, r⟩⟩
theorem OwnDiskW.parts {B : Nat} {w : World} {v : Value} {d : D} (h : OwnDiskW B w v d) : ∃ (sN sE sO sS sM : Value), v = .agg #[sN, sE, sO, sS, .int .i64 d.room, .int .i64 d.next] ∧ Cap sN sM ∧ ∃ nN nE nO nS : Nat,
    w.ownsRow B 41 3 sM nN (cellsN d.nodes) ∧ w.ownsRow B 66 2 sE nE (cellsE d.ents) ∧ w.ownsRow B 66 2 sO nO (cellsE d.old) ∧ w.ownsRow B 9 1 sS nS (d.steps.map Value.string) ∧
    Off sM sE ∧ Off sM sO ∧ Off sM sS ∧ Off sE sO ∧ Off sE sS ∧ Off sO sS := by
  obtain ⟨sN, sE, sO, sS, sM, rfl, hc, tN, tE, tO, tS, nN, nE, nO, nS, hv, r⟩ := h
  simp only [Value.agg.injEq, Array.mk.injEq, List.cons.injEq] at hv
  obtain ⟨rfl, rfl, rfl, rfl, _⟩ := hv
  exact ⟨sN, sE, sO, sS, sM, rfl, hc, nN, nE, nO, nS, r⟩
theorem OwnDiskW.is {B : Nat} {w : World} {v : Value} {d : D} (h : OwnDiskW B w v d) : IsDisk w v d := by
  obtain ⟨sN, sE, sO, sS, sM, rfl, hc, nN, nE, nO, nS, hN, hE, hO, hS, _⟩ := h.parts
  obtain ⟨aN, cN, rfl, _, _⟩ := own_shape hN
  obtain ⟨c2, rfl⟩ := hc.at
  obtain ⟨aE, cE, rfl, _, _⟩ := own_shape hE
  obtain ⟨aO, cO, rfl, _, _⟩ := own_shape hO
  obtain ⟨aS, cS, rfl, _, _⟩ := own_shape hS
  exact ⟨aN, aE, aO, aS, nN, c2, nE, cE, nO, cO, nS, cS, rfl, own_cells hN, own_cells hE, own_cells hO, At.of_own hS⟩
theorem OwnDiskW.base {B B' : Nat} {w : World} {v : Value} {d : D} (h : OwnDiskW B w v d) (hB : B' ≤ B) : OwnDiskW B' w v d := by
  obtain ⟨sN, sE, sO, sS, sM, rfl, hc, hd⟩ := h
  exact ⟨sN, sE, sO, sS, sM, rfl, hc, hd.base hB⟩
theorem OwnDiskW.below {B : Nat} {w w' : World} {v : Value} {d : D} (h : OwnDiskW B w v d) (hb : Below w.heap.size w w') : OwnDiskW B w' v d := by
  obtain ⟨sN, sE, sO, sS, sM, rfl, hc, hd⟩ := h
  exact ⟨sN, sE, sO, sS, sM, rfl, hc, hd.below hb⟩
theorem rows_cap {sN sM sE sO sS x y : Value} (hc : Cap sN sM) (k : Nat) : rows (.agg #[sN, sE, sO, sS, x, y]) k ↔ rows (.agg #[sM, sE, sO, sS, x, y]) k := by
  have hb := hc.block
  constructor
  · rintro ⟨u, hu, hk⟩
    simp only [List.mem_cons, List.not_mem_nil, or_false] at hu
    rcases hu with rfl | hu
    · exact ⟨sM, by simp, hb.symm.trans hk⟩
    · exact ⟨u, by simp; exact .inr hu, hk⟩
  · rintro ⟨u, hu, hk⟩
    simp only [List.mem_cons, List.not_mem_nil, or_false] at hu
    rcases hu with rfl | hu
    · exact ⟨sN, by simp, hb.trans hk⟩
    · exact ⟨u, by simp; exact .inr hu, hk⟩
theorem OwnDiskW.rows {B : Nat} {w : World} {v : Value} {d : D} (h : OwnDiskW B w v d) : ∀ k, rows v k → B ≤ k ∧ k < w.heap.size := by
  obtain ⟨sN, sE, sO, sS, sM, rfl, hc, hd⟩ := h
  exact fun k hk => hd.rows k ((rows_cap hc k).1 hk)
theorem OwnDiskW.only {B : Nat} {w w' : World} {v : Value} {d : D} {S : Nat → Prop} (h : OwnDiskW B w v d) (o : Only w w' S) (hs : ∀ k, disk.rows v k → ¬ S k) : OwnDiskW B w' v d := by
  obtain ⟨sN, sE, sO, sS, sM, rfl, hc, hd⟩ := h
  exact ⟨sN, sE, sO, sS, sM, rfl, hc, hd.only o (fun k hk => hs k ((rows_cap hc k).2 hk))⟩
end Go.Proofs.YtkibddcjogfklaaGreatDoor.disk
namespace Go.Proofs.YtkibddcjogfklaaGreatDoor.kd
open Go.RowKit
open kit strs recs disk

end Go.Proofs.YtkibddcjogfklaaGreatDoor.kd
