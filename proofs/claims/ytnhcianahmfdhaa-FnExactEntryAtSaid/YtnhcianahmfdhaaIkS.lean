/-
  Contracts of impl's disks, in the form that the walks of the exact laws take.
-/
import Derived.Test.YtnhcianahmfdhaaIkB
namespace Go.Proofs.Ytnhcianahmfdhaa.kd
open Go.RowKit
open kit strs recs disk

theorem iDiskNew (room : Int) (w : World) :
    Calls Try.prog 10 #[.int .i64 room] w fun e w' => ∃ u, e = .returned u ∧ OwnDisk w.heap.size w' u (newD room) ∧ Below w.heap.size w w' :=
  (implDiskNew room w).mono fun _ w' ⟨he, hb⟩ => ⟨_, he, newD_own w' room _, hb⟩
theorem iEntryAt (v : Value) (xs : List Ent) (s : ByteArray) (w : World) (hk : okE xs) (hv : IsE w v xs) :
    Calls Try.prog 17 #[v, .string s] w fun e w' => e = .returned (.int .i64 (idE xs s)) ∧ Below w.heap.size w w' := by
  obtain ⟨a, n, c, rfl, h⟩ := hv
  have hb := hk.2
  unfold bulkE at hb
  rw [List.length_map, h.len] at hb
  exact implEntryAt a c n xs s w (by unfold maxLen; omega) h
theorem iUsedOn (v : Value) (d : D) (w : World) (hk : okD d) (hv : IsDisk w v d) :
    Calls Try.prog 25 #[v] w fun e w' => e = .returned (.int .i64 (usedOn d : Nat)) ∧ Below w.heap.size w w' :=
  implUsedOn v d w (by have := used_le hk.2; omega) hk.1 hv
theorem iNodeAt (v : Value) (d : D) (s : ByteArray) (w : World) (hk : okD d) (hv : IsDisk w v d) :
    Calls Try.prog 22 #[v, .string s] w fun e w' => e = .returned (.tuple #[nodeV (nodeAt d s), .bool (nodeAt d s).isSome]) ∧ Below w.heap.size w w' :=
  implNodeAt v d s w hk.1 hv
theorem iReadFile (v : Value) (d : D) (s : ByteArray) (w : World) (hk : okD d) (hv : IsDisk w v d) :
    Calls Try.prog 32 #[v, .string s] w fun e w' => e = .returned (.tuple #[.string (textR (nodeAt d s)), .bool (nodeAt d s).isSome]) ∧ Below w.heap.size w w' :=
  implReadFile v d s w hk.1 hv
theorem iFileNames (v : Value) (d : D) (w : World) (hk : okD d) (hv : IsDisk w v d) :
    Calls Try.prog 27 #[v] w fun e w' => ∃ u, e = .returned u ∧ OwnSS w.heap.size w' u (names d.ents) ∧ Below w.heap.size w w' := by
  have hb := hk.2
  unfold bulk bulkN bulkE at hb
  simp only [List.length_map] at hb
  exact implFileNames v d w (by omega) hv

end Go.Proofs.Ytnhcianahmfdhaa.kd
