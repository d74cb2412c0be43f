/-
  Contracts of spec's disks, in the form that the walks of the exact laws take.
-/
import Derived.Test.YtkibddcjogfklaaGreatDoorKinds
import Derived.Test.YtkibddcjogfklaaGreatDoorDkX
namespace Go.Proofs.YtkibddcjogfklaaGreatDoor.kd
open Go.RowKit
open kit strs recs disk

def newD (room : Int) : D := ⟨[], [], [], [], if room < 0 then 0 else room, 1⟩
theorem at_nil (w : World) : strs.At w none 0 [] := ⟨rfl, .inl rfl⟩
theorem newD_own (w : World) (room : Int) (B : Nat) : OwnDisk B w (.agg #[.slice none 0 0, .slice none 0 0, .slice none 0 0, .slice none 0 0, .int .i64 (if room < 0 then 0 else room), .int .i64 1]) (newD room) :=
  ⟨_, _, _, _, 0, 0, 0, 0, rfl, World.ownsRow_nil _ _ _ _, World.ownsRow_nil _ _ _ _, World.ownsRow_nil _ _ _ _, World.ownsRow_nil _ _ _ _, fun g h => by simp [Value.ownBlock] at h, fun g h => by simp [Value.ownBlock] at h, fun g h => by simp [Value.ownBlock] at h, fun g h => by simp [Value.ownBlock] at h, fun g h => by simp [Value.ownBlock] at h, fun g h => by simp [Value.ownBlock] at h⟩
theorem sEntryAt (v : Value) (xs : List Ent) (s : ByteArray) (w : World) (hk : okE xs) (hv : IsE w v xs) :
    Calls Tryz.prog 57 #[v, .string s] w fun e w' => e = .returned (.int .i64 (idE xs s)) ∧ Below w.heap.size w w' := by
  obtain ⟨a, n, c, rfl, h⟩ := hv
  have hb := hk.2
  unfold bulkE at hb
  rw [List.length_map, h.len] at hb
  refine (specEntryAt a c n xs s w (by unfold maxLen; omega) h).mono ?_
  rintro e w' ⟨he, rfl⟩
  exact ⟨he, Below.refl _ _⟩
theorem sUsedOn (v : Value) (d : D) (w : World) (hk : okD d) (hv : IsDisk w v d) :
    Calls Tryz.prog 31 #[v] w fun e w' => e = .returned (.int .i64 (usedOn d : Nat)) ∧ Below w.heap.size w w' :=
  specUsedOn v d w (by have := used_le hk.2; omega) hk.1 hv
end Go.Proofs.YtkibddcjogfklaaGreatDoor.kd
