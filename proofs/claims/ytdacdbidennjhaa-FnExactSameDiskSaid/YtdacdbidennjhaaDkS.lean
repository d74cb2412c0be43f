/-
  Contracts of spec's disks, in the form that the walks of the exact laws take.
-/
import Derived.Test.YtdacdbidennjhaaKinds
import Derived.Test.YtdacdbidennjhaaDkB
namespace Go.Proofs.Ytdacdbidennjhaa.kd
open Go.RowKit
open kit strs recs disk

def newD (room : Int) : D := ⟨[], [], [], [], if room < 0 then 0 else room, 1⟩
theorem at_nil (w : World) : strs.At w none 0 [] := ⟨rfl, .inl rfl⟩
theorem newD_own (w : World) (room : Int) (B : Nat) : OwnDisk B w (.agg #[.slice none 0 0, .slice none 0 0, .slice none 0 0, .slice none 0 0, .int .i64 (if room < 0 then 0 else room), .int .i64 1]) (newD room) :=
  ⟨_, _, _, _, 0, 0, 0, 0, rfl, World.ownsRow_nil _ _ _ _, World.ownsRow_nil _ _ _ _, World.ownsRow_nil _ _ _ _, World.ownsRow_nil _ _ _ _, fun g h => by simp [Value.ownBlock] at h, fun g h => by simp [Value.ownBlock] at h, fun g h => by simp [Value.ownBlock] at h, fun g h => by simp [Value.ownBlock] at h, fun g h => by simp [Value.ownBlock] at h, fun g h => by simp [Value.ownBlock] at h⟩
end Go.Proofs.Ytdacdbidennjhaa.kd
