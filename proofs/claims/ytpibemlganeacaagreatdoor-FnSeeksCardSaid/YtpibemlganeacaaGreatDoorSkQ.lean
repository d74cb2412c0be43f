/-
  The exact walks of PlaceFor, OffsetOf.
-/
import Derived.Test.YtpibemlganeacaaGreatDoorSkP
import Derived.Test.YtpibemlganeacaaGreatDoorPlK
import Derived.Test.YtpibemlganeacaaGreatDoorPlR
namespace Go.Proofs.YtpibemlganeacaaGreatDoor.sk
set_option maxRecDepth 20000
open Go.RowKit
open kit sum num burst hd fr recs sc pl sl

theorem pfR_form (o : Option Plc) : ∃ x y k, pfR o = .tuple #[.agg #[.int .i64 x, .int .i64 y], .bool k] := by
  cases o with
  | none => exact ⟨_, _, _, rfl⟩
  | some r => exact ⟨_, _, _, rfl⟩

end Go.Proofs.YtpibemlganeacaaGreatDoor.sk

namespace Go.Proofs.YtpibemlganeacaaGreatDoor.sk
set_option maxRecDepth 20000
open Go.RowKit
open kit sum num burst hd fr recs sc pl sl

theorem skR_form (o : Option ByteArray) : ∃ t k, skR o = .tuple #[.string t, .bool k] := by
  cases o with
  | none => exact ⟨_, _, rfl⟩
  | some r => exact ⟨_, _, rfl⟩

end Go.Proofs.YtpibemlganeacaaGreatDoor.sk
