/-
  Contracts of LinkMore and LinkOf, spec's and impl's.
-/
import Derived.Test.YtdppflfhjmigdaaDoorHdQ
import Derived.Test.YtdppflfhjmigdaaDoorStrQ
import Derived.Test.YtdppflfhjmigdaaDoorBig
namespace Go.Proofs.YtdppflfhjmigdaaDoor.hd
set_option maxRecDepth 20000
open Go.RowKit
open kit sum num burst

end Go.Proofs.YtdppflfhjmigdaaDoor.hd

namespace Go.Proofs.YtdppflfhjmigdaaDoor.hd
set_option maxRecDepth 20000
open Go.RowKit
open kit sum num burst

set_option maxHeartbeats 1000000 in
theorem eqHead_any (v s b l : Int) (w : World) :
    Calls Tryd.prog 23 #[.agg #[.int .i64 v, .int .i64 s, .int .i64 b, .int .i64 l], .agg #[.int .i64 v, .int .i64 s, .int .i64 b, .int .i64 l]] w fun e w' => e = .returned (.bool true) ∧ Below w.heap.size w w' := by
  have hb : Below w.heap.size w ((w.alloc (.cells #[.int .i64 v, .int .i64 s, .int .i64 b, .int .i64 l] 26)).alloc (.cells #[.int .i64 v, .int .i64 s, .int .i64 b, .int .i64 l] 26)) := ((Below.refl _ _).alloc (Nat.le_refl _) _).alloc (by simp) _
  go_enter Tryd.func23, Tryd.ntmps23
  go_wp2
  go_ret
  exact ⟨rfl, hb⟩

theorem hdV_form (o : Option Hd) : ∃ v s b l : Int, hdV o = .agg #[.int .i64 v, .int .i64 s, .int .i64 b, .int .i64 l] := by
  cases o with
  | none => exact ⟨_, _, _, _, rfl⟩
  | some h => exact ⟨_, _, _, _, rfl⟩

end Go.Proofs.YtdppflfhjmigdaaDoor.hd
