/-
  Contracts of LinkMore and LinkOf, spec's and impl's.
-/
import Derived.Test.YtideejpopneplaaHdI
import Derived.Test.YtideejpopneplaaStrsB
import Derived.Test.YtideejpopneplaaHdQ
import Derived.Test.YtideejpopneplaaBig
namespace Go.Proofs.Ytideejpopneplaa.hd
set_option maxRecDepth 20000
open Go.RowKit
open kit sum num burst

end Go.Proofs.Ytideejpopneplaa.hd

namespace Go.Proofs.Ytideejpopneplaa.hd
set_option maxRecDepth 20000
open Go.RowKit
open kit sum num burst

set_option maxHeartbeats 1000000 in
theorem toHead_any (v s b l : Int) (w : World) :
    Calls Try.prog 38 #[.agg #[.int .i64 v, .int .i64 s, .int .i64 b, .int .i64 l]] w fun e w' => e = .returned (.agg #[.int .i64 v, .int .i64 s, .int .i64 b, .int .i64 l]) ∧ Below w.heap.size w w' := by
  have hb : Below w.heap.size w (w.alloc (.cells #[.int .i64 v, .int .i64 s, .int .i64 b, .int .i64 l] 59)) := (Below.refl _ _).alloc (Nat.le_refl _) _
  go_enter Try.func38, Try.ntmps38
  go_wp2
  refine bodyPost_ret (v := .agg #[.int .i64 v, .int .i64 s, .int .i64 b, .int .i64 l]) (by simp [results, Try.results38, go_sem]) rfl ⟨rfl, ?_⟩
  exact (hb.alloc (by simp) _).alloc (by simp; omega) _

theorem hdV_form (o : Option Hd) : ∃ v s b l : Int, hdV o = .agg #[.int .i64 v, .int .i64 s, .int .i64 b, .int .i64 l] := by
  cases o with
  | none => exact ⟨_, _, _, _, rfl⟩
  | some h => exact ⟨_, _, _, _, rfl⟩

end Go.Proofs.Ytideejpopneplaa.hd
