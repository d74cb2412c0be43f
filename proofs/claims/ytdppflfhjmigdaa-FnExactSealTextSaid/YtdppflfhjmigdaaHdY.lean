/-
  Contracts of LinkMore and LinkOf, spec's and impl's.
-/
import Derived.Test.YtdppflfhjmigdaaHdQ
import Derived.Test.YtdppflfhjmigdaaStrQ
import Derived.Test.YtdppflfhjmigdaaBig
namespace Go.Proofs.Ytdppflfhjmigdaa.hd
set_option maxRecDepth 20000
open Go.RowKit
open kit sum num burst

end Go.Proofs.Ytdppflfhjmigdaa.hd

namespace Go.Proofs.Ytdppflfhjmigdaa.hd
set_option maxRecDepth 20000
open Go.RowKit
open kit sum num burst

set_option maxHeartbeats 1000000 in
theorem toHead_any (v s b l : Int) (w : World) :
    Calls Try.prog 7 #[.agg #[.int .i64 v, .int .i64 s, .int .i64 b, .int .i64 l]] w fun e w' => e = .returned (.agg #[.int .i64 v, .int .i64 s, .int .i64 b, .int .i64 l]) ∧ Below w.heap.size w w' := by
  have hb : Below w.heap.size w (w.alloc (.cells #[.int .i64 v, .int .i64 s, .int .i64 b, .int .i64 l] 23)) := (Below.refl _ _).alloc (Nat.le_refl _) _
  go_enter Try.func7, Try.ntmps7
  go_wp2
  refine bodyPost_ret (v := .agg #[.int .i64 v, .int .i64 s, .int .i64 b, .int .i64 l]) (by simp [results, Try.results7, go_sem]) rfl ⟨rfl, ?_⟩
  exact (hb.alloc (by simp) _).alloc (by simp; omega) _

theorem hdV_form (o : Option Hd) : ∃ v s b l : Int, hdV o = .agg #[.int .i64 v, .int .i64 s, .int .i64 b, .int .i64 l] := by
  cases o with
  | none => exact ⟨_, _, _, _, rfl⟩
  | some h => exact ⟨_, _, _, _, rfl⟩

end Go.Proofs.Ytdppflfhjmigdaa.hd
