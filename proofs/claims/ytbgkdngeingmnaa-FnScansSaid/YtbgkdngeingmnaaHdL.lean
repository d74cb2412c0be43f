/-
  Contracts of LinkMore and LinkOf, spec's and impl's.
-/
import Derived.Test.YtbgkdngeingmnaaHdP
import Derived.Test.YtbgkdngeingmnaaStrsB
namespace Go.Proofs.Ytbgkdngeingmnaa.hd
set_option maxRecDepth 20000
open Go.RowKit
open kit sum num burst

set_option maxHeartbeats 1000000 in
theorem specLinkMore (s : Int) (r : ByteArray) (w : World) (hm : r.size ≤ 1048576) :
    Calls Try.prog 23 #[.int .i64 s, .string r] w fun e w' => e = .returned (.int .i64 ((lkM s r : Nat) : Int)) ∧ Below w.heap.size w w' := by
  have CF := Lib.hid (fun w => specFix_any (r.size : Int) 4 w)
  have nT := fxI_size (r.size : Int) 4
  obtain ⟨T, hT⟩ : ∃ T, fxI (r.size : Int) 4 = T := ⟨_, rfl⟩
  rw [hT] at CF nT
  have HE := Lib.hid (show lkM s r = more s (T ++ r) by unfold lkM; rw [hT]; rfl)
  have CM := Lib.hid (fun w => specMore_any s (T ++ r) w (by rw [ByteArray.size_append]; omega))
  clear hT
  go_enter Try.func23, Try.ntmps23
  go_wp2_with (fail)
  refine (CF.out _).mono ?_
  rintro e w1 ⟨rfl, hb1⟩
  go_wp2_with (fail)
  refine (CM.out _).mono ?_
  rintro e w' ⟨rfl, rfl⟩
  go_wp2
  go_ret
  exact ⟨by rw [HE.out]; rfl, hb1⟩

set_option maxHeartbeats 1000000 in
theorem implLinkMore (s : Int) (r : ByteArray) (w : World) (hm : r.size ≤ 1048576) :
    Calls Try.prog 55 #[.int .i64 s, .string r] w fun e w' => e = .returned (.int .i64 ((lkM s r : Nat) : Int)) ∧ Below w.heap.size w w' := by
  have CF := Lib.hid (fun w => implFix_any (r.size : Int) 4 w)
  have nT := fxI_size (r.size : Int) 4
  obtain ⟨T, hT⟩ : ∃ T, fxI (r.size : Int) 4 = T := ⟨_, rfl⟩
  rw [hT] at CF nT
  have HE := Lib.hid (show lkM s r = more s (T ++ r) by unfold lkM; rw [hT]; rfl)
  have CM := Lib.hid (fun w => implMore_any s (T ++ r) w (by rw [ByteArray.size_append]; omega))
  clear hT
  go_enter Try.func55, Try.ntmps55
  go_wp2_with (fail)
  refine (CF.out _).mono ?_
  rintro e w1 ⟨rfl, hb1⟩
  go_wp2_with (fail)
  refine (CM.out _).mono ?_
  rintro e w' ⟨rfl, rfl⟩
  go_wp2
  go_ret
  exact ⟨by rw [HE.out]; rfl, hb1⟩

end Go.Proofs.Ytbgkdngeingmnaa.hd
