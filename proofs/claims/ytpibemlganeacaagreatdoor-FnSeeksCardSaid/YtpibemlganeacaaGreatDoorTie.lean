/-
  DERIVED. GIVEN WITH THE SEED: THE PROGRAM's TIES (one call each: nine closed facts by the kernel) AND EACH ROW's TIE, after the 31st guide's Derived/Test/Toyas{Tie, Card}.lean. No idea stands in it: it is a product of the set-up. Laid BY PROGRAM, IN A SANDBOX (cutbox-door.mjs). By AI agents, Wed Nov 11 2026. No macro, syntax, notation, axiom, sorry.
-/
import Derived.Test.YtpibemlganeacaaGreatDoorRows
import Derived.LaidByTextLater
import Derived.SevenTiedAt
import Derived.LaidSub
import Derived.LaidOnce
namespace Go.Proofs.YtpibemlganeacaaGreatDoor
open Go
set_option maxRecDepth 100000
theorem seatTie1 : Tryz.prog.laidByTextLater [("loop.example/g00971/impl.errNoHead", Rows.laid_loop_example_g00971_impl_errNoHead), ("loop.example/g00971/impl.errNoMark", Rows.laid_loop_example_g00971_impl_errNoMark), ("loop.example/g00971/impl.errOtherText", Rows.laid_loop_example_g00971_impl_errOtherText)] [.sentinel, .sentinel, .sentinel] true :=
  Program.laidByTextLater_by_one 66 8 2 (by kernel_rfl) (by kernel_rfl) (by kernel_rfl) (by kernel_rfl) (by kernel_rfl) (by kernel_rfl) (fun _ _ => by kernel_rfl)
theorem noOwnUnsafe : Tryz.pinned.checked.prog.headLifts.contains "ownunsafe" = false := by kernel_rfl
theorem tie : Tryz.prog.laidByTextLater [("loop.example/g00971/impl.errNoHead", Rows.laid_loop_example_g00971_impl_errNoHead), ("loop.example/g00971/impl.errNoMark", Rows.laid_loop_example_g00971_impl_errNoMark), ("loop.example/g00971/impl.errOtherText", Rows.laid_loop_example_g00971_impl_errOtherText)] [.sentinel, .sentinel, .sentinel] true :=
  Program.laidByTextLater.sub seatTie1 ["loop.example/g00971/impl.errNoHead", "loop.example/g00971/impl.errNoMark", "loop.example/g00971/impl.errOtherText"] (by kernel_rfl) (by kernel_rfl)
theorem fnSeeks_row_tie : Rows.fnSeeksRow.laidByTextAt .later Tryz.pinned [.sentinel, .sentinel, .sentinel] true :=
  OpenClaim.laidByTextAt_later rfl rfl tie noOwnUnsafe
theorem fnSeeksUpto_row_tie : Rows.fnSeeksUptoRow.laidByTextAt .later Tryz.pinned [.sentinel, .sentinel, .sentinel] true :=
  OpenClaim.laidByTextAt_later rfl rfl tie noOwnUnsafe
end Go.Proofs.YtpibemlganeacaaGreatDoor
