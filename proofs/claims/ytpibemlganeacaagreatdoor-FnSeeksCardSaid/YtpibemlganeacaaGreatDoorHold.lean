/-
  What the rows' lists of variables give: tables, sentinels, handles; a world that holds them all. (Written by a program of my own, hold.py.)
-/
import Derived.Test.YtpibemlganeacaaGreatDoorKit
import Derived.Test.YtpibemlganeacaaGreatDoorCards
import Derived.Lib.LaidTab
import Derived.Stop.LaidErr
import Derived.LaidHandle
import Derived.WalkSmall
import Derived.LaidLaws
namespace Go.Proofs.YtpibemlganeacaaGreatDoor.hold
open Go.RowKit

/-- so many cells of a variable, written into the settled world -/
def put (h : Array Obj) (g : Nat) (cs : Array Value) : Array Obj := h.modify g fun
  | .cells _ t frozen => .cells cs t frozen
  | o => o

/-! ### loop.example/g00971/impl.errNoHead -/
theorem g_loop_example_g00971_impl_errNoHead : Tryz.prog.globalNamed "loop.example/g00971/impl.errNoHead" = some 0 := by kernel_rfl
theorem star147 : "*" ++ "errors.errorString" = "*errors.errorString" := by decide
theorem row147 (u : TypeId) (h : Tryz.prog.typeName? 3 u = some "*errors.errorString") : u = 147 :=
  typeName_ptr_named (nm := "errors.errorString") (by rw [star147]; kernel_rfl) (by kernel_rfl) (by decide) u (by rw [star147]; exact h)
theorem cells162 : Tryz.prog.cellsOf 162 = 1 := by kernel_rfl
theorem cells9 : Tryz.prog.cellsOf 9 = 1 := by kernel_rfl
theorem gt_loop_example_g00971_impl_errNoHead : (Tryz.prog.globals[0]?).map (·.type) = some 119 := by kernel_rfl
def F_loop_example_g00971_impl_errNoHead (w : World) : Prop := ∃ te pe, w.cell? ⟨0, 0, none⟩ = some (.iface te pe)
theorem of_loop_example_g00971_impl_errNoHead {r : List (String × DataW Unit)} {W : World} (h : laidMet Tryz.prog (("loop.example/g00971/impl.errNoHead", Rows.laid_loop_example_g00971_impl_errNoHead) :: r) W) : F_loop_example_g00971_impl_errNoHead W := by
  obtain ⟨a0, s0, hv0, -, -, -⟩ := laid_sentinel h g_loop_example_g00971_impl_errNoHead gt_loop_example_g00971_impl_errNoHead Tryz.underlying119 row147 Tryz.underlying147 Tryz.underlying162 rfl rfl Tryz.underlying9 cells162 cells9
  exact ⟨_, _, by simpa using World.var?_cell g_loop_example_g00971_impl_errNoHead hv0 0⟩
theorem below_loop_example_g00971_impl_errNoHead {W W' : World} (h : F_loop_example_g00971_impl_errNoHead W) (hb : Below W.heap.size W W') : F_loop_example_g00971_impl_errNoHead W' := by
  obtain ⟨te, pe, hc⟩ := h
  exact ⟨te, pe, by rw [hb.cell (p := ⟨0, 0, none⟩) (World.block_lt_of_cell? W _ hc)]; exact hc⟩

/-! ### loop.example/g00971/impl.errNoMark -/
theorem g_loop_example_g00971_impl_errNoMark : Tryz.prog.globalNamed "loop.example/g00971/impl.errNoMark" = some 1 := by kernel_rfl
theorem gt_loop_example_g00971_impl_errNoMark : (Tryz.prog.globals[1]?).map (·.type) = some 119 := by kernel_rfl
def F_loop_example_g00971_impl_errNoMark (w : World) : Prop := ∃ te pe, w.cell? ⟨1, 0, none⟩ = some (.iface te pe)
theorem of_loop_example_g00971_impl_errNoMark {r : List (String × DataW Unit)} {W : World} (h : laidMet Tryz.prog (("loop.example/g00971/impl.errNoMark", Rows.laid_loop_example_g00971_impl_errNoMark) :: r) W) : F_loop_example_g00971_impl_errNoMark W := by
  obtain ⟨a0, s0, hv0, -, -, -⟩ := laid_sentinel h g_loop_example_g00971_impl_errNoMark gt_loop_example_g00971_impl_errNoMark Tryz.underlying119 row147 Tryz.underlying147 Tryz.underlying162 rfl rfl Tryz.underlying9 cells162 cells9
  exact ⟨_, _, by simpa using World.var?_cell g_loop_example_g00971_impl_errNoMark hv0 0⟩
theorem below_loop_example_g00971_impl_errNoMark {W W' : World} (h : F_loop_example_g00971_impl_errNoMark W) (hb : Below W.heap.size W W') : F_loop_example_g00971_impl_errNoMark W' := by
  obtain ⟨te, pe, hc⟩ := h
  exact ⟨te, pe, by rw [hb.cell (p := ⟨1, 0, none⟩) (World.block_lt_of_cell? W _ hc)]; exact hc⟩

/-! ### loop.example/g00971/impl.errOtherText -/
theorem g_loop_example_g00971_impl_errOtherText : Tryz.prog.globalNamed "loop.example/g00971/impl.errOtherText" = some 2 := by kernel_rfl
theorem gt_loop_example_g00971_impl_errOtherText : (Tryz.prog.globals[2]?).map (·.type) = some 119 := by kernel_rfl
def F_loop_example_g00971_impl_errOtherText (w : World) : Prop := ∃ te pe, w.cell? ⟨2, 0, none⟩ = some (.iface te pe)
theorem of_loop_example_g00971_impl_errOtherText {r : List (String × DataW Unit)} {W : World} (h : laidMet Tryz.prog (("loop.example/g00971/impl.errOtherText", Rows.laid_loop_example_g00971_impl_errOtherText) :: r) W) : F_loop_example_g00971_impl_errOtherText W := by
  obtain ⟨a0, s0, hv0, -, -, -⟩ := laid_sentinel h g_loop_example_g00971_impl_errOtherText gt_loop_example_g00971_impl_errOtherText Tryz.underlying119 row147 Tryz.underlying147 Tryz.underlying162 rfl rfl Tryz.underlying9 cells162 cells9
  exact ⟨_, _, by simpa using World.var?_cell g_loop_example_g00971_impl_errOtherText hv0 0⟩
theorem below_loop_example_g00971_impl_errOtherText {W W' : World} (h : F_loop_example_g00971_impl_errOtherText W) (hb : Below W.heap.size W W') : F_loop_example_g00971_impl_errOtherText W' := by
  obtain ⟨te, pe, hc⟩ := h
  exact ⟨te, pe, by rw [hb.cell (p := ⟨2, 0, none⟩) (World.block_lt_of_cell? W _ hc)]; exact hc⟩

/-! ### a world that holds them all -/
noncomputable def low : Nat := (World.holding Tryz.prog default ⟨#[], #[], []⟩).heap.size
noncomputable def world (os : Os) : World :=
  let w0 := World.holding Tryz.prog os ⟨#[.cells #[.string { data := #[116, 104, 101, 114, 101, 32, 105, 115, 32, 110, 111, 32, 104, 101, 97, 100, 32, 97, 116, 32, 105, 116, 115, 32, 98, 101, 103, 105, 110, 110, 105, 110, 103] }] 162, .cells #[.string { data := #[116, 104, 101, 114, 101, 32, 105, 115, 32, 110, 111, 32, 109, 97, 114, 107, 32, 98, 101, 104, 105, 110, 100, 32, 105, 116, 115, 32, 108, 97, 115, 116, 32, 102, 114, 97, 109, 101] }] 162, .cells #[.string { data := #[105, 116, 32, 105, 115, 32, 110, 111, 116, 32, 116, 104, 101, 32, 116, 101, 120, 116, 32, 97, 115, 32, 119, 104, 105, 99, 104, 32, 105, 116, 115, 32, 104, 101, 97, 100, 32, 97, 110, 100, 32, 105, 116, 115, 32, 114, 101, 99, 111, 114, 100, 115, 32, 97, 114, 101, 32, 115, 101, 97, 108, 101, 100] }] 162], #[], []⟩
  { w0 with heap := put (put (put w0.heap 0 #[.iface 147 (.pointer (some ⟨low + 0, 0, none⟩))]) 1 #[.iface 147 (.pointer (some ⟨low + 1, 0, none⟩))]) 2 #[.iface 147 (.pointer (some ⟨low + 2, 0, none⟩))] }

end Go.Proofs.YtpibemlganeacaaGreatDoor.hold
