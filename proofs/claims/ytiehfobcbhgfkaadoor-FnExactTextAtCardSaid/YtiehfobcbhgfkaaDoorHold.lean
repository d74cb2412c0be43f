/-
  What the rows' lists of variables give: tables, sentinels, handles; a world that holds them all. (Written by a program of my own, hold.py.)
-/
import Derived.Test.YtiehfobcbhgfkaaDoorKit
import Derived.Test.YtiehfobcbhgfkaaDoorCards
import Derived.Lib.LaidTab
import Derived.Stop.LaidErr
import Derived.LaidHandle
import Derived.WalkSmall
import Derived.LaidLaws
namespace Go.Proofs.YtiehfobcbhgfkaaDoor.hold
open Go.RowKit

/-- so many cells of a variable, written into the settled world -/
def put (h : Array Obj) (g : Nat) (cs : Array Value) : Array Obj := h.modify g fun
  | .cells _ t frozen => .cells cs t frozen
  | o => o

/-! ### math/bits.deBruijn32tab -/
theorem g_math_bits_deBruijn32tab : Tryd.prog.globalNamed "math/bits.deBruijn32tab" = some 2 := by kernel_rfl
theorem gt_math_bits_deBruijn32tab : (Tryd.prog.globals[2]?).map (·.type) = some 107 := by kernel_rfl
theorem cells107 : Tryd.prog.cellsOf 107 = 32 := by kernel_rfl
theorem cells5 : Tryd.prog.cellsOf 5 = 1 := by kernel_rfl
def list_math_bits_deBruijn32tab : List Int := [0, 1, 28, 2, 29, 14, 24, 3, 30, 22, 20, 15, 25, 17, 4, 8, 31, 27, 13, 23, 21, 19, 16, 7, 26, 12, 18, 6, 11, 5, 10, 9]
def F_math_bits_deBruijn32tab (w : World) : Prop := Lib.TabIs Tryd.prog w "math/bits.deBruijn32tab" .u8 list_math_bits_deBruijn32tab
theorem of_math_bits_deBruijn32tab {r : List (String × DataW Unit)} {W : World} (h : laidMet Tryd.prog (("math/bits.deBruijn32tab", Rows.laid_math_bits_deBruijn32tab) :: r) W) : F_math_bits_deBruijn32tab W :=
  Lib.tabIs_of_head (zs := list_math_bits_deBruijn32tab) g_math_bits_deBruijn32tab gt_math_bits_deBruijn32tab Tryd.underlying107 Tryd.underlying5 cells5 cells107 h
theorem below_math_bits_deBruijn32tab {W W' : World} (h : F_math_bits_deBruijn32tab W) (hb : Below W.heap.size W W') : F_math_bits_deBruijn32tab W' := by
  have hc := Lib.TabIs.cell h g_math_bits_deBruijn32tab 0 (by decide)
  exact var?_below hb g_math_bits_deBruijn32tab (World.block_lt_of_cell? W _ hc) h

/-! ### math/bits.deBruijn64tab -/
theorem g_math_bits_deBruijn64tab : Tryd.prog.globalNamed "math/bits.deBruijn64tab" = some 3 := by kernel_rfl
theorem gt_math_bits_deBruijn64tab : (Tryd.prog.globals[3]?).map (·.type) = some 108 := by kernel_rfl
theorem cells108 : Tryd.prog.cellsOf 108 = 64 := by kernel_rfl
def list_math_bits_deBruijn64tab : List Int := [0, 1, 56, 2, 57, 49, 28, 3, 61, 58, 42, 50, 38, 29, 17, 4, 62, 47, 59, 36, 45, 43, 51, 22, 53, 39, 33, 30, 24, 18, 12, 5, 63, 55, 48, 27, 60, 41, 37, 16, 46, 35, 44, 21, 52, 32, 23, 11, 54, 26, 40, 15, 34, 20, 31, 10, 25, 14, 19, 9, 13, 8, 7, 6]
def F_math_bits_deBruijn64tab (w : World) : Prop := Lib.TabIs Tryd.prog w "math/bits.deBruijn64tab" .u8 list_math_bits_deBruijn64tab
theorem of_math_bits_deBruijn64tab {r : List (String × DataW Unit)} {W : World} (h : laidMet Tryd.prog (("math/bits.deBruijn64tab", Rows.laid_math_bits_deBruijn64tab) :: r) W) : F_math_bits_deBruijn64tab W :=
  Lib.tabIs_of_head (zs := list_math_bits_deBruijn64tab) g_math_bits_deBruijn64tab gt_math_bits_deBruijn64tab Tryd.underlying108 Tryd.underlying5 cells5 cells108 h
theorem below_math_bits_deBruijn64tab {W W' : World} (h : F_math_bits_deBruijn64tab W) (hb : Below W.heap.size W W') : F_math_bits_deBruijn64tab W' := by
  have hc := Lib.TabIs.cell h g_math_bits_deBruijn64tab 0 (by decide)
  exact var?_below hb g_math_bits_deBruijn64tab (World.block_lt_of_cell? W _ hc) h

/-! ### internal/strconv.uint64pow10 -/
theorem g_internal_strconv_uint64pow10 : Tryd.prog.globalNamed "internal/strconv.uint64pow10" = some 0 := by kernel_rfl
theorem gt_internal_strconv_uint64pow10 : (Tryd.prog.globals[0]?).map (·.type) = some 99 := by kernel_rfl
theorem cells99 : Tryd.prog.cellsOf 99 = 20 := by kernel_rfl
theorem cells86 : Tryd.prog.cellsOf 86 = 1 := by kernel_rfl
def list_internal_strconv_uint64pow10 : List Int := [1, 10, 100, 1000, 10000, 100000, 1000000, 10000000, 100000000, 1000000000, 10000000000, 100000000000, 1000000000000, 10000000000000, 100000000000000, 1000000000000000, 10000000000000000, 100000000000000000, 1000000000000000000, 10000000000000000000]
def F_internal_strconv_uint64pow10 (w : World) : Prop := Lib.TabIs Tryd.prog w "internal/strconv.uint64pow10" .u64 list_internal_strconv_uint64pow10
theorem of_internal_strconv_uint64pow10 {r : List (String × DataW Unit)} {W : World} (h : laidMet Tryd.prog (("internal/strconv.uint64pow10", Rows.laid_internal_strconv_uint64pow10) :: r) W) : F_internal_strconv_uint64pow10 W :=
  Lib.tabIs_of_head (zs := list_internal_strconv_uint64pow10) g_internal_strconv_uint64pow10 gt_internal_strconv_uint64pow10 Tryd.underlying99 Tryd.underlying86 cells86 cells99 h
theorem below_internal_strconv_uint64pow10 {W W' : World} (h : F_internal_strconv_uint64pow10 W) (hb : Below W.heap.size W W') : F_internal_strconv_uint64pow10 W' := by
  have hc := Lib.TabIs.cell h g_internal_strconv_uint64pow10 0 (by decide)
  exact var?_below hb g_internal_strconv_uint64pow10 (World.block_lt_of_cell? W _ hc) h

/-! ### a world that holds them all -/
noncomputable def low : Nat := (World.holding Tryd.prog default ⟨#[], #[], []⟩).heap.size
noncomputable def world (os : Os) : World :=
  let w0 := World.holding Tryd.prog os ⟨#[], #[], []⟩
  { w0 with heap := put (put (put w0.heap 2 (list_math_bits_deBruijn32tab.map (Value.int .u8)).toArray) 3 (list_math_bits_deBruijn64tab.map (Value.int .u8)).toArray) 0 (list_internal_strconv_uint64pow10.map (Value.int .u64)).toArray }

end Go.Proofs.YtiehfobcbhgfkaaDoor.hold
