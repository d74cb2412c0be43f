/-
  What the rows' lists of variables give: tables, sentinels, handles; a world that holds them all. (Written by a program of my own, hold.py.)
-/
import Derived.Test.YtiehfobcbhgfkaaGreatDoorKit
import Derived.Test.YtiehfobcbhgfkaaGreatDoorCards
import Derived.Lib.LaidTab
import Derived.Stop.LaidErr
import Derived.LaidHandle
import Derived.WalkSmall
import Derived.LaidLaws
namespace Go.Proofs.YtiehfobcbhgfkaaGreatDoor.hold
open Go.RowKit

/-- so many cells of a variable, written into the settled world -/
def put (h : Array Obj) (g : Nat) (cs : Array Value) : Array Obj := h.modify g fun
  | .cells _ t frozen => .cells cs t frozen
  | o => o

/-! ### math/bits.deBruijn32tab -/
theorem g_math_bits_deBruijn32tab : Tryz.prog.globalNamed "math/bits.deBruijn32tab" = some 4 := by kernel_rfl
theorem gt_math_bits_deBruijn32tab : (Tryz.prog.globals[4]?).map (·.type) = some 243 := by kernel_rfl
theorem cells243 : Tryz.prog.cellsOf 243 = 32 := by kernel_rfl
theorem cells5 : Tryz.prog.cellsOf 5 = 1 := by kernel_rfl
def list_math_bits_deBruijn32tab : List Int := [0, 1, 28, 2, 29, 14, 24, 3, 30, 22, 20, 15, 25, 17, 4, 8, 31, 27, 13, 23, 21, 19, 16, 7, 26, 12, 18, 6, 11, 5, 10, 9]
def F_math_bits_deBruijn32tab (w : World) : Prop := Lib.TabIs Tryz.prog w "math/bits.deBruijn32tab" .u8 list_math_bits_deBruijn32tab
theorem of_math_bits_deBruijn32tab {r : List (String × DataW Unit)} {W : World} (h : laidMet Tryz.prog (("math/bits.deBruijn32tab", Rows.laid_math_bits_deBruijn32tab) :: r) W) : F_math_bits_deBruijn32tab W :=
  Lib.tabIs_of_head (zs := list_math_bits_deBruijn32tab) g_math_bits_deBruijn32tab gt_math_bits_deBruijn32tab Tryz.underlying243 Tryz.underlying5 cells5 cells243 h
theorem below_math_bits_deBruijn32tab {W W' : World} (h : F_math_bits_deBruijn32tab W) (hb : Below W.heap.size W W') : F_math_bits_deBruijn32tab W' := by
  have hc := Lib.TabIs.cell h g_math_bits_deBruijn32tab 0 (by decide)
  exact var?_below hb g_math_bits_deBruijn32tab (World.block_lt_of_cell? W _ hc) h

/-! ### math/bits.deBruijn64tab -/
theorem g_math_bits_deBruijn64tab : Tryz.prog.globalNamed "math/bits.deBruijn64tab" = some 5 := by kernel_rfl
theorem gt_math_bits_deBruijn64tab : (Tryz.prog.globals[5]?).map (·.type) = some 244 := by kernel_rfl
theorem cells244 : Tryz.prog.cellsOf 244 = 64 := by kernel_rfl
def list_math_bits_deBruijn64tab : List Int := [0, 1, 56, 2, 57, 49, 28, 3, 61, 58, 42, 50, 38, 29, 17, 4, 62, 47, 59, 36, 45, 43, 51, 22, 53, 39, 33, 30, 24, 18, 12, 5, 63, 55, 48, 27, 60, 41, 37, 16, 46, 35, 44, 21, 52, 32, 23, 11, 54, 26, 40, 15, 34, 20, 31, 10, 25, 14, 19, 9, 13, 8, 7, 6]
def F_math_bits_deBruijn64tab (w : World) : Prop := Lib.TabIs Tryz.prog w "math/bits.deBruijn64tab" .u8 list_math_bits_deBruijn64tab
theorem of_math_bits_deBruijn64tab {r : List (String × DataW Unit)} {W : World} (h : laidMet Tryz.prog (("math/bits.deBruijn64tab", Rows.laid_math_bits_deBruijn64tab) :: r) W) : F_math_bits_deBruijn64tab W :=
  Lib.tabIs_of_head (zs := list_math_bits_deBruijn64tab) g_math_bits_deBruijn64tab gt_math_bits_deBruijn64tab Tryz.underlying244 Tryz.underlying5 cells5 cells244 h
theorem below_math_bits_deBruijn64tab {W W' : World} (h : F_math_bits_deBruijn64tab W) (hb : Below W.heap.size W W') : F_math_bits_deBruijn64tab W' := by
  have hc := Lib.TabIs.cell h g_math_bits_deBruijn64tab 0 (by decide)
  exact var?_below hb g_math_bits_deBruijn64tab (World.block_lt_of_cell? W _ hc) h

/-! ### internal/strconv.uint64pow10 -/
theorem g_internal_strconv_uint64pow10 : Tryz.prog.globalNamed "internal/strconv.uint64pow10" = some 0 := by kernel_rfl
theorem gt_internal_strconv_uint64pow10 : (Tryz.prog.globals[0]?).map (·.type) = some 221 := by kernel_rfl
theorem cells221 : Tryz.prog.cellsOf 221 = 20 := by kernel_rfl
theorem cells166 : Tryz.prog.cellsOf 166 = 1 := by kernel_rfl
def list_internal_strconv_uint64pow10 : List Int := [1, 10, 100, 1000, 10000, 100000, 1000000, 10000000, 100000000, 1000000000, 10000000000, 100000000000, 1000000000000, 10000000000000, 100000000000000, 1000000000000000, 10000000000000000, 100000000000000000, 1000000000000000000, 10000000000000000000]
def F_internal_strconv_uint64pow10 (w : World) : Prop := Lib.TabIs Tryz.prog w "internal/strconv.uint64pow10" .u64 list_internal_strconv_uint64pow10
theorem of_internal_strconv_uint64pow10 {r : List (String × DataW Unit)} {W : World} (h : laidMet Tryz.prog (("internal/strconv.uint64pow10", Rows.laid_internal_strconv_uint64pow10) :: r) W) : F_internal_strconv_uint64pow10 W :=
  Lib.tabIs_of_head (zs := list_internal_strconv_uint64pow10) g_internal_strconv_uint64pow10 gt_internal_strconv_uint64pow10 Tryz.underlying221 Tryz.underlying166 cells166 cells221 h
theorem below_internal_strconv_uint64pow10 {W W' : World} (h : F_internal_strconv_uint64pow10 W) (hb : Below W.heap.size W W') : F_internal_strconv_uint64pow10 W' := by
  have hc := Lib.TabIs.cell h g_internal_strconv_uint64pow10 0 (by decide)
  exact var?_below hb g_internal_strconv_uint64pow10 (World.block_lt_of_cell? W _ hc) h

/-! ### strconv.ErrRange -/
theorem g_strconv_ErrRange : Tryz.prog.globalNamed "strconv.ErrRange" = some 2 := by kernel_rfl
theorem star240 : "*" ++ "errors.errorString" = "*errors.errorString" := by decide
theorem row240 (u : TypeId) (h : Tryz.prog.typeName? 3 u = some "*errors.errorString") : u = 240 :=
  typeName_ptr_named (nm := "errors.errorString") (by rw [star240]; kernel_rfl) (by kernel_rfl) (by decide) u (by rw [star240]; exact h)
theorem cells242 : Tryz.prog.cellsOf 242 = 1 := by kernel_rfl
theorem cells9 : Tryz.prog.cellsOf 9 = 1 := by kernel_rfl
theorem gt_strconv_ErrRange : (Tryz.prog.globals[2]?).map (·.type) = some 153 := by kernel_rfl
def F_strconv_ErrRange (w : World) : Prop := ∃ te pe, w.cell? ⟨2, 0, none⟩ = some (.iface te pe)
theorem of_strconv_ErrRange {r : List (String × DataW Unit)} {W : World} (h : laidMet Tryz.prog (("strconv.ErrRange", Rows.laid_strconv_ErrRange) :: r) W) : F_strconv_ErrRange W := by
  obtain ⟨a0, s0, hv0, -, -, -⟩ := laid_sentinel h g_strconv_ErrRange gt_strconv_ErrRange Tryz.underlying153 row240 Tryz.underlying240 Tryz.underlying242 rfl rfl Tryz.underlying9 cells242 cells9
  exact ⟨_, _, by simpa using World.var?_cell g_strconv_ErrRange hv0 0⟩
theorem below_strconv_ErrRange {W W' : World} (h : F_strconv_ErrRange W) (hb : Below W.heap.size W W') : F_strconv_ErrRange W' := by
  obtain ⟨te, pe, hc⟩ := h
  exact ⟨te, pe, by rw [hb.cell (p := ⟨2, 0, none⟩) (World.block_lt_of_cell? W _ hc)]; exact hc⟩

/-! ### strconv.ErrSyntax -/
theorem g_strconv_ErrSyntax : Tryz.prog.globalNamed "strconv.ErrSyntax" = some 1 := by kernel_rfl
theorem gt_strconv_ErrSyntax : (Tryz.prog.globals[1]?).map (·.type) = some 153 := by kernel_rfl
def F_strconv_ErrSyntax (w : World) : Prop := ∃ te pe, w.cell? ⟨1, 0, none⟩ = some (.iface te pe)
theorem of_strconv_ErrSyntax {r : List (String × DataW Unit)} {W : World} (h : laidMet Tryz.prog (("strconv.ErrSyntax", Rows.laid_strconv_ErrSyntax) :: r) W) : F_strconv_ErrSyntax W := by
  obtain ⟨a0, s0, hv0, -, -, -⟩ := laid_sentinel h g_strconv_ErrSyntax gt_strconv_ErrSyntax Tryz.underlying153 row240 Tryz.underlying240 Tryz.underlying242 rfl rfl Tryz.underlying9 cells242 cells9
  exact ⟨_, _, by simpa using World.var?_cell g_strconv_ErrSyntax hv0 0⟩
theorem below_strconv_ErrSyntax {W W' : World} (h : F_strconv_ErrSyntax W) (hb : Below W.heap.size W W') : F_strconv_ErrSyntax W' := by
  obtain ⟨te, pe, hc⟩ := h
  exact ⟨te, pe, by rw [hb.cell (p := ⟨1, 0, none⟩) (World.block_lt_of_cell? W _ hc)]; exact hc⟩

/-! ### a world that holds them all -/
noncomputable def low : Nat := (World.holding Tryz.prog default ⟨#[], #[], []⟩).heap.size
noncomputable def world (os : Os) : World :=
  let w0 := World.holding Tryz.prog os ⟨#[.cells #[.string { data := #[118, 97, 108, 117, 101, 32, 111, 117, 116, 32, 111, 102, 32, 114, 97, 110, 103, 101] }] 242, .cells #[.string { data := #[105, 110, 118, 97, 108, 105, 100, 32, 115, 121, 110, 116, 97, 120] }] 242], #[], []⟩
  { w0 with heap := put (put (put (put (put w0.heap 4 (list_math_bits_deBruijn32tab.map (Value.int .u8)).toArray) 5 (list_math_bits_deBruijn64tab.map (Value.int .u8)).toArray) 0 (list_internal_strconv_uint64pow10.map (Value.int .u64)).toArray) 2 #[.iface 240 (.pointer (some ⟨low + 0, 0, none⟩))]) 1 #[.iface 240 (.pointer (some ⟨low + 1, 0, none⟩))] }

end Go.Proofs.YtiehfobcbhgfkaaGreatDoor.hold
