/-
  What the rows' lists of variables give: tables, sentinels, handles; a world that holds them all. (Written by a program of my own, hold.py.)
-/
import Derived.Test.YtkibddcjogfklaaGreatDoorKit
import Derived.Test.YtkibddcjogfklaaGreatDoorCards
import Derived.Lib.LaidTab
import Derived.Stop.LaidErr
import Derived.LaidHandle
import Derived.WalkSmall
import Derived.LaidLaws
namespace Go.Proofs.YtkibddcjogfklaaGreatDoor.hold
open Go.RowKit

/-- so many cells of a variable, written into the settled world -/
def put (h : Array Obj) (g : Nat) (cs : Array Value) : Array Obj := h.modify g fun
  | .cells _ t frozen => .cells cs t frozen
  | o => o

/-! ### math/bits.deBruijn32tab -/
theorem g_math_bits_deBruijn32tab : Tryz.prog.globalNamed "math/bits.deBruijn32tab" = some 5 := by kernel_rfl
theorem gt_math_bits_deBruijn32tab : (Tryz.prog.globals[5]?).map (·.type) = some 204 := by kernel_rfl
theorem cells204 : Tryz.prog.cellsOf 204 = 32 := by kernel_rfl
theorem cells5 : Tryz.prog.cellsOf 5 = 1 := by kernel_rfl
def list_math_bits_deBruijn32tab : List Int := [0, 1, 28, 2, 29, 14, 24, 3, 30, 22, 20, 15, 25, 17, 4, 8, 31, 27, 13, 23, 21, 19, 16, 7, 26, 12, 18, 6, 11, 5, 10, 9]
def F_math_bits_deBruijn32tab (w : World) : Prop := Lib.TabIs Tryz.prog w "math/bits.deBruijn32tab" .u8 list_math_bits_deBruijn32tab
theorem of_math_bits_deBruijn32tab {r : List (String × DataW Unit)} {W : World} (h : laidMet Tryz.prog (("math/bits.deBruijn32tab", Rows.laid_math_bits_deBruijn32tab) :: r) W) : F_math_bits_deBruijn32tab W :=
  Lib.tabIs_of_head (zs := list_math_bits_deBruijn32tab) g_math_bits_deBruijn32tab gt_math_bits_deBruijn32tab Tryz.underlying204 Tryz.underlying5 cells5 cells204 h
theorem below_math_bits_deBruijn32tab {W W' : World} (h : F_math_bits_deBruijn32tab W) (hb : Below W.heap.size W W') : F_math_bits_deBruijn32tab W' := by
  have hc := Lib.TabIs.cell h g_math_bits_deBruijn32tab 0 (by decide)
  exact var?_below hb g_math_bits_deBruijn32tab (World.block_lt_of_cell? W _ hc) h

/-! ### math/bits.deBruijn64tab -/
theorem g_math_bits_deBruijn64tab : Tryz.prog.globalNamed "math/bits.deBruijn64tab" = some 6 := by kernel_rfl
theorem gt_math_bits_deBruijn64tab : (Tryz.prog.globals[6]?).map (·.type) = some 205 := by kernel_rfl
theorem cells205 : Tryz.prog.cellsOf 205 = 64 := by kernel_rfl
def list_math_bits_deBruijn64tab : List Int := [0, 1, 56, 2, 57, 49, 28, 3, 61, 58, 42, 50, 38, 29, 17, 4, 62, 47, 59, 36, 45, 43, 51, 22, 53, 39, 33, 30, 24, 18, 12, 5, 63, 55, 48, 27, 60, 41, 37, 16, 46, 35, 44, 21, 52, 32, 23, 11, 54, 26, 40, 15, 34, 20, 31, 10, 25, 14, 19, 9, 13, 8, 7, 6]
def F_math_bits_deBruijn64tab (w : World) : Prop := Lib.TabIs Tryz.prog w "math/bits.deBruijn64tab" .u8 list_math_bits_deBruijn64tab
theorem of_math_bits_deBruijn64tab {r : List (String × DataW Unit)} {W : World} (h : laidMet Tryz.prog (("math/bits.deBruijn64tab", Rows.laid_math_bits_deBruijn64tab) :: r) W) : F_math_bits_deBruijn64tab W :=
  Lib.tabIs_of_head (zs := list_math_bits_deBruijn64tab) g_math_bits_deBruijn64tab gt_math_bits_deBruijn64tab Tryz.underlying205 Tryz.underlying5 cells5 cells205 h
theorem below_math_bits_deBruijn64tab {W W' : World} (h : F_math_bits_deBruijn64tab W) (hb : Below W.heap.size W W') : F_math_bits_deBruijn64tab W' := by
  have hc := Lib.TabIs.cell h g_math_bits_deBruijn64tab 0 (by decide)
  exact var?_below hb g_math_bits_deBruijn64tab (World.block_lt_of_cell? W _ hc) h

/-! ### internal/strconv.uint64pow10 -/
theorem g_internal_strconv_uint64pow10 : Tryz.prog.globalNamed "internal/strconv.uint64pow10" = some 4 := by kernel_rfl
theorem gt_internal_strconv_uint64pow10 : (Tryz.prog.globals[4]?).map (·.type) = some 201 := by kernel_rfl
theorem cells201 : Tryz.prog.cellsOf 201 = 20 := by kernel_rfl
theorem cells165 : Tryz.prog.cellsOf 165 = 1 := by kernel_rfl
def list_internal_strconv_uint64pow10 : List Int := [1, 10, 100, 1000, 10000, 100000, 1000000, 10000000, 100000000, 1000000000, 10000000000, 100000000000, 1000000000000, 10000000000000, 100000000000000, 1000000000000000, 10000000000000000, 100000000000000000, 1000000000000000000, 10000000000000000000]
def F_internal_strconv_uint64pow10 (w : World) : Prop := Lib.TabIs Tryz.prog w "internal/strconv.uint64pow10" .u64 list_internal_strconv_uint64pow10
theorem of_internal_strconv_uint64pow10 {r : List (String × DataW Unit)} {W : World} (h : laidMet Tryz.prog (("internal/strconv.uint64pow10", Rows.laid_internal_strconv_uint64pow10) :: r) W) : F_internal_strconv_uint64pow10 W :=
  Lib.tabIs_of_head (zs := list_internal_strconv_uint64pow10) g_internal_strconv_uint64pow10 gt_internal_strconv_uint64pow10 Tryz.underlying201 Tryz.underlying165 cells165 cells201 h
theorem below_internal_strconv_uint64pow10 {W W' : World} (h : F_internal_strconv_uint64pow10 W) (hb : Below W.heap.size W W') : F_internal_strconv_uint64pow10 W' := by
  have hc := Lib.TabIs.cell h g_internal_strconv_uint64pow10 0 (by decide)
  exact var?_below hb g_internal_strconv_uint64pow10 (World.block_lt_of_cell? W _ hc) h

/-! ### errors.errorType -/
theorem g_errors_errorType : Tryz.prog.globalNamed "errors.errorType" = some 0 := by kernel_rfl
theorem rt_errors_errorType : (Tryz.prog.cutTypes.find? (·.1 == "internal/reflectlite.rtype")).map (·.2) = some 141 := by kernel_rfl
theorem one_errors_errorType : ((List.range Tryz.prog.types.size).filter fun t => Tryz.prog.rowNamed t [101, 114, 114, 111, 114]) = [111] := by kernel_rfl
def val_errors_errorType : Value := .iface 141 (.agg #[.pointer (some ⟨7, 111, none⟩)])
theorem th_errors_errorType : Value.iface 141 (.agg #[typeHandle Tryz.prog 111]) = val_errors_errorType := by kernel_rfl
def F_errors_errorType (w : World) : Prop := w.cell? ⟨0, 0, none⟩ = some val_errors_errorType
theorem of_errors_errorType {l : List (String × DataW Unit)} {W : World} (h : handlesMet Tryz.prog l W) (hm : ("errors.errorType", Rows.laid_errors_errorType) ∈ l) : F_errors_errorType W := by
  obtain ⟨name, u, ty, e1, e2, e3, e4, e5⟩ := h _ hm
  have en : name = [101, 114, 114, 111, 114] := (Option.some.inj e1).symm
  subst en
  obtain rfl := Option.some.inj (rt_errors_errorType.symm.trans e2)
  have hm : ty ∈ (List.range Tryz.prog.types.size).filter fun t => Tryz.prog.rowNamed t [101, 114, 114, 111, 114] := List.mem_filter.2 ⟨List.mem_range.2 e3, e4⟩
  rw [one_errors_errorType] at hm
  obtain rfl := List.mem_singleton.1 hm
  rw [th_errors_errorType] at e5
  have h := World.var?_cell g_errors_errorType e5 0
  unfold F_errors_errorType
  simpa using h
theorem below_errors_errorType {W W' : World} (h : F_errors_errorType W) (hb : Below W.heap.size W W') : F_errors_errorType W' := by
  unfold F_errors_errorType at *
  rw [hb.cell (p := ⟨0, 0, none⟩) (World.block_lt_of_cell? W _ h)]
  exact h

/-! ### strconv.ErrRange -/
theorem g_strconv_ErrRange : Tryz.prog.globalNamed "strconv.ErrRange" = some 3 := by kernel_rfl
theorem star193 : "*" ++ "errors.errorString" = "*errors.errorString" := by decide
theorem row193 (u : TypeId) (h : Tryz.prog.typeName? 3 u = some "*errors.errorString") : u = 193 :=
  typeName_ptr_named (nm := "errors.errorString") (by rw [star193]; kernel_rfl) (by kernel_rfl) (by decide) u (by rw [star193]; exact h)
theorem cells195 : Tryz.prog.cellsOf 195 = 1 := by kernel_rfl
theorem cells9 : Tryz.prog.cellsOf 9 = 1 := by kernel_rfl
theorem gt_strconv_ErrRange : (Tryz.prog.globals[3]?).map (·.type) = some 111 := by kernel_rfl
def F_strconv_ErrRange (w : World) : Prop := ∃ te pe, w.cell? ⟨3, 0, none⟩ = some (.iface te pe)
theorem of_strconv_ErrRange {r : List (String × DataW Unit)} {W : World} (h : laidMet Tryz.prog (("strconv.ErrRange", Rows.laid_strconv_ErrRange) :: r) W) : F_strconv_ErrRange W := by
  obtain ⟨a0, s0, hv0, -, -, -⟩ := laid_sentinel h g_strconv_ErrRange gt_strconv_ErrRange Tryz.underlying111 row193 Tryz.underlying193 Tryz.underlying195 rfl rfl Tryz.underlying9 cells195 cells9
  exact ⟨_, _, by simpa using World.var?_cell g_strconv_ErrRange hv0 0⟩
theorem below_strconv_ErrRange {W W' : World} (h : F_strconv_ErrRange W) (hb : Below W.heap.size W W') : F_strconv_ErrRange W' := by
  obtain ⟨te, pe, hc⟩ := h
  exact ⟨te, pe, by rw [hb.cell (p := ⟨3, 0, none⟩) (World.block_lt_of_cell? W _ hc)]; exact hc⟩

/-! ### strconv.ErrSyntax -/
theorem g_strconv_ErrSyntax : Tryz.prog.globalNamed "strconv.ErrSyntax" = some 2 := by kernel_rfl
theorem gt_strconv_ErrSyntax : (Tryz.prog.globals[2]?).map (·.type) = some 111 := by kernel_rfl
def F_strconv_ErrSyntax (w : World) : Prop := ∃ te pe, w.cell? ⟨2, 0, none⟩ = some (.iface te pe)
theorem of_strconv_ErrSyntax {r : List (String × DataW Unit)} {W : World} (h : laidMet Tryz.prog (("strconv.ErrSyntax", Rows.laid_strconv_ErrSyntax) :: r) W) : F_strconv_ErrSyntax W := by
  obtain ⟨a0, s0, hv0, -, -, -⟩ := laid_sentinel h g_strconv_ErrSyntax gt_strconv_ErrSyntax Tryz.underlying111 row193 Tryz.underlying193 Tryz.underlying195 rfl rfl Tryz.underlying9 cells195 cells9
  exact ⟨_, _, by simpa using World.var?_cell g_strconv_ErrSyntax hv0 0⟩
theorem below_strconv_ErrSyntax {W W' : World} (h : F_strconv_ErrSyntax W) (hb : Below W.heap.size W W') : F_strconv_ErrSyntax W' := by
  obtain ⟨te, pe, hc⟩ := h
  exact ⟨te, pe, by rw [hb.cell (p := ⟨2, 0, none⟩) (World.block_lt_of_cell? W _ hc)]; exact hc⟩

/-! ### a world that holds them all -/
noncomputable def low : Nat := (World.holding Tryz.prog default ⟨#[], #[], []⟩).heap.size
noncomputable def world (os : Os) : World :=
  let w0 := World.holding Tryz.prog os ⟨#[.cells #[.string { data := #[118, 97, 108, 117, 101, 32, 111, 117, 116, 32, 111, 102, 32, 114, 97, 110, 103, 101] }] 195, .cells #[.string { data := #[105, 110, 118, 97, 108, 105, 100, 32, 115, 121, 110, 116, 97, 120] }] 195], #[], []⟩
  { w0 with heap := put (put (put (put (put (put w0.heap 5 (list_math_bits_deBruijn32tab.map (Value.int .u8)).toArray) 6 (list_math_bits_deBruijn64tab.map (Value.int .u8)).toArray) 4 (list_internal_strconv_uint64pow10.map (Value.int .u64)).toArray) 0 #[val_errors_errorType]) 3 #[.iface 193 (.pointer (some ⟨low + 0, 0, none⟩))]) 2 #[.iface 193 (.pointer (some ⟨low + 1, 0, none⟩))] }

end Go.Proofs.YtkibddcjogfklaaGreatDoor.hold
