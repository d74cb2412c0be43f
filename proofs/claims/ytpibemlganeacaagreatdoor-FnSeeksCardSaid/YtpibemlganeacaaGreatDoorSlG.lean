/-
  What the rows' lists give of the three errors that tell why a file is not sealed; that it stays; what errors.Is answers of them.
-/
import Derived.Test.YtpibemlganeacaaGreatDoorKit
import Derived.Stop.LaidTwo
import Derived.WalkKit
import Derived.LaidEql
import Derived.Stop.Asserts
import Derived.RowKitTokens
namespace Go.Proofs.YtpibemlganeacaaGreatDoor.sl
set_option maxRecDepth 20000
open Go.RowKit Go.Extern.Stop Go.Stop Go.Extern

/-- a list without its second one -/
theorem laid_drop {P : Program} {x y : String × DataW Unit} {r : List (String × DataW Unit)} {w : World} (h : laidMet P (x :: y :: r) w) : laidMet P (x :: r) w := by
  obtain ⟨n, d⟩ := x
  obtain ⟨n1, d1⟩ := y
  obtain ⟨ps, ⟨g, t, cs, fuel, p, q, h1, h2, h3, h4, ⟨g1, t1, cs1, fuel1, p1, q1, _, _, _, _, hq, e1⟩, e0⟩, hnd, hrows⟩ := h
  subst e1
  subst e0
  refine ⟨_, ⟨g, t, cs, fuel, p, q1, h1, h2, h3, h4, hq, rfl⟩, List.Nodup.sublist (List.Sublist.append (List.Sublist.refl _) (List.sublist_append_right _ _)) hnd, fun b off hm => hrows b off ?_⟩
  rcases List.mem_append.1 hm with hm | hm
  · exact List.mem_append_left _ hm
  · exact List.mem_append_right _ (List.mem_append_right _ hm)

theorem g_h : Tryz.prog.globalNamed "loop.example/g00971/impl.errNoHead" = some 0 := by kernel_rfl
theorem g_m : Tryz.prog.globalNamed "loop.example/g00971/impl.errNoMark" = some 1 := by kernel_rfl
theorem g_o : Tryz.prog.globalNamed "loop.example/g00971/impl.errOtherText" = some 2 := by kernel_rfl
theorem gt_h : (Tryz.prog.globals[(0 : Nat)]?).map (·.type) = some 119 := by kernel_rfl
theorem gt_m : (Tryz.prog.globals[(1 : Nat)]?).map (·.type) = some 119 := by kernel_rfl
theorem gt_o : (Tryz.prog.globals[(2 : Nat)]?).map (·.type) = some 119 := by kernel_rfl
theorem cells_e : Tryz.prog.cellsOf 162 = 1 := by kernel_rfl
theorem cells_s : Tryz.prog.cellsOf 9 = 1 := by kernel_rfl
theorem star_e : "*" ++ "errors.errorString" = "*errors.errorString" := by decide
theorem row_e (u : TypeId) (h : Tryz.prog.typeName? 3 u = some "*errors.errorString") : u = 147 :=
  typeName_ptr_named (nm := "errors.errorString") (by rw [star_e]; kernel_rfl) (by kernel_rfl) (by decide) u (by rw [star_e]; exact h)

/-- a pointer to an error's cell, in a row that is nobody's -/
abbrev errAt (a : Addr) : Value := .iface 147 (.pointer (some a))
/-- the three errors stand where they stood at the start, and the first one is none of the others -/
def GE (w : World) : Prop := ∃ (a b c : Addr) (ca cb cc : Array Value) (ta tb tc : TypeId),
  w.cell? ⟨0, 0, none⟩ = some (errAt a) ∧ w.cell? ⟨1, 0, none⟩ = some (errAt b) ∧ w.cell? ⟨2, 0, none⟩ = some (errAt c) ∧
  a ≠ b ∧ a ≠ c ∧ w.heap[a.block]? = some (.cells ca ta (0, 0)) ∧ w.heap[b.block]? = some (.cells cb tb (0, 0)) ∧ w.heap[c.block]? = some (.cells cc tc (0, 0))
theorem GE.below {w w' : World} (h : GE w) (hb : Below w.heap.size w w') : GE w' := by
  obtain ⟨a, b, c, ca, cb, cc, ta, tb, tc, h0, h1, h2, h3, h4, h5, h6, h7⟩ := h
  have k : ∀ {o : Obj} {q : Nat}, w.heap[q]? = some o → w'.heap[q]? = some o := fun hq => (hb.block _ (Array.getElem?_eq_some_iff.1 hq).1).trans hq
  have kc : ∀ {g : Nat} {v : Value}, w.cell? ⟨g, 0, none⟩ = some v → w'.cell? ⟨g, 0, none⟩ = some v := fun hc => (hb.cell (p := ⟨_, 0, none⟩) (World.block_lt_of_cell? w _ hc)).trans hc
  exact ⟨a, b, c, ca, cb, cc, ta, tb, tc, kc h0, kc h1, kc h2, h3, h4, k h5, k h6, k h7⟩
/-- .. also past any base -/
theorem GE.past {w w' : World} (h : GE w) (hb : Below w.heap.size w w') : GE w' := h.below hb

theorem GE.of {th tm tO : List UInt8} {r : List (String × DataW Unit)} {W : World}
    (h : laidMet Tryz.prog (("loop.example/g00971/impl.errNoHead", .iface "*errors.errorString" (.ptr (.agg [.lit (.string th)]))) :: ("loop.example/g00971/impl.errNoMark", .iface "*errors.errorString" (.ptr (.agg [.lit (.string tm)]))) :: ("loop.example/g00971/impl.errOtherText", .iface "*errors.errorString" (.ptr (.agg [.lit (.string tO)]))) :: r) W) : GE W := by
  obtain ⟨a, b, _, _, ca, cb, ta, tb, hv0, hv1, _, _, _, _, _, _, hne, hb0, hb1⟩ := laid_sentinels2 h g_h gt_h g_m gt_m Tryz.underlying119 row_e Tryz.underlying147 Tryz.underlying162 rfl rfl Tryz.underlying9 cells_e cells_s
  obtain ⟨a', c, _, _, _, cc, _, tc, hw0, hv2, _, _, _, _, _, _, hne2, _, hb2⟩ := laid_sentinels2 (laid_drop h) g_h gt_h g_o gt_o Tryz.underlying119 row_e Tryz.underlying147 Tryz.underlying162 rfl rfl Tryz.underlying9 cells_e cells_s
  have e : a = a' := by
    rw [hv0] at hw0
    simpa using hw0
  subst e
  exact ⟨a, b, c, ca, cb, cc, ta, tb, tc, by simpa using World.var?_cell g_h hv0 0, by simpa using World.var?_cell g_m hv1 0, by simpa using World.var?_cell g_o hv2 0, hne, hne2, hb0, hb1, hb2⟩

/-! ### the three errors as the rows' variables, read again -/
theorem errs.vars {th tm tO : List UInt8} {r : List (String × DataW Unit)} {W : World}
    (h : laidMet Tryz.prog (("loop.example/g00971/impl.errNoHead", .iface "*errors.errorString" (.ptr (.agg [.lit (.string th)]))) :: ("loop.example/g00971/impl.errNoMark", .iface "*errors.errorString" (.ptr (.agg [.lit (.string tm)]))) :: ("loop.example/g00971/impl.errOtherText", .iface "*errors.errorString" (.ptr (.agg [.lit (.string tO)]))) :: r) W) :
    ∃ a b c : Addr, W.var? Tryz.prog "loop.example/g00971/impl.errNoHead" = some #[errAt a] ∧ W.var? Tryz.prog "loop.example/g00971/impl.errNoMark" = some #[errAt b] ∧ W.var? Tryz.prog "loop.example/g00971/impl.errOtherText" = some #[errAt c] := by
  obtain ⟨a, b, _, _, _, _, _, _, hv0, hv1, _⟩ := laid_sentinels2 h g_h gt_h g_m gt_m Tryz.underlying119 row_e Tryz.underlying147 Tryz.underlying162 rfl rfl Tryz.underlying9 cells_e cells_s
  obtain ⟨_, c, _, _, _, _, _, _, _, hv2, _⟩ := laid_sentinels2 (laid_drop h) g_h gt_h g_o gt_o Tryz.underlying119 row_e Tryz.underlying147 Tryz.underlying162 rfl rfl Tryz.underlying9 cells_e cells_s
  exact ⟨a, b, c, hv0, hv1, hv2⟩
theorem errs.read {H : Type} (enc : TypeId × Value → H) {W : World} {a b c : Addr} (h0 : W.var? Tryz.prog "loop.example/g00971/impl.errNoHead" = some #[errAt a]) (h1 : W.var? Tryz.prog "loop.example/g00971/impl.errNoMark" = some #[errAt b]) (h2 : W.var? Tryz.prog "loop.example/g00971/impl.errOtherText" = some #[errAt c]) (sp : Nat → Bool) :
    DataW.TrodVars enc Tryz.prog W sp ["loop.example/g00971/impl.errNoHead", "loop.example/g00971/impl.errNoMark", "loop.example/g00971/impl.errOtherText"] [tok enc (errAt a), tok enc (errAt b), tok enc (errAt c)] [.cell 0 0, .cell 1 0, .cell 2 0] :=
  ⟨_, _, _, 1, [], _, g_h, gt_h, h0, trod_held (v := errAt _) Tryz.underlying119 trivial 0, ⟨_, _, _, 1, [], _, g_m, gt_m, h1, trod_held (v := errAt _) Tryz.underlying119 trivial 0, ⟨_, _, _, 1, [], _, g_o, gt_o, h2, trod_held (v := errAt _) Tryz.underlying119 trivial 0, rfl, rfl⟩, rfl⟩, rfl⟩
theorem var_stays {W W' : World} {n : String} {g : Nat} {cs : Array Value} (h : Below W.heap.size W W') (hg : Tryz.prog.globalNamed n = some g) (hv : W.var? Tryz.prog n = some cs) : W'.var? Tryz.prog n = some cs := by
  unfold World.var? at hv ⊢
  simp only [hg, Option.bind_some] at hv ⊢
  have hlt : g < W.heap.size := by
    rcases Nat.lt_or_ge g W.heap.size with h' | h'
    · exact h'
    · simp [Array.getElem?_eq_none h'] at hv
  rw [h.block g hlt]
  exact hv
theorem errs.var1 {W W' : World} {cs : Array Value} (h : Below W.heap.size W W') (hv : W.var? Tryz.prog "loop.example/g00971/impl.errNoHead" = some cs) : W'.var? Tryz.prog "loop.example/g00971/impl.errNoHead" = some cs := var_stays h g_h hv
theorem errs.var2 {W W' : World} {cs : Array Value} (h : Below W.heap.size W W') (hv : W.var? Tryz.prog "loop.example/g00971/impl.errNoMark" = some cs) : W'.var? Tryz.prog "loop.example/g00971/impl.errNoMark" = some cs := var_stays h g_m hv
theorem errs.var3 {W W' : World} {cs : Array Value} (h : Below W.heap.size W W') (hv : W.var? Tryz.prog "loop.example/g00971/impl.errOtherText" = some cs) : W'.var? Tryz.prog "loop.example/g00971/impl.errOtherText" = some cs := var_stays h g_o hv

/-! ### errors.Is at them -/
theorem isComparable (w : World) : ((Extern.ReflectliteType.method fun t => do Extern.Rtype.noPackHeld "Comparable" t; (fun a => Value.bool a.comparable) <$> typeInfo t) #[.agg #[.pointer (some ⟨4, 147, none⟩)]]).run Tryz.prog w = .ok (.bool true) w := by kernel_rfl
theorem isComp : (Tryz.prog.info? 147).map (·.comparable) = some true := by kernel_rfl
theorem isSize : (Tryz.prog.info? 162).map (·.size) = some 1 := by kernel_rfl
end Go.Proofs.YtpibemlganeacaaGreatDoor.sl
