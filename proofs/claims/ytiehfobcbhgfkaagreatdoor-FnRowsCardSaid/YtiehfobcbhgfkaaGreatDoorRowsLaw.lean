/-
  PROVED: 'Rows.FnRowsCardSaid': for every slice of bytes the call laws.FnRows returns true (the row is what all files of the chain have, each going on from the one ahead; what is not in it is loose), and the argument reads as it did.
  CONDITIONS: the given card's own: the library's variables that the row lists start as the program's text lays them (the tie is given; over the pruned copy of the project).
-/
import Derived.Test.YtiehfobcbhgfkaaGreatDoorArgX
import Derived.Test.YtiehfobcbhgfkaaGreatDoorRwI
import Derived.Test.YtiehfobcbhgfkaaGreatDoorRwW
import Derived.Test.YtiehfobcbhgfkaaGreatDoorHold
import Derived.Test.YtiehfobcbhgfkaaGreatDoorFacts
import Derived.Test.YtiehfobcbhgfkaaGreatDoorTie
import Derived.WalkKit
import Derived.ProofKit
import Derived.OpenShut
import Derived.ShutString
import Derived.SliceStrings
import Derived.ChangeOld
import Derived.Below
import Derived.Deep.DeepHandedRow
import Derived.Lib.LaidTab
namespace Go.Proofs.YtiehfobcbhgfkaaGreatDoor.fnRows
open Go.ChangeShapes Go.WideShapes Go.ChangeAt Go.RowKit
open Go.ChangeMaps (open_string shut_string)
set_option linter.unusedVariables false

theorem own : ownKnob Tryz.prog.godebug = none := by kernel_rfl
theorem laidOut : laidOutB Tryz.prog = true := by kernel_rfl

theorem walk (w : World) (a0 : Option Addr) (n0 c0 : Nat) (m0 : n0 ≤ 9223372036854775807) (h0 : n0 ≤ 1048576 → draw.CodeAt w w.heap.size a0 n0) (t_math_bits_deBruijn32tab : hold.F_math_bits_deBruijn32tab w) (t_math_bits_deBruijn64tab : hold.F_math_bits_deBruijn64tab w) (t_internal_strconv_uint64pow10 : hold.F_internal_strconv_uint64pow10 w) (t_strconv_ErrRange : hold.F_strconv_ErrRange w) (t_strconv_ErrSyntax : hold.F_strconv_ErrSyntax w) :
    Calls Tryz.prog 3 #[.slice a0 n0 c0] w fun e w' => e = .returned (.bool true) ∧ Below w.heap.size w w' := by
  by_cases h1 : 1048576 < n0
  · exact row.rows_big a0 n0 c0 w h1
  · exact row.rows_small row.implR a0 n0 c0 w (h0 (by omega)) (row.gw_of t_math_bits_deBruijn64tab t_strconv_ErrSyntax)

theorem table {W : World} (h : laidMetH Tryz.prog Rows.fnRowsRow.laid W) : hold.F_math_bits_deBruijn32tab W ∧ hold.F_math_bits_deBruijn64tab W ∧ hold.F_internal_strconv_uint64pow10 W ∧ hold.F_strconv_ErrRange W ∧ hold.F_strconv_ErrSyntax W := by
  have h1 : laidMet Tryz.prog Rows.fnRowsRow.laid W := h
  exact ⟨hold.of_math_bits_deBruijn32tab h1, hold.of_math_bits_deBruijn64tab (laidMet.tail h1), hold.of_internal_strconv_uint64pow10 (laidMet.tail (laidMet.tail h1)), hold.of_strconv_ErrRange (laidMet.tail (laidMet.tail (laidMet.tail h1))), hold.of_strconv_ErrSyntax (laidMet.tail (laidMet.tail (laidMet.tail (laidMet.tail h1))))⟩

set_option maxRecDepth 1000000 in
theorem contract (H : Type) (enc : TypeId × Value → H) (W : World) (base : Nat) (args : Array Value) (ds gs : List (DataW H)) (before : List MemPlace)
    (hval : ∀ (j : Nat) t v, Tryz.f3.params[j]? = some t → args[j]? = some v → Value.okWide Tryz.prog W .any base t v)
    (hW : DataW.Whole enc Tryz.prog Tryz.f3.params.toList Rows.fnRowsSpec.vars false W args.toList ds gs before) (hL : laidMetH Tryz.prog Rows.fnRowsRow.laid W) :
    Calls Tryz.prog 3 args W fun e W' => ∃ v, e = .returned v ∧ Rows.fnRowsSpec.post enc Tryz.prog Tryz.f3 false true false false W args v W' := by
  have hW' := hW
  obtain ⟨p, q, hA0, hV, rfl, hfz, hnd⟩ := hW
  have hA : DataW.TrodAll enc Tryz.prog W 0 (fun _ => true) true Tryz.f3.params.toList args.toList ds p := hA0
  rw [Tryz.params3] at hA hval
  obtain ⟨v0, vs0, d0, ds0, p0, q0, hargs, rfl, rfl, h0, r0⟩ := trodAll_cons hA
  obtain ⟨rfl, rfl, rfl⟩ := trodAll_nil r0
  obtain rfl : args = #[v0] := by cases args; simp_all
  obtain ⟨rfl, rfl⟩ := trodVars_none hV
  have k0 := h0
  have lt0 : ∀ x ∈ p0, x.block < W.heap.size := by obtain ⟨m, hm⟩ := k0; exact DataW.trod_lt m _ _ _ hm
  obtain ⟨a0, n0, c0, rfl, m0, y0⟩ := argv.op_B (hval 0 22 v0 rfl rfl) h0
  clear hA0
  refine (walk W a0 n0 c0 m0 y0 (table hL).1 (table hL).2.1 (table hL).2.2.1 (table hL).2.2.2.1 (table hL).2.2.2.2).mono fun e W' ⟨he, bel⟩ => ?_
  subst he
  exact ⟨_, rfl, _, _, _, [], _, [], hW', (trodAll_cons_mk (shut_bool Tryz.underlying4 _) trodAll_mk0), (trodAll_cons_mk (Below.trod laidOut (by kernel_rfl) (of_decide_eq_true (by kernel_rfl)) k0 bel lt0) trodAll_mk0), rfl, bel.frame _, fun h => by cases h⟩

theorem laid_met (os : Os) : laidMetH Tryz.prog Rows.fnRowsRow.laid ((hold.world os).forCall (fun _ _ => 0) ⟨#[], #[.slice none 0 0], []⟩).memory :=
  laidMet_of_run' 8 (by kernel_rfl) (by kernel_rfl)
theorem reads (os : Os) {H : Type} (enc : TypeId × Value → H) : ∃ places, DataW.whole enc Tryz.prog ((hold.world os).forCall (fun _ _ => 0) ⟨#[], #[.slice none 0 0], []⟩).memory Tryz.f3.params.toList Rows.fnRowsSpec.vars false (#[.slice none 0 0] : Array Value).toList 8 = some ([.nil], [], places) :=
  ⟨[], by kernel_rfl⟩

set_option maxRecDepth 100000 in
theorem lifted (os : Os) (started : os.Started) (H : Type) (enc : TypeId × Value → H) (F : Stop.Interp) :
    ReturnsInHanded {} Tryz.checked os 3 .any ((OpenSpec.ofChange Rows.fnRowsSpec).preRow enc Tryz.prog Tryz.f3 Rows.fnRowsRow.domain false Rows.fnRowsRow.laid) (((OpenSpec.ofChange Rows.fnRowsSpec).at F).post enc Tryz.prog Tryz.f3 false true false false) := by
  obtain ⟨places, hx⟩ := reads os enc
  refine returnsInHanded_of_row (C := Tryz.checked) (s := OpenSpec.ofChange Rows.fnRowsSpec) own started (by kernel_rfl) Tryz.func3
    (witness_row_at (enc := enc) (C := Tryz.checked) false (hold.world os) #[.slice none 0 0] rfl (by kernel_rfl) (by kernel_rfl) (by kernel_rfl)
      (OpenSpec.preRow_of_cond 8 hx (by kernel_rfl) (fun k hk => by cases hk) (by kernel_rfl) (laid_met os))) ?_
  intro W base args ds gs before hval hW _ _ _ hL _ _
  exact contract H enc W base args ds gs before hval hW hL

theorem said : Rows.FnRowsSaid :=
  OpenClaim.holds_of_cond 3 Tryz.f3 rfl rfl rfl rfl rfl rfl rfl ⟨rfl, rfl, rfl, rfl, rfl⟩ rfl rfl rfl rfl rfl (by kernel_rfl) Tryz.func3 (by unfold joinedFacts; rw [facts.mayEnter, facts.lifts, facts.make]; kernel_rfl)
    (of_decide_eq_true (by kernel_rfl)) (by unfold Func.isWrapper; first | (rw [if_pos (by decide +kernel)]; kernel_rfl) | (rw [if_neg (by decide +kernel)]; exact ⟨rfl, rfl⟩))
    (fun os started H enc _ F => by rw [OpenClaim.pre_eq_preRow]; exact lifted os started H enc F)

theorem plain (f : FuncId) (fn : Func) (hf : Tryz.pinned.checked.prog.funcNamed "loop.example/g00971/laws.FnRows" = some f) (hfn : Tryz.pinned.checked.prog.funcs[f]? = some fn) :
    true = Tryz.pinned.checked.prog.looks [] ∧ ∀ (j : Nat) t, fn.params[j]? = some t → Tryz.pinned.checked.prog.wantsStandIn t = false := by
  obtain rfl : f = 3 := Option.some.inj ((show Tryz.prog.funcNamed "loop.example/g00971/laws.FnRows" = some 3 by kernel_rfl).symm.trans hf) |>.symm
  obtain rfl : fn = Tryz.f3 := (Option.some.inj (Tryz.func3.symm.trans hfn)).symm
  refine ⟨by kernel_rfl, fun j t ht => ?_⟩
  rw [Tryz.params3] at ht
  obtain rfl : t = 22 := by simpa using Array.mem_of_getElem? ht
  exact (show Tryz.prog.wantsStandIn 22 = false by kernel_rfl)

theorem proved : Rows.FnRowsCardSaid :=
  Claim7.holds_tied_plain_at .later [] _ _ _ _ said (fun _ h => by cases h) (by kernel_rfl) (fun _ h => by cases h) fnRows_row_tie rfl ⟨rfl, rfl⟩ (by kernel_rfl) rfl plain (by kernel_rfl)
end Go.Proofs.YtiehfobcbhgfkaaGreatDoor.fnRows
