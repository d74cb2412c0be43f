/-
  PROVED: 'Rows.FnExactEntryAtSaid': whatever the arguments, the call laws.FnExactEntryAt returns true (impl.EntryAt answers as spec.EntryAt, leaves its arguments as they were, and owns its memory), and the arguments read as they did.
  CONDITIONS: none beyond the given row's own.
-/
import Derived.Test.YtnhcianahmfdhaaRows
import Derived.Test.YtnhcianahmfdhaaIkS
import Derived.WalkKit
import Derived.ProofKit
import Derived.OpenShut
import Derived.ShutString
import Derived.SliceStrings
import Derived.ChangeOld
import Derived.Below
namespace Go.Proofs.Ytnhcianahmfdhaa.fnExactEntryAt
open Go.ChangeShapes Go.WideShapes Go.ChangeAt Go.RowKit
open Go.ChangeMaps (open_string shut_string)
set_option linter.unusedVariables false

theorem own : ownKnob Try.prog.godebug = none := by kernel_rfl
theorem laidOut : laidOutB Try.prog = true := by kernel_rfl

theorem walk (w : World) (a0 : Option Addr) (n0 c0 : Nat) (x0 : List recs.Ent) (m0 : n0 ≤ maxLen) (h0 : recs.AtE w a0 n0 x0) (s0 : recs.wfE x0) (a1 : ByteArray) (h1 : a1.size ≤ maxLen) :
    Calls Try.prog 4 #[.slice a0 n0 c0, .string a1] w fun e w' => e = .returned (.bool true) ∧ Below w.heap.size w w' := by
  have A0 := Lib.hid (show kd.IsE w (.slice a0 n0 c0) x0 from ⟨_, _, _, rfl, h0⟩)
  have WF0 := Lib.hid (show recs.wfE x0 ∧ x0.length ≤ maxLen from ⟨s0, by rw [h0.len]; exact m0⟩)
  clear h0 s0 m0
  unfold maxLen at h1
  by_cases b1 : 1048576 < a1.size
  · go_enter Try.func4, Try.ntmps4
    go_wp2
    go_ret
    exact ⟨rfl, (Below.refl _ _)⟩
  have l1 : a1.size ≤ 1048576 := by omega
  go_enter Try.func4, Try.ntmps4
  have HB := Lib.hid (Below.refl w.heap.size w)
  obtain ⟨r0, er0⟩ : ∃ r : Int, r = disk.idE x0 a1 := ⟨_, rfl⟩
  have ER0 := Lib.hid er0
  clear er0
  go_wp2_with (fail)
  refine (kd.szE 1048576 _ (by decide) WF0.out ?_).mono ?_
  exact A0.out.below HB.out
  rintro e w1 ⟨hif, hb⟩
  have bb : Below w.heap.size w w1 := hb
  have Z1 : w.heap.size ≤ w1.heap.size := (by have := hb.size; first | omega | (simp at this; omega))
  replace HB := Lib.hid (HB.out.trans (bb.mono HB.out.size))
  by_cases bk0 : disk.bulkE x0 ≤ 1048576
  rotate_left
  · rw [if_neg bk0] at hif
    subst hif
    clear bk0 hb bb
    go_wp2
    go_ret
    exact ⟨rfl, HB.out⟩
  obtain ⟨lf1, elf1⟩ : ∃ l : Nat, l = 1048576 - disk.bulkE x0 := ⟨_, rfl⟩
  rw [if_pos bk0, ← elf1] at hif
  subst hif
  have hl1 : lf1 ≤ 1048576 := (by omega)
  have nl1 : ¬ (lf1 : Int) < 0 := (by omega)
  have BK0 := Lib.hid (show disk.bulkE x0 ≤ 1048576 by omega)
  have K0 := Lib.hid (show kd.okE x0 from ⟨WF0.out.1, BK0.out⟩)
  have CN0 := K0.out.cnt
  clear elf1 bk0 hb bb
  go_wp2_with (fail)
  refine (kd.toE _ BK0.out ?_).mono ?_
  exact A0.out.below HB.out
  rintro e w2 ⟨u2, he, ho, hb⟩
  subst he
  have bb : Below w1.heap.size w1 w2 := hb
  have Z2 : w1.heap.size ≤ w2.heap.size := (by have := hb.size; first | omega | (simp at this; omega))
  have O2 := Lib.hid (ho.base (B' := w1.heap.size) (by first | exact Nat.le_refl _ | (simp; done) | (simp; omega)))
  have R2 := Lib.hid (O2.out.rows)
  replace HB := Lib.hid (HB.out.trans (bb.mono HB.out.size))
  clear ho hb bb
  go_wp2_with (fail)
  refine (kd.sEntryAt _ x0 a1 _ K0.out ?_).mono ?_
  exact O2.out.is
  rintro e w3 ⟨he, hb⟩
  rw [← ER0.out] at he
  subst he
  have bb : Below w2.heap.size w2 w3 := hb
  have Z3 : w2.heap.size ≤ w3.heap.size := (by have := hb.size; first | omega | (simp at this; omega))
  replace HB := Lib.hid (HB.out.trans (bb.mono HB.out.size))
  replace O2 := Lib.hid (O2.out.below bb)
  clear hb bb
  go_wp2_with (fail)
  refine (kd.toE _ BK0.out ?_).mono ?_
  exact A0.out.below HB.out
  rintro e w4 ⟨u4, he, ho, hb⟩
  subst he
  have bb : Below w3.heap.size w3 w4 := hb
  have Z4 : w3.heap.size ≤ w4.heap.size := (by have := hb.size; first | omega | (simp at this; omega))
  have O4 := Lib.hid (ho.base (B' := w3.heap.size) (by first | exact Nat.le_refl _ | (simp; done) | (simp; omega)))
  have R4 := Lib.hid (O4.out.rows)
  replace HB := Lib.hid (HB.out.trans (bb.mono HB.out.size))
  replace O2 := Lib.hid (O2.out.below bb)
  clear ho hb bb
  go_wp2_with (fail)
  refine (kd.iEntryAt _ x0 a1 _ K0.out ?_).mono ?_
  exact O4.out.is
  rintro e w5 ⟨he, hb⟩
  rw [← ER0.out] at he
  subst he
  have bb : Below w4.heap.size w4 w5 := hb
  have Z5 : w4.heap.size ≤ w5.heap.size := (by have := hb.size; first | omega | (simp at this; omega))
  replace HB := Lib.hid (HB.out.trans (bb.mono HB.out.size))
  replace O2 := Lib.hid (O2.out.below bb)
  replace O4 := Lib.hid (O4.out.below bb)
  clear hb bb
  go_wp2_with (fail)
  refine (kd.toE _ BK0.out ?_).mono ?_
  exact A0.out.below HB.out
  rintro e w6 ⟨u6, he, ho, hb⟩
  subst he
  have bb : Below w5.heap.size w5 w6 := hb
  have Z6 : w5.heap.size ≤ w6.heap.size := (by have := hb.size; first | omega | (simp at this; omega))
  have O6 := Lib.hid (ho.base (B' := w5.heap.size) (by first | exact Nat.le_refl _ | (simp; done) | (simp; omega)))
  have R6 := Lib.hid (O6.out.rows)
  replace HB := Lib.hid (HB.out.trans (bb.mono HB.out.size))
  replace O2 := Lib.hid (O2.out.below bb)
  replace O4 := Lib.hid (O4.out.below bb)
  clear ho hb bb
  go_wp2_with (fail)
  refine (kd.eqE' (d := x0) _ CN0 ?_ ?_).mono ?_
  exact O4.out.is
  exact O6.out.is
  rintro e w7 ⟨rfl, hb⟩
  have bb : Below w6.heap.size w6 w7 := hb
  have Z7 : w6.heap.size ≤ w7.heap.size := (by have := hb.size; first | omega | (simp at this; omega))
  replace HB := Lib.hid (HB.out.trans (bb.mono HB.out.size))
  replace O2 := Lib.hid (O2.out.below bb)
  replace O4 := Lib.hid (O4.out.below bb)
  replace O6 := Lib.hid (O6.out.below bb)
  clear hb bb
  go_wp2
  go_ret
  exact ⟨rfl, HB.out⟩

set_option maxRecDepth 100000 in
theorem lifted (os : Os) (started : os.Started) (H : Type) (enc : TypeId × Value → H) :
    ReturnsInHanded {} Try.checked os 4 .any (Rows.fnExactEntryAtSpec.pre6 enc Try.prog Try.f4 Rows.fnExactEntryAtRow.domain false) (Rows.fnExactEntryAtSpec.post enc Try.prog Try.f4 false true false false) := by
  refine returnsInHanded_of_change (C := Try.checked) own started (by kernel_rfl) Try.func4
    (ChangeSpec.witness6 (enc := enc) (C := Try.checked) false ⟨#[], #[.slice none 0 0, .string ByteArray.empty], []⟩ 8 (by kernel_rfl) (by kernel_rfl) (by kernel_rfl) (by kernel_rfl)) ?_
  intro W base args ds gs before hval0 hW hcnd _
  have hval : ∀ (j : Nat) t v, Try.f4.params[j]? = some t → args[j]? = some v → Value.okWide Try.prog W .any base t v := hval0
  have hW' := hW
  obtain ⟨p, q, hA0, hV, rfl, hfz, hnd⟩ := hW
  have hA : DataW.TrodAll enc Try.prog W 0 (fun _ => true) true Try.f4.params.toList args.toList ds p := hA0
  rw [Try.params4] at hA hval
  obtain ⟨v0, vs0, d0, ds0, p0, q0, hargs, rfl, rfl, h0, r0⟩ := trodAll_cons hA
  obtain ⟨v1, vs1, d1, ds1, p1, q1, rfl, rfl, rfl, h1, r1⟩ := trodAll_cons r0
  obtain ⟨rfl, rfl, rfl⟩ := trodAll_nil r1
  obtain rfl : args = #[v0, v1] := by cases args; simp_all
  obtain ⟨rfl, rfl⟩ := trodVars_none hV
  have k0 := h0
  have lt0 : ∀ x ∈ p0, x.block < W.heap.size := by obtain ⟨m, hm⟩ := k0; exact DataW.trod_lt m _ _ _ hm
  have k1 := h1
  have lt1 : ∀ x ∈ p1, x.block < W.heap.size := by obtain ⟨m, hm⟩ := k1; exact DataW.trod_lt m _ _ _ hm
  obtain ⟨a0, n0, c0, x0, rfl, m0, y0, s0⟩ := recs.op_E (hval 0 31 v0 rfl rfl) h0
  obtain ⟨a1, rfl, rfl, rfl, w1⟩ := open_string Try.underlying9 (hval 1 9 v1 rfl rfl) h1
  clear hA0 hval0
  refine (walk W a0 n0 c0 x0 m0 y0 s0 a1 w1).mono fun e W' ⟨he, bel⟩ => ?_
  subst he
  exact ⟨_, rfl, _, _, _, [], _, [], hW', trodAll_mk1 (shut_bool Try.underlying4 _), (trodAll_cons_mk (Below.trod laidOut (by kernel_rfl) (of_decide_eq_true (by kernel_rfl)) k0 bel lt0) (trodAll_cons_mk (Below.trod laidOut (by kernel_rfl) (of_decide_eq_true (by kernel_rfl)) k1 bel lt1) trodAll_mk0)), rfl, bel.frame _, fun h => by cases h⟩

theorem over : Rows.fnExactEntryAtRow.holds Try.pinned (OpenSpec.ofChange Rows.fnExactEntryAtSpec) :=
  OpenClaim.holds_of_wide 4 Try.f4 rfl rfl rfl rfl rfl rfl rfl ⟨rfl, rfl, rfl, rfl, rfl⟩ rfl rfl rfl rfl rfl (by kernel_rfl) Try.func4 (by kernel_rfl)
    (of_decide_eq_true (by kernel_rfl)) (by unfold Func.isWrapper; first | (rw [if_pos (by decide +kernel)]; kernel_rfl) | (rw [if_neg (by decide +kernel)]; exact ⟨rfl, rfl⟩))
    (fun os started H enc _ => lifted os started H enc)

theorem proved : Rows.FnExactEntryAtSaid := over
end Go.Proofs.Ytnhcianahmfdhaa.fnExactEntryAt
