/-
  PROVED: 'Rows.FnExactDiskNewSaid': whatever the arguments, the call laws.FnExactDiskNew returns true (impl.DiskNew answers as spec.DiskNew, leaves its arguments as they were, and owns its memory), and the arguments read as they did.
  CONDITIONS: none beyond the given row's own.
-/
import Derived.Test.YtnhcianahmfdhaaRows
import Derived.Test.YtnhcianahmfdhaaArg
import Derived.Test.YtnhcianahmfdhaaIkS
import Derived.WalkKit
import Derived.ProofKit
import Derived.OpenShut
import Derived.ShutString
import Derived.SliceStrings
import Derived.ChangeOld
import Derived.Below
namespace Go.Proofs.Ytnhcianahmfdhaa.fnExactDiskNew
open Go.ChangeShapes Go.WideShapes Go.ChangeAt Go.RowKit
open Go.ChangeMaps (open_string shut_string)
set_option linter.unusedVariables false

theorem own : ownKnob Try.prog.godebug = none := by kernel_rfl
theorem laidOut : laidOutB Try.prog = true := by kernel_rfl

theorem walk (w : World) (a0 : Int) (h0 : argv.wfI a0) :
    Calls Try.prog 3 #[.int .i64 a0] w fun e w' => e = .returned (.bool true) ∧ Below w.heap.size w w' := by
  have I0 := Lib.hid h0
  clear h0
  go_enter Try.func3, Try.ntmps3
  have HB := Lib.hid (Below.refl w.heap.size w)
  have CR0 : kd.cntD (kd.newD a0) ≤ 100000000 := by simp [kd.cntD, kd.newD]
  go_wp2_with (fail)
  refine (kd.sDiskNew a0 _).mono ?_
  rintro e w1 ⟨u1_r0, he, ho0, hb⟩
  obtain ⟨u1_r0_0, u1_r0_1, u1_r0_2, u1_r0_3, u1_r0_4, u1_r0_5, u1_r0_6, u1_r0_7, u1_r0_8, u1_r0_9, u1_r0_10, u1_r0_11, u1_r0_12, u1_r0_13, rfl⟩ := kd.IsD_form ho0.is
  subst he
  have bb : Below w.heap.size w w1 := hb
  have Z1 : w.heap.size ≤ w1.heap.size := (by have := hb.size; first | omega | (simp at this; omega))
  replace HB := Lib.hid (HB.out.trans (bb.mono HB.out.size))
  have S1_0 := Lib.hid (ho0.is)
  have J1_0 := Lib.hid (Below.refl w1.heap.size w1)
  clear ho0 hb bb
  go_wp2_with (fail)
  refine (kd.iDiskNew a0 _).mono ?_
  rintro e w2 ⟨u2_r0, he, ho0, hb⟩
  obtain ⟨u2_r0_0, u2_r0_1, u2_r0_2, u2_r0_3, u2_r0_4, u2_r0_5, u2_r0_6, u2_r0_7, u2_r0_8, u2_r0_9, u2_r0_10, u2_r0_11, u2_r0_12, u2_r0_13, rfl⟩ := kd.IsD_form ho0.is
  subst he
  have bb : Below w1.heap.size w1 w2 := ((Below.refl _ _).alloc (by first | exact Nat.le_refl _ | simp | (simp; omega)) _).trans (hb.mono (by first | (simp; done) | (simp; omega)))
  have Z2 : w1.heap.size + 1 ≤ w2.heap.size := (by have := hb.size; first | omega | (simp at this; omega))
  have X1 := Lib.hid (show disk.Box w2 (w1.heap.size) [.slice u1_r0_0 u1_r0_1 u1_r0_2, .slice u1_r0_3 u1_r0_4 u1_r0_5, .slice u1_r0_6 u1_r0_7 u1_r0_8, .slice u1_r0_9 u1_r0_10 u1_r0_11, .int .i64 u1_r0_12, .int .i64 u1_r0_13] from (by have h := (disk.Box.new _ #[.slice u1_r0_0 u1_r0_1 u1_r0_2, .slice u1_r0_3 u1_r0_4 u1_r0_5, .slice u1_r0_6 u1_r0_7 u1_r0_8, .slice u1_r0_9 u1_r0_10 u1_r0_11, .int .i64 u1_r0_12, .int .i64 u1_r0_13] _).below hb; simpa using h))
  replace HB := Lib.hid (HB.out.trans (bb.mono HB.out.size))
  replace J1_0 := Lib.hid (J1_0.out.trans (bb.mono J1_0.out.size))
  have O2_0 := Lib.hid (ho0.base (B' := w1.heap.size + 1) (by first | exact Nat.le_refl _ | (simp; done) | (simp; omega)))
  have R2_0 := Lib.hid (O2_0.out.rows)
  clear ho0 hb bb
  have ltX1 := X1.out.1
  have cX1_0 := X1.out.at 0 _ rfl
  have cX1_1 := X1.out.at 1 _ rfl
  have cX1_2 := X1.out.at 2 _ rfl
  have cX1_3 := X1.out.at 3 _ rfl
  have cX1_4 := X1.out.at 4 _ rfl
  have cX1_5 := X1.out.at 5 _ rfl
  go_wp2_with (fail)
  refine (kd.eqD' (d := kd.newD a0) _ CR0 ?_ ?_).mono ?_
  exact O2_0.out.is.below ((Below.refl _ _).alloc (by first | exact Nat.le_refl _ | simp | (simp; omega)) _)
  exact S1_0.out.below (J1_0.out.trans (((Below.refl _ _).alloc (by first | exact Nat.le_refl _ | simp | (simp; omega)) _).mono J1_0.out.size))
  rintro e w3 ⟨rfl, hb⟩
  have bb : Below w2.heap.size w2 w3 := ((Below.refl _ _).alloc (by first | exact Nat.le_refl _ | simp | (simp; omega)) _).trans (hb.mono (by first | (simp; done) | (simp; omega)))
  have Z3 : w2.heap.size + 1 ≤ w3.heap.size := (by have := hb.size; first | omega | (simp at this; omega))
  have X2 := Lib.hid (show disk.Box w3 (w2.heap.size) [.slice u2_r0_0 u2_r0_1 u2_r0_2, .slice u2_r0_3 u2_r0_4 u2_r0_5, .slice u2_r0_6 u2_r0_7 u2_r0_8, .slice u2_r0_9 u2_r0_10 u2_r0_11, .int .i64 u2_r0_12, .int .i64 u2_r0_13] from (by have h := (disk.Box.new _ #[.slice u2_r0_0 u2_r0_1 u2_r0_2, .slice u2_r0_3 u2_r0_4 u2_r0_5, .slice u2_r0_6 u2_r0_7 u2_r0_8, .slice u2_r0_9 u2_r0_10 u2_r0_11, .int .i64 u2_r0_12, .int .i64 u2_r0_13] _).below hb; simpa using h))
  replace HB := Lib.hid (HB.out.trans (bb.mono HB.out.size))
  replace J1_0 := Lib.hid (J1_0.out.trans (bb.mono J1_0.out.size))
  replace O2_0 := Lib.hid (O2_0.out.below bb)
  replace X1 := Lib.hid (X1.out.below bb)
  clear hb bb
  clear ltX1 cX1_0 cX1_1 cX1_2 cX1_3 cX1_4 cX1_5
  have ltX2 := X2.out.1
  have cX2_0 := X2.out.at 0 _ rfl
  have cX2_1 := X2.out.at 1 _ rfl
  have cX2_2 := X2.out.at 2 _ rfl
  have cX2_3 := X2.out.at 3 _ rfl
  have cX2_4 := X2.out.at 4 _ rfl
  have cX2_5 := X2.out.at 5 _ rfl
  go_wp2_with (fail)
  obtain ⟨q1, eq1⟩ : ∃ q : Nat, q = 1 + kd.cntD (kd.newD a0) := ⟨_, rfl⟩
  have hq1 : 0 < q1 ∧ q1 ≤ 1 + 100000000 := (by have := CR0; omega)
  have nq1 : ¬ (q1 : Int) < 0 := (by omega)
  have EQ1 := Lib.hid eq1
  clear eq1
  refine (kd.markD' (B := w1.heap.size + 1) (d := kd.newD a0) (k := 1) (q := q1) _ (by decide) (by have := CR0; omega) EQ1.out ?_).mono ?_
  exact O2_0.out
  rintro e w4 ⟨rfl, ho, on⟩
  have Z4 : w3.heap.size ≤ w4.heap.size := (by have := on.size; first | omega | (simp at this; omega))
  have bbo := on
  replace HB := Lib.hid (HB.out.trans (bbo.below HB.out.size (fun k hk => (by have := R2_0.out k hk; omega))))
  replace J1_0 := Lib.hid (J1_0.out.trans (bbo.below J1_0.out.size (fun k hk => (by have := R2_0.out k hk; omega))))
  replace X1 := Lib.hid (X1.out.only bbo (fun hS => (by have := R2_0.out _ hS; omega)))
  replace X2 := Lib.hid (X2.out.only bbo (fun hS => (by have := R2_0.out _ hS; omega)))
  replace O2_0 := Lib.hid ho
  clear ho on bbo
  clear ltX2 cX2_0 cX2_1 cX2_2 cX2_3 cX2_4 cX2_5
  have ltX2 := X2.out.1
  have cX2_0 := X2.out.at 0 _ rfl
  have cX2_1 := X2.out.at 1 _ rfl
  have cX2_2 := X2.out.at 2 _ rfl
  have cX2_3 := X2.out.at 3 _ rfl
  have cX2_4 := X2.out.at 4 _ rfl
  have cX2_5 := X2.out.at 5 _ rfl
  go_wp2_with (fail)
  refine (kd.heldD' (d := kd.newD a0) (k := 1) (q := q1) _ (by decide) (by have := CR0; omega) EQ1.out ?_).mono ?_
  exact O2_0.out.is
  rintro e w5 ⟨rfl, hb⟩
  have bb : Below w4.heap.size w4 w5 := hb
  have Z5 : w4.heap.size ≤ w5.heap.size := (by have := hb.size; first | omega | (simp at this; omega))
  replace HB := Lib.hid (HB.out.trans (bb.mono HB.out.size))
  replace J1_0 := Lib.hid (J1_0.out.trans (bb.mono J1_0.out.size))
  replace O2_0 := Lib.hid (O2_0.out.below bb)
  replace X1 := Lib.hid (X1.out.below bb)
  replace X2 := Lib.hid (X2.out.below bb)
  clear hb bb
  clear ltX2 cX2_0 cX2_1 cX2_2 cX2_3 cX2_4 cX2_5
  go_wp2_with (fail)
  refine (kd.iDiskNew a0 _).mono ?_
  rintro e w6 ⟨u6_r0, he, ho0, hb⟩
  obtain ⟨u6_r0_0, u6_r0_1, u6_r0_2, u6_r0_3, u6_r0_4, u6_r0_5, u6_r0_6, u6_r0_7, u6_r0_8, u6_r0_9, u6_r0_10, u6_r0_11, u6_r0_12, u6_r0_13, rfl⟩ := kd.IsD_form ho0.is
  subst he
  have bb : Below w5.heap.size w5 w6 := hb
  have Z6 : w5.heap.size ≤ w6.heap.size := (by have := hb.size; first | omega | (simp at this; omega))
  replace HB := Lib.hid (HB.out.trans (bb.mono HB.out.size))
  replace J1_0 := Lib.hid (J1_0.out.trans (bb.mono J1_0.out.size))
  replace O2_0 := Lib.hid (O2_0.out.below bb)
  replace X1 := Lib.hid (X1.out.below bb)
  replace X2 := Lib.hid (X2.out.below bb)
  have O6_0 := Lib.hid (ho0.base (B' := w5.heap.size) (by first | exact Nat.le_refl _ | (simp; done) | (simp; omega)))
  have R6_0 := Lib.hid (O6_0.out.rows)
  clear ho0 hb bb
  have ltX1 := X1.out.1
  have cX1_0 := X1.out.at 0 _ rfl
  have cX1_1 := X1.out.at 1 _ rfl
  have cX1_2 := X1.out.at 2 _ rfl
  have cX1_3 := X1.out.at 3 _ rfl
  have cX1_4 := X1.out.at 4 _ rfl
  have cX1_5 := X1.out.at 5 _ rfl
  go_wp2_with (fail)
  refine (kd.eqD' (d := kd.newD a0) _ CR0 ?_ ?_).mono ?_
  exact O6_0.out.is.below ((Below.refl _ _).alloc (by first | exact Nat.le_refl _ | simp | (simp; omega)) _)
  exact S1_0.out.below (J1_0.out.trans (((Below.refl _ _).alloc (by first | exact Nat.le_refl _ | simp | (simp; omega)) _).mono J1_0.out.size))
  rintro e w7 ⟨rfl, hb⟩
  have bb : Below w6.heap.size w6 w7 := ((Below.refl _ _).alloc (by first | exact Nat.le_refl _ | simp | (simp; omega)) _).trans (hb.mono (by first | (simp; done) | (simp; omega)))
  have Z7 : w6.heap.size + 1 ≤ w7.heap.size := (by have := hb.size; first | omega | (simp at this; omega))
  have X3 := Lib.hid (show disk.Box w7 (w6.heap.size) [.slice u6_r0_0 u6_r0_1 u6_r0_2, .slice u6_r0_3 u6_r0_4 u6_r0_5, .slice u6_r0_6 u6_r0_7 u6_r0_8, .slice u6_r0_9 u6_r0_10 u6_r0_11, .int .i64 u6_r0_12, .int .i64 u6_r0_13] from (by have h := (disk.Box.new _ #[.slice u6_r0_0 u6_r0_1 u6_r0_2, .slice u6_r0_3 u6_r0_4 u6_r0_5, .slice u6_r0_6 u6_r0_7 u6_r0_8, .slice u6_r0_9 u6_r0_10 u6_r0_11, .int .i64 u6_r0_12, .int .i64 u6_r0_13] _).below hb; simpa using h))
  replace HB := Lib.hid (HB.out.trans (bb.mono HB.out.size))
  replace J1_0 := Lib.hid (J1_0.out.trans (bb.mono J1_0.out.size))
  replace O2_0 := Lib.hid (O2_0.out.below bb)
  replace O6_0 := Lib.hid (O6_0.out.below bb)
  replace X1 := Lib.hid (X1.out.below bb)
  replace X2 := Lib.hid (X2.out.below bb)
  clear hb bb
  clear ltX1 cX1_0 cX1_1 cX1_2 cX1_3 cX1_4 cX1_5
  have ltX2 := X2.out.1
  have cX2_0 := X2.out.at 0 _ rfl
  have cX2_1 := X2.out.at 1 _ rfl
  have cX2_2 := X2.out.at 2 _ rfl
  have cX2_3 := X2.out.at 3 _ rfl
  have cX2_4 := X2.out.at 4 _ rfl
  have cX2_5 := X2.out.at 5 _ rfl
  go_wp2_with (fail)
  refine (kd.heldD' (d := kd.newD a0) (k := 1) (q := q1) _ (by decide) (by have := CR0; omega) EQ1.out ?_).mono ?_
  exact O2_0.out.is
  rintro e w8 ⟨rfl, hb⟩
  have bb : Below w7.heap.size w7 w8 := hb
  have Z8 : w7.heap.size ≤ w8.heap.size := (by have := hb.size; first | omega | (simp at this; omega))
  replace HB := Lib.hid (HB.out.trans (bb.mono HB.out.size))
  replace J1_0 := Lib.hid (J1_0.out.trans (bb.mono J1_0.out.size))
  replace O2_0 := Lib.hid (O2_0.out.below bb)
  replace O6_0 := Lib.hid (O6_0.out.below bb)
  replace X1 := Lib.hid (X1.out.below bb)
  replace X2 := Lib.hid (X2.out.below bb)
  replace X3 := Lib.hid (X3.out.below bb)
  clear hb bb
  clear ltX2 cX2_0 cX2_1 cX2_2 cX2_3 cX2_4 cX2_5
  go_wp2
  go_ret
  exact ⟨rfl, HB.out⟩

set_option maxRecDepth 100000 in
theorem lifted (os : Os) (started : os.Started) (H : Type) (enc : TypeId × Value → H) :
    ReturnsInHanded {} Try.checked os 3 .any (Rows.fnExactDiskNewSpec.pre6 enc Try.prog Try.f3 Rows.fnExactDiskNewRow.domain false) (Rows.fnExactDiskNewSpec.post enc Try.prog Try.f3 false true false false) := by
  refine returnsInHanded_of_change (C := Try.checked) own started (by kernel_rfl) Try.func3
    (ChangeSpec.witness6 (enc := enc) (C := Try.checked) false ⟨#[], #[.int .i64 0], []⟩ 8 (by kernel_rfl) (by kernel_rfl) (by kernel_rfl) (by kernel_rfl)) ?_
  intro W base args ds gs before hval0 hW hcnd _
  have hval : ∀ (j : Nat) t v, Try.f3.params[j]? = some t → args[j]? = some v → Value.okWide Try.prog W .any base t v := hval0
  have hW' := hW
  obtain ⟨p, q, hA0, hV, rfl, hfz, hnd⟩ := hW
  have hA : DataW.TrodAll enc Try.prog W 0 (fun _ => true) true Try.f3.params.toList args.toList ds p := hA0
  rw [Try.params3] at hA hval
  obtain ⟨v0, vs0, d0, ds0, p0, q0, hargs, rfl, rfl, h0, r0⟩ := trodAll_cons hA
  obtain ⟨rfl, rfl, rfl⟩ := trodAll_nil r0
  obtain rfl : args = #[v0] := by cases args; simp_all
  obtain ⟨rfl, rfl⟩ := trodVars_none hV
  have k0 := h0
  have lt0 : ∀ x ∈ p0, x.block < W.heap.size := by obtain ⟨m, hm⟩ := k0; exact DataW.trod_lt m _ _ _ hm
  obtain ⟨a0, rfl, rfl, rfl, w0⟩ := open_int Try.underlying3 (hval 0 3 v0 rfl rfl) h0
  clear hA0 hval0
  refine (walk W a0 (argv.wfI_of w0)).mono fun e W' ⟨he, bel⟩ => ?_
  subst he
  exact ⟨_, rfl, _, _, _, [], _, [], hW', trodAll_mk1 (shut_bool Try.underlying4 _), (trodAll_cons_mk (Below.trod laidOut (by kernel_rfl) (of_decide_eq_true (by kernel_rfl)) k0 bel lt0) trodAll_mk0), rfl, bel.frame _, fun h => by cases h⟩

theorem over : Rows.fnExactDiskNewRow.holds Try.pinned (OpenSpec.ofChange Rows.fnExactDiskNewSpec) :=
  OpenClaim.holds_of_wide 3 Try.f3 rfl rfl rfl rfl rfl rfl rfl ⟨rfl, rfl, rfl, rfl, rfl⟩ rfl rfl rfl rfl rfl (by kernel_rfl) Try.func3 (by kernel_rfl)
    (of_decide_eq_true (by kernel_rfl)) (by unfold Func.isWrapper; first | (rw [if_pos (by decide +kernel)]; kernel_rfl) | (rw [if_neg (by decide +kernel)]; exact ⟨rfl, rfl⟩))
    (fun os started H enc _ => lifted os started H enc)

theorem proved : Rows.FnExactDiskNewSaid := over
end Go.Proofs.Ytnhcianahmfdhaa.fnExactDiskNew
