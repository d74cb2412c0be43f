/-
  PROVED: 'Rows.FnExactReadFileSaid': whatever the arguments, the call laws.FnExactReadFile returns true (impl.ReadFile answers as spec.ReadFile, leaves its arguments as they were, and owns its memory), and the arguments read as they did.
  CONDITIONS: none beyond the given row's own.
-/
import Derived.Test.YtnhcianahmfdhaaRows
import Derived.Test.YtnhcianahmfdhaaIkS
import Derived.WalkKit
import Derived.ProofKit
import Derived.OpenShut
import Derived.ShutString
import Derived.SliceStrings
import Derived.ChangeOld
import Derived.Below
namespace Go.Proofs.Ytnhcianahmfdhaa.fnExactReadFile
open Go.ChangeShapes Go.WideShapes Go.ChangeAt Go.RowKit
open Go.ChangeMaps (open_string shut_string)
set_option linter.unusedVariables false

theorem own : ownKnob Try.prog.godebug = none := by kernel_rfl
theorem laidOut : laidOutB Try.prog = true := by kernel_rfl

theorem walk (w : World) (v0 : Value) (d0 : disk.D) (h0 : disk.IsDisk w v0 d0) (s0 : disk.wfD d0) (a1 : ByteArray) (h1 : a1.size ≤ maxLen) :
    Calls Try.prog 8 #[v0, .string a1] w fun e w' => e = .returned (.bool true) ∧ Below w.heap.size w w' := by
  obtain ⟨p0_0, p0_1, p0_2, p0_3, p0_4, p0_5, p0_6, p0_7, p0_8, p0_9, p0_10, p0_11, p0_12, p0_13, rfl⟩ := kd.IsD_form h0
  have A0 := Lib.hid h0
  have WF0 := Lib.hid s0
  clear h0 s0
  unfold maxLen at h1
  by_cases b1 : 1048576 < a1.size
  · go_enter Try.func8, Try.ntmps8
    go_wp2
    go_ret
    exact ⟨rfl, ((Below.refl _ _).alloc (by first | exact Nat.le_refl _ | simp | (simp; omega)) _)⟩
  have l1 : a1.size ≤ 1048576 := by omega
  go_enter Try.func8, Try.ntmps8
  have HB := Lib.hid (Below.refl w.heap.size w)
  obtain ⟨r0, er0⟩ : ∃ r : ByteArray, r = disk.textR (disk.nodeAt d0 a1) := ⟨_, rfl⟩
  have ER0 := Lib.hid er0
  clear er0
  obtain ⟨r1, er1⟩ : ∃ r : Bool, r = (disk.nodeAt d0 a1).isSome := ⟨_, rfl⟩
  have ER1 := Lib.hid er1
  clear er1
  go_wp2_with (fail)
  refine (disk.szDisk_any 1048576 _ (by decide) WF0.out ?_).mono ?_
  exact A0.out.below (HB.out.alloc (by have := HB.out.size; first | exact this | (simp; omega)) _)
  rintro e w1 ⟨hif, hb⟩
  have bb : Below w.heap.size w w1 := ((Below.refl _ _).alloc (by first | exact Nat.le_refl _ | simp | (simp; omega)) _).trans (hb.mono (by first | (simp; done) | (simp; omega)))
  have Z1 : w.heap.size + 1 ≤ w1.heap.size := (by have := hb.size; first | omega | (simp at this; omega))
  have X1 := Lib.hid (show disk.Box w1 (w.heap.size) [.slice p0_0 p0_1 p0_2, .slice p0_3 p0_4 p0_5, .slice p0_6 p0_7 p0_8, .slice p0_9 p0_10 p0_11, .int .i64 p0_12, .int .i64 p0_13] from (by have h := (disk.Box.new _ #[.slice p0_0 p0_1 p0_2, .slice p0_3 p0_4 p0_5, .slice p0_6 p0_7 p0_8, .slice p0_9 p0_10 p0_11, .int .i64 p0_12, .int .i64 p0_13] _).below hb; simpa using h))
  replace HB := Lib.hid (HB.out.trans (bb.mono HB.out.size))
  by_cases bk0 : disk.bulk d0 ≤ 1048576
  rotate_left
  · rw [if_neg bk0] at hif
    subst hif
    clear bk0 hb bb
    go_wp2
    go_ret
    exact ⟨rfl, HB.out⟩
  obtain ⟨lf1, elf1⟩ : ∃ l : Nat, l = 1048576 - disk.bulk d0 := ⟨_, rfl⟩
  rw [if_pos bk0, ← elf1] at hif
  subst hif
  have hl1 : lf1 ≤ 1048576 := (by omega)
  have nl1 : ¬ (lf1 : Int) < 0 := (by omega)
  have BK0 := Lib.hid (show disk.bulk d0 ≤ 1048576 by omega)
  have K0 := Lib.hid (show kd.okD d0 from ⟨WF0.out, BK0.out⟩)
  have CN0 := K0.out.cnt
  clear elf1 bk0 hb bb
  have ltX1 := X1.out.1
  have cX1_0 := X1.out.at 0 _ rfl
  have cX1_1 := X1.out.at 1 _ rfl
  have cX1_2 := X1.out.at 2 _ rfl
  have cX1_3 := X1.out.at 3 _ rfl
  have cX1_4 := X1.out.at 4 _ rfl
  have cX1_5 := X1.out.at 5 _ rfl
  go_wp2_with (fail)
  refine (disk.toDisk_any _ BK0.out ?_).mono ?_
  exact A0.out.below HB.out
  rintro e w2 ⟨u2, he, ho, hb⟩
  obtain ⟨u2_0, u2_1, u2_2, u2_3, u2_4, u2_5, u2_6, u2_7, u2_8, u2_9, u2_10, u2_11, u2_12, u2_13, rfl⟩ := kd.IsD_form ho.is
  subst he
  have bb : Below w1.heap.size w1 w2 := hb
  have Z2 : w1.heap.size ≤ w2.heap.size := (by have := hb.size; first | omega | (simp at this; omega))
  have O2 := Lib.hid (ho.base (B' := w1.heap.size) (by first | exact Nat.le_refl _ | (simp; done) | (simp; omega)))
  have R2 := Lib.hid (O2.out.rows)
  replace HB := Lib.hid (HB.out.trans (bb.mono HB.out.size))
  replace X1 := Lib.hid (X1.out.below bb)
  clear ho hb bb
  clear ltX1 cX1_0 cX1_1 cX1_2 cX1_3 cX1_4 cX1_5
  go_wp2_with (fail)
  refine (kd.sReadFile _ d0 a1 _ K0.out ?_).mono ?_
  exact O2.out.is
  rintro e w3 ⟨he, hb⟩
  rw [← ER0.out, ← ER1.out] at he
  subst he
  have bb : Below w2.heap.size w2 w3 := hb
  have Z3 : w2.heap.size ≤ w3.heap.size := (by have := hb.size; first | omega | (simp at this; omega))
  replace HB := Lib.hid (HB.out.trans (bb.mono HB.out.size))
  replace O2 := Lib.hid (O2.out.below bb)
  replace X1 := Lib.hid (X1.out.below bb)
  clear hb bb
  have ltX1 := X1.out.1
  have cX1_0 := X1.out.at 0 _ rfl
  have cX1_1 := X1.out.at 1 _ rfl
  have cX1_2 := X1.out.at 2 _ rfl
  have cX1_3 := X1.out.at 3 _ rfl
  have cX1_4 := X1.out.at 4 _ rfl
  have cX1_5 := X1.out.at 5 _ rfl
  go_wp2_with (fail)
  refine (disk.toDisk_any _ BK0.out ?_).mono ?_
  exact A0.out.below HB.out
  rintro e w4 ⟨u4, he, ho, hb⟩
  obtain ⟨u4_0, u4_1, u4_2, u4_3, u4_4, u4_5, u4_6, u4_7, u4_8, u4_9, u4_10, u4_11, u4_12, u4_13, rfl⟩ := kd.IsD_form ho.is
  subst he
  have bb : Below w3.heap.size w3 w4 := hb
  have Z4 : w3.heap.size ≤ w4.heap.size := (by have := hb.size; first | omega | (simp at this; omega))
  have O4 := Lib.hid (ho.base (B' := w3.heap.size) (by first | exact Nat.le_refl _ | (simp; done) | (simp; omega)))
  have R4 := Lib.hid (O4.out.rows)
  replace HB := Lib.hid (HB.out.trans (bb.mono HB.out.size))
  replace O2 := Lib.hid (O2.out.below bb)
  replace X1 := Lib.hid (X1.out.below bb)
  clear ho hb bb
  clear ltX1 cX1_0 cX1_1 cX1_2 cX1_3 cX1_4 cX1_5
  go_wp2_with (fail)
  refine (kd.iReadFile _ d0 a1 _ K0.out ?_).mono ?_
  exact O4.out.is.below ((Below.refl _ _).alloc (by first | exact Nat.le_refl _ | simp | (simp; omega)) _)
  rintro e w5 ⟨he, hb⟩
  rw [← ER0.out, ← ER1.out] at he
  subst he
  have bb : Below w4.heap.size w4 w5 := ((Below.refl _ _).alloc (by first | exact Nat.le_refl _ | simp | (simp; omega)) _).trans (hb.mono (by first | (simp; done) | (simp; omega)))
  have Z5 : w4.heap.size + 1 ≤ w5.heap.size := (by have := hb.size; first | omega | (simp at this; omega))
  have X2 := Lib.hid (show disk.Box w5 (w4.heap.size) [.slice u4_0 u4_1 u4_2, .slice u4_3 u4_4 u4_5, .slice u4_6 u4_7 u4_8, .slice u4_9 u4_10 u4_11, .int .i64 u4_12, .int .i64 u4_13] from (by have h := (disk.Box.new _ #[.slice u4_0 u4_1 u4_2, .slice u4_3 u4_4 u4_5, .slice u4_6 u4_7 u4_8, .slice u4_9 u4_10 u4_11, .int .i64 u4_12, .int .i64 u4_13] _).below hb; simpa using h))
  replace HB := Lib.hid (HB.out.trans (bb.mono HB.out.size))
  replace O2 := Lib.hid (O2.out.below bb)
  replace O4 := Lib.hid (O4.out.below bb)
  replace X1 := Lib.hid (X1.out.below bb)
  clear hb bb
  have ltX2 := X2.out.1
  have cX2_0 := X2.out.at 0 _ rfl
  have cX2_1 := X2.out.at 1 _ rfl
  have cX2_2 := X2.out.at 2 _ rfl
  have cX2_3 := X2.out.at 3 _ rfl
  have cX2_4 := X2.out.at 4 _ rfl
  have cX2_5 := X2.out.at 5 _ rfl
  have ltX1 := X1.out.1
  have cX1_0 := X1.out.at 0 _ rfl
  have cX1_1 := X1.out.at 1 _ rfl
  have cX1_2 := X1.out.at 2 _ rfl
  have cX1_3 := X1.out.at 3 _ rfl
  have cX1_4 := X1.out.at 4 _ rfl
  have cX1_5 := X1.out.at 5 _ rfl
  go_wp2
  go_region_held3 (fun w' => w'.cell? ⟨w4.heap.size, 0, none⟩ = some (.slice u4_0 u4_1 u4_2) ∧ w'.cell? ⟨w4.heap.size, 1, none⟩ = some (.slice u4_3 u4_4 u4_5) ∧ w'.cell? ⟨w4.heap.size, 2, none⟩ = some (.slice u4_6 u4_7 u4_8) ∧ w'.cell? ⟨w4.heap.size, 3, none⟩ = some (.slice u4_9 u4_10 u4_11) ∧ w'.cell? ⟨w4.heap.size, 4, none⟩ = some (.int .i64 u4_12) ∧ w'.cell? ⟨w4.heap.size, 5, none⟩ = some (.int .i64 u4_13) ∧ w'.cell? ⟨w.heap.size, 0, none⟩ = some (.slice p0_0 p0_1 p0_2) ∧ w'.cell? ⟨w.heap.size, 1, none⟩ = some (.slice p0_3 p0_4 p0_5) ∧ w'.cell? ⟨w.heap.size, 2, none⟩ = some (.slice p0_6 p0_7 p0_8) ∧ w'.cell? ⟨w.heap.size, 3, none⟩ = some (.slice p0_9 p0_10 p0_11) ∧ w'.cell? ⟨w.heap.size, 4, none⟩ = some (.int .i64 p0_12) ∧ w'.cell? ⟨w.heap.size, 5, none⟩ = some (.int .i64 p0_13)) (first | exact ⟨cX2_0, cX2_1, cX2_2, cX2_3, cX2_4, cX2_5, cX1_0, cX1_1, cX1_2, cX1_3, cX1_4, cX1_5⟩ | exact ⟨X2.out.at 0 _ rfl, X2.out.at 1 _ rfl, X2.out.at 2 _ rfl, X2.out.at 3 _ rfl, X2.out.at 4 _ rfl, X2.out.at 5 _ rfl, X1.out.at 0 _ rfl, X1.out.at 1 _ rfl, X1.out.at 2 _ rfl, X1.out.at 3 _ rfl, X1.out.at 4 _ rfl, X1.out.at 5 _ rfl⟩) (first | (go_at_call 21; refine (disk.toDisk_any _ BK0.out ?_).mono ?_; exact A0.out.below HB.out.drew; rintro e w6 ⟨u6, he, ho, hb⟩; obtain ⟨u6_0, u6_1, u6_2, u6_3, u6_4, u6_5, u6_6, u6_7, u6_8, u6_9, u6_10, u6_11, u6_12, u6_13, rfl⟩ := kd.IsD_form ho.is; subst he; have bb : Below w5.heap.size w5 w6 := (Below.refl w5.heap.size w5).drew.trans hb; have Z6 : w5.heap.size ≤ w6.heap.size := (by have := hb.size; first | omega | (simp at this; omega)); have O6 := Lib.hid (ho.base (B' := w5.heap.size) (by first | exact Nat.le_refl _ | (simp; done) | (simp; omega))); have R6 := Lib.hid (O6.out.rows); replace HB := Lib.hid (HB.out.trans (bb.mono HB.out.size)); replace O2 := Lib.hid (O2.out.below bb); replace O4 := Lib.hid (O4.out.below bb); replace X1 := Lib.hid (X1.out.below bb); replace X2 := Lib.hid (X2.out.below bb); clear ho hb bb) | (go_at_call 11; refine (kd.eqD' (d := d0) _ CN0 ?_ ?_).mono ?_; exact O4.out.is; exact O6.out.is; rintro e w7 ⟨rfl, hb⟩; have bb : Below w6.heap.size w6 w7 := hb; have Z7 : w6.heap.size ≤ w7.heap.size := (by have := hb.size; first | omega | (simp at this; omega)); replace HB := Lib.hid (HB.out.trans (bb.mono HB.out.size)); replace O2 := Lib.hid (O2.out.below bb); replace O4 := Lib.hid (O4.out.below bb); replace O6 := Lib.hid (O6.out.below bb); replace X1 := Lib.hid (X1.out.below bb); replace X2 := Lib.hid (X2.out.below bb); clear hb bb))
  clear ltX2 cX2_0 cX2_1 cX2_2 cX2_3 cX2_4 cX2_5 ltX1 cX1_0 cX1_1 cX1_2 cX1_3 cX1_4 cX1_5
  go_wp2
  go_ret
  exact ⟨rfl, HB.out⟩

set_option maxRecDepth 100000 in
theorem lifted (os : Os) (started : os.Started) (H : Type) (enc : TypeId × Value → H) :
    ReturnsInHanded {} Try.checked os 8 .any (Rows.fnExactReadFileSpec.pre6 enc Try.prog Try.f8 Rows.fnExactReadFileRow.domain false) (Rows.fnExactReadFileSpec.post enc Try.prog Try.f8 false true false false) := by
  refine returnsInHanded_of_change (C := Try.checked) own started (by kernel_rfl) Try.func8
    (ChangeSpec.witness6 (enc := enc) (C := Try.checked) false ⟨#[], #[.agg #[.slice none 0 0, .slice none 0 0, .slice none 0 0, .slice none 0 0, .int .i64 0, .int .i64 0], .string ByteArray.empty], []⟩ 8 (by kernel_rfl) (by kernel_rfl) (by kernel_rfl) (by kernel_rfl)) ?_
  intro W base args ds gs before hval0 hW hcnd _
  have hval : ∀ (j : Nat) t v, Try.f8.params[j]? = some t → args[j]? = some v → Value.okWide Try.prog W .any base t v := hval0
  have hW' := hW
  obtain ⟨p, q, hA0, hV, rfl, hfz, hnd⟩ := hW
  have hA : DataW.TrodAll enc Try.prog W 0 (fun _ => true) true Try.f8.params.toList args.toList ds p := hA0
  rw [Try.params8] at hA hval
  obtain ⟨v0, vs0, d0, ds0, p0, q0, hargs, rfl, rfl, h0, r0⟩ := trodAll_cons hA
  obtain ⟨v1, vs1, d1, ds1, p1, q1, rfl, rfl, rfl, h1, r1⟩ := trodAll_cons r0
  obtain ⟨rfl, rfl, rfl⟩ := trodAll_nil r1
  obtain rfl : args = #[v0, v1] := by cases args; simp_all
  obtain ⟨rfl, rfl⟩ := trodVars_none hV
  have k0 := h0
  have lt0 : ∀ x ∈ p0, x.block < W.heap.size := by obtain ⟨m, hm⟩ := k0; exact DataW.trod_lt m _ _ _ hm
  have k1 := h1
  have lt1 : ∀ x ∈ p1, x.block < W.heap.size := by obtain ⟨m, hm⟩ := k1; exact DataW.trod_lt m _ _ _ hm
  obtain ⟨z0, y0, s0⟩ := disk.rd_D (hval 0 39 v0 rfl rfl) h0
  obtain ⟨a1, rfl, rfl, rfl, w1⟩ := open_string Try.underlying9 (hval 1 9 v1 rfl rfl) h1
  clear hA0 hval0
  refine (walk W v0 z0 y0 s0 a1 w1).mono fun e W' ⟨he, bel⟩ => ?_
  subst he
  exact ⟨_, rfl, _, _, _, [], _, [], hW', trodAll_mk1 (shut_bool Try.underlying4 _), (trodAll_cons_mk (Below.trod laidOut (by kernel_rfl) (of_decide_eq_true (by kernel_rfl)) k0 bel lt0) (trodAll_cons_mk (Below.trod laidOut (by kernel_rfl) (of_decide_eq_true (by kernel_rfl)) k1 bel lt1) trodAll_mk0)), rfl, bel.frame _, fun h => by cases h⟩

theorem over : Rows.fnExactReadFileRow.holds Try.pinned (OpenSpec.ofChange Rows.fnExactReadFileSpec) :=
  OpenClaim.holds_of_wide 8 Try.f8 rfl rfl rfl rfl rfl rfl rfl ⟨rfl, rfl, rfl, rfl, rfl⟩ rfl rfl rfl rfl rfl (by kernel_rfl) Try.func8 (by kernel_rfl)
    (of_decide_eq_true (by kernel_rfl)) (by unfold Func.isWrapper; first | (rw [if_pos (by decide +kernel)]; kernel_rfl) | (rw [if_neg (by decide +kernel)]; exact ⟨rfl, rfl⟩))
    (fun os started H enc _ => lifted os started H enc)

theorem proved : Rows.FnExactReadFileSaid := over
end Go.Proofs.Ytnhcianahmfdhaa.fnExactReadFile
