/-
  PROVED: 'Rows.FnExactFallenCardSaid': whatever the arguments, the call laws.FnExactFallen returns true (impl.Fallen answers as spec.Fallen, leaves its arguments as they were, and owns its memory), and the arguments read as they did.
  CONDITIONS: the given card's own: the library's variables that the row lists start as the program's text lays them (the tie is given; over the pruned copy of the project).
-/
import Derived.Test.YtdacdbidennjhaaGreatDoorDuZ
import Derived.Test.YtdacdbidennjhaaGreatDoorDkS
import Derived.Test.YtdacdbidennjhaaGreatDoorArg
import Derived.Test.YtdacdbidennjhaaGreatDoorHold
import Derived.Test.YtdacdbidennjhaaGreatDoorFacts
import Derived.Test.YtdacdbidennjhaaGreatDoorTie
import Derived.WalkKit
import Derived.ProofKit
import Derived.OpenShut
import Derived.ShutString
import Derived.SliceStrings
import Derived.ChangeOld
import Derived.Below
import Derived.Deep.DeepHandedRow
import Derived.Lib.LaidTab
namespace Go.Proofs.YtdacdbidennjhaaGreatDoor.fnExactFallen
open Go.ChangeShapes Go.WideShapes Go.ChangeAt Go.RowKit
open Go.ChangeMaps (open_string shut_string)
set_option linter.unusedVariables false

theorem own : ownKnob Tryz.prog.godebug = none := by kernel_rfl
theorem laidOut : laidOutB Tryz.prog = true := by kernel_rfl

theorem walk (w : World) (v0 : Value) (d0 : disk.D) (h0 : disk.IsDisk w v0 d0) (s0 : disk.wfD d0) (a1 : Int) (h1 : argv.wfI a1) (a2 : Option Addr) (n2 c2 : Nat) (x2 : List Int) (m2 : n2 ≤ maxLen) (h2 : recs.AtI w a2 n2 x2) (s2 : ∀ s ∈ x2, recs.wfI s) (t_math_bits_deBruijn32tab : hold.F_math_bits_deBruijn32tab w) (t_math_bits_deBruijn64tab : hold.F_math_bits_deBruijn64tab w) (t_internal_strconv_uint64pow10 : hold.F_internal_strconv_uint64pow10 w) (t_errors_errorType : hold.F_errors_errorType w) (t_strconv_ErrRange : hold.F_strconv_ErrRange w) (t_strconv_ErrSyntax : hold.F_strconv_ErrSyntax w) (sh : w.ShapedOpen Tryz.prog) :
    Calls Tryz.prog 6 #[v0, .int .i64 a1, .slice a2 n2 c2] w fun e w' => e = .returned (.bool true) ∧ Below w.heap.size w w' := by
  have GW := Lib.hid (show ik.GD w from ⟨rd.pow_of t_internal_strconv_uint64pow10, t_strconv_ErrSyntax, t_strconv_ErrRange, t_errors_errorType, ik.maxl_of sh⟩)
  obtain ⟨p0_0, p0_1, p0_2, p0_3, p0_4, p0_5, p0_6, p0_7, p0_8, p0_9, p0_10, p0_11, p0_12, p0_13, rfl⟩ := kd.IsD_form h0
  have A0 := Lib.hid h0
  have WF0 := Lib.hid s0
  clear h0 s0
  have A2 := Lib.hid (show kd.IsI w (.slice a2 n2 c2) x2 from ⟨_, _, _, rfl, h2⟩)
  have WF2 := Lib.hid (show (∀ s ∈ x2, recs.wfI s) ∧ x2.length = n2 from ⟨s2, by have := h2.1; rw [List.length_map] at this; omega⟩)
  clear h2 s2 m2
  have I1 := Lib.hid h1
  clear h1
  by_cases b2 : 1048576 < n2
  · have g2 : (1048576 : Int) < (n2 : Int) := by omega
    go_enter Tryz.func6, Tryz.ntmps6
    go_wp2
    go_ret
    exact ⟨rfl, ((Below.refl _ _).alloc (by first | exact Nat.le_refl _ | simp | (simp; omega)) _)⟩
  have g2 : ¬ (1048576 : Int) < (n2 : Int) := by omega
  have BK2 := Lib.hid (show kd.bulkI x2 ≤ 1048576 by unfold kd.bulkI; rw [WF2.out.2]; omega)
  have K2 := Lib.hid (show kd.okI x2 from ⟨WF2.out.1, BK2.out⟩)
  have CN2 := K2.out.cnt
  clear b2
  go_enter Tryz.func6, Tryz.ntmps6
  have HB := Lib.hid (Below.refl w.heap.size w)
  go_wp2_with (fail)
  refine (disk.szDisk_any 1048576 _ (by decide) WF0.out ?_).mono ?_
  exact A0.out.below (HB.out.alloc (by have := HB.out.size; first | exact this | (simp; done) | (simp; omega)) _)
  rintro e w1 ⟨hif, hb⟩
  have bb : Below w.heap.size w w1 := ((Below.refl _ _).alloc (by first | exact Nat.le_refl _ | simp | (simp; omega)) _).trans (hb.mono (by first | (simp; done) | (simp; omega)))
  have Z1 : w.heap.size + 1 ≤ w1.heap.size := (by have := hb.size; first | omega | (simp at this; omega))
  have X1 := Lib.hid (show disk.Box w1 (w.heap.size) [.slice p0_0 p0_1 p0_2, .slice p0_3 p0_4 p0_5, .slice p0_6 p0_7 p0_8, .slice p0_9 p0_10 p0_11, .int .i64 p0_12, .int .i64 p0_13] from (by have h := (disk.Box.new _ #[.slice p0_0 p0_1 p0_2, .slice p0_3 p0_4 p0_5, .slice p0_6 p0_7 p0_8, .slice p0_9 p0_10 p0_11, .int .i64 p0_12, .int .i64 p0_13] _).below hb; simpa using h))
  replace HB := Lib.hid (HB.out.trans (bb.mono HB.out.size))
  by_cases bk0 : disk.bulk d0 ≤ 1048576
  rotate_left
  · rw [if_neg bk0] at hif
    subst hif
    clear bk0 hb bb
    go_wp2
    go_ret
    exact ⟨rfl, HB.out⟩
  obtain ⟨lf1, elf1⟩ : ∃ l : Nat, l = 1048576 - disk.bulk d0 := ⟨_, rfl⟩
  rw [if_pos bk0, ← elf1] at hif
  subst hif
  have hl1 : lf1 ≤ 1048576 := (by omega)
  have nl1 : ¬ (lf1 : Int) < 0 := (by omega)
  have BK0 := Lib.hid (show disk.bulk d0 ≤ 1048576 by omega)
  have K0 := Lib.hid (show kd.okD d0 from ⟨WF0.out, BK0.out⟩)
  have CN0 := K0.out.cnt
  clear elf1 bk0 hb bb
  have CR0 : kd.cntD (fall.fallen d0 a1 x2) ≤ 100000000 := fall.cnt_fallen a1 x2 K0.out
  have ltX1 := X1.out.1
  have cX1_0 := X1.out.at 0 _ rfl
  have cX1_1 := X1.out.at 1 _ rfl
  have cX1_2 := X1.out.at 2 _ rfl
  have cX1_3 := X1.out.at 3 _ rfl
  have cX1_4 := X1.out.at 4 _ rfl
  have cX1_5 := X1.out.at 5 _ rfl
  go_wp2_with (fail)
  refine (disk.toDisk_any _ BK0.out ?_).mono ?_
  exact A0.out.below HB.out
  rintro e w2 ⟨u2, he, ho, hb⟩
  obtain ⟨u2_0, u2_1, u2_2, u2_3, u2_4, u2_5, u2_6, u2_7, u2_8, u2_9, u2_10, u2_11, u2_12, u2_13, rfl⟩ := kd.IsD_form ho.is
  subst he
  have bb : Below w1.heap.size w1 w2 := hb
  have Z2 : w1.heap.size ≤ w2.heap.size := (by have := hb.size; first | omega | (simp at this; omega))
  have O2 := Lib.hid (ho.base (B' := w1.heap.size) (by first | exact Nat.le_refl _ | (simp; done) | (simp; omega)))
  have R2 := Lib.hid (O2.out.rows)
  replace HB := Lib.hid (HB.out.trans (bb.mono HB.out.size))
  replace X1 := Lib.hid (X1.out.below bb)
  clear ho hb bb
  clear ltX1 cX1_0 cX1_1 cX1_2 cX1_3 cX1_4 cX1_5
  go_wp2_with (fail)
  refine (kd.toI _ BK2.out ?_).mono ?_
  exact A2.out.below HB.out
  rintro e w3 ⟨u3, he, ho, hb⟩
  subst he
  have bb : Below w2.heap.size w2 w3 := hb
  have Z3 : w2.heap.size ≤ w3.heap.size := (by have := hb.size; first | omega | (simp at this; omega))
  have O3 := Lib.hid (ho.base (B' := w2.heap.size) (by first | exact Nat.le_refl _ | (simp; done) | (simp; omega)))
  have R3 := Lib.hid (O3.out.rows)
  replace HB := Lib.hid (HB.out.trans (bb.mono HB.out.size))
  replace O2 := Lib.hid (O2.out.below bb)
  replace X1 := Lib.hid (X1.out.below bb)
  clear ho hb bb
  go_wp2_with (fail)
  refine (fall.sFallen _ d0 a1 _ x2 _ K0.out K2.out ?_ ?_).mono ?_
  exact O2.out.is
  exact O3.out.is
  rintro e w4 ⟨u4_r0, he, ho0, hb⟩
  obtain ⟨u4_r0_0, u4_r0_1, u4_r0_2, u4_r0_3, u4_r0_4, u4_r0_5, u4_r0_6, u4_r0_7, u4_r0_8, u4_r0_9, u4_r0_10, u4_r0_11, u4_r0_12, u4_r0_13, rfl⟩ := kd.IsD_form ho0.is
  subst he
  have bb : Below w3.heap.size w3 w4 := hb
  have Z4 : w3.heap.size ≤ w4.heap.size := (by have := hb.size; first | omega | (simp at this; omega))
  replace HB := Lib.hid (HB.out.trans (bb.mono HB.out.size))
  replace O2 := Lib.hid (O2.out.below bb)
  replace O3 := Lib.hid (O3.out.below bb)
  replace X1 := Lib.hid (X1.out.below bb)
  have S4_0 := Lib.hid (ho0.is)
  have J4_0 := Lib.hid (Below.refl w4.heap.size w4)
  clear ho0 hb bb
  have ltX1 := X1.out.1
  have cX1_0 := X1.out.at 0 _ rfl
  have cX1_1 := X1.out.at 1 _ rfl
  have cX1_2 := X1.out.at 2 _ rfl
  have cX1_3 := X1.out.at 3 _ rfl
  have cX1_4 := X1.out.at 4 _ rfl
  have cX1_5 := X1.out.at 5 _ rfl
  go_wp2_with (fail)
  refine (disk.toDisk_any _ BK0.out ?_).mono ?_
  exact A0.out.below (HB.out.alloc (by have := HB.out.size; first | exact this | (simp; done) | (simp; omega)) _)
  rintro e w5 ⟨u5, he, ho, hb⟩
  obtain ⟨u5_0, u5_1, u5_2, u5_3, u5_4, u5_5, u5_6, u5_7, u5_8, u5_9, u5_10, u5_11, u5_12, u5_13, rfl⟩ := kd.IsD_form ho.is
  subst he
  have bb : Below w4.heap.size w4 w5 := ((Below.refl _ _).alloc (by first | exact Nat.le_refl _ | simp | (simp; omega)) _).trans (hb.mono (by first | (simp; done) | (simp; omega)))
  have Z5 : w4.heap.size + 1 ≤ w5.heap.size := (by have := hb.size; first | omega | (simp at this; omega))
  have O5 := Lib.hid (ho.base (B' := w4.heap.size + 1) (by first | exact Nat.le_refl _ | (simp; done) | (simp; omega)))
  have R5 := Lib.hid (O5.out.rows)
  have X2 := Lib.hid (show disk.Box w5 (w4.heap.size) [.slice u4_r0_0 u4_r0_1 u4_r0_2, .slice u4_r0_3 u4_r0_4 u4_r0_5, .slice u4_r0_6 u4_r0_7 u4_r0_8, .slice u4_r0_9 u4_r0_10 u4_r0_11, .int .i64 u4_r0_12, .int .i64 u4_r0_13] from (by have h := (disk.Box.new _ #[.slice u4_r0_0 u4_r0_1 u4_r0_2, .slice u4_r0_3 u4_r0_4 u4_r0_5, .slice u4_r0_6 u4_r0_7 u4_r0_8, .slice u4_r0_9 u4_r0_10 u4_r0_11, .int .i64 u4_r0_12, .int .i64 u4_r0_13] _).below hb; simpa using h))
  replace HB := Lib.hid (HB.out.trans (bb.mono HB.out.size))
  replace J4_0 := Lib.hid (J4_0.out.trans (bb.mono J4_0.out.size))
  replace O2 := Lib.hid (O2.out.below bb)
  replace O3 := Lib.hid (O3.out.below bb)
  replace X1 := Lib.hid (X1.out.below bb)
  clear ho hb bb
  clear ltX1 cX1_0 cX1_1 cX1_2 cX1_3 cX1_4 cX1_5
  go_wp2_with (fail)
  refine (kd.toI _ BK2.out ?_).mono ?_
  exact A2.out.below (HB.out.alloc (by have := HB.out.size; first | exact this | (simp; done) | (simp; omega)) _)
  rintro e w6 ⟨u6, he, ho, hb⟩
  subst he
  have bb : Below w5.heap.size w5 w6 := ((Below.refl _ _).alloc (by first | exact Nat.le_refl _ | simp | (simp; omega)) _).trans (hb.mono (by first | (simp; done) | (simp; omega)))
  have Z6 : w5.heap.size + 1 ≤ w6.heap.size := (by have := hb.size; first | omega | (simp at this; omega))
  have O6 := Lib.hid (ho.base (B' := w5.heap.size + 1) (by first | exact Nat.le_refl _ | (simp; done) | (simp; omega)))
  have R6 := Lib.hid (O6.out.rows)
  have X3 := Lib.hid (show disk.Box w6 (w5.heap.size) [.slice u5_0 u5_1 u5_2, .slice u5_3 u5_4 u5_5, .slice u5_6 u5_7 u5_8, .slice u5_9 u5_10 u5_11, .int .i64 u5_12, .int .i64 u5_13] from (by have h := (disk.Box.new _ #[.slice u5_0 u5_1 u5_2, .slice u5_3 u5_4 u5_5, .slice u5_6 u5_7 u5_8, .slice u5_9 u5_10 u5_11, .int .i64 u5_12, .int .i64 u5_13] _).below hb; simpa using h))
  replace HB := Lib.hid (HB.out.trans (bb.mono HB.out.size))
  replace J4_0 := Lib.hid (J4_0.out.trans (bb.mono J4_0.out.size))
  replace O2 := Lib.hid (O2.out.below bb)
  replace O3 := Lib.hid (O3.out.below bb)
  replace O5 := Lib.hid (O5.out.below bb)
  replace X1 := Lib.hid (X1.out.below bb)
  replace X2 := Lib.hid (X2.out.below bb)
  clear ho hb bb
  have ltX3 := X3.out.1
  have cX3_0 := X3.out.at 0 _ rfl
  have cX3_1 := X3.out.at 1 _ rfl
  have cX3_2 := X3.out.at 2 _ rfl
  have cX3_3 := X3.out.at 3 _ rfl
  have cX3_4 := X3.out.at 4 _ rfl
  have cX3_5 := X3.out.at 5 _ rfl
  go_wp2_with (fail)
  refine (fall.iFallen _ d0 a1 _ x2 _ K0.out K2.out ?_ ?_ ?_ ?_).mono ?_
  exact O5.out.is
  exact O6.out.is
  exact GW.out.below (HB.out)
  exact fall.stepCap_of O5.out
  rintro e w7 ⟨u7_r0, he, ho0, hb⟩
  obtain ⟨u7_r0_0, u7_r0_1, u7_r0_2, u7_r0_3, u7_r0_4, u7_r0_5, u7_r0_6, u7_r0_7, u7_r0_8, u7_r0_9, u7_r0_10, u7_r0_11, u7_r0_12, u7_r0_13, rfl⟩ := kd.IsD_form ho0.is
  subst he
  have bb : Below w6.heap.size w6 w7 := hb
  have Z7 : w6.heap.size ≤ w7.heap.size := (by have := hb.size; first | omega | (simp at this; omega))
  replace HB := Lib.hid (HB.out.trans (bb.mono HB.out.size))
  replace J4_0 := Lib.hid (J4_0.out.trans (bb.mono J4_0.out.size))
  replace O2 := Lib.hid (O2.out.below bb)
  replace O3 := Lib.hid (O3.out.below bb)
  replace O5 := Lib.hid (O5.out.below bb)
  replace O6 := Lib.hid (O6.out.below bb)
  replace X1 := Lib.hid (X1.out.below bb)
  replace X2 := Lib.hid (X2.out.below bb)
  replace X3 := Lib.hid (X3.out.below bb)
  have O7_0 := Lib.hid (ho0.base (B' := w6.heap.size) (by first | exact Nat.le_refl _ | (simp; done) | (simp; omega)))
  have R7_0 := Lib.hid (O7_0.out.rows)
  clear ho0 hb bb
  clear ltX3 cX3_0 cX3_1 cX3_2 cX3_3 cX3_4 cX3_5
  have ltX2 := X2.out.1
  have cX2_0 := X2.out.at 0 _ rfl
  have cX2_1 := X2.out.at 1 _ rfl
  have cX2_2 := X2.out.at 2 _ rfl
  have cX2_3 := X2.out.at 3 _ rfl
  have cX2_4 := X2.out.at 4 _ rfl
  have cX2_5 := X2.out.at 5 _ rfl
  go_wp2_with (fail)
  refine (kd.eqD' (d := fall.fallen d0 a1 x2) _ CR0 ?_ ?_).mono ?_
  exact O7_0.out.is.below ((Below.refl _ _).alloc (by first | exact Nat.le_refl _ | simp | (simp; omega)) _)
  exact S4_0.out.below (J4_0.out.trans (((Below.refl _ _).alloc (by first | exact Nat.le_refl _ | simp | (simp; omega)) _).mono J4_0.out.size))
  rintro e w8 ⟨rfl, hb⟩
  have bb : Below w7.heap.size w7 w8 := ((Below.refl _ _).alloc (by first | exact Nat.le_refl _ | simp | (simp; omega)) _).trans (hb.mono (by first | (simp; done) | (simp; omega)))
  have Z8 : w7.heap.size + 1 ≤ w8.heap.size := (by have := hb.size; first | omega | (simp at this; omega))
  have X4 := Lib.hid (show disk.Box w8 (w7.heap.size) [.slice u7_r0_0 u7_r0_1 u7_r0_2, .slice u7_r0_3 u7_r0_4 u7_r0_5, .slice u7_r0_6 u7_r0_7 u7_r0_8, .slice u7_r0_9 u7_r0_10 u7_r0_11, .int .i64 u7_r0_12, .int .i64 u7_r0_13] from (by have h := (disk.Box.new _ #[.slice u7_r0_0 u7_r0_1 u7_r0_2, .slice u7_r0_3 u7_r0_4 u7_r0_5, .slice u7_r0_6 u7_r0_7 u7_r0_8, .slice u7_r0_9 u7_r0_10 u7_r0_11, .int .i64 u7_r0_12, .int .i64 u7_r0_13] _).below hb; simpa using h))
  replace HB := Lib.hid (HB.out.trans (bb.mono HB.out.size))
  replace J4_0 := Lib.hid (J4_0.out.trans (bb.mono J4_0.out.size))
  replace O2 := Lib.hid (O2.out.below bb)
  replace O3 := Lib.hid (O3.out.below bb)
  replace O5 := Lib.hid (O5.out.below bb)
  replace O6 := Lib.hid (O6.out.below bb)
  replace O7_0 := Lib.hid (O7_0.out.below bb)
  replace X1 := Lib.hid (X1.out.below bb)
  replace X2 := Lib.hid (X2.out.below bb)
  replace X3 := Lib.hid (X3.out.below bb)
  clear hb bb
  clear ltX2 cX2_0 cX2_1 cX2_2 cX2_3 cX2_4 cX2_5
  have ltX3 := X3.out.1
  have cX3_0 := X3.out.at 0 _ rfl
  have cX3_1 := X3.out.at 1 _ rfl
  have cX3_2 := X3.out.at 2 _ rfl
  have cX3_3 := X3.out.at 3 _ rfl
  have cX3_4 := X3.out.at 4 _ rfl
  have cX3_5 := X3.out.at 5 _ rfl
  have ltX1 := X1.out.1
  have cX1_0 := X1.out.at 0 _ rfl
  have cX1_1 := X1.out.at 1 _ rfl
  have cX1_2 := X1.out.at 2 _ rfl
  have cX1_3 := X1.out.at 3 _ rfl
  have cX1_4 := X1.out.at 4 _ rfl
  have cX1_5 := X1.out.at 5 _ rfl
  go_wp2
  go_region_held3 (fun w' => w'.cell? ⟨w5.heap.size, 0, none⟩ = some (.slice u5_0 u5_1 u5_2) ∧ w'.cell? ⟨w5.heap.size, 1, none⟩ = some (.slice u5_3 u5_4 u5_5) ∧ w'.cell? ⟨w5.heap.size, 2, none⟩ = some (.slice u5_6 u5_7 u5_8) ∧ w'.cell? ⟨w5.heap.size, 3, none⟩ = some (.slice u5_9 u5_10 u5_11) ∧ w'.cell? ⟨w5.heap.size, 4, none⟩ = some (.int .i64 u5_12) ∧ w'.cell? ⟨w5.heap.size, 5, none⟩ = some (.int .i64 u5_13) ∧ w'.cell? ⟨w.heap.size, 0, none⟩ = some (.slice p0_0 p0_1 p0_2) ∧ w'.cell? ⟨w.heap.size, 1, none⟩ = some (.slice p0_3 p0_4 p0_5) ∧ w'.cell? ⟨w.heap.size, 2, none⟩ = some (.slice p0_6 p0_7 p0_8) ∧ w'.cell? ⟨w.heap.size, 3, none⟩ = some (.slice p0_9 p0_10 p0_11) ∧ w'.cell? ⟨w.heap.size, 4, none⟩ = some (.int .i64 p0_12) ∧ w'.cell? ⟨w.heap.size, 5, none⟩ = some (.int .i64 p0_13)) (first | exact ⟨cX3_0, cX3_1, cX3_2, cX3_3, cX3_4, cX3_5, cX1_0, cX1_1, cX1_2, cX1_3, cX1_4, cX1_5⟩ | exact ⟨X3.out.at 0 _ rfl, X3.out.at 1 _ rfl, X3.out.at 2 _ rfl, X3.out.at 3 _ rfl, X3.out.at 4 _ rfl, X3.out.at 5 _ rfl, X1.out.at 0 _ rfl, X1.out.at 1 _ rfl, X1.out.at 2 _ rfl, X1.out.at 3 _ rfl, X1.out.at 4 _ rfl, X1.out.at 5 _ rfl⟩) (first | (go_at_call 46; refine (disk.toDisk_any _ BK0.out ?_).mono ?_; exact A0.out.below HB.out.drew; rintro e w9 ⟨u9, he, ho, hb⟩; obtain ⟨u9_0, u9_1, u9_2, u9_3, u9_4, u9_5, u9_6, u9_7, u9_8, u9_9, u9_10, u9_11, u9_12, u9_13, rfl⟩ := kd.IsD_form ho.is; subst he; have bb : Below w8.heap.size w8 w9 := (Below.refl w8.heap.size w8).drew.trans hb; have Z9 : w8.heap.size ≤ w9.heap.size := (by have := hb.size; first | omega | (simp at this; omega)); have O9 := Lib.hid (ho.base (B' := w8.heap.size) (by first | exact Nat.le_refl _ | (simp; done) | (simp; omega))); have R9 := Lib.hid (O9.out.rows); replace HB := Lib.hid (HB.out.trans (bb.mono HB.out.size)); replace J4_0 := Lib.hid (J4_0.out.trans (bb.mono J4_0.out.size)); replace O2 := Lib.hid (O2.out.below bb); replace O3 := Lib.hid (O3.out.below bb); replace O5 := Lib.hid (O5.out.below bb); replace O6 := Lib.hid (O6.out.below bb); replace O7_0 := Lib.hid (O7_0.out.below bb); replace X1 := Lib.hid (X1.out.below bb); replace X2 := Lib.hid (X2.out.below bb); replace X3 := Lib.hid (X3.out.below bb); replace X4 := Lib.hid (X4.out.below bb); clear ho hb bb) | (go_at_call 48; refine (kd.eqD' (d := d0) _ CN0 ?_ ?_).mono ?_; exact O5.out.is; exact O9.out.is; rintro e w10 ⟨rfl, hb⟩; have bb : Below w9.heap.size w9 w10 := hb; have Z10 : w9.heap.size ≤ w10.heap.size := (by have := hb.size; first | omega | (simp at this; omega)); replace HB := Lib.hid (HB.out.trans (bb.mono HB.out.size)); replace J4_0 := Lib.hid (J4_0.out.trans (bb.mono J4_0.out.size)); replace O2 := Lib.hid (O2.out.below bb); replace O3 := Lib.hid (O3.out.below bb); replace O5 := Lib.hid (O5.out.below bb); replace O6 := Lib.hid (O6.out.below bb); replace O7_0 := Lib.hid (O7_0.out.below bb); replace O9 := Lib.hid (O9.out.below bb); replace X1 := Lib.hid (X1.out.below bb); replace X2 := Lib.hid (X2.out.below bb); replace X3 := Lib.hid (X3.out.below bb); replace X4 := Lib.hid (X4.out.below bb); clear hb bb))
  clear ltX3 cX3_0 cX3_1 cX3_2 cX3_3 cX3_4 cX3_5 ltX1 cX1_0 cX1_1 cX1_2 cX1_3 cX1_4 cX1_5
  go_wp2_with (fail)
  refine (kd.toI _ BK2.out ?_).mono ?_
  exact A2.out.below HB.out
  rintro e w11 ⟨u11, he, ho, hb⟩
  subst he
  have bb : Below w10.heap.size w10 w11 := hb
  have Z11 : w10.heap.size ≤ w11.heap.size := (by have := hb.size; first | omega | (simp at this; omega))
  have O11 := Lib.hid (ho.base (B' := w10.heap.size) (by first | exact Nat.le_refl _ | (simp; done) | (simp; omega)))
  have R11 := Lib.hid (O11.out.rows)
  replace HB := Lib.hid (HB.out.trans (bb.mono HB.out.size))
  replace J4_0 := Lib.hid (J4_0.out.trans (bb.mono J4_0.out.size))
  replace O2 := Lib.hid (O2.out.below bb)
  replace O3 := Lib.hid (O3.out.below bb)
  replace O5 := Lib.hid (O5.out.below bb)
  replace O6 := Lib.hid (O6.out.below bb)
  replace O7_0 := Lib.hid (O7_0.out.below bb)
  replace O9 := Lib.hid (O9.out.below bb)
  replace X1 := Lib.hid (X1.out.below bb)
  replace X2 := Lib.hid (X2.out.below bb)
  replace X3 := Lib.hid (X3.out.below bb)
  replace X4 := Lib.hid (X4.out.below bb)
  clear ho hb bb
  go_wp2_with (fail)
  refine (kd.eqI' (d := x2) _ CN2 ?_ ?_).mono ?_
  exact O6.out.is
  exact O11.out.is
  rintro e w12 ⟨rfl, hb⟩
  have bb : Below w11.heap.size w11 w12 := hb
  have Z12 : w11.heap.size ≤ w12.heap.size := (by have := hb.size; first | omega | (simp at this; omega))
  replace HB := Lib.hid (HB.out.trans (bb.mono HB.out.size))
  replace J4_0 := Lib.hid (J4_0.out.trans (bb.mono J4_0.out.size))
  replace O2 := Lib.hid (O2.out.below bb)
  replace O3 := Lib.hid (O3.out.below bb)
  replace O5 := Lib.hid (O5.out.below bb)
  replace O6 := Lib.hid (O6.out.below bb)
  replace O7_0 := Lib.hid (O7_0.out.below bb)
  replace O9 := Lib.hid (O9.out.below bb)
  replace O11 := Lib.hid (O11.out.below bb)
  replace X1 := Lib.hid (X1.out.below bb)
  replace X2 := Lib.hid (X2.out.below bb)
  replace X3 := Lib.hid (X3.out.below bb)
  replace X4 := Lib.hid (X4.out.below bb)
  clear hb bb
  have ltX3 := X3.out.1
  have cX3_0 := X3.out.at 0 _ rfl
  have cX3_1 := X3.out.at 1 _ rfl
  have cX3_2 := X3.out.at 2 _ rfl
  have cX3_3 := X3.out.at 3 _ rfl
  have cX3_4 := X3.out.at 4 _ rfl
  have cX3_5 := X3.out.at 5 _ rfl
  go_wp2_with (fail)
  obtain ⟨q1, eq1⟩ : ∃ q : Nat, q = 1 + kd.cntD (d0) := ⟨_, rfl⟩
  have hq1 : 0 < q1 ∧ q1 ≤ 1 + 100000000 := (by have := CN0; omega)
  have nq1 : ¬ (q1 : Int) < 0 := (by omega)
  have EQ1 := Lib.hid eq1
  clear eq1
  refine (kd.markD' (B := w4.heap.size + 1) (d := d0) (k := 1) (q := q1) _ (by decide) (by have := CN0; omega) EQ1.out ?_).mono ?_
  exact O5.out
  rintro e w13 ⟨rfl, ho, on⟩
  have Z13 : w12.heap.size ≤ w13.heap.size := (by have := on.size; first | omega | (simp at this; omega))
  have bbo := on
  replace HB := Lib.hid (HB.out.trans (bbo.below HB.out.size (fun k hk => (by have := R5.out k hk; omega))))
  replace J4_0 := Lib.hid (J4_0.out.trans (bbo.below J4_0.out.size (fun k hk => (by have := R5.out k hk; omega))))
  replace O2 := Lib.hid (O2.out.only bbo (fun k hk hS => (by have := R5.out k hS; have := R2.out k hk; omega)))
  replace O3 := Lib.hid (O3.out.only bbo (fun k hk hS => (by have := R5.out k hS; have := R3.out k hk; omega)))
  replace O6 := Lib.hid (O6.out.only bbo (fun k hk hS => (by have := R5.out k hS; have := R6.out k hk; omega)))
  replace O7_0 := Lib.hid (O7_0.out.only bbo (fun k hk hS => (by have := R5.out k hS; have := R7_0.out k hk; omega)))
  replace O9 := Lib.hid (O9.out.only bbo (fun k hk hS => (by have := R5.out k hS; have := R9.out k hk; omega)))
  replace O11 := Lib.hid (O11.out.only bbo (fun k hk hS => (by have := R5.out k hS; have := R11.out k hk; omega)))
  replace X1 := Lib.hid (X1.out.only bbo (fun hS => (by have := R5.out _ hS; omega)))
  replace X2 := Lib.hid (X2.out.only bbo (fun hS => (by have := R5.out _ hS; omega)))
  replace X3 := Lib.hid (X3.out.only bbo (fun hS => (by have := R5.out _ hS; omega)))
  replace X4 := Lib.hid (X4.out.only bbo (fun hS => (by have := R5.out _ hS; omega)))
  replace O5 := Lib.hid ho
  clear ho on bbo
  clear ltX3 cX3_0 cX3_1 cX3_2 cX3_3 cX3_4 cX3_5
  go_wp2_with (fail)
  obtain ⟨q2, eq2⟩ : ∃ q : Nat, q = q1 + kd.cntI (x2) := ⟨_, rfl⟩
  have hq2 : 0 < q2 ∧ q2 ≤ q1 + 100000000 := (by have := CN2; omega)
  have nq2 : ¬ (q2 : Int) < 0 := (by omega)
  have EQ2 := Lib.hid eq2
  clear eq2
  refine (kd.markI' (B := w5.heap.size + 1) (d := x2) (k := q1) (q := q2) _ hq1.1 (by have := CN2; omega) EQ2.out ?_).mono ?_
  exact O6.out
  rintro e w14 ⟨rfl, ho, on⟩
  have Z14 : w13.heap.size ≤ w14.heap.size := (by have := on.size; first | omega | (simp at this; omega))
  have bbo := on
  replace HB := Lib.hid (HB.out.trans (bbo.below HB.out.size (fun k hk => (by have := R6.out k hk; omega))))
  replace J4_0 := Lib.hid (J4_0.out.trans (bbo.below J4_0.out.size (fun k hk => (by have := R6.out k hk; omega))))
  replace O2 := Lib.hid (O2.out.only bbo (fun k hk hS => (by have := R6.out k hS; have := R2.out k hk; omega)))
  replace O3 := Lib.hid (O3.out.only bbo (fun k hk hS => (by have := R6.out k hS; have := R3.out k hk; omega)))
  replace O5 := Lib.hid (O5.out.only bbo (fun k hk hS => (by have := R6.out k hS; have := R5.out k hk; omega)))
  replace O7_0 := Lib.hid (O7_0.out.only bbo (fun k hk hS => (by have := R6.out k hS; have := R7_0.out k hk; omega)))
  replace O9 := Lib.hid (O9.out.only bbo (fun k hk hS => (by have := R6.out k hS; have := R9.out k hk; omega)))
  replace O11 := Lib.hid (O11.out.only bbo (fun k hk hS => (by have := R6.out k hS; have := R11.out k hk; omega)))
  replace X1 := Lib.hid (X1.out.only bbo (fun hS => (by have := R6.out _ hS; omega)))
  replace X2 := Lib.hid (X2.out.only bbo (fun hS => (by have := R6.out _ hS; omega)))
  replace X3 := Lib.hid (X3.out.only bbo (fun hS => (by have := R6.out _ hS; omega)))
  replace X4 := Lib.hid (X4.out.only bbo (fun hS => (by have := R6.out _ hS; omega)))
  replace O6 := Lib.hid ho
  clear ho on bbo
  have ltX4 := X4.out.1
  have cX4_0 := X4.out.at 0 _ rfl
  have cX4_1 := X4.out.at 1 _ rfl
  have cX4_2 := X4.out.at 2 _ rfl
  have cX4_3 := X4.out.at 3 _ rfl
  have cX4_4 := X4.out.at 4 _ rfl
  have cX4_5 := X4.out.at 5 _ rfl
  have ltX2 := X2.out.1
  have cX2_0 := X2.out.at 0 _ rfl
  have cX2_1 := X2.out.at 1 _ rfl
  have cX2_2 := X2.out.at 2 _ rfl
  have cX2_3 := X2.out.at 3 _ rfl
  have cX2_4 := X2.out.at 4 _ rfl
  have cX2_5 := X2.out.at 5 _ rfl
  go_wp2_with (fail)
  refine (kd.eqD' (d := fall.fallen d0 a1 x2) _ CR0 ?_ ?_).mono ?_
  exact O7_0.out.is
  exact S4_0.out.below J4_0.out
  rintro e w15 ⟨rfl, hb⟩
  have bb : Below w14.heap.size w14 w15 := hb
  have Z15 : w14.heap.size ≤ w15.heap.size := (by have := hb.size; first | omega | (simp at this; omega))
  replace HB := Lib.hid (HB.out.trans (bb.mono HB.out.size))
  replace J4_0 := Lib.hid (J4_0.out.trans (bb.mono J4_0.out.size))
  replace O2 := Lib.hid (O2.out.below bb)
  replace O3 := Lib.hid (O3.out.below bb)
  replace O5 := Lib.hid (O5.out.below bb)
  replace O6 := Lib.hid (O6.out.below bb)
  replace O7_0 := Lib.hid (O7_0.out.below bb)
  replace O9 := Lib.hid (O9.out.below bb)
  replace O11 := Lib.hid (O11.out.below bb)
  replace X1 := Lib.hid (X1.out.below bb)
  replace X2 := Lib.hid (X2.out.below bb)
  replace X3 := Lib.hid (X3.out.below bb)
  replace X4 := Lib.hid (X4.out.below bb)
  clear hb bb
  clear ltX4 cX4_0 cX4_1 cX4_2 cX4_3 cX4_4 cX4_5 ltX2 cX2_0 cX2_1 cX2_2 cX2_3 cX2_4 cX2_5
  have ltX4 := X4.out.1
  have cX4_0 := X4.out.at 0 _ rfl
  have cX4_1 := X4.out.at 1 _ rfl
  have cX4_2 := X4.out.at 2 _ rfl
  have cX4_3 := X4.out.at 3 _ rfl
  have cX4_4 := X4.out.at 4 _ rfl
  have cX4_5 := X4.out.at 5 _ rfl
  go_wp2_with (fail)
  obtain ⟨q3, eq3⟩ : ∃ q : Nat, q = 1 + kd.cntD (fall.fallen d0 a1 x2) := ⟨_, rfl⟩
  have hq3 : 0 < q3 ∧ q3 ≤ 1 + 100000000 := (by have := CR0; omega)
  have nq3 : ¬ (q3 : Int) < 0 := (by omega)
  have EQ3 := Lib.hid eq3
  clear eq3
  refine (kd.markW' (B := w6.heap.size) (d := fall.fallen d0 a1 x2) (k := 1) (q := q3) _ (by decide) (by have := CR0; omega) EQ3.out ?_).mono ?_
  exact O7_0.out
  rintro e w16 ⟨rfl, ho, on⟩
  have Z16 : w15.heap.size ≤ w16.heap.size := (by have := on.size; first | omega | (simp at this; omega))
  have bbo := on
  replace HB := Lib.hid (HB.out.trans (bbo.below HB.out.size (fun k hk => (by have := R7_0.out k hk; omega))))
  replace J4_0 := Lib.hid (J4_0.out.trans (bbo.below J4_0.out.size (fun k hk => (by have := R7_0.out k hk; omega))))
  replace O2 := Lib.hid (O2.out.only bbo (fun k hk hS => (by have := R7_0.out k hS; have := R2.out k hk; omega)))
  replace O3 := Lib.hid (O3.out.only bbo (fun k hk hS => (by have := R7_0.out k hS; have := R3.out k hk; omega)))
  replace O5 := Lib.hid (O5.out.only bbo (fun k hk hS => (by have := R7_0.out k hS; have := R5.out k hk; omega)))
  replace O6 := Lib.hid (O6.out.only bbo (fun k hk hS => (by have := R7_0.out k hS; have := R6.out k hk; omega)))
  replace O9 := Lib.hid (O9.out.only bbo (fun k hk hS => (by have := R7_0.out k hS; have := R9.out k hk; omega)))
  replace O11 := Lib.hid (O11.out.only bbo (fun k hk hS => (by have := R7_0.out k hS; have := R11.out k hk; omega)))
  replace X1 := Lib.hid (X1.out.only bbo (fun hS => (by have := R7_0.out _ hS; omega)))
  replace X2 := Lib.hid (X2.out.only bbo (fun hS => (by have := R7_0.out _ hS; omega)))
  replace X3 := Lib.hid (X3.out.only bbo (fun hS => (by have := R7_0.out _ hS; omega)))
  replace X4 := Lib.hid (X4.out.only bbo (fun hS => (by have := R7_0.out _ hS; omega)))
  replace O7_0 := Lib.hid ho
  clear ho on bbo
  clear ltX4 cX4_0 cX4_1 cX4_2 cX4_3 cX4_4 cX4_5
  have ltX4 := X4.out.1
  have cX4_0 := X4.out.at 0 _ rfl
  have cX4_1 := X4.out.at 1 _ rfl
  have cX4_2 := X4.out.at 2 _ rfl
  have cX4_3 := X4.out.at 3 _ rfl
  have cX4_4 := X4.out.at 4 _ rfl
  have cX4_5 := X4.out.at 5 _ rfl
  go_wp2_with (fail)
  refine (kd.heldD' (d := fall.fallen d0 a1 x2) (k := 1) (q := q3) _ (by decide) (by have := CR0; omega) EQ3.out ?_).mono ?_
  exact O7_0.out.is
  rintro e w17 ⟨rfl, hb⟩
  have bb : Below w16.heap.size w16 w17 := hb
  have Z17 : w16.heap.size ≤ w17.heap.size := (by have := hb.size; first | omega | (simp at this; omega))
  replace HB := Lib.hid (HB.out.trans (bb.mono HB.out.size))
  replace J4_0 := Lib.hid (J4_0.out.trans (bb.mono J4_0.out.size))
  replace O2 := Lib.hid (O2.out.below bb)
  replace O3 := Lib.hid (O3.out.below bb)
  replace O5 := Lib.hid (O5.out.below bb)
  replace O6 := Lib.hid (O6.out.below bb)
  replace O7_0 := Lib.hid (O7_0.out.below bb)
  replace O9 := Lib.hid (O9.out.below bb)
  replace O11 := Lib.hid (O11.out.below bb)
  replace X1 := Lib.hid (X1.out.below bb)
  replace X2 := Lib.hid (X2.out.below bb)
  replace X3 := Lib.hid (X3.out.below bb)
  replace X4 := Lib.hid (X4.out.below bb)
  clear hb bb
  clear ltX4 cX4_0 cX4_1 cX4_2 cX4_3 cX4_4 cX4_5
  have ltX1 := X1.out.1
  have cX1_0 := X1.out.at 0 _ rfl
  have cX1_1 := X1.out.at 1 _ rfl
  have cX1_2 := X1.out.at 2 _ rfl
  have cX1_3 := X1.out.at 3 _ rfl
  have cX1_4 := X1.out.at 4 _ rfl
  have cX1_5 := X1.out.at 5 _ rfl
  go_wp2_with (fail)
  refine (disk.toDisk_any _ BK0.out ?_).mono ?_
  exact A0.out.below HB.out
  rintro e w18 ⟨u18, he, ho, hb⟩
  obtain ⟨u18_0, u18_1, u18_2, u18_3, u18_4, u18_5, u18_6, u18_7, u18_8, u18_9, u18_10, u18_11, u18_12, u18_13, rfl⟩ := kd.IsD_form ho.is
  subst he
  have bb : Below w17.heap.size w17 w18 := hb
  have Z18 : w17.heap.size ≤ w18.heap.size := (by have := hb.size; first | omega | (simp at this; omega))
  have O18 := Lib.hid (ho.base (B' := w17.heap.size) (by first | exact Nat.le_refl _ | (simp; done) | (simp; omega)))
  have R18 := Lib.hid (O18.out.rows)
  replace HB := Lib.hid (HB.out.trans (bb.mono HB.out.size))
  replace J4_0 := Lib.hid (J4_0.out.trans (bb.mono J4_0.out.size))
  replace O2 := Lib.hid (O2.out.below bb)
  replace O3 := Lib.hid (O3.out.below bb)
  replace O5 := Lib.hid (O5.out.below bb)
  replace O6 := Lib.hid (O6.out.below bb)
  replace O7_0 := Lib.hid (O7_0.out.below bb)
  replace O9 := Lib.hid (O9.out.below bb)
  replace O11 := Lib.hid (O11.out.below bb)
  replace X1 := Lib.hid (X1.out.below bb)
  replace X2 := Lib.hid (X2.out.below bb)
  replace X3 := Lib.hid (X3.out.below bb)
  replace X4 := Lib.hid (X4.out.below bb)
  clear ho hb bb
  clear ltX1 cX1_0 cX1_1 cX1_2 cX1_3 cX1_4 cX1_5
  go_wp2_with (fail)
  refine (kd.toI _ BK2.out ?_).mono ?_
  exact A2.out.below HB.out
  rintro e w19 ⟨u19, he, ho, hb⟩
  subst he
  have bb : Below w18.heap.size w18 w19 := hb
  have Z19 : w18.heap.size ≤ w19.heap.size := (by have := hb.size; first | omega | (simp at this; omega))
  have O19 := Lib.hid (ho.base (B' := w18.heap.size) (by first | exact Nat.le_refl _ | (simp; done) | (simp; omega)))
  have R19 := Lib.hid (O19.out.rows)
  replace HB := Lib.hid (HB.out.trans (bb.mono HB.out.size))
  replace J4_0 := Lib.hid (J4_0.out.trans (bb.mono J4_0.out.size))
  replace O2 := Lib.hid (O2.out.below bb)
  replace O3 := Lib.hid (O3.out.below bb)
  replace O5 := Lib.hid (O5.out.below bb)
  replace O6 := Lib.hid (O6.out.below bb)
  replace O7_0 := Lib.hid (O7_0.out.below bb)
  replace O9 := Lib.hid (O9.out.below bb)
  replace O11 := Lib.hid (O11.out.below bb)
  replace O18 := Lib.hid (O18.out.below bb)
  replace X1 := Lib.hid (X1.out.below bb)
  replace X2 := Lib.hid (X2.out.below bb)
  replace X3 := Lib.hid (X3.out.below bb)
  replace X4 := Lib.hid (X4.out.below bb)
  clear ho hb bb
  go_wp2_with (fail)
  refine (fall.iFallen _ d0 a1 _ x2 _ K0.out K2.out ?_ ?_ ?_ ?_).mono ?_
  exact O18.out.is
  exact O19.out.is
  exact GW.out.below (HB.out)
  exact fall.stepCap_of O18.out
  rintro e w20 ⟨u20_r0, he, ho0, hb⟩
  obtain ⟨u20_r0_0, u20_r0_1, u20_r0_2, u20_r0_3, u20_r0_4, u20_r0_5, u20_r0_6, u20_r0_7, u20_r0_8, u20_r0_9, u20_r0_10, u20_r0_11, u20_r0_12, u20_r0_13, rfl⟩ := kd.IsD_form ho0.is
  subst he
  have bb : Below w19.heap.size w19 w20 := hb
  have Z20 : w19.heap.size ≤ w20.heap.size := (by have := hb.size; first | omega | (simp at this; omega))
  replace HB := Lib.hid (HB.out.trans (bb.mono HB.out.size))
  replace J4_0 := Lib.hid (J4_0.out.trans (bb.mono J4_0.out.size))
  replace O2 := Lib.hid (O2.out.below bb)
  replace O3 := Lib.hid (O3.out.below bb)
  replace O5 := Lib.hid (O5.out.below bb)
  replace O6 := Lib.hid (O6.out.below bb)
  replace O7_0 := Lib.hid (O7_0.out.below bb)
  replace O9 := Lib.hid (O9.out.below bb)
  replace O11 := Lib.hid (O11.out.below bb)
  replace O18 := Lib.hid (O18.out.below bb)
  replace O19 := Lib.hid (O19.out.below bb)
  replace X1 := Lib.hid (X1.out.below bb)
  replace X2 := Lib.hid (X2.out.below bb)
  replace X3 := Lib.hid (X3.out.below bb)
  replace X4 := Lib.hid (X4.out.below bb)
  have O20_0 := Lib.hid (ho0.base (B' := w19.heap.size) (by first | exact Nat.le_refl _ | (simp; done) | (simp; omega)))
  have R20_0 := Lib.hid (O20_0.out.rows)
  clear ho0 hb bb
  have ltX2 := X2.out.1
  have cX2_0 := X2.out.at 0 _ rfl
  have cX2_1 := X2.out.at 1 _ rfl
  have cX2_2 := X2.out.at 2 _ rfl
  have cX2_3 := X2.out.at 3 _ rfl
  have cX2_4 := X2.out.at 4 _ rfl
  have cX2_5 := X2.out.at 5 _ rfl
  go_wp2_with (fail)
  refine (kd.eqD' (d := fall.fallen d0 a1 x2) _ CR0 ?_ ?_).mono ?_
  exact O20_0.out.is.below ((Below.refl _ _).alloc (by first | exact Nat.le_refl _ | simp | (simp; omega)) _)
  exact S4_0.out.below (J4_0.out.trans (((Below.refl _ _).alloc (by first | exact Nat.le_refl _ | simp | (simp; omega)) _).mono J4_0.out.size))
  rintro e w21 ⟨rfl, hb⟩
  have bb : Below w20.heap.size w20 w21 := ((Below.refl _ _).alloc (by first | exact Nat.le_refl _ | simp | (simp; omega)) _).trans (hb.mono (by first | (simp; done) | (simp; omega)))
  have Z21 : w20.heap.size + 1 ≤ w21.heap.size := (by have := hb.size; first | omega | (simp at this; omega))
  have X5 := Lib.hid (show disk.Box w21 (w20.heap.size) [.slice u20_r0_0 u20_r0_1 u20_r0_2, .slice u20_r0_3 u20_r0_4 u20_r0_5, .slice u20_r0_6 u20_r0_7 u20_r0_8, .slice u20_r0_9 u20_r0_10 u20_r0_11, .int .i64 u20_r0_12, .int .i64 u20_r0_13] from (by have h := (disk.Box.new _ #[.slice u20_r0_0 u20_r0_1 u20_r0_2, .slice u20_r0_3 u20_r0_4 u20_r0_5, .slice u20_r0_6 u20_r0_7 u20_r0_8, .slice u20_r0_9 u20_r0_10 u20_r0_11, .int .i64 u20_r0_12, .int .i64 u20_r0_13] _).below hb; simpa using h))
  replace HB := Lib.hid (HB.out.trans (bb.mono HB.out.size))
  replace J4_0 := Lib.hid (J4_0.out.trans (bb.mono J4_0.out.size))
  replace O2 := Lib.hid (O2.out.below bb)
  replace O3 := Lib.hid (O3.out.below bb)
  replace O5 := Lib.hid (O5.out.below bb)
  replace O6 := Lib.hid (O6.out.below bb)
  replace O7_0 := Lib.hid (O7_0.out.below bb)
  replace O9 := Lib.hid (O9.out.below bb)
  replace O11 := Lib.hid (O11.out.below bb)
  replace O18 := Lib.hid (O18.out.below bb)
  replace O19 := Lib.hid (O19.out.below bb)
  replace O20_0 := Lib.hid (O20_0.out.below bb)
  replace X1 := Lib.hid (X1.out.below bb)
  replace X2 := Lib.hid (X2.out.below bb)
  replace X3 := Lib.hid (X3.out.below bb)
  replace X4 := Lib.hid (X4.out.below bb)
  clear hb bb
  clear ltX2 cX2_0 cX2_1 cX2_2 cX2_3 cX2_4 cX2_5
  have ltX4 := X4.out.1
  have cX4_0 := X4.out.at 0 _ rfl
  have cX4_1 := X4.out.at 1 _ rfl
  have cX4_2 := X4.out.at 2 _ rfl
  have cX4_3 := X4.out.at 3 _ rfl
  have cX4_4 := X4.out.at 4 _ rfl
  have cX4_5 := X4.out.at 5 _ rfl
  go_wp2_with (fail)
  refine (kd.heldD' (d := fall.fallen d0 a1 x2) (k := 1) (q := q3) _ (by decide) (by have := CR0; omega) EQ3.out ?_).mono ?_
  exact O7_0.out.is
  rintro e w22 ⟨rfl, hb⟩
  have bb : Below w21.heap.size w21 w22 := hb
  have Z22 : w21.heap.size ≤ w22.heap.size := (by have := hb.size; first | omega | (simp at this; omega))
  replace HB := Lib.hid (HB.out.trans (bb.mono HB.out.size))
  replace J4_0 := Lib.hid (J4_0.out.trans (bb.mono J4_0.out.size))
  replace O2 := Lib.hid (O2.out.below bb)
  replace O3 := Lib.hid (O3.out.below bb)
  replace O5 := Lib.hid (O5.out.below bb)
  replace O6 := Lib.hid (O6.out.below bb)
  replace O7_0 := Lib.hid (O7_0.out.below bb)
  replace O9 := Lib.hid (O9.out.below bb)
  replace O11 := Lib.hid (O11.out.below bb)
  replace O18 := Lib.hid (O18.out.below bb)
  replace O19 := Lib.hid (O19.out.below bb)
  replace O20_0 := Lib.hid (O20_0.out.below bb)
  replace X1 := Lib.hid (X1.out.below bb)
  replace X2 := Lib.hid (X2.out.below bb)
  replace X3 := Lib.hid (X3.out.below bb)
  replace X4 := Lib.hid (X4.out.below bb)
  replace X5 := Lib.hid (X5.out.below bb)
  clear hb bb
  clear ltX4 cX4_0 cX4_1 cX4_2 cX4_3 cX4_4 cX4_5
  go_wp2
  go_ret
  exact ⟨rfl, HB.out⟩

theorem table {W : World} (h : laidMetH Tryz.prog Rows.fnExactFallenRow.laid W) : hold.F_math_bits_deBruijn32tab W ∧ hold.F_math_bits_deBruijn64tab W ∧ hold.F_internal_strconv_uint64pow10 W ∧ hold.F_errors_errorType W ∧ hold.F_strconv_ErrRange W ∧ hold.F_strconv_ErrSyntax W := by
  have h' : laidMet Tryz.prog [("math/bits.deBruijn32tab", Rows.laid_math_bits_deBruijn32tab), ("math/bits.deBruijn64tab", Rows.laid_math_bits_deBruijn64tab), ("internal/strconv.uint64pow10", Rows.laid_internal_strconv_uint64pow10), ("strconv.ErrRange", Rows.laid_strconv_ErrRange), ("strconv.ErrSyntax", Rows.laid_strconv_ErrSyntax)] W ∧ handlesMet Tryz.prog [("errors.errorType", Rows.laid_errors_errorType)] W := h
  have h1 := h'.1
  have h2 := h'.2
  exact ⟨hold.of_math_bits_deBruijn32tab h1, hold.of_math_bits_deBruijn64tab (laidMet.tail h1), hold.of_internal_strconv_uint64pow10 (laidMet.tail (laidMet.tail h1)), hold.of_errors_errorType h2 (List.mem_cons_self ..), hold.of_strconv_ErrRange (laidMet.tail (laidMet.tail (laidMet.tail h1))), hold.of_strconv_ErrSyntax (laidMet.tail (laidMet.tail (laidMet.tail (laidMet.tail h1))))⟩

set_option maxRecDepth 1000000 in
theorem contract (H : Type) (enc : TypeId × Value → H) (W : World) (base : Nat) (args : Array Value) (ds gs : List (DataW H)) (before : List MemPlace)
    (hval : ∀ (j : Nat) t v, Tryz.f6.params[j]? = some t → args[j]? = some v → Value.okWide Tryz.prog W .any base t v)
    (hW : DataW.Whole enc Tryz.prog Tryz.f6.params.toList Rows.fnExactFallenSpec.vars false W args.toList ds gs before) (hL : laidMetH Tryz.prog Rows.fnExactFallenRow.laid W) (sh : W.ShapedOpen Tryz.prog) :
    Calls Tryz.prog 6 args W fun e W' => ∃ v, e = .returned v ∧ Rows.fnExactFallenSpec.post enc Tryz.prog Tryz.f6 false true false false W args v W' := by
  have hW' := hW
  obtain ⟨p, q, hA0, hV, rfl, hfz, hnd⟩ := hW
  have hA : DataW.TrodAll enc Tryz.prog W 0 (fun _ => true) true Tryz.f6.params.toList args.toList ds p := hA0
  rw [Tryz.params6] at hA hval
  obtain ⟨v0, vs0, d0, ds0, p0, q0, hargs, rfl, rfl, h0, r0⟩ := trodAll_cons hA
  obtain ⟨v1, vs1, d1, ds1, p1, q1, rfl, rfl, rfl, h1, r1⟩ := trodAll_cons r0
  obtain ⟨v2, vs2, d2, ds2, p2, q2, rfl, rfl, rfl, h2, r2⟩ := trodAll_cons r1
  obtain ⟨rfl, rfl, rfl⟩ := trodAll_nil r2
  obtain rfl : args = #[v0, v1, v2] := by cases args; simp_all
  obtain ⟨rfl, rfl⟩ := trodVars_none hV
  have k0 := h0
  have lt0 : ∀ x ∈ p0, x.block < W.heap.size := by obtain ⟨m, hm⟩ := k0; exact DataW.trod_lt m _ _ _ hm
  have k1 := h1
  have lt1 : ∀ x ∈ p1, x.block < W.heap.size := by obtain ⟨m, hm⟩ := k1; exact DataW.trod_lt m _ _ _ hm
  have k2 := h2
  have lt2 : ∀ x ∈ p2, x.block < W.heap.size := by obtain ⟨m, hm⟩ := k2; exact DataW.trod_lt m _ _ _ hm
  obtain ⟨z0, y0, s0⟩ := disk.rd_D (hval 0 59 v0 rfl rfl) h0
  obtain ⟨a1, rfl, rfl, rfl, w1⟩ := open_int Tryz.underlying3 (hval 1 3 v1 rfl rfl) h1
  obtain ⟨a2, n2, c2, x2, rfl, m2, y2, s2⟩ := recs.op_I (hval 2 45 v2 rfl rfl) h2
  clear hA0
  refine (walk W v0 z0 y0 s0 a1 (argv.wfI_of w1) a2 n2 c2 x2 m2 y2 s2 (table hL).1 (table hL).2.1 (table hL).2.2.1 (table hL).2.2.2.1 (table hL).2.2.2.2.1 (table hL).2.2.2.2.2 sh).mono fun e W' ⟨he, bel⟩ => ?_
  subst he
  exact ⟨_, rfl, _, _, _, [], _, [], hW', (trodAll_cons_mk (shut_bool Tryz.underlying4 _) trodAll_mk0), (trodAll_cons_mk (Below.trod laidOut (by kernel_rfl) (of_decide_eq_true (by kernel_rfl)) k0 bel lt0) (trodAll_cons_mk (Below.trod laidOut (by kernel_rfl) (of_decide_eq_true (by kernel_rfl)) k1 bel lt1) (trodAll_cons_mk (Below.trod laidOut (by kernel_rfl) (of_decide_eq_true (by kernel_rfl)) k2 bel lt2) trodAll_mk0))), rfl, bel.frame _, fun h => by cases h⟩

theorem laid_met (os : Os) : laidMetH Tryz.prog Rows.fnExactFallenRow.laid ((hold.world os).forCall (fun _ _ => 0) ⟨#[], #[.agg #[.slice none 0 0, .slice none 0 0, .slice none 0 0, .slice none 0 0, .int .i64 0, .int .i64 0], .int .i64 0, .slice none 0 0], []⟩).memory :=
  laidMetH_of_parts (laidMet_of_run' 8 (by kernel_rfl) (by kernel_rfl)) (by kernel_rfl)
theorem reads (os : Os) {H : Type} (enc : TypeId × Value → H) : ∃ places, DataW.whole enc Tryz.prog ((hold.world os).forCall (fun _ _ => 0) ⟨#[], #[.agg #[.slice none 0 0, .slice none 0 0, .slice none 0 0, .slice none 0 0, .int .i64 0, .int .i64 0], .int .i64 0, .slice none 0 0], []⟩).memory Tryz.f6.params.toList Rows.fnExactFallenSpec.vars false (#[.agg #[.slice none 0 0, .slice none 0 0, .slice none 0 0, .slice none 0 0, .int .i64 0, .int .i64 0], .int .i64 0, .slice none 0 0] : Array Value).toList 8 = some ([.agg [.nil, .nil, .nil, .nil, .lit (.int .i64 0), .lit (.int .i64 0)], .lit (.int .i64 0), .nil], [], places) :=
  ⟨[], by kernel_rfl⟩

set_option maxRecDepth 100000 in
theorem lifted (os : Os) (started : os.Started) (H : Type) (enc : TypeId × Value → H) (F : Stop.Interp) :
    ReturnsInHanded {} Tryz.checked os 6 .any ((OpenSpec.ofChange Rows.fnExactFallenSpec).preRow enc Tryz.prog Tryz.f6 Rows.fnExactFallenRow.domain false Rows.fnExactFallenRow.laid) (((OpenSpec.ofChange Rows.fnExactFallenSpec).at F).post enc Tryz.prog Tryz.f6 false true false false) := by
  obtain ⟨places, hx⟩ := reads os enc
  refine returnsInHanded_of_row (C := Tryz.checked) (s := OpenSpec.ofChange Rows.fnExactFallenSpec) own started (by kernel_rfl) Tryz.func6
    (witness_row_at (enc := enc) (C := Tryz.checked) false (hold.world os) #[.agg #[.slice none 0 0, .slice none 0 0, .slice none 0 0, .slice none 0 0, .int .i64 0, .int .i64 0], .int .i64 0, .slice none 0 0] rfl (by kernel_rfl) (by kernel_rfl) (by kernel_rfl)
      (OpenSpec.preRow_of_cond 8 hx (by kernel_rfl) (fun k hk => by cases hk) (by kernel_rfl) (laid_met os))) ?_
  intro W base args ds gs before hval hW _ _ _ hL sh _
  exact contract H enc W base args ds gs before hval hW hL sh

theorem said : Rows.FnExactFallenSaid :=
  OpenClaim.holds_of_cond 6 Tryz.f6 rfl rfl rfl rfl rfl rfl rfl ⟨rfl, rfl, rfl, rfl, rfl⟩ rfl rfl rfl rfl rfl (by kernel_rfl) Tryz.func6 (by unfold joinedFacts; rw [facts.mayEnter, facts.lifts, facts.make]; kernel_rfl)
    (of_decide_eq_true (by kernel_rfl)) (by unfold Func.isWrapper; first | (rw [if_pos (by decide +kernel)]; kernel_rfl) | (rw [if_neg (by decide +kernel)]; exact ⟨rfl, rfl⟩))
    (fun os started H enc _ F => by rw [OpenClaim.pre_eq_preRow]; exact lifted os started H enc F)

theorem plain (f : FuncId) (fn : Func) (hf : Tryz.pinned.checked.prog.funcNamed "loop.example/g00971/laws.FnExactFallen" = some f) (hfn : Tryz.pinned.checked.prog.funcs[f]? = some fn) :
    true = Tryz.pinned.checked.prog.looks [] ∧ ∀ (j : Nat) t, fn.params[j]? = some t → Tryz.pinned.checked.prog.wantsStandIn t = false := by
  obtain rfl : f = 6 := Option.some.inj ((show Tryz.prog.funcNamed "loop.example/g00971/laws.FnExactFallen" = some 6 by kernel_rfl).symm.trans hf) |>.symm
  obtain rfl : fn = Tryz.f6 := (Option.some.inj (Tryz.func6.symm.trans hfn)).symm
  refine ⟨by kernel_rfl, fun j t ht => ?_⟩
  rw [Tryz.params6] at ht
  rcases (show t = 59 ∨ t = 3 ∨ t = 45 by have h := Array.mem_of_getElem? ht; simp at h; omega) with rfl | rfl | rfl
  · exact (show Tryz.prog.wantsStandIn 59 = false by kernel_rfl)
  · exact (show Tryz.prog.wantsStandIn 3 = false by kernel_rfl)
  · exact (show Tryz.prog.wantsStandIn 45 = false by kernel_rfl)

theorem proved : Rows.FnExactFallenCardSaid :=
  Claim7.holds_tied_plain_at .later [] _ _ _ _ said (fun _ h => by cases h) (by kernel_rfl) (fun _ h => by cases h) fnExactFallen_row_tie rfl ⟨rfl, rfl⟩ (by kernel_rfl) rfl plain (by kernel_rfl)
end Go.Proofs.YtdacdbidennjhaaGreatDoor.fnExactFallen
