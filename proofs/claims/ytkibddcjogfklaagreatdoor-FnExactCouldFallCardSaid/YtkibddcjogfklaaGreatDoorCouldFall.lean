/-
  PROVED: 'Rows.FnExactCouldFallCardSaid': whatever the arguments, the call laws.FnExactCouldFall returns true (impl.CouldFall answers as spec.CouldFall, leaves its arguments as they were, and owns its memory), and the arguments read as they did.
  CONDITIONS: the given card's own: the library's variables that the row lists start as the program's text lays them (the tie is given; over the pruned copy of the project).
-/
import Derived.Test.YtkibddcjogfklaaGreatDoorDvX
import Derived.Test.YtkibddcjogfklaaGreatDoorDkS
import Derived.Test.YtkibddcjogfklaaGreatDoorHold
import Derived.Test.YtkibddcjogfklaaGreatDoorFacts
import Derived.Test.YtkibddcjogfklaaGreatDoorTie
import Derived.WalkKit
import Derived.ProofKit
import Derived.OpenShut
import Derived.ShutString
import Derived.SliceStrings
import Derived.ChangeOld
import Derived.Below
import Derived.Deep.DeepHandedRow
import Derived.Lib.LaidTab
namespace Go.Proofs.YtkibddcjogfklaaGreatDoor.fnExactCouldFall
open Go.ChangeShapes Go.WideShapes Go.ChangeAt Go.RowKit
open Go.ChangeMaps (open_string shut_string)
set_option linter.unusedVariables false

theorem own : ownKnob Tryz.prog.godebug = none := by kernel_rfl
theorem laidOut : laidOutB Tryz.prog = true := by kernel_rfl

theorem walk (w : World) (v0 : Value) (d0 : disk.D) (h0 : disk.IsDisk w v0 d0) (s0 : disk.wfD d0) (v1 : Value) (d1 : disk.D) (h1 : disk.IsDisk w v1 d1) (s1 : disk.wfD d1) (t_math_bits_deBruijn32tab : hold.F_math_bits_deBruijn32tab w) (t_math_bits_deBruijn64tab : hold.F_math_bits_deBruijn64tab w) (t_internal_strconv_uint64pow10 : hold.F_internal_strconv_uint64pow10 w) (t_errors_errorType : hold.F_errors_errorType w) (t_strconv_ErrRange : hold.F_strconv_ErrRange w) (t_strconv_ErrSyntax : hold.F_strconv_ErrSyntax w) (sh : w.ShapedOpen Tryz.prog) :
    Calls Tryz.prog 3 #[v0, v1] w fun e w' => e = .returned (.bool true) ∧ Below w.heap.size w w' := by
  have GW := Lib.hid (show ik.GD w from ⟨rd.pow_of t_internal_strconv_uint64pow10, t_strconv_ErrSyntax, t_strconv_ErrRange, t_errors_errorType, ik.maxl_of sh⟩)
  obtain ⟨p0_0, p0_1, p0_2, p0_3, p0_4, p0_5, p0_6, p0_7, p0_8, p0_9, p0_10, p0_11, p0_12, p0_13, rfl⟩ := kd.IsD_form h0
  have A0 := Lib.hid h0
  have WF0 := Lib.hid s0
  clear h0 s0
  obtain ⟨p1_0, p1_1, p1_2, p1_3, p1_4, p1_5, p1_6, p1_7, p1_8, p1_9, p1_10, p1_11, p1_12, p1_13, rfl⟩ := kd.IsD_form h1
  have A1 := Lib.hid h1
  have WF1 := Lib.hid s1
  clear h1 s1
  go_enter Tryz.func3, Tryz.ntmps3
  have HB := Lib.hid (Below.refl w.heap.size w)
  obtain ⟨r0, er0⟩ : ∃ r : Bool, r = fall.couldB d0 d1 := ⟨_, rfl⟩
  have ER0 := Lib.hid er0
  clear er0
  go_wp2_with (fail)
  refine (disk.szDisk_any 1048576 _ (by decide) WF0.out ?_).mono ?_
  exact A0.out.below ((HB.out.alloc (by have := HB.out.size; first | exact this | (simp; done) | (simp; omega)) _).alloc (by have := HB.out.size; first | exact this | (simp; done) | (simp; omega)) _)
  rintro e w1 ⟨hif, hb⟩
  have bb : Below w.heap.size w w1 := (((Below.refl _ _).alloc (by first | exact Nat.le_refl _ | simp | (simp; omega)) _).alloc (by first | exact Nat.le_refl _ | simp | (simp; omega)) _).trans (hb.mono (by first | (simp; done) | (simp; omega)))
  have Z1 : w.heap.size + 2 ≤ w1.heap.size := (by have := hb.size; first | omega | (simp at this; omega))
  have X1 := Lib.hid (show disk.Box w1 (w.heap.size) [.slice p0_0 p0_1 p0_2, .slice p0_3 p0_4 p0_5, .slice p0_6 p0_7 p0_8, .slice p0_9 p0_10 p0_11, .int .i64 p0_12, .int .i64 p0_13] from (by have h := ((disk.Box.new _ #[.slice p0_0 p0_1 p0_2, .slice p0_3 p0_4 p0_5, .slice p0_6 p0_7 p0_8, .slice p0_9 p0_10 p0_11, .int .i64 p0_12, .int .i64 p0_13] _).below ((Below.refl _ _).alloc (by first | exact Nat.le_refl _ | simp | (simp; omega)) _)).below hb; simpa using h))
  have X2 := Lib.hid (show disk.Box w1 (w.heap.size + 1) [.slice p1_0 p1_1 p1_2, .slice p1_3 p1_4 p1_5, .slice p1_6 p1_7 p1_8, .slice p1_9 p1_10 p1_11, .int .i64 p1_12, .int .i64 p1_13] from (by have h := (disk.Box.new _ #[.slice p1_0 p1_1 p1_2, .slice p1_3 p1_4 p1_5, .slice p1_6 p1_7 p1_8, .slice p1_9 p1_10 p1_11, .int .i64 p1_12, .int .i64 p1_13] _).below hb; simpa using h))
  replace HB := Lib.hid (HB.out.trans (bb.mono HB.out.size))
  by_cases bk0 : disk.bulk d0 ≤ 1048576
  rotate_left
  · rw [if_neg bk0] at hif
    subst hif
    clear bk0 hb bb
    go_wp2
    go_ret
    exact ⟨rfl, HB.out⟩
  obtain ⟨lf1, elf1⟩ : ∃ l : Nat, l = 1048576 - disk.bulk d0 := ⟨_, rfl⟩
  rw [if_pos bk0, ← elf1] at hif
  subst hif
  have hl1 : lf1 ≤ 1048576 := (by omega)
  have nl1 : ¬ (lf1 : Int) < 0 := (by omega)
  have BK0 := Lib.hid (show disk.bulk d0 ≤ 1048576 by omega)
  have K0 := Lib.hid (show kd.okD d0 from ⟨WF0.out, BK0.out⟩)
  have CN0 := K0.out.cnt
  clear elf1 bk0 hb bb
  have ltX2 := X2.out.1
  have cX2_0 := X2.out.at 0 _ rfl
  have cX2_1 := X2.out.at 1 _ rfl
  have cX2_2 := X2.out.at 2 _ rfl
  have cX2_3 := X2.out.at 3 _ rfl
  have cX2_4 := X2.out.at 4 _ rfl
  have cX2_5 := X2.out.at 5 _ rfl
  go_wp2_with (fail)
  refine (disk.szDisk_any lf1 _ hl1 WF1.out ?_).mono ?_
  exact A1.out.below HB.out
  rintro e w2 ⟨hif, hb⟩
  have bb : Below w1.heap.size w1 w2 := hb
  have Z2 : w1.heap.size ≤ w2.heap.size := (by have := hb.size; first | omega | (simp at this; omega))
  replace HB := Lib.hid (HB.out.trans (bb.mono HB.out.size))
  replace X1 := Lib.hid (X1.out.below bb)
  replace X2 := Lib.hid (X2.out.below bb)
  by_cases bk1 : disk.bulk d1 ≤ lf1
  rotate_left
  · rw [if_neg bk1] at hif
    subst hif
    clear bk1 hb bb ltX2 cX2_0 cX2_1 cX2_2 cX2_3 cX2_4 cX2_5
    go_wp2
    go_ret
    exact ⟨rfl, HB.out⟩
  obtain ⟨lf2, elf2⟩ : ∃ l : Nat, l = lf1 - disk.bulk d1 := ⟨_, rfl⟩
  rw [if_pos bk1, ← elf2] at hif
  subst hif
  have hl2 : lf2 ≤ 1048576 := (by omega)
  have nl2 : ¬ (lf2 : Int) < 0 := (by omega)
  have BK1 := Lib.hid (show disk.bulk d1 ≤ 1048576 by omega)
  have K1 := Lib.hid (show kd.okD d1 from ⟨WF1.out, BK1.out⟩)
  have CN1 := K1.out.cnt
  clear elf2 bk1 hb bb
  clear ltX2 cX2_0 cX2_1 cX2_2 cX2_3 cX2_4 cX2_5
  have ltX1 := X1.out.1
  have cX1_0 := X1.out.at 0 _ rfl
  have cX1_1 := X1.out.at 1 _ rfl
  have cX1_2 := X1.out.at 2 _ rfl
  have cX1_3 := X1.out.at 3 _ rfl
  have cX1_4 := X1.out.at 4 _ rfl
  have cX1_5 := X1.out.at 5 _ rfl
  have ltX2 := X2.out.1
  have cX2_0 := X2.out.at 0 _ rfl
  have cX2_1 := X2.out.at 1 _ rfl
  have cX2_2 := X2.out.at 2 _ rfl
  have cX2_3 := X2.out.at 3 _ rfl
  have cX2_4 := X2.out.at 4 _ rfl
  have cX2_5 := X2.out.at 5 _ rfl
  go_wp2
  go_region_held3 (fun w' => w'.cell? ⟨w.heap.size, 0, none⟩ = some (.slice p0_0 p0_1 p0_2) ∧ w'.cell? ⟨w.heap.size, 1, none⟩ = some (.slice p0_3 p0_4 p0_5) ∧ w'.cell? ⟨w.heap.size, 2, none⟩ = some (.slice p0_6 p0_7 p0_8) ∧ w'.cell? ⟨w.heap.size, 3, none⟩ = some (.slice p0_9 p0_10 p0_11) ∧ w'.cell? ⟨w.heap.size, 4, none⟩ = some (.int .i64 p0_12) ∧ w'.cell? ⟨w.heap.size, 5, none⟩ = some (.int .i64 p0_13) ∧ w'.cell? ⟨w.heap.size + 1, 0, none⟩ = some (.slice p1_0 p1_1 p1_2) ∧ w'.cell? ⟨w.heap.size + 1, 1, none⟩ = some (.slice p1_3 p1_4 p1_5) ∧ w'.cell? ⟨w.heap.size + 1, 2, none⟩ = some (.slice p1_6 p1_7 p1_8) ∧ w'.cell? ⟨w.heap.size + 1, 3, none⟩ = some (.slice p1_9 p1_10 p1_11) ∧ w'.cell? ⟨w.heap.size + 1, 4, none⟩ = some (.int .i64 p1_12) ∧ w'.cell? ⟨w.heap.size + 1, 5, none⟩ = some (.int .i64 p1_13)) (first | exact ⟨cX1_0, cX1_1, cX1_2, cX1_3, cX1_4, cX1_5, cX2_0, cX2_1, cX2_2, cX2_3, cX2_4, cX2_5⟩ | exact ⟨X1.out.at 0 _ rfl, X1.out.at 1 _ rfl, X1.out.at 2 _ rfl, X1.out.at 3 _ rfl, X1.out.at 4 _ rfl, X1.out.at 5 _ rfl, X2.out.at 0 _ rfl, X2.out.at 1 _ rfl, X2.out.at 2 _ rfl, X2.out.at 3 _ rfl, X2.out.at 4 _ rfl, X2.out.at 5 _ rfl⟩) (first | (go_at_call 6; refine (disk.toDisk_any _ BK0.out ?_).mono ?_; exact A0.out.below HB.out.drew; rintro e w3 ⟨u3, he, ho, hb⟩; obtain ⟨u3_0, u3_1, u3_2, u3_3, u3_4, u3_5, u3_6, u3_7, u3_8, u3_9, u3_10, u3_11, u3_12, u3_13, rfl⟩ := kd.IsD_form ho.is; subst he; have bb : Below w2.heap.size w2 w3 := (Below.refl w2.heap.size w2).drew.trans hb; have Z3 : w2.heap.size ≤ w3.heap.size := (by have := hb.size; first | omega | (simp at this; omega)); have O3 := Lib.hid (ho.base (B' := w2.heap.size) (by first | exact Nat.le_refl _ | (simp; done) | (simp; omega))); have R3 := Lib.hid (O3.out.rows); replace HB := Lib.hid (HB.out.trans (bb.mono HB.out.size)); replace X1 := Lib.hid (X1.out.below bb); replace X2 := Lib.hid (X2.out.below bb); clear ho hb bb) | (go_at_call 6; refine (disk.toDisk_any _ BK1.out ?_).mono ?_; exact A1.out.below HB.out; rintro e w4 ⟨u4, he, ho, hb⟩; obtain ⟨u4_0, u4_1, u4_2, u4_3, u4_4, u4_5, u4_6, u4_7, u4_8, u4_9, u4_10, u4_11, u4_12, u4_13, rfl⟩ := kd.IsD_form ho.is; subst he; have bb : Below w3.heap.size w3 w4 := hb; have Z4 : w3.heap.size ≤ w4.heap.size := (by have := hb.size; first | omega | (simp at this; omega)); have O4 := Lib.hid (ho.base (B' := w3.heap.size) (by first | exact Nat.le_refl _ | (simp; done) | (simp; omega))); have R4 := Lib.hid (O4.out.rows); replace HB := Lib.hid (HB.out.trans (bb.mono HB.out.size)); replace O3 := Lib.hid (O3.out.below bb); replace X1 := Lib.hid (X1.out.below bb); replace X2 := Lib.hid (X2.out.below bb); clear ho hb bb) | (go_at_call 5; refine (fall.specCould _ _ d0 d1 _ K0.out K1.out ?_ ?_).mono ?_; exact O3.out.is; exact O4.out.is; rintro e w5 ⟨he, hb⟩; rw [← ER0.out] at he; subst he; have bb : Below w4.heap.size w4 w5 := hb; have Z5 : w4.heap.size ≤ w5.heap.size := (by have := hb.size; first | omega | (simp at this; omega)); replace HB := Lib.hid (HB.out.trans (bb.mono HB.out.size)); replace O3 := Lib.hid (O3.out.below bb); replace O4 := Lib.hid (O4.out.below bb); replace X1 := Lib.hid (X1.out.below bb); replace X2 := Lib.hid (X2.out.below bb); clear hb bb))
  clear ltX1 cX1_0 cX1_1 cX1_2 cX1_3 cX1_4 cX1_5 ltX2 cX2_0 cX2_1 cX2_2 cX2_3 cX2_4 cX2_5
  have ltX1 := X1.out.1
  have cX1_0 := X1.out.at 0 _ rfl
  have cX1_1 := X1.out.at 1 _ rfl
  have cX1_2 := X1.out.at 2 _ rfl
  have cX1_3 := X1.out.at 3 _ rfl
  have cX1_4 := X1.out.at 4 _ rfl
  have cX1_5 := X1.out.at 5 _ rfl
  go_wp2_with (fail)
  refine (disk.toDisk_any _ BK0.out ?_).mono ?_
  exact A0.out.below HB.out
  rintro e w6 ⟨u6, he, ho, hb⟩
  obtain ⟨u6_0, u6_1, u6_2, u6_3, u6_4, u6_5, u6_6, u6_7, u6_8, u6_9, u6_10, u6_11, u6_12, u6_13, rfl⟩ := kd.IsD_form ho.is
  subst he
  have bb : Below w5.heap.size w5 w6 := hb
  have Z6 : w5.heap.size ≤ w6.heap.size := (by have := hb.size; first | omega | (simp at this; omega))
  have O6 := Lib.hid (ho.base (B' := w5.heap.size) (by first | exact Nat.le_refl _ | (simp; done) | (simp; omega)))
  have R6 := Lib.hid (O6.out.rows)
  replace HB := Lib.hid (HB.out.trans (bb.mono HB.out.size))
  replace O3 := Lib.hid (O3.out.below bb)
  replace O4 := Lib.hid (O4.out.below bb)
  replace X1 := Lib.hid (X1.out.below bb)
  replace X2 := Lib.hid (X2.out.below bb)
  clear ho hb bb
  clear ltX1 cX1_0 cX1_1 cX1_2 cX1_3 cX1_4 cX1_5
  have ltX2 := X2.out.1
  have cX2_0 := X2.out.at 0 _ rfl
  have cX2_1 := X2.out.at 1 _ rfl
  have cX2_2 := X2.out.at 2 _ rfl
  have cX2_3 := X2.out.at 3 _ rfl
  have cX2_4 := X2.out.at 4 _ rfl
  have cX2_5 := X2.out.at 5 _ rfl
  go_wp2_with (fail)
  refine (disk.toDisk_any _ BK1.out ?_).mono ?_
  exact A1.out.below (HB.out.alloc (by have := HB.out.size; first | exact this | (simp; done) | (simp; omega)) _)
  rintro e w7 ⟨u7, he, ho, hb⟩
  obtain ⟨u7_0, u7_1, u7_2, u7_3, u7_4, u7_5, u7_6, u7_7, u7_8, u7_9, u7_10, u7_11, u7_12, u7_13, rfl⟩ := kd.IsD_form ho.is
  subst he
  have bb : Below w6.heap.size w6 w7 := ((Below.refl _ _).alloc (by first | exact Nat.le_refl _ | simp | (simp; omega)) _).trans (hb.mono (by first | (simp; done) | (simp; omega)))
  have Z7 : w6.heap.size + 1 ≤ w7.heap.size := (by have := hb.size; first | omega | (simp at this; omega))
  have O7 := Lib.hid (ho.base (B' := w6.heap.size + 1) (by first | exact Nat.le_refl _ | (simp; done) | (simp; omega)))
  have R7 := Lib.hid (O7.out.rows)
  have X3 := Lib.hid (show disk.Box w7 (w6.heap.size) [.slice u6_0 u6_1 u6_2, .slice u6_3 u6_4 u6_5, .slice u6_6 u6_7 u6_8, .slice u6_9 u6_10 u6_11, .int .i64 u6_12, .int .i64 u6_13] from (by have h := (disk.Box.new _ #[.slice u6_0 u6_1 u6_2, .slice u6_3 u6_4 u6_5, .slice u6_6 u6_7 u6_8, .slice u6_9 u6_10 u6_11, .int .i64 u6_12, .int .i64 u6_13] _).below hb; simpa using h))
  replace HB := Lib.hid (HB.out.trans (bb.mono HB.out.size))
  replace O3 := Lib.hid (O3.out.below bb)
  replace O4 := Lib.hid (O4.out.below bb)
  replace O6 := Lib.hid (O6.out.below bb)
  replace X1 := Lib.hid (X1.out.below bb)
  replace X2 := Lib.hid (X2.out.below bb)
  clear ho hb bb
  clear ltX2 cX2_0 cX2_1 cX2_2 cX2_3 cX2_4 cX2_5
  have ltX3 := X3.out.1
  have cX3_0 := X3.out.at 0 _ rfl
  have cX3_1 := X3.out.at 1 _ rfl
  have cX3_2 := X3.out.at 2 _ rfl
  have cX3_3 := X3.out.at 3 _ rfl
  have cX3_4 := X3.out.at 4 _ rfl
  have cX3_5 := X3.out.at 5 _ rfl
  go_wp2_with (fail)
  refine (fall.implCould _ _ d0 d1 _ K0.out K1.out ?_ ?_ ?_).mono ?_
  exact O6.out.is.below ((Below.refl _ _).alloc (by first | exact Nat.le_refl _ | simp | (simp; omega)) _)
  exact O7.out.is.below ((Below.refl _ _).alloc (by first | exact Nat.le_refl _ | simp | (simp; omega)) _)
  exact GW.out.below ((HB.out.alloc (by have := HB.out.size; first | exact this | (simp; done) | (simp; omega)) _))
  rintro e w8 ⟨he, hb⟩
  rw [← ER0.out] at he
  subst he
  have bb : Below w7.heap.size w7 w8 := ((Below.refl _ _).alloc (by first | exact Nat.le_refl _ | simp | (simp; omega)) _).trans (hb.mono (by first | (simp; done) | (simp; omega)))
  have Z8 : w7.heap.size + 1 ≤ w8.heap.size := (by have := hb.size; first | omega | (simp at this; omega))
  have X4 := Lib.hid (show disk.Box w8 (w7.heap.size) [.slice u7_0 u7_1 u7_2, .slice u7_3 u7_4 u7_5, .slice u7_6 u7_7 u7_8, .slice u7_9 u7_10 u7_11, .int .i64 u7_12, .int .i64 u7_13] from (by have h := (disk.Box.new _ #[.slice u7_0 u7_1 u7_2, .slice u7_3 u7_4 u7_5, .slice u7_6 u7_7 u7_8, .slice u7_9 u7_10 u7_11, .int .i64 u7_12, .int .i64 u7_13] _).below hb; simpa using h))
  replace HB := Lib.hid (HB.out.trans (bb.mono HB.out.size))
  replace O3 := Lib.hid (O3.out.below bb)
  replace O4 := Lib.hid (O4.out.below bb)
  replace O6 := Lib.hid (O6.out.below bb)
  replace O7 := Lib.hid (O7.out.below bb)
  replace X1 := Lib.hid (X1.out.below bb)
  replace X2 := Lib.hid (X2.out.below bb)
  replace X3 := Lib.hid (X3.out.below bb)
  clear hb bb
  clear ltX3 cX3_0 cX3_1 cX3_2 cX3_3 cX3_4 cX3_5
  have ltX3 := X3.out.1
  have cX3_0 := X3.out.at 0 _ rfl
  have cX3_1 := X3.out.at 1 _ rfl
  have cX3_2 := X3.out.at 2 _ rfl
  have cX3_3 := X3.out.at 3 _ rfl
  have cX3_4 := X3.out.at 4 _ rfl
  have cX3_5 := X3.out.at 5 _ rfl
  have ltX1 := X1.out.1
  have cX1_0 := X1.out.at 0 _ rfl
  have cX1_1 := X1.out.at 1 _ rfl
  have cX1_2 := X1.out.at 2 _ rfl
  have cX1_3 := X1.out.at 3 _ rfl
  have cX1_4 := X1.out.at 4 _ rfl
  have cX1_5 := X1.out.at 5 _ rfl
  go_wp2
  go_region_held3 (fun w' => w'.cell? ⟨w6.heap.size, 0, none⟩ = some (.slice u6_0 u6_1 u6_2) ∧ w'.cell? ⟨w6.heap.size, 1, none⟩ = some (.slice u6_3 u6_4 u6_5) ∧ w'.cell? ⟨w6.heap.size, 2, none⟩ = some (.slice u6_6 u6_7 u6_8) ∧ w'.cell? ⟨w6.heap.size, 3, none⟩ = some (.slice u6_9 u6_10 u6_11) ∧ w'.cell? ⟨w6.heap.size, 4, none⟩ = some (.int .i64 u6_12) ∧ w'.cell? ⟨w6.heap.size, 5, none⟩ = some (.int .i64 u6_13) ∧ w'.cell? ⟨w.heap.size, 0, none⟩ = some (.slice p0_0 p0_1 p0_2) ∧ w'.cell? ⟨w.heap.size, 1, none⟩ = some (.slice p0_3 p0_4 p0_5) ∧ w'.cell? ⟨w.heap.size, 2, none⟩ = some (.slice p0_6 p0_7 p0_8) ∧ w'.cell? ⟨w.heap.size, 3, none⟩ = some (.slice p0_9 p0_10 p0_11) ∧ w'.cell? ⟨w.heap.size, 4, none⟩ = some (.int .i64 p0_12) ∧ w'.cell? ⟨w.heap.size, 5, none⟩ = some (.int .i64 p0_13)) (first | exact ⟨cX3_0, cX3_1, cX3_2, cX3_3, cX3_4, cX3_5, cX1_0, cX1_1, cX1_2, cX1_3, cX1_4, cX1_5⟩ | exact ⟨X3.out.at 0 _ rfl, X3.out.at 1 _ rfl, X3.out.at 2 _ rfl, X3.out.at 3 _ rfl, X3.out.at 4 _ rfl, X3.out.at 5 _ rfl, X1.out.at 0 _ rfl, X1.out.at 1 _ rfl, X1.out.at 2 _ rfl, X1.out.at 3 _ rfl, X1.out.at 4 _ rfl, X1.out.at 5 _ rfl⟩) (first | (go_at_call 6; refine (disk.toDisk_any _ BK0.out ?_).mono ?_; exact A0.out.below HB.out.drew; rintro e w9 ⟨u9, he, ho, hb⟩; obtain ⟨u9_0, u9_1, u9_2, u9_3, u9_4, u9_5, u9_6, u9_7, u9_8, u9_9, u9_10, u9_11, u9_12, u9_13, rfl⟩ := kd.IsD_form ho.is; subst he; have bb : Below w8.heap.size w8 w9 := (Below.refl w8.heap.size w8).drew.trans hb; have Z9 : w8.heap.size ≤ w9.heap.size := (by have := hb.size; first | omega | (simp at this; omega)); have O9 := Lib.hid (ho.base (B' := w8.heap.size) (by first | exact Nat.le_refl _ | (simp; done) | (simp; omega))); have R9 := Lib.hid (O9.out.rows); replace HB := Lib.hid (HB.out.trans (bb.mono HB.out.size)); replace O3 := Lib.hid (O3.out.below bb); replace O4 := Lib.hid (O4.out.below bb); replace O6 := Lib.hid (O6.out.below bb); replace O7 := Lib.hid (O7.out.below bb); replace X1 := Lib.hid (X1.out.below bb); replace X2 := Lib.hid (X2.out.below bb); replace X3 := Lib.hid (X3.out.below bb); replace X4 := Lib.hid (X4.out.below bb); clear ho hb bb) | (go_at_call 8; refine (kd.eqD' (d := d0) _ CN0 ?_ ?_).mono ?_; exact O6.out.is; exact O9.out.is; rintro e w10 ⟨rfl, hb⟩; have bb : Below w9.heap.size w9 w10 := hb; have Z10 : w9.heap.size ≤ w10.heap.size := (by have := hb.size; first | omega | (simp at this; omega)); replace HB := Lib.hid (HB.out.trans (bb.mono HB.out.size)); replace O3 := Lib.hid (O3.out.below bb); replace O4 := Lib.hid (O4.out.below bb); replace O6 := Lib.hid (O6.out.below bb); replace O7 := Lib.hid (O7.out.below bb); replace O9 := Lib.hid (O9.out.below bb); replace X1 := Lib.hid (X1.out.below bb); replace X2 := Lib.hid (X2.out.below bb); replace X3 := Lib.hid (X3.out.below bb); replace X4 := Lib.hid (X4.out.below bb); clear hb bb))
  clear ltX3 cX3_0 cX3_1 cX3_2 cX3_3 cX3_4 cX3_5 ltX1 cX1_0 cX1_1 cX1_2 cX1_3 cX1_4 cX1_5
  have ltX4 := X4.out.1
  have cX4_0 := X4.out.at 0 _ rfl
  have cX4_1 := X4.out.at 1 _ rfl
  have cX4_2 := X4.out.at 2 _ rfl
  have cX4_3 := X4.out.at 3 _ rfl
  have cX4_4 := X4.out.at 4 _ rfl
  have cX4_5 := X4.out.at 5 _ rfl
  have ltX2 := X2.out.1
  have cX2_0 := X2.out.at 0 _ rfl
  have cX2_1 := X2.out.at 1 _ rfl
  have cX2_2 := X2.out.at 2 _ rfl
  have cX2_3 := X2.out.at 3 _ rfl
  have cX2_4 := X2.out.at 4 _ rfl
  have cX2_5 := X2.out.at 5 _ rfl
  go_wp2
  go_region_held3 (fun w' => w'.cell? ⟨w7.heap.size, 0, none⟩ = some (.slice u7_0 u7_1 u7_2) ∧ w'.cell? ⟨w7.heap.size, 1, none⟩ = some (.slice u7_3 u7_4 u7_5) ∧ w'.cell? ⟨w7.heap.size, 2, none⟩ = some (.slice u7_6 u7_7 u7_8) ∧ w'.cell? ⟨w7.heap.size, 3, none⟩ = some (.slice u7_9 u7_10 u7_11) ∧ w'.cell? ⟨w7.heap.size, 4, none⟩ = some (.int .i64 u7_12) ∧ w'.cell? ⟨w7.heap.size, 5, none⟩ = some (.int .i64 u7_13) ∧ w'.cell? ⟨w.heap.size + 1, 0, none⟩ = some (.slice p1_0 p1_1 p1_2) ∧ w'.cell? ⟨w.heap.size + 1, 1, none⟩ = some (.slice p1_3 p1_4 p1_5) ∧ w'.cell? ⟨w.heap.size + 1, 2, none⟩ = some (.slice p1_6 p1_7 p1_8) ∧ w'.cell? ⟨w.heap.size + 1, 3, none⟩ = some (.slice p1_9 p1_10 p1_11) ∧ w'.cell? ⟨w.heap.size + 1, 4, none⟩ = some (.int .i64 p1_12) ∧ w'.cell? ⟨w.heap.size + 1, 5, none⟩ = some (.int .i64 p1_13)) (first | exact ⟨cX4_0, cX4_1, cX4_2, cX4_3, cX4_4, cX4_5, cX2_0, cX2_1, cX2_2, cX2_3, cX2_4, cX2_5⟩ | exact ⟨X4.out.at 0 _ rfl, X4.out.at 1 _ rfl, X4.out.at 2 _ rfl, X4.out.at 3 _ rfl, X4.out.at 4 _ rfl, X4.out.at 5 _ rfl, X2.out.at 0 _ rfl, X2.out.at 1 _ rfl, X2.out.at 2 _ rfl, X2.out.at 3 _ rfl, X2.out.at 4 _ rfl, X2.out.at 5 _ rfl⟩) (first | (go_at_call 6; refine (disk.toDisk_any _ BK1.out ?_).mono ?_; exact A1.out.below HB.out.drew; rintro e w11 ⟨u11, he, ho, hb⟩; obtain ⟨u11_0, u11_1, u11_2, u11_3, u11_4, u11_5, u11_6, u11_7, u11_8, u11_9, u11_10, u11_11, u11_12, u11_13, rfl⟩ := kd.IsD_form ho.is; subst he; have bb : Below w10.heap.size w10 w11 := (Below.refl w10.heap.size w10).drew.trans hb; have Z11 : w10.heap.size ≤ w11.heap.size := (by have := hb.size; first | omega | (simp at this; omega)); have O11 := Lib.hid (ho.base (B' := w10.heap.size) (by first | exact Nat.le_refl _ | (simp; done) | (simp; omega))); have R11 := Lib.hid (O11.out.rows); replace HB := Lib.hid (HB.out.trans (bb.mono HB.out.size)); replace O3 := Lib.hid (O3.out.below bb); replace O4 := Lib.hid (O4.out.below bb); replace O6 := Lib.hid (O6.out.below bb); replace O7 := Lib.hid (O7.out.below bb); replace O9 := Lib.hid (O9.out.below bb); replace X1 := Lib.hid (X1.out.below bb); replace X2 := Lib.hid (X2.out.below bb); replace X3 := Lib.hid (X3.out.below bb); replace X4 := Lib.hid (X4.out.below bb); clear ho hb bb) | (go_at_call 8; refine (kd.eqD' (d := d1) _ CN1 ?_ ?_).mono ?_; exact O7.out.is; exact O11.out.is; rintro e w12 ⟨rfl, hb⟩; have bb : Below w11.heap.size w11 w12 := hb; have Z12 : w11.heap.size ≤ w12.heap.size := (by have := hb.size; first | omega | (simp at this; omega)); replace HB := Lib.hid (HB.out.trans (bb.mono HB.out.size)); replace O3 := Lib.hid (O3.out.below bb); replace O4 := Lib.hid (O4.out.below bb); replace O6 := Lib.hid (O6.out.below bb); replace O7 := Lib.hid (O7.out.below bb); replace O9 := Lib.hid (O9.out.below bb); replace O11 := Lib.hid (O11.out.below bb); replace X1 := Lib.hid (X1.out.below bb); replace X2 := Lib.hid (X2.out.below bb); replace X3 := Lib.hid (X3.out.below bb); replace X4 := Lib.hid (X4.out.below bb); clear hb bb))
  clear ltX4 cX4_0 cX4_1 cX4_2 cX4_3 cX4_4 cX4_5 ltX2 cX2_0 cX2_1 cX2_2 cX2_3 cX2_4 cX2_5
  go_wp2
  go_ret
  exact ⟨rfl, HB.out⟩

theorem table {W : World} (h : laidMetH Tryz.prog Rows.fnExactCouldFallRow.laid W) : hold.F_math_bits_deBruijn32tab W ∧ hold.F_math_bits_deBruijn64tab W ∧ hold.F_internal_strconv_uint64pow10 W ∧ hold.F_errors_errorType W ∧ hold.F_strconv_ErrRange W ∧ hold.F_strconv_ErrSyntax W := by
  have h' : laidMet Tryz.prog [("math/bits.deBruijn32tab", Rows.laid_math_bits_deBruijn32tab), ("math/bits.deBruijn64tab", Rows.laid_math_bits_deBruijn64tab), ("internal/strconv.uint64pow10", Rows.laid_internal_strconv_uint64pow10), ("strconv.ErrRange", Rows.laid_strconv_ErrRange), ("strconv.ErrSyntax", Rows.laid_strconv_ErrSyntax)] W ∧ handlesMet Tryz.prog [("errors.errorType", Rows.laid_errors_errorType)] W := h
  have h1 := h'.1
  have h2 := h'.2
  exact ⟨hold.of_math_bits_deBruijn32tab h1, hold.of_math_bits_deBruijn64tab (laidMet.tail h1), hold.of_internal_strconv_uint64pow10 (laidMet.tail (laidMet.tail h1)), hold.of_errors_errorType h2 (List.mem_cons_self ..), hold.of_strconv_ErrRange (laidMet.tail (laidMet.tail (laidMet.tail h1))), hold.of_strconv_ErrSyntax (laidMet.tail (laidMet.tail (laidMet.tail (laidMet.tail h1))))⟩

set_option maxRecDepth 1000000 in
theorem contract (H : Type) (enc : TypeId × Value → H) (W : World) (base : Nat) (args : Array Value) (ds gs : List (DataW H)) (before : List MemPlace)
    (hval : ∀ (j : Nat) t v, Tryz.f3.params[j]? = some t → args[j]? = some v → Value.okWide Tryz.prog W .any base t v)
    (hW : DataW.Whole enc Tryz.prog Tryz.f3.params.toList Rows.fnExactCouldFallSpec.vars false W args.toList ds gs before) (hL : laidMetH Tryz.prog Rows.fnExactCouldFallRow.laid W) (sh : W.ShapedOpen Tryz.prog) :
    Calls Tryz.prog 3 args W fun e W' => ∃ v, e = .returned v ∧ Rows.fnExactCouldFallSpec.post enc Tryz.prog Tryz.f3 false true false false W args v W' := by
  have hW' := hW
  obtain ⟨p, q, hA0, hV, rfl, hfz, hnd⟩ := hW
  have hA : DataW.TrodAll enc Tryz.prog W 0 (fun _ => true) true Tryz.f3.params.toList args.toList ds p := hA0
  rw [Tryz.params3] at hA hval
  obtain ⟨v0, vs0, d0, ds0, p0, q0, hargs, rfl, rfl, h0, r0⟩ := trodAll_cons hA
  obtain ⟨v1, vs1, d1, ds1, p1, q1, rfl, rfl, rfl, h1, r1⟩ := trodAll_cons r0
  obtain ⟨rfl, rfl, rfl⟩ := trodAll_nil r1
  obtain rfl : args = #[v0, v1] := by cases args; simp_all
  obtain ⟨rfl, rfl⟩ := trodVars_none hV
  have k0 := h0
  have lt0 : ∀ x ∈ p0, x.block < W.heap.size := by obtain ⟨m, hm⟩ := k0; exact DataW.trod_lt m _ _ _ hm
  have k1 := h1
  have lt1 : ∀ x ∈ p1, x.block < W.heap.size := by obtain ⟨m, hm⟩ := k1; exact DataW.trod_lt m _ _ _ hm
  obtain ⟨z0, y0, s0⟩ := disk.rd_D (hval 0 26 v0 rfl rfl) h0
  obtain ⟨z1, y1, s1⟩ := disk.rd_D (hval 1 26 v1 rfl rfl) h1
  clear hA0
  refine (walk W v0 z0 y0 s0 v1 z1 y1 s1 (table hL).1 (table hL).2.1 (table hL).2.2.1 (table hL).2.2.2.1 (table hL).2.2.2.2.1 (table hL).2.2.2.2.2 sh).mono fun e W' ⟨he, bel⟩ => ?_
  subst he
  exact ⟨_, rfl, _, _, _, [], _, [], hW', (trodAll_cons_mk (shut_bool Tryz.underlying4 _) trodAll_mk0), (trodAll_cons_mk (Below.trod laidOut (by kernel_rfl) (of_decide_eq_true (by kernel_rfl)) k0 bel lt0) (trodAll_cons_mk (Below.trod laidOut (by kernel_rfl) (of_decide_eq_true (by kernel_rfl)) k1 bel lt1) trodAll_mk0)), rfl, bel.frame _, fun h => by cases h⟩

theorem laid_met (os : Os) : laidMetH Tryz.prog Rows.fnExactCouldFallRow.laid ((hold.world os).forCall (fun _ _ => 0) ⟨#[], #[.agg #[.slice none 0 0, .slice none 0 0, .slice none 0 0, .slice none 0 0, .int .i64 0, .int .i64 0], .agg #[.slice none 0 0, .slice none 0 0, .slice none 0 0, .slice none 0 0, .int .i64 0, .int .i64 0]], []⟩).memory :=
  laidMetH_of_parts (laidMet_of_run' 8 (by kernel_rfl) (by kernel_rfl)) (by kernel_rfl)
theorem reads (os : Os) {H : Type} (enc : TypeId × Value → H) : ∃ places, DataW.whole enc Tryz.prog ((hold.world os).forCall (fun _ _ => 0) ⟨#[], #[.agg #[.slice none 0 0, .slice none 0 0, .slice none 0 0, .slice none 0 0, .int .i64 0, .int .i64 0], .agg #[.slice none 0 0, .slice none 0 0, .slice none 0 0, .slice none 0 0, .int .i64 0, .int .i64 0]], []⟩).memory Tryz.f3.params.toList Rows.fnExactCouldFallSpec.vars false (#[.agg #[.slice none 0 0, .slice none 0 0, .slice none 0 0, .slice none 0 0, .int .i64 0, .int .i64 0], .agg #[.slice none 0 0, .slice none 0 0, .slice none 0 0, .slice none 0 0, .int .i64 0, .int .i64 0]] : Array Value).toList 8 = some ([.agg [.nil, .nil, .nil, .nil, .lit (.int .i64 0), .lit (.int .i64 0)], .agg [.nil, .nil, .nil, .nil, .lit (.int .i64 0), .lit (.int .i64 0)]], [], places) :=
  ⟨[], by kernel_rfl⟩

set_option maxRecDepth 100000 in
theorem lifted (os : Os) (started : os.Started) (H : Type) (enc : TypeId × Value → H) (F : Stop.Interp) :
    ReturnsInHanded {} Tryz.checked os 3 .any ((OpenSpec.ofChange Rows.fnExactCouldFallSpec).preRow enc Tryz.prog Tryz.f3 Rows.fnExactCouldFallRow.domain false Rows.fnExactCouldFallRow.laid) (((OpenSpec.ofChange Rows.fnExactCouldFallSpec).at F).post enc Tryz.prog Tryz.f3 false true false false) := by
  obtain ⟨places, hx⟩ := reads os enc
  refine returnsInHanded_of_row (C := Tryz.checked) (s := OpenSpec.ofChange Rows.fnExactCouldFallSpec) own started (by kernel_rfl) Tryz.func3
    (witness_row_at (enc := enc) (C := Tryz.checked) false (hold.world os) #[.agg #[.slice none 0 0, .slice none 0 0, .slice none 0 0, .slice none 0 0, .int .i64 0, .int .i64 0], .agg #[.slice none 0 0, .slice none 0 0, .slice none 0 0, .slice none 0 0, .int .i64 0, .int .i64 0]] rfl (by kernel_rfl) (by kernel_rfl) (by kernel_rfl)
      (OpenSpec.preRow_of_cond 8 hx (by kernel_rfl) (fun k hk => by cases hk) (by kernel_rfl) (laid_met os))) ?_
  intro W base args ds gs before hval hW _ _ _ hL sh _
  exact contract H enc W base args ds gs before hval hW hL sh

theorem said : Rows.FnExactCouldFallSaid :=
  OpenClaim.holds_of_cond 3 Tryz.f3 rfl rfl rfl rfl rfl rfl rfl ⟨rfl, rfl, rfl, rfl, rfl⟩ rfl rfl rfl rfl rfl (by kernel_rfl) Tryz.func3 (by unfold joinedFacts; rw [facts.mayEnter, facts.lifts, facts.make]; kernel_rfl)
    (of_decide_eq_true (by kernel_rfl)) (by unfold Func.isWrapper; first | (rw [if_pos (by decide +kernel)]; kernel_rfl) | (rw [if_neg (by decide +kernel)]; exact ⟨rfl, rfl⟩))
    (fun os started H enc _ F => by rw [OpenClaim.pre_eq_preRow]; exact lifted os started H enc F)

theorem plain (f : FuncId) (fn : Func) (hf : Tryz.pinned.checked.prog.funcNamed "loop.example/g00971/laws.FnExactCouldFall" = some f) (hfn : Tryz.pinned.checked.prog.funcs[f]? = some fn) :
    true = Tryz.pinned.checked.prog.looks [] ∧ ∀ (j : Nat) t, fn.params[j]? = some t → Tryz.pinned.checked.prog.wantsStandIn t = false := by
  obtain rfl : f = 3 := Option.some.inj ((show Tryz.prog.funcNamed "loop.example/g00971/laws.FnExactCouldFall" = some 3 by kernel_rfl).symm.trans hf) |>.symm
  obtain rfl : fn = Tryz.f3 := (Option.some.inj (Tryz.func3.symm.trans hfn)).symm
  refine ⟨by kernel_rfl, fun j t ht => ?_⟩
  rw [Tryz.params3] at ht
  rcases (show t = 26 by have h := Array.mem_of_getElem? ht; simp at h; omega) with rfl
  · exact (show Tryz.prog.wantsStandIn 26 = false by kernel_rfl)

theorem proved : Rows.FnExactCouldFallCardSaid :=
  Claim7.holds_tied_plain_at .later [] _ _ _ _ said (fun _ h => by cases h) (by kernel_rfl) (fun _ h => by cases h) fnExactCouldFall_row_tie rfl ⟨rfl, rfl⟩ (by kernel_rfl) rfl plain (by kernel_rfl)
end Go.Proofs.YtkibddcjogfklaaGreatDoor.fnExactCouldFall
