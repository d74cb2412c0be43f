/-
  PROVED: 'Rows.FnExactLooseNamesCardSaid': whatever the arguments, the call laws.FnExactLooseNames returns true (impl.LooseNames answers as spec.LooseNames, leaves its arguments as they were, and owns its memory), and the arguments read as they did.
  CONDITIONS: the given card's own: the library's variables that the row lists start as the program's text lays them (the tie is given; over the pruned copy of the project).
-/
import Derived.Test.YtiehfobcbhgfkaaGreatDoorExR
import Derived.Test.YtiehfobcbhgfkaaGreatDoorRwI
import Derived.Test.YtiehfobcbhgfkaaGreatDoorKdX
import Derived.Test.YtiehfobcbhgfkaaGreatDoorDkX
import Derived.Test.YtiehfobcbhgfkaaGreatDoorHold
import Derived.Test.YtiehfobcbhgfkaaGreatDoorFacts
import Derived.Test.YtiehfobcbhgfkaaGreatDoorTie
import Derived.WalkKit
import Derived.ProofKit
import Derived.OpenShut
import Derived.ShutString
import Derived.SliceStrings
import Derived.ChangeOld
import Derived.Below
import Derived.Deep.DeepHandedRow
import Derived.Lib.LaidTab
namespace Go.Proofs.YtiehfobcbhgfkaaGreatDoor.fnExactLooseNames
open Go.ChangeShapes Go.WideShapes Go.ChangeAt Go.RowKit
open Go.ChangeMaps (open_string shut_string)
set_option linter.unusedVariables false

theorem own : ownKnob Tryz.prog.godebug = none := by kernel_rfl
theorem laidOut : laidOutB Tryz.prog = true := by kernel_rfl

theorem walk (w : World) (v0 : Value) (d0 : disk.D) (h0 : disk.IsDisk w v0 d0) (s0 : disk.wfD d0) (t_math_bits_deBruijn32tab : hold.F_math_bits_deBruijn32tab w) (t_math_bits_deBruijn64tab : hold.F_math_bits_deBruijn64tab w) (t_internal_strconv_uint64pow10 : hold.F_internal_strconv_uint64pow10 w) (t_strconv_ErrRange : hold.F_strconv_ErrRange w) (t_strconv_ErrSyntax : hold.F_strconv_ErrSyntax w) :
    Calls Tryz.prog 8 #[v0] w fun e w' => e = .returned (.bool true) ∧ Below w.heap.size w w' := by
  have GW := Lib.hid (row.gw_of t_math_bits_deBruijn64tab t_strconv_ErrSyntax)
  obtain ⟨p0_0, p0_1, p0_2, p0_3, p0_4, p0_5, p0_6, p0_7, p0_8, p0_9, p0_10, p0_11, p0_12, p0_13, rfl⟩ := kd.IsD_form h0
  have A0 := Lib.hid h0
  have WF0 := Lib.hid s0
  clear h0 s0
  go_enter Tryz.func8, Tryz.ntmps8
  have HB := Lib.hid (Below.refl w.heap.size w)
  go_wp2_with (fail)
  refine (disk.szDisk_any 1048576 _ (by decide) WF0.out ?_).mono ?_
  exact A0.out.below (HB.out.alloc (by have := HB.out.size; first | exact this | (simp; done) | (simp; omega)) _)
  rintro e w1 ⟨hif, hb⟩
  have bb : Below w.heap.size w w1 := ((Below.refl _ _).alloc (by first | exact Nat.le_refl _ | simp | (simp; omega)) _).trans (hb.mono (by first | (simp; done) | (simp; omega)))
  have Z1 : w.heap.size + 1 ≤ w1.heap.size := (by have := hb.size; first | omega | (simp at this; omega))
  have X1 := Lib.hid (show disk.Box w1 (w.heap.size) [.slice p0_0 p0_1 p0_2, .slice p0_3 p0_4 p0_5, .slice p0_6 p0_7 p0_8, .slice p0_9 p0_10 p0_11, .int .i64 p0_12, .int .i64 p0_13] from (by have h := (disk.Box.new _ #[.slice p0_0 p0_1 p0_2, .slice p0_3 p0_4 p0_5, .slice p0_6 p0_7 p0_8, .slice p0_9 p0_10 p0_11, .int .i64 p0_12, .int .i64 p0_13] _).below hb; simpa using h))
  replace HB := Lib.hid (HB.out.trans (bb.mono HB.out.size))
  by_cases bk0 : disk.bulk d0 ≤ 1048576
  rotate_left
  · rw [if_neg bk0] at hif
    subst hif
    clear bk0 hb bb
    go_wp2
    go_ret
    exact ⟨rfl, HB.out⟩
  obtain ⟨lf1, elf1⟩ : ∃ l : Nat, l = 1048576 - disk.bulk d0 := ⟨_, rfl⟩
  rw [if_pos bk0, ← elf1] at hif
  subst hif
  have hl1 : lf1 ≤ 1048576 := (by omega)
  have nl1 : ¬ (lf1 : Int) < 0 := (by omega)
  have BK0 := Lib.hid (show disk.bulk d0 ≤ 1048576 by omega)
  have K0 := Lib.hid (show kd.okD d0 from ⟨WF0.out, BK0.out⟩)
  have CN0 := K0.out.cnt
  clear elf1 bk0 hb bb
  have CR0 : kd.cntSS (row.loose d0) ≤ 100000000 := row.cnt_loose K0.out
  have ltX1 := X1.out.1
  have cX1_0 := X1.out.at 0 _ rfl
  have cX1_1 := X1.out.at 1 _ rfl
  have cX1_2 := X1.out.at 2 _ rfl
  have cX1_3 := X1.out.at 3 _ rfl
  have cX1_4 := X1.out.at 4 _ rfl
  have cX1_5 := X1.out.at 5 _ rfl
  go_wp2_with (fail)
  refine (disk.toDisk_any _ BK0.out ?_).mono ?_
  exact A0.out.below HB.out
  rintro e w2 ⟨u2, he, ho, hb⟩
  obtain ⟨u2_0, u2_1, u2_2, u2_3, u2_4, u2_5, u2_6, u2_7, u2_8, u2_9, u2_10, u2_11, u2_12, u2_13, rfl⟩ := kd.IsD_form ho.is
  subst he
  have bb : Below w1.heap.size w1 w2 := hb
  have Z2 : w1.heap.size ≤ w2.heap.size := (by have := hb.size; first | omega | (simp at this; omega))
  have O2 := Lib.hid (ho.base (B' := w1.heap.size) (by first | exact Nat.le_refl _ | (simp; done) | (simp; omega)))
  have R2 := Lib.hid (O2.out.rows)
  replace HB := Lib.hid (HB.out.trans (bb.mono HB.out.size))
  replace X1 := Lib.hid (X1.out.below bb)
  clear ho hb bb
  clear ltX1 cX1_0 cX1_1 cX1_2 cX1_3 cX1_4 cX1_5
  go_wp2_with (fail)
  refine (row.sLooseNames _ d0 _ K0.out ?_).mono ?_
  exact O2.out.is
  rintro e w3 ⟨u3_r0, he, ho0, hb⟩
  subst he
  have bb : Below w2.heap.size w2 w3 := hb
  have Z3 : w2.heap.size ≤ w3.heap.size := (by have := hb.size; first | omega | (simp at this; omega))
  replace HB := Lib.hid (HB.out.trans (bb.mono HB.out.size))
  replace O2 := Lib.hid (O2.out.below bb)
  replace X1 := Lib.hid (X1.out.below bb)
  have S3_0 := Lib.hid (ho0.is)
  have J3_0 := Lib.hid (Below.refl w3.heap.size w3)
  clear ho0 hb bb
  have ltX1 := X1.out.1
  have cX1_0 := X1.out.at 0 _ rfl
  have cX1_1 := X1.out.at 1 _ rfl
  have cX1_2 := X1.out.at 2 _ rfl
  have cX1_3 := X1.out.at 3 _ rfl
  have cX1_4 := X1.out.at 4 _ rfl
  have cX1_5 := X1.out.at 5 _ rfl
  go_wp2_with (fail)
  refine (disk.toDisk_any _ BK0.out ?_).mono ?_
  exact A0.out.below HB.out
  rintro e w4 ⟨u4, he, ho, hb⟩
  obtain ⟨u4_0, u4_1, u4_2, u4_3, u4_4, u4_5, u4_6, u4_7, u4_8, u4_9, u4_10, u4_11, u4_12, u4_13, rfl⟩ := kd.IsD_form ho.is
  subst he
  have bb : Below w3.heap.size w3 w4 := hb
  have Z4 : w3.heap.size ≤ w4.heap.size := (by have := hb.size; first | omega | (simp at this; omega))
  have O4 := Lib.hid (ho.base (B' := w3.heap.size) (by first | exact Nat.le_refl _ | (simp; done) | (simp; omega)))
  have R4 := Lib.hid (O4.out.rows)
  replace HB := Lib.hid (HB.out.trans (bb.mono HB.out.size))
  replace J3_0 := Lib.hid (J3_0.out.trans (bb.mono J3_0.out.size))
  replace O2 := Lib.hid (O2.out.below bb)
  replace X1 := Lib.hid (X1.out.below bb)
  clear ho hb bb
  clear ltX1 cX1_0 cX1_1 cX1_2 cX1_3 cX1_4 cX1_5
  go_wp2_with (fail)
  refine (row.iLooseNames _ d0 _ K0.out ?_ ?_).mono ?_
  exact O4.out.is.below ((Below.refl _ _).alloc (by first | exact Nat.le_refl _ | simp | (simp; omega)) _)
  exact GW.out.below ((HB.out.alloc (by have := HB.out.size; first | exact this | (simp; done) | (simp; omega)) _))
  rintro e w5 ⟨u5_r0, he, ho0, hb⟩
  subst he
  have bb : Below w4.heap.size w4 w5 := ((Below.refl _ _).alloc (by first | exact Nat.le_refl _ | simp | (simp; omega)) _).trans (hb.mono (by first | (simp; done) | (simp; omega)))
  have Z5 : w4.heap.size + 1 ≤ w5.heap.size := (by have := hb.size; first | omega | (simp at this; omega))
  have X2 := Lib.hid (show disk.Box w5 (w4.heap.size) [.slice u4_0 u4_1 u4_2, .slice u4_3 u4_4 u4_5, .slice u4_6 u4_7 u4_8, .slice u4_9 u4_10 u4_11, .int .i64 u4_12, .int .i64 u4_13] from (by have h := (disk.Box.new _ #[.slice u4_0 u4_1 u4_2, .slice u4_3 u4_4 u4_5, .slice u4_6 u4_7 u4_8, .slice u4_9 u4_10 u4_11, .int .i64 u4_12, .int .i64 u4_13] _).below hb; simpa using h))
  replace HB := Lib.hid (HB.out.trans (bb.mono HB.out.size))
  replace J3_0 := Lib.hid (J3_0.out.trans (bb.mono J3_0.out.size))
  replace O2 := Lib.hid (O2.out.below bb)
  replace O4 := Lib.hid (O4.out.below bb)
  replace X1 := Lib.hid (X1.out.below bb)
  have O5_0 := Lib.hid (ho0.base (B' := w4.heap.size + 1) (by first | exact Nat.le_refl _ | (simp; done) | (simp; omega)))
  have R5_0 := Lib.hid (O5_0.out.rows)
  clear ho0 hb bb
  go_wp2_with (fail)
  refine (kd.eqSS' (d := row.loose d0) _ CR0 ?_ ?_).mono ?_
  exact O5_0.out.is
  exact S3_0.out.below J3_0.out
  rintro e w6 ⟨rfl, hb⟩
  have bb : Below w5.heap.size w5 w6 := hb
  have Z6 : w5.heap.size ≤ w6.heap.size := (by have := hb.size; first | omega | (simp at this; omega))
  replace HB := Lib.hid (HB.out.trans (bb.mono HB.out.size))
  replace J3_0 := Lib.hid (J3_0.out.trans (bb.mono J3_0.out.size))
  replace O2 := Lib.hid (O2.out.below bb)
  replace O4 := Lib.hid (O4.out.below bb)
  replace O5_0 := Lib.hid (O5_0.out.below bb)
  replace X1 := Lib.hid (X1.out.below bb)
  replace X2 := Lib.hid (X2.out.below bb)
  clear hb bb
  have ltX2 := X2.out.1
  have cX2_0 := X2.out.at 0 _ rfl
  have cX2_1 := X2.out.at 1 _ rfl
  have cX2_2 := X2.out.at 2 _ rfl
  have cX2_3 := X2.out.at 3 _ rfl
  have cX2_4 := X2.out.at 4 _ rfl
  have cX2_5 := X2.out.at 5 _ rfl
  have ltX1 := X1.out.1
  have cX1_0 := X1.out.at 0 _ rfl
  have cX1_1 := X1.out.at 1 _ rfl
  have cX1_2 := X1.out.at 2 _ rfl
  have cX1_3 := X1.out.at 3 _ rfl
  have cX1_4 := X1.out.at 4 _ rfl
  have cX1_5 := X1.out.at 5 _ rfl
  go_wp2
  go_region_held3 (fun w' => w'.cell? ⟨w4.heap.size, 0, none⟩ = some (.slice u4_0 u4_1 u4_2) ∧ w'.cell? ⟨w4.heap.size, 1, none⟩ = some (.slice u4_3 u4_4 u4_5) ∧ w'.cell? ⟨w4.heap.size, 2, none⟩ = some (.slice u4_6 u4_7 u4_8) ∧ w'.cell? ⟨w4.heap.size, 3, none⟩ = some (.slice u4_9 u4_10 u4_11) ∧ w'.cell? ⟨w4.heap.size, 4, none⟩ = some (.int .i64 u4_12) ∧ w'.cell? ⟨w4.heap.size, 5, none⟩ = some (.int .i64 u4_13) ∧ w'.cell? ⟨w.heap.size, 0, none⟩ = some (.slice p0_0 p0_1 p0_2) ∧ w'.cell? ⟨w.heap.size, 1, none⟩ = some (.slice p0_3 p0_4 p0_5) ∧ w'.cell? ⟨w.heap.size, 2, none⟩ = some (.slice p0_6 p0_7 p0_8) ∧ w'.cell? ⟨w.heap.size, 3, none⟩ = some (.slice p0_9 p0_10 p0_11) ∧ w'.cell? ⟨w.heap.size, 4, none⟩ = some (.int .i64 p0_12) ∧ w'.cell? ⟨w.heap.size, 5, none⟩ = some (.int .i64 p0_13)) (first | exact ⟨cX2_0, cX2_1, cX2_2, cX2_3, cX2_4, cX2_5, cX1_0, cX1_1, cX1_2, cX1_3, cX1_4, cX1_5⟩ | exact ⟨X2.out.at 0 _ rfl, X2.out.at 1 _ rfl, X2.out.at 2 _ rfl, X2.out.at 3 _ rfl, X2.out.at 4 _ rfl, X2.out.at 5 _ rfl, X1.out.at 0 _ rfl, X1.out.at 1 _ rfl, X1.out.at 2 _ rfl, X1.out.at 3 _ rfl, X1.out.at 4 _ rfl, X1.out.at 5 _ rfl⟩) (first | (go_at_call 40; refine (disk.toDisk_any _ BK0.out ?_).mono ?_; exact A0.out.below HB.out.drew; rintro e w7 ⟨u7, he, ho, hb⟩; obtain ⟨u7_0, u7_1, u7_2, u7_3, u7_4, u7_5, u7_6, u7_7, u7_8, u7_9, u7_10, u7_11, u7_12, u7_13, rfl⟩ := kd.IsD_form ho.is; subst he; have bb : Below w6.heap.size w6 w7 := (Below.refl w6.heap.size w6).drew.trans hb; have Z7 : w6.heap.size ≤ w7.heap.size := (by have := hb.size; first | omega | (simp at this; omega)); have O7 := Lib.hid (ho.base (B' := w6.heap.size) (by first | exact Nat.le_refl _ | (simp; done) | (simp; omega))); have R7 := Lib.hid (O7.out.rows); replace HB := Lib.hid (HB.out.trans (bb.mono HB.out.size)); replace J3_0 := Lib.hid (J3_0.out.trans (bb.mono J3_0.out.size)); replace O2 := Lib.hid (O2.out.below bb); replace O4 := Lib.hid (O4.out.below bb); replace O5_0 := Lib.hid (O5_0.out.below bb); replace X1 := Lib.hid (X1.out.below bb); replace X2 := Lib.hid (X2.out.below bb); clear ho hb bb) | (go_at_call 42; refine (kd.eqD' (d := d0) _ CN0 ?_ ?_).mono ?_; exact O4.out.is; exact O7.out.is; rintro e w8 ⟨rfl, hb⟩; have bb : Below w7.heap.size w7 w8 := hb; have Z8 : w7.heap.size ≤ w8.heap.size := (by have := hb.size; first | omega | (simp at this; omega)); replace HB := Lib.hid (HB.out.trans (bb.mono HB.out.size)); replace J3_0 := Lib.hid (J3_0.out.trans (bb.mono J3_0.out.size)); replace O2 := Lib.hid (O2.out.below bb); replace O4 := Lib.hid (O4.out.below bb); replace O5_0 := Lib.hid (O5_0.out.below bb); replace O7 := Lib.hid (O7.out.below bb); replace X1 := Lib.hid (X1.out.below bb); replace X2 := Lib.hid (X2.out.below bb); clear hb bb))
  clear ltX2 cX2_0 cX2_1 cX2_2 cX2_3 cX2_4 cX2_5 ltX1 cX1_0 cX1_1 cX1_2 cX1_3 cX1_4 cX1_5
  have ltX2 := X2.out.1
  have cX2_0 := X2.out.at 0 _ rfl
  have cX2_1 := X2.out.at 1 _ rfl
  have cX2_2 := X2.out.at 2 _ rfl
  have cX2_3 := X2.out.at 3 _ rfl
  have cX2_4 := X2.out.at 4 _ rfl
  have cX2_5 := X2.out.at 5 _ rfl
  go_wp2_with (fail)
  obtain ⟨q1, eq1⟩ : ∃ q : Nat, q = 1 + kd.cntD (d0) := ⟨_, rfl⟩
  have hq1 : 0 < q1 ∧ q1 ≤ 1 + 100000000 := (by have := CN0; omega)
  have nq1 : ¬ (q1 : Int) < 0 := (by omega)
  have EQ1 := Lib.hid eq1
  clear eq1
  refine (kd.markD' (B := w3.heap.size) (d := d0) (k := 1) (q := q1) _ (by decide) (by have := CN0; omega) EQ1.out ?_).mono ?_
  exact O4.out
  rintro e w9 ⟨rfl, ho, on⟩
  have Z9 : w8.heap.size ≤ w9.heap.size := (by have := on.size; first | omega | (simp at this; omega))
  have bbo := on
  replace HB := Lib.hid (HB.out.trans (bbo.below HB.out.size (fun k hk => (by have := R4.out k hk; omega))))
  replace J3_0 := Lib.hid (J3_0.out.trans (bbo.below J3_0.out.size (fun k hk => (by have := R4.out k hk; omega))))
  replace O2 := Lib.hid (O2.out.only bbo (fun k hk hS => (by have := R4.out k hS; have := R2.out k hk; omega)))
  replace O5_0 := Lib.hid (O5_0.out.only bbo (fun k hk hS => (by have := R4.out k hS; have := R5_0.out k hk; omega)))
  replace O7 := Lib.hid (O7.out.only bbo (fun k hk hS => (by have := R4.out k hS; have := R7.out k hk; omega)))
  replace X1 := Lib.hid (X1.out.only bbo (fun hS => (by have := R4.out _ hS; omega)))
  replace X2 := Lib.hid (X2.out.only bbo (fun hS => (by have := R4.out _ hS; omega)))
  replace O4 := Lib.hid ho
  clear ho on bbo
  clear ltX2 cX2_0 cX2_1 cX2_2 cX2_3 cX2_4 cX2_5
  go_wp2_with (fail)
  refine (kd.eqSS' (d := row.loose d0) _ CR0 ?_ ?_).mono ?_
  exact O5_0.out.is
  exact S3_0.out.below J3_0.out
  rintro e w10 ⟨rfl, hb⟩
  have bb : Below w9.heap.size w9 w10 := hb
  have Z10 : w9.heap.size ≤ w10.heap.size := (by have := hb.size; first | omega | (simp at this; omega))
  replace HB := Lib.hid (HB.out.trans (bb.mono HB.out.size))
  replace J3_0 := Lib.hid (J3_0.out.trans (bb.mono J3_0.out.size))
  replace O2 := Lib.hid (O2.out.below bb)
  replace O4 := Lib.hid (O4.out.below bb)
  replace O5_0 := Lib.hid (O5_0.out.below bb)
  replace O7 := Lib.hid (O7.out.below bb)
  replace X1 := Lib.hid (X1.out.below bb)
  replace X2 := Lib.hid (X2.out.below bb)
  clear hb bb
  go_wp2_with (fail)
  obtain ⟨q2, eq2⟩ : ∃ q : Nat, q = 1 + kd.cntSS (row.loose d0) := ⟨_, rfl⟩
  have hq2 : 0 < q2 ∧ q2 ≤ 1 + 100000000 := (by have := CR0; omega)
  have nq2 : ¬ (q2 : Int) < 0 := (by omega)
  have EQ2 := Lib.hid eq2
  clear eq2
  refine (kd.markSS' (B := w4.heap.size + 1) (d := row.loose d0) (k := 1) (q := q2) _ (by decide) (by have := CR0; omega) EQ2.out ?_).mono ?_
  exact O5_0.out
  rintro e w11 ⟨rfl, ho, on⟩
  have Z11 : w10.heap.size ≤ w11.heap.size := (by have := on.size; first | omega | (simp at this; omega))
  have bbo := on
  replace HB := Lib.hid (HB.out.trans (bbo.below HB.out.size (fun k hk => (by have := R5_0.out k hk; omega))))
  replace J3_0 := Lib.hid (J3_0.out.trans (bbo.below J3_0.out.size (fun k hk => (by have := R5_0.out k hk; omega))))
  replace O2 := Lib.hid (O2.out.only bbo (fun k hk hS => (by have := R5_0.out k hS; have := R2.out k hk; omega)))
  replace O4 := Lib.hid (O4.out.only bbo (fun k hk hS => (by have := R5_0.out k hS; have := R4.out k hk; omega)))
  replace O7 := Lib.hid (O7.out.only bbo (fun k hk hS => (by have := R5_0.out k hS; have := R7.out k hk; omega)))
  replace X1 := Lib.hid (X1.out.only bbo (fun hS => (by have := R5_0.out _ hS; omega)))
  replace X2 := Lib.hid (X2.out.only bbo (fun hS => (by have := R5_0.out _ hS; omega)))
  replace O5_0 := Lib.hid ho
  clear ho on bbo
  go_wp2_with (fail)
  refine (kd.heldSS' (d := row.loose d0) (k := 1) (q := q2) _ (by decide) (by have := CR0; omega) EQ2.out ?_).mono ?_
  exact O5_0.out.is
  rintro e w12 ⟨rfl, hb⟩
  have bb : Below w11.heap.size w11 w12 := hb
  have Z12 : w11.heap.size ≤ w12.heap.size := (by have := hb.size; first | omega | (simp at this; omega))
  replace HB := Lib.hid (HB.out.trans (bb.mono HB.out.size))
  replace J3_0 := Lib.hid (J3_0.out.trans (bb.mono J3_0.out.size))
  replace O2 := Lib.hid (O2.out.below bb)
  replace O4 := Lib.hid (O4.out.below bb)
  replace O5_0 := Lib.hid (O5_0.out.below bb)
  replace O7 := Lib.hid (O7.out.below bb)
  replace X1 := Lib.hid (X1.out.below bb)
  replace X2 := Lib.hid (X2.out.below bb)
  clear hb bb
  have ltX1 := X1.out.1
  have cX1_0 := X1.out.at 0 _ rfl
  have cX1_1 := X1.out.at 1 _ rfl
  have cX1_2 := X1.out.at 2 _ rfl
  have cX1_3 := X1.out.at 3 _ rfl
  have cX1_4 := X1.out.at 4 _ rfl
  have cX1_5 := X1.out.at 5 _ rfl
  go_wp2_with (fail)
  refine (disk.toDisk_any _ BK0.out ?_).mono ?_
  exact A0.out.below HB.out
  rintro e w13 ⟨u13, he, ho, hb⟩
  obtain ⟨u13_0, u13_1, u13_2, u13_3, u13_4, u13_5, u13_6, u13_7, u13_8, u13_9, u13_10, u13_11, u13_12, u13_13, rfl⟩ := kd.IsD_form ho.is
  subst he
  have bb : Below w12.heap.size w12 w13 := hb
  have Z13 : w12.heap.size ≤ w13.heap.size := (by have := hb.size; first | omega | (simp at this; omega))
  have O13 := Lib.hid (ho.base (B' := w12.heap.size) (by first | exact Nat.le_refl _ | (simp; done) | (simp; omega)))
  have R13 := Lib.hid (O13.out.rows)
  replace HB := Lib.hid (HB.out.trans (bb.mono HB.out.size))
  replace J3_0 := Lib.hid (J3_0.out.trans (bb.mono J3_0.out.size))
  replace O2 := Lib.hid (O2.out.below bb)
  replace O4 := Lib.hid (O4.out.below bb)
  replace O5_0 := Lib.hid (O5_0.out.below bb)
  replace O7 := Lib.hid (O7.out.below bb)
  replace X1 := Lib.hid (X1.out.below bb)
  replace X2 := Lib.hid (X2.out.below bb)
  clear ho hb bb
  clear ltX1 cX1_0 cX1_1 cX1_2 cX1_3 cX1_4 cX1_5
  go_wp2_with (fail)
  refine (row.iLooseNames _ d0 _ K0.out ?_ ?_).mono ?_
  exact O13.out.is
  exact GW.out.below (HB.out)
  rintro e w14 ⟨u14_r0, he, ho0, hb⟩
  subst he
  have bb : Below w13.heap.size w13 w14 := hb
  have Z14 : w13.heap.size ≤ w14.heap.size := (by have := hb.size; first | omega | (simp at this; omega))
  replace HB := Lib.hid (HB.out.trans (bb.mono HB.out.size))
  replace J3_0 := Lib.hid (J3_0.out.trans (bb.mono J3_0.out.size))
  replace O2 := Lib.hid (O2.out.below bb)
  replace O4 := Lib.hid (O4.out.below bb)
  replace O5_0 := Lib.hid (O5_0.out.below bb)
  replace O7 := Lib.hid (O7.out.below bb)
  replace O13 := Lib.hid (O13.out.below bb)
  replace X1 := Lib.hid (X1.out.below bb)
  replace X2 := Lib.hid (X2.out.below bb)
  have O14_0 := Lib.hid (ho0.base (B' := w13.heap.size) (by first | exact Nat.le_refl _ | (simp; done) | (simp; omega)))
  have R14_0 := Lib.hid (O14_0.out.rows)
  clear ho0 hb bb
  go_wp2_with (fail)
  refine (kd.eqSS' (d := row.loose d0) _ CR0 ?_ ?_).mono ?_
  exact O14_0.out.is
  exact S3_0.out.below J3_0.out
  rintro e w15 ⟨rfl, hb⟩
  have bb : Below w14.heap.size w14 w15 := hb
  have Z15 : w14.heap.size ≤ w15.heap.size := (by have := hb.size; first | omega | (simp at this; omega))
  replace HB := Lib.hid (HB.out.trans (bb.mono HB.out.size))
  replace J3_0 := Lib.hid (J3_0.out.trans (bb.mono J3_0.out.size))
  replace O2 := Lib.hid (O2.out.below bb)
  replace O4 := Lib.hid (O4.out.below bb)
  replace O5_0 := Lib.hid (O5_0.out.below bb)
  replace O7 := Lib.hid (O7.out.below bb)
  replace O13 := Lib.hid (O13.out.below bb)
  replace O14_0 := Lib.hid (O14_0.out.below bb)
  replace X1 := Lib.hid (X1.out.below bb)
  replace X2 := Lib.hid (X2.out.below bb)
  clear hb bb
  go_wp2_with (fail)
  refine (kd.heldSS' (d := row.loose d0) (k := 1) (q := q2) _ (by decide) (by have := CR0; omega) EQ2.out ?_).mono ?_
  exact O5_0.out.is
  rintro e w16 ⟨rfl, hb⟩
  have bb : Below w15.heap.size w15 w16 := hb
  have Z16 : w15.heap.size ≤ w16.heap.size := (by have := hb.size; first | omega | (simp at this; omega))
  replace HB := Lib.hid (HB.out.trans (bb.mono HB.out.size))
  replace J3_0 := Lib.hid (J3_0.out.trans (bb.mono J3_0.out.size))
  replace O2 := Lib.hid (O2.out.below bb)
  replace O4 := Lib.hid (O4.out.below bb)
  replace O5_0 := Lib.hid (O5_0.out.below bb)
  replace O7 := Lib.hid (O7.out.below bb)
  replace O13 := Lib.hid (O13.out.below bb)
  replace O14_0 := Lib.hid (O14_0.out.below bb)
  replace X1 := Lib.hid (X1.out.below bb)
  replace X2 := Lib.hid (X2.out.below bb)
  clear hb bb
  go_wp2
  go_ret
  exact ⟨rfl, HB.out⟩

theorem table {W : World} (h : laidMetH Tryz.prog Rows.fnExactLooseNamesRow.laid W) : hold.F_math_bits_deBruijn32tab W ∧ hold.F_math_bits_deBruijn64tab W ∧ hold.F_internal_strconv_uint64pow10 W ∧ hold.F_strconv_ErrRange W ∧ hold.F_strconv_ErrSyntax W := by
  have h1 : laidMet Tryz.prog Rows.fnExactLooseNamesRow.laid W := h
  exact ⟨hold.of_math_bits_deBruijn32tab h1, hold.of_math_bits_deBruijn64tab (laidMet.tail h1), hold.of_internal_strconv_uint64pow10 (laidMet.tail (laidMet.tail h1)), hold.of_strconv_ErrRange (laidMet.tail (laidMet.tail (laidMet.tail h1))), hold.of_strconv_ErrSyntax (laidMet.tail (laidMet.tail (laidMet.tail (laidMet.tail h1))))⟩

set_option maxRecDepth 1000000 in
theorem contract (H : Type) (enc : TypeId × Value → H) (W : World) (base : Nat) (args : Array Value) (ds gs : List (DataW H)) (before : List MemPlace)
    (hval : ∀ (j : Nat) t v, Tryz.f8.params[j]? = some t → args[j]? = some v → Value.okWide Tryz.prog W .any base t v)
    (hW : DataW.Whole enc Tryz.prog Tryz.f8.params.toList Rows.fnExactLooseNamesSpec.vars false W args.toList ds gs before) (hL : laidMetH Tryz.prog Rows.fnExactLooseNamesRow.laid W) :
    Calls Tryz.prog 8 args W fun e W' => ∃ v, e = .returned v ∧ Rows.fnExactLooseNamesSpec.post enc Tryz.prog Tryz.f8 false true false false W args v W' := by
  have hW' := hW
  obtain ⟨p, q, hA0, hV, rfl, hfz, hnd⟩ := hW
  have hA : DataW.TrodAll enc Tryz.prog W 0 (fun _ => true) true Tryz.f8.params.toList args.toList ds p := hA0
  rw [Tryz.params8] at hA hval
  obtain ⟨v0, vs0, d0, ds0, p0, q0, hargs, rfl, rfl, h0, r0⟩ := trodAll_cons hA
  obtain ⟨rfl, rfl, rfl⟩ := trodAll_nil r0
  obtain rfl : args = #[v0] := by cases args; simp_all
  obtain ⟨rfl, rfl⟩ := trodVars_none hV
  have k0 := h0
  have lt0 : ∀ x ∈ p0, x.block < W.heap.size := by obtain ⟨m, hm⟩ := k0; exact DataW.trod_lt m _ _ _ hm
  obtain ⟨z0, y0, s0⟩ := disk.rd_D (hval 0 52 v0 rfl rfl) h0
  clear hA0
  refine (walk W v0 z0 y0 s0 (table hL).1 (table hL).2.1 (table hL).2.2.1 (table hL).2.2.2.1 (table hL).2.2.2.2).mono fun e W' ⟨he, bel⟩ => ?_
  subst he
  exact ⟨_, rfl, _, _, _, [], _, [], hW', (trodAll_cons_mk (shut_bool Tryz.underlying4 _) trodAll_mk0), (trodAll_cons_mk (Below.trod laidOut (by kernel_rfl) (of_decide_eq_true (by kernel_rfl)) k0 bel lt0) trodAll_mk0), rfl, bel.frame _, fun h => by cases h⟩

theorem laid_met (os : Os) : laidMetH Tryz.prog Rows.fnExactLooseNamesRow.laid ((hold.world os).forCall (fun _ _ => 0) ⟨#[], #[.agg #[.slice none 0 0, .slice none 0 0, .slice none 0 0, .slice none 0 0, .int .i64 0, .int .i64 0]], []⟩).memory :=
  laidMet_of_run' 8 (by kernel_rfl) (by kernel_rfl)
theorem reads (os : Os) {H : Type} (enc : TypeId × Value → H) : ∃ places, DataW.whole enc Tryz.prog ((hold.world os).forCall (fun _ _ => 0) ⟨#[], #[.agg #[.slice none 0 0, .slice none 0 0, .slice none 0 0, .slice none 0 0, .int .i64 0, .int .i64 0]], []⟩).memory Tryz.f8.params.toList Rows.fnExactLooseNamesSpec.vars false (#[.agg #[.slice none 0 0, .slice none 0 0, .slice none 0 0, .slice none 0 0, .int .i64 0, .int .i64 0]] : Array Value).toList 8 = some ([.agg [.nil, .nil, .nil, .nil, .lit (.int .i64 0), .lit (.int .i64 0)]], [], places) :=
  ⟨[], by kernel_rfl⟩

set_option maxRecDepth 100000 in
theorem lifted (os : Os) (started : os.Started) (H : Type) (enc : TypeId × Value → H) (F : Stop.Interp) :
    ReturnsInHanded {} Tryz.checked os 8 .any ((OpenSpec.ofChange Rows.fnExactLooseNamesSpec).preRow enc Tryz.prog Tryz.f8 Rows.fnExactLooseNamesRow.domain false Rows.fnExactLooseNamesRow.laid) (((OpenSpec.ofChange Rows.fnExactLooseNamesSpec).at F).post enc Tryz.prog Tryz.f8 false true false false) := by
  obtain ⟨places, hx⟩ := reads os enc
  refine returnsInHanded_of_row (C := Tryz.checked) (s := OpenSpec.ofChange Rows.fnExactLooseNamesSpec) own started (by kernel_rfl) Tryz.func8
    (witness_row_at (enc := enc) (C := Tryz.checked) false (hold.world os) #[.agg #[.slice none 0 0, .slice none 0 0, .slice none 0 0, .slice none 0 0, .int .i64 0, .int .i64 0]] rfl (by kernel_rfl) (by kernel_rfl) (by kernel_rfl)
      (OpenSpec.preRow_of_cond 8 hx (by kernel_rfl) (fun k hk => by cases hk) (by kernel_rfl) (laid_met os))) ?_
  intro W base args ds gs before hval hW _ _ _ hL _ _
  exact contract H enc W base args ds gs before hval hW hL

theorem said : Rows.FnExactLooseNamesSaid :=
  OpenClaim.holds_of_cond 8 Tryz.f8 rfl rfl rfl rfl rfl rfl rfl ⟨rfl, rfl, rfl, rfl, rfl⟩ rfl rfl rfl rfl rfl (by kernel_rfl) Tryz.func8 (by unfold joinedFacts; rw [facts.mayEnter, facts.lifts, facts.make]; kernel_rfl)
    (of_decide_eq_true (by kernel_rfl)) (by unfold Func.isWrapper; first | (rw [if_pos (by decide +kernel)]; kernel_rfl) | (rw [if_neg (by decide +kernel)]; exact ⟨rfl, rfl⟩))
    (fun os started H enc _ F => by rw [OpenClaim.pre_eq_preRow]; exact lifted os started H enc F)

theorem plain (f : FuncId) (fn : Func) (hf : Tryz.pinned.checked.prog.funcNamed "loop.example/g00971/laws.FnExactLooseNames" = some f) (hfn : Tryz.pinned.checked.prog.funcs[f]? = some fn) :
    true = Tryz.pinned.checked.prog.looks [] ∧ ∀ (j : Nat) t, fn.params[j]? = some t → Tryz.pinned.checked.prog.wantsStandIn t = false := by
  obtain rfl : f = 8 := Option.some.inj ((show Tryz.prog.funcNamed "loop.example/g00971/laws.FnExactLooseNames" = some 8 by kernel_rfl).symm.trans hf) |>.symm
  obtain rfl : fn = Tryz.f8 := (Option.some.inj (Tryz.func8.symm.trans hfn)).symm
  refine ⟨by kernel_rfl, fun j t ht => ?_⟩
  rw [Tryz.params8] at ht
  obtain rfl : t = 52 := by simpa using Array.mem_of_getElem? ht
  exact (show Tryz.prog.wantsStandIn 52 = false by kernel_rfl)

theorem proved : Rows.FnExactLooseNamesCardSaid :=
  Claim7.holds_tied_plain_at .later [] _ _ _ _ said (fun _ h => by cases h) (by kernel_rfl) (fun _ h => by cases h) fnExactLooseNames_row_tie rfl ⟨rfl, rfl⟩ (by kernel_rfl) rfl plain (by kernel_rfl)
end Go.Proofs.YtiehfobcbhgfkaaGreatDoor.fnExactLooseNames
