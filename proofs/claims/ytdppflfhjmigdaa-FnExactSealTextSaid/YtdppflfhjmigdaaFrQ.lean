/-
  Contracts of impl's frames: both forms meet one interface; EndMark.
-/
import Derived.Test.YtdppflfhjmigdaaFrP
import Derived.Test.YtdppflfhjmigdaaNumY
import Derived.Test.YtdppflfhjmigdaaSumI
import Derived.Test.YtdppflfhjmigdaaLater
import Derived.Handy
namespace Go.Proofs.Ytdppflfhjmigdaa.fr
set_option maxRecDepth 20000
open Go.RowKit
open kit sum num burst hd

theorem implSumT (t : ByteArray) (w : World) (hm : t.size ≤ 9223372036854775807) :
    Calls Try.prog 31 #[.string t] w fun e w' => e = .returned (.int .i64 ((sumT t : Nat) : Int)) ∧ w = w' := by
  rw [← sum_zero]
  exact implOf_any t w hm
theorem implFixL (n k : Int) (w : World) : Calls Try.prog 30 #[.int .i64 n, .int .i64 k] w fun e w' => e = .returned (.string (fxI n k)) ∧ Below w.heap.size w w' := implFix_any n k w
theorem implVarL (n : Int) (w : World) : Calls Try.prog 50 #[.int .i64 n] w fun e w' => e = .returned (.string (vtI n)) ∧ Below w.heap.size w w' := implVar_any n w
/-- the form of a version and a place -/
def form (v p : Int) : Value := if v = 1 then .iface 64 (.agg #[]) else .iface 66 (.agg #[.int .i64 p])
theorem form_old (p : Int) : form 1 p = .iface 64 (.agg #[]) := if_pos rfl
theorem form_new (p : Int) : form 2 p = .iface 66 (.agg #[.int .i64 p]) := if_neg (by decide)

theorem formOf_ok (v p : Int) (w : World) (hv : okV v p = true) :
    Calls Try.prog 32 #[.int .i64 v, .int .i64 p] w fun e w' => e = .returned (.tuple #[form v p, .bool true]) ∧ w = w' := by
  obtain ⟨h1, h2, h3, h4⟩ := okV_is.1 hv
  have g1 : ¬ p < 0 := by omega
  have g2 : ¬ (1000000000 : Int) < p := by omega
  rcases okV_two hv with rfl | rfl
  · have HE := Lib.hid (form_old p)
    clear hv h1 h2 h3 h4
    go_enter Try.func32, Try.ntmps32
    go_wp2
    go_ret2
    exact ⟨by rw [HE.out]; rfl, rfl⟩
  · have HE := Lib.hid (form_new p)
    clear hv h1 h2 h3 h4
    go_enter Try.func32, Try.ntmps32
    go_wp2
    go_ret2
    exact ⟨by rw [HE.out]; rfl, rfl⟩
theorem formOf_no (v p : Int) (w : World) (hv : okV v p = false) :
    Calls Try.prog 32 #[.int .i64 v, .int .i64 p] w fun e w' => e = .returned (.tuple #[.nilIface, .bool false]) ∧ w = w' := by
  by_cases g1 : p < 0
  · clear hv
    go_enter Try.func32, Try.ntmps32
    go_wp2
    go_ret2
    exact ⟨rfl, rfl⟩
  · by_cases g2 : (1000000000 : Int) < p
    · clear hv
      go_enter Try.func32, Try.ntmps32
      go_wp2
      go_ret2
      exact ⟨rfl, rfl⟩
    · have g3 : ¬ v = 1 := by have := okV_no.1 hv; omega
      have g4 : ¬ v = 2 := by have := okV_no.1 hv; omega
      have e3 : decide (v = 1) = false := decide_eq_false g3
      have e4 : decide (v = 2) = false := decide_eq_false g4
      clear hv
      go_enter Try.func32, Try.ntmps32
      go_wp2
      go_ret2
      exact ⟨rfl, rfl⟩

theorem old_mark (w : World) :
    Calls Try.prog 74 #[.agg #[]] w fun e w' => e = .returned (.string { data := #[255, 255, 255, 255, 15] }) ∧ Below w.heap.size w w' := by
  go_enter Try.func74, Try.ntmps74
  go_wp2
  go_ret
  exact ⟨rfl, (Below.refl _ _).alloc (Nat.le_refl _) _⟩
theorem new_opening (p n : Int) (w : World) :
    Calls Try.prog 78 #[.agg #[.int .i64 p], .int .i64 n] w fun e w' => e = .returned (.string (fxI n 4 ++ fxI ((sumT (fxI p 8 ++ fxI n 4) : Nat) : Int) 4)) ∧ Below w.heap.size w w' := by
  obtain ⟨W, hW⟩ : ∃ W, W = w.alloc (.cells #[.int .i64 p] 66) := ⟨_, rfl⟩
  have hb : Below w.heap.size w W := by rw [hW]; exact (Below.refl _ _).alloc (Nat.le_refl _) _
  have z0 : w.heap.size < W.heap.size := by rw [hW]; simp
  have x0 : W.cell? ⟨w.heap.size, 0, none⟩ = some (.int .i64 p) := by rw [hW]; simp
  have HW := Lib.hid hW
  have HB := Lib.hid hb
  have n1 := fxI_size n 4
  have n2 := fxI_size p 8
  have CA := Lib.hid (fun w => implFixL n 4 w)
  have CP := Lib.hid (fun w => implFixL p 8 w)
  obtain ⟨L, hL⟩ : ∃ L, fxI n 4 = L := ⟨_, rfl⟩
  obtain ⟨P8, hP⟩ : ∃ P8, fxI p 8 = P8 := ⟨_, rfl⟩
  rw [hL] at CA n1 ⊢
  rw [hP] at CP n2 ⊢
  have CU := Lib.hid (fun w => implSumT (P8 ++ L) w (by rw [ByteArray.size_append]; omega))
  have n3 := fxI_size ((sumT (P8 ++ L) : Nat) : Int) 4
  have CW := Lib.hid (fun w => implFixL ((sumT (P8 ++ L) : Nat) : Int) 4 w)
  obtain ⟨U, hU⟩ : ∃ U, fxI ((sumT (P8 ++ L) : Nat) : Int) 4 = U := ⟨_, rfl⟩
  rw [hU] at n3 CW ⊢
  clear hU hL hP hb hW
  go_enter Try.func78, Try.ntmps78
  go_wp2_with (fail)
  rw [← HW.out]
  refine (CA.out _).mono ?_
  rintro e w1 ⟨rfl, b1⟩
  have B1 := Lib.hid (HB.out.trans (b1.mono (Nat.le_of_lt z0)))
  have y0 : w1.cell? ⟨w.heap.size, 0, none⟩ = some (.int .i64 p) := (b1.cell (p := ⟨w.heap.size, 0, none⟩) z0).trans x0
  clear b1 x0
  go_wp2_with (fail)
  refine (CP.out _).mono ?_
  rintro e w2 ⟨rfl, b2⟩
  have B2 := Lib.hid (B1.out.trans (b2.mono B1.out.size))
  clear b2
  go_wp2_with (fail)
  refine (CU.out _).mono ?_
  rintro e w' ⟨rfl, rfl⟩
  go_wp2_with (fail)
  refine (CW.out _).mono ?_
  rintro e w3 ⟨rfl, b3⟩
  go_wp2
  go_ret
  exact ⟨rfl, B2.out.trans (b3.mono B2.out.size)⟩
theorem new_mark (p : Int) (w : World) :
    Calls Try.prog 77 #[.agg #[.int .i64 p]] w fun e w' => e = .returned (.string (hdr p 4294967295)) ∧ Below w.heap.size w w' := by
  have CO := Lib.hid (new_opening p 4294967295 (w.alloc (.cells #[.int .i64 p] 66)))
  have HB := Lib.hid ((Below.refl w.heap.size w).alloc (Nat.le_refl _) (.cells #[.int .i64 p] 66))
  have HE := Lib.hid (show fxI 4294967295 4 ++ fxI ((sumT (fxI p 8 ++ fxI 4294967295 4) : Nat) : Int) 4 = hdr p 4294967295 from rfl)
  obtain ⟨X, hX⟩ : ∃ X, fxI 4294967295 4 ++ fxI ((sumT (fxI p 8 ++ fxI 4294967295 4) : Nat) : Int) 4 = X := ⟨_, rfl⟩
  rw [hX] at CO HE
  clear hX
  go_enter Try.func77, Try.ntmps77
  go_wp2_with (fail)
  refine CO.out.mono ?_
  rintro e w1 ⟨rfl, b1⟩
  go_wp2
  go_ret
  exact ⟨by rw [HE.out]; rfl, HB.out.trans (b1.mono HB.out.size)⟩
theorem implMark_any (v p : Int) (w : World) :
    Calls Try.prog 35 #[.int .i64 v, .int .i64 p] w fun e w' => e = .returned (.string (emT v p)) ∧ Below w.heap.size w w' := by
  cases hv : okV v p with
  | true =>
    have C1 := Lib.hid (fun w => formOf_ok v p w hv)
    rcases okV_two hv with rfl | rfl
    · rw [form_old] at C1
      have HE := Lib.hid (emT_old hv)
      clear hv
      go_enter Try.func35, Try.ntmps35
      go_wp2_with (fail)
      refine (C1.out _).mono ?_
      rintro e w' ⟨rfl, rfl⟩
      go_wp2_with (fail)
      refine (old_mark _).mono ?_
      rintro e w1 ⟨rfl, b1⟩
      go_wp2
      go_ret
      exact ⟨by rw [HE.out]; rfl, b1⟩
    · rw [form_new] at C1
      have HE := Lib.hid (emT_new hv)
      have CM := Lib.hid (fun w => new_mark p w)
      obtain ⟨X, hX⟩ : ∃ X, hdr p 4294967295 = X := ⟨_, rfl⟩
      rw [hX] at CM HE
      clear hv hX
      go_enter Try.func35, Try.ntmps35
      go_wp2_with (fail)
      refine (C1.out _).mono ?_
      rintro e w' ⟨rfl, rfl⟩
      go_wp2_with (fail)
      refine (CM.out _).mono ?_
      rintro e w1 ⟨rfl, b1⟩
      go_wp2
      go_ret
      exact ⟨by rw [HE.out]; rfl, b1⟩
  | false =>
    have HE := Lib.hid (emT_no hv)
    have C1 := Lib.hid (fun w => formOf_no v p w hv)
    clear hv
    go_enter Try.func35, Try.ntmps35
    go_wp2_with (fail)
    refine (C1.out _).mono ?_
    rintro e w' ⟨rfl, rfl⟩
    go_wp2
    go_ret
    exact ⟨by rw [HE.out]; rfl, Below.refl _ _⟩

end Go.Proofs.Ytdppflfhjmigdaa.fr

namespace Go.Proofs.Ytdppflfhjmigdaa.fr
set_option maxRecDepth 20000
open Go.RowKit
open kit sum num burst hd

/-! ### the methods -/
theorem old_opening (n : Int) (w : World) :
    Calls Try.prog 75 #[.agg #[], .int .i64 n] w fun e w' => e = .returned (.string (vtI n)) ∧ Below w.heap.size w w' := by
  go_enter Try.func75, Try.ntmps75
  go_wp2_with (fail)
  refine (implVarL _ _).mono ?_
  rintro e w1 ⟨rfl, b1⟩
  go_wp2
  go_ret
  exact ⟨rfl, ((Below.refl _ _).alloc (Nat.le_refl _) _).trans (b1.mono (by simp))⟩
/-! ### written -/
set_option maxHeartbeats 1000000 in
theorem implFrame_ok (v p : Int) (r : ByteArray) (w : World) (hv : okV v p = true) (hr : r.size ≤ 60) :
    Calls Try.prog 18 #[.int .i64 v, .int .i64 p, .string r] w fun e w' => e = .returned (.string (frT v p r)) ∧ Below w.heap.size w w' := by
  have C1 := Lib.hid (fun w => formOf_ok v p w hv)
  have CS := Lib.hid (fun w => implSumT r w (by omega))
  have nT := fxI_size ((sumT r : Nat) : Int) 4
  have CT := Lib.hid (fun w => implFixL ((sumT r : Nat) : Int) 4 w)
  have HT := Lib.hid (show fx4 (sumT r) = fxI ((sumT r : Nat) : Int) 4 from rfl)
  obtain ⟨T, hT⟩ : ∃ T, fxI ((sumT r : Nat) : Int) 4 = T := ⟨_, rfl⟩
  rw [hT] at nT CT HT
  have g60 : ¬ (60 : Int) < (r.size : Int) := by omega
  clear hT
  rcases okV_two hv with rfl | rfl
  · rw [form_old] at C1
    have HE := Lib.hid (frT_old hv hr)
    have CV := Lib.hid (fun w => old_opening (r.size : Int) w)
    have nV := vtI_size (r.size : Int)
    have HO := Lib.hid (show frO r = vtI (r.size : Int) ++ r ++ T by unfold frO; rw [HT.out])
    obtain ⟨V, hV⟩ : ∃ V, vtI (r.size : Int) = V := ⟨_, rfl⟩
    rw [hV] at CV nV HO
    clear hV hv
    go_enter Try.func18, Try.ntmps18
    go_wp2_with (fail)
    refine (C1.out _).mono ?_
    rintro e w' ⟨rfl, rfl⟩
    go_wp2_with (fail)
    refine (CV.out _).mono ?_
    rintro e w1 ⟨rfl, b1⟩
    go_wp2_with (fail)
    refine (CS.out _).mono ?_
    rintro e w' ⟨rfl, rfl⟩
    go_wp2_with (fail)
    refine (CT.out _).mono ?_
    rintro e w2 ⟨rfl, b2⟩
    have B2 := Lib.hid (b1.trans (b2.mono b1.size))
    clear b1 b2
    go_wp2
    go_ret
    exact ⟨by rw [HE.out, HO.out]; rfl, B2.out⟩
  · rw [form_new] at C1
    have HE := Lib.hid (frT_new hv hr)
    have CV := Lib.hid (fun w => new_opening p (r.size : Int) w)
    have nV : (fxI (r.size : Int) 4 ++ fxI ((sumT (fxI p 8 ++ fxI (r.size : Int) 4) : Nat) : Int) 4).size ≤ 16 := by
      have h1 := fxI_size (r.size : Int) 4
      have h2 := fxI_size ((sumT (fxI p 8 ++ fxI (r.size : Int) 4) : Nat) : Int) 4
      rw [ByteArray.size_append]
      omega
    have HO := Lib.hid (show frN p r = fxI (r.size : Int) 4 ++ fxI ((sumT (fxI p 8 ++ fxI (r.size : Int) 4) : Nat) : Int) 4 ++ r ++ T by unfold frN; rw [HT.out]; rfl)
    obtain ⟨V, hV⟩ : ∃ V, fxI (r.size : Int) 4 ++ fxI ((sumT (fxI p 8 ++ fxI (r.size : Int) 4) : Nat) : Int) 4 = V := ⟨_, rfl⟩
    rw [hV] at CV nV HO
    clear hV hv
    go_enter Try.func18, Try.ntmps18
    go_wp2_with (fail)
    refine (C1.out _).mono ?_
    rintro e w' ⟨rfl, rfl⟩
    go_wp2_with (fail)
    refine (CV.out _).mono ?_
    rintro e w1 ⟨rfl, b1⟩
    go_wp2_with (fail)
    refine (CS.out _).mono ?_
    rintro e w' ⟨rfl, rfl⟩
    go_wp2_with (fail)
    refine (CT.out _).mono ?_
    rintro e w2 ⟨rfl, b2⟩
    have B2 := Lib.hid (b1.trans (b2.mono b1.size))
    clear b1 b2
    go_wp2
    go_ret
    exact ⟨by rw [HE.out, HO.out]; rfl, B2.out⟩
theorem implFrame_all (v p : Int) (r : ByteArray) (w : World) :
    Calls Try.prog 18 #[.int .i64 v, .int .i64 p, .string r] w fun e w' => e = .returned (.string (frT v p r)) ∧ Below w.heap.size w w' := by
  cases hv : okV v p with
  | true =>
    by_cases hr : r.size ≤ 60
    · exact implFrame_ok v p r w hv hr
    · have HE := Lib.hid (frT_no (v := v) (p := p) (r := r) fun h => hr h.2)
      have C1 := Lib.hid (fun w => formOf_ok v p w hv)
      obtain ⟨f, hf⟩ : ∃ f, form v p = f := ⟨_, rfl⟩
      rw [hf] at C1
      have g60 : (60 : Int) < (r.size : Int) := by omega
      clear hv hr hf
      go_enter Try.func18, Try.ntmps18
      go_wp2_with (fail)
      refine (C1.out _).mono ?_
      rintro e w' ⟨rfl, rfl⟩
      go_wp2
      go_ret
      exact ⟨by rw [HE.out]; rfl, Below.refl _ _⟩
  | false =>
    have HE := Lib.hid (frT_no (v := v) (p := p) (r := r) fun h => by rw [hv] at h; exact absurd h.1 (by decide))
    have C1 := Lib.hid (fun w => formOf_no v p w hv)
    clear hv
    go_enter Try.func18, Try.ntmps18
    go_wp2_with (fail)
    refine (C1.out _).mono ?_
    rintro e w' ⟨rfl, rfl⟩
    go_wp2
    go_ret
    exact ⟨by rw [HE.out]; rfl, Below.refl _ _⟩
theorem implFrame_any (v p : Int) (r : ByteArray) (w : World) (_hm : r.size ≤ 9223372036854775807) :
    Calls Try.prog 18 #[.int .i64 v, .int .i64 p, .string r] w fun e w' => e = .returned (.string (frT v p r)) ∧ Below w.heap.size w w' := implFrame_all v p r w
end Go.Proofs.Ytdppflfhjmigdaa.fr
