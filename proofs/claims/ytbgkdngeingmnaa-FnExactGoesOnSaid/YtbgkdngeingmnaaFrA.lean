/-
  Contracts of spec's frames: FrameText, FrameSize, EndMark.
-/
import Derived.Test.YtbgkdngeingmnaaFrMath
import Derived.Test.YtbgkdngeingmnaaNumC
import Derived.Test.YtbgkdngeingmnaaSumB
namespace Go.Proofs.Ytbgkdngeingmnaa.fr
set_option maxRecDepth 20000
open Go.RowKit
open kit sum num burst hd

theorem sum_zero (t : ByteArray) : more 0 t = sumT t := by
  unfold more sumT sumMore
  rw [show low 0 = 0 from rfl, Nat.zero_xor]
theorem specSum (t : ByteArray) (w : World) (hm : t.size ≤ 9223372036854775807) :
    Calls Try.prog 51 #[.string t] w fun e w' => e = .returned (.int .i64 ((sumT t : Nat) : Int)) ∧ w = w' := by
  rw [← sum_zero]
  exact specOf_any t w hm
/-- what is not right -/
theorem okV_bad {v p : Int} (h : okV v p = false) : (v < 1 ∨ 2 < v) ∨ (1 ≤ v ∧ v ≤ 2 ∧ (p < 0 ∨ 1000000000 < p)) := by
  have := okV_no.1 h
  omega

set_option maxHeartbeats 1000000 in
theorem specFrame_ok (v p : Int) (r : ByteArray) (w : World) (hv : okV v p = true) (hr : r.size ≤ 60) :
    Calls Try.prog 22 #[.int .i64 v, .int .i64 p, .string r] w fun e w' => e = .returned (.string (frT v p r)) ∧ Below w.heap.size w w' := by
  obtain ⟨h1, h2, h3, h4⟩ := okV_is.1 hv
  have two := okV_two hv
  have C1 := Lib.hid (fun w => in_yes v 1 2 w h1 h2)
  have C2 := Lib.hid (fun w => in_yes p 0 1000000000 w h3 h4)
  have CS := Lib.hid (fun w => specSum r w (by omega))
  have nT := fxI_size ((sumT r : Nat) : Int) 4
  have CT := Lib.hid (fun w => specFix_any ((sumT r : Nat) : Int) 4 w)
  have HT := Lib.hid (show fx4 (sumT r) = fxI ((sumT r : Nat) : Int) 4 from rfl)
  obtain ⟨T, hT⟩ : ∃ T, fxI ((sumT r : Nat) : Int) 4 = T := ⟨_, rfl⟩
  rw [hT] at nT CT HT
  have g60 : ¬ (60 : Int) < (r.size : Int) := by omega
  clear hT
  rcases two with rfl | rfl
  · have HE := Lib.hid (frT_old hv hr)
    have CV := Lib.hid (fun w => specVar_any (r.size : Int) w)
    have nV := vtI_size (r.size : Int)
    have HO := Lib.hid (show frO r = vtI (r.size : Int) ++ r ++ T by unfold frO; rw [HT.out])
    obtain ⟨V, hV⟩ : ∃ V, vtI (r.size : Int) = V := ⟨_, rfl⟩
    rw [hV] at CV nV HO
    clear hV hv h1 h2 h3 h4
    go_enter Try.func22, Try.ntmps22
    go_wp2_with (fail)
    refine (C1.out _).mono ?_
    rintro e w' ⟨rfl, rfl⟩
    go_wp2_with (fail)
    refine (C2.out _).mono ?_
    rintro e w' ⟨rfl, rfl⟩
    go_wp2_with (fail)
    refine (CS.out _).mono ?_
    rintro e w' ⟨rfl, rfl⟩
    go_wp2_with (fail)
    refine (CT.out _).mono ?_
    rintro e w1 ⟨rfl, b1⟩
    go_wp2_with (fail)
    refine (CV.out _).mono ?_
    rintro e w2 ⟨rfl, b2⟩
    have B2 := Lib.hid (b1.trans (b2.mono b1.size))
    clear b1 b2
    go_wp2
    go_ret
    exact ⟨by rw [HE.out, HO.out]; rfl, B2.out⟩
  · have HE := Lib.hid (frT_new hv hr)
    have n1 := fxI_size (r.size : Int) 4
    have n2 := fxI_size p 8
    have HO := Lib.hid (show frN p r = fxI (r.size : Int) 4 ++ fxI ((sumT (fxI p 8 ++ fxI (r.size : Int) 4) : Nat) : Int) 4 ++ r ++ T by unfold frN; rw [HT.out]; rfl)
    have CA := Lib.hid (fun w => specFix_any (r.size : Int) 4 w)
    have CP := Lib.hid (fun w => specFix_any p 8 w)
    obtain ⟨A, hA⟩ : ∃ A, fxI (r.size : Int) 4 = A := ⟨_, rfl⟩
    obtain ⟨P8, hP⟩ : ∃ P8, fxI p 8 = P8 := ⟨_, rfl⟩
    rw [hA] at CA n1 HO
    rw [hP] at CP n2 HO
    have CU := Lib.hid (fun w => specSum (P8 ++ A) w (by rw [ByteArray.size_append]; omega))
    have n3 := fxI_size ((sumT (P8 ++ A) : Nat) : Int) 4
    have CW := Lib.hid (fun w => specFix_any ((sumT (P8 ++ A) : Nat) : Int) 4 w)
    obtain ⟨U, hU⟩ : ∃ U, fxI ((sumT (P8 ++ A) : Nat) : Int) 4 = U := ⟨_, rfl⟩
    rw [hU] at n3 CW HO
    clear hU hA hP hv h1 h2 h3 h4
    go_enter Try.func22, Try.ntmps22
    go_wp2_with (fail)
    refine (C1.out _).mono ?_
    rintro e w' ⟨rfl, rfl⟩
    go_wp2_with (fail)
    refine (C2.out _).mono ?_
    rintro e w' ⟨rfl, rfl⟩
    go_wp2_with (fail)
    refine (CS.out _).mono ?_
    rintro e w' ⟨rfl, rfl⟩
    go_wp2_with (fail)
    refine (CT.out _).mono ?_
    rintro e w1 ⟨rfl, b1⟩
    go_wp2_with (fail)
    refine (CA.out _).mono ?_
    rintro e w2 ⟨rfl, b2⟩
    have B2 := Lib.hid (b1.trans (b2.mono b1.size))
    clear b1 b2
    go_wp2_with (fail)
    refine (CP.out _).mono ?_
    rintro e w3 ⟨rfl, b3⟩
    have B3 := Lib.hid (B2.out.trans (b3.mono B2.out.size))
    clear b3
    go_wp2_with (fail)
    refine (CU.out _).mono ?_
    rintro e w' ⟨rfl, rfl⟩
    go_wp2_with (fail)
    refine (CW.out _).mono ?_
    rintro e w4 ⟨rfl, b4⟩
    have B4 := Lib.hid (B3.out.trans (b4.mono B3.out.size))
    clear b4
    go_wp2
    go_ret
    exact ⟨by rw [HE.out, HO.out]; rfl, B4.out⟩
theorem specFrame_any (v p : Int) (r : ByteArray) (w : World) (hm : r.size ≤ 9223372036854775807) :
    Calls Try.prog 22 #[.int .i64 v, .int .i64 p, .string r] w fun e w' => e = .returned (.string (frT v p r)) ∧ Below w.heap.size w w' := by
  cases hv : okV v p with
  | true =>
    by_cases hr : r.size ≤ 60
    · exact specFrame_ok v p r w hv hr
    · obtain ⟨h1, h2, h3, h4⟩ := okV_is.1 hv
      have HE := Lib.hid (frT_no (v := v) (p := p) (r := r) fun h => hr h.2)
      have C1 := Lib.hid (fun w => in_yes v 1 2 w h1 h2)
      have C2 := Lib.hid (fun w => in_yes p 0 1000000000 w h3 h4)
      have g60 : (60 : Int) < (r.size : Int) := by omega
      clear hv hr h1 h2 h3 h4
      go_enter Try.func22, Try.ntmps22
      go_wp2_with (fail)
      refine (C1.out _).mono ?_
      rintro e w' ⟨rfl, rfl⟩
      go_wp2_with (fail)
      refine (C2.out _).mono ?_
      rintro e w' ⟨rfl, rfl⟩
      go_wp2
      go_ret
      exact ⟨by rw [HE.out]; rfl, Below.refl _ _⟩
  | false =>
    have HE := Lib.hid (frT_no (v := v) (p := p) (r := r) fun h => by rw [hv] at h; exact absurd h.1 (by decide))
    rcases okV_bad hv with h | ⟨h1, h2, h⟩
    · have C1 := Lib.hid (fun w => in_no v 1 2 w h)
      clear hv h
      go_enter Try.func22, Try.ntmps22
      go_wp2_with (fail)
      refine (C1.out _).mono ?_
      rintro e w' ⟨rfl, rfl⟩
      go_wp2
      go_ret
      exact ⟨by rw [HE.out]; rfl, Below.refl _ _⟩
    · have C1 := Lib.hid (fun w => in_yes v 1 2 w h1 h2)
      have C2 := Lib.hid (fun w => in_no p 0 1000000000 w h)
      clear hv h h1 h2
      go_enter Try.func22, Try.ntmps22
      go_wp2_with (fail)
      refine (C1.out _).mono ?_
      rintro e w' ⟨rfl, rfl⟩
      go_wp2_with (fail)
      refine (C2.out _).mono ?_
      rintro e w' ⟨rfl, rfl⟩
      go_wp2
      go_ret
      exact ⟨by rw [HE.out]; rfl, Below.refl _ _⟩
set_option maxHeartbeats 1000000 in
theorem specMark_any (v p : Int) (w : World) :
    Calls Try.prog 72 #[.int .i64 v, .int .i64 p] w fun e w' => e = .returned (.string (emT v p)) ∧ Below w.heap.size w w' := by
  cases hv : okV v p with
  | true =>
    obtain ⟨h1, h2, h3, h4⟩ := okV_is.1 hv
    have two := okV_two hv
    have C1 := Lib.hid (fun w => in_yes v 1 2 w h1 h2)
    have C2 := Lib.hid (fun w => in_yes p 0 1000000000 w h3 h4)
    rcases two with rfl | rfl
    · have HE := Lib.hid (emT_old hv)
      clear hv h1 h2 h3 h4
      go_enter Try.func72, Try.ntmps72
      go_wp2_with (fail)
      refine (C1.out _).mono ?_
      rintro e w' ⟨rfl, rfl⟩
      go_wp2_with (fail)
      refine (C2.out _).mono ?_
      rintro e w' ⟨rfl, rfl⟩
      go_wp2
      go_ret
      exact ⟨by rw [HE.out]; rfl, Below.refl _ _⟩
    · have HE := Lib.hid (emT_new hv)
      have n1 := fxI_size 4294967295 4
      have n2 := fxI_size p 8
      have HO := Lib.hid (show hdr p 4294967295 = fxI 4294967295 4 ++ fxI ((sumT (fxI p 8 ++ fxI 4294967295 4) : Nat) : Int) 4 from rfl)
      have CA := Lib.hid (fun w => specFix_any 4294967295 4 w)
      have CP := Lib.hid (fun w => specFix_any p 8 w)
      obtain ⟨A, hA⟩ : ∃ A, fxI 4294967295 4 = A := ⟨_, rfl⟩
      obtain ⟨P8, hP⟩ : ∃ P8, fxI p 8 = P8 := ⟨_, rfl⟩
      rw [hA] at CA n1 HO
      rw [hP] at CP n2 HO
      have CU := Lib.hid (fun w => specSum (P8 ++ A) w (by rw [ByteArray.size_append]; omega))
      have n3 := fxI_size ((sumT (P8 ++ A) : Nat) : Int) 4
      have CW := Lib.hid (fun w => specFix_any ((sumT (P8 ++ A) : Nat) : Int) 4 w)
      obtain ⟨U, hU⟩ : ∃ U, fxI ((sumT (P8 ++ A) : Nat) : Int) 4 = U := ⟨_, rfl⟩
      rw [hU] at n3 CW HO
      clear hU hA hP hv h1 h2 h3 h4
      go_enter Try.func72, Try.ntmps72
      go_wp2_with (fail)
      refine (C1.out _).mono ?_
      rintro e w' ⟨rfl, rfl⟩
      go_wp2_with (fail)
      refine (C2.out _).mono ?_
      rintro e w' ⟨rfl, rfl⟩
      go_wp2_with (fail)
      refine (CA.out _).mono ?_
      rintro e w2 ⟨rfl, b2⟩
      have B2 := Lib.hid b2
      clear b2
      go_wp2_with (fail)
      refine (CP.out _).mono ?_
      rintro e w3 ⟨rfl, b3⟩
      have B3 := Lib.hid (B2.out.trans (b3.mono B2.out.size))
      clear b3
      go_wp2_with (fail)
      refine (CU.out _).mono ?_
      rintro e w' ⟨rfl, rfl⟩
      go_wp2_with (fail)
      refine (CW.out _).mono ?_
      rintro e w4 ⟨rfl, b4⟩
      have B4 := Lib.hid (B3.out.trans (b4.mono B3.out.size))
      clear b4
      go_wp2
      go_ret
      exact ⟨by rw [HE.out, HO.out]; rfl, B4.out⟩
  | false =>
    have HE := Lib.hid (emT_no hv)
    rcases okV_bad hv with h | ⟨h1, h2, h⟩
    · have C1 := Lib.hid (fun w => in_no v 1 2 w h)
      clear hv h
      go_enter Try.func72, Try.ntmps72
      go_wp2_with (fail)
      refine (C1.out _).mono ?_
      rintro e w' ⟨rfl, rfl⟩
      go_wp2
      go_ret
      exact ⟨by rw [HE.out]; rfl, Below.refl _ _⟩
    · have C1 := Lib.hid (fun w => in_yes v 1 2 w h1 h2)
      have C2 := Lib.hid (fun w => in_no p 0 1000000000 w h)
      clear hv h h1 h2
      go_enter Try.func72, Try.ntmps72
      go_wp2_with (fail)
      refine (C1.out _).mono ?_
      rintro e w' ⟨rfl, rfl⟩
      go_wp2_with (fail)
      refine (C2.out _).mono ?_
      rintro e w' ⟨rfl, rfl⟩
      go_wp2
      go_ret
      exact ⟨by rw [HE.out]; rfl, Below.refl _ _⟩

end Go.Proofs.Ytbgkdngeingmnaa.fr
