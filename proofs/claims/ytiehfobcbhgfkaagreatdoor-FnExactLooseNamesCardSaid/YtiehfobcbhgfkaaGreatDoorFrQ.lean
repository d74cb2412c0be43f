/-
  Contracts of impl's frames: both forms meet one interface; EndMark.
-/
import Derived.Test.YtiehfobcbhgfkaaGreatDoorFrP
import Derived.Test.YtiehfobcbhgfkaaGreatDoorNumY
import Derived.Test.YtiehfobcbhgfkaaGreatDoorLater
import Derived.Handy
namespace Go.Proofs.YtiehfobcbhgfkaaGreatDoor.fr
set_option maxRecDepth 20000
open Go.RowKit
open kit sum num burst hd

theorem implSumT (t : ByteArray) (w : World) (hm : t.size ≤ 9223372036854775807) :
    Calls Tryz.prog 217 #[.string t] w fun e w' => e = .returned (.int .i64 ((sumT t : Nat) : Int)) ∧ w = w' := by
  rw [← sum_zero]
  exact implOf_any t w hm
theorem implFixL (n k : Int) (w : World) : Calls Tryz.prog 180 #[.int .i64 n, .int .i64 k] w fun e w' => e = .returned (.string (fxI n k)) ∧ Below w.heap.size w w' := implFix_any n k w
theorem implVarL (n : Int) (w : World) : Calls Tryz.prog 266 #[.int .i64 n] w fun e w' => e = .returned (.string (vtI n)) ∧ Below w.heap.size w w' := implVar_any n w
/-- the form of a version and a place -/
def form (v p : Int) : Value := if v = 1 then .iface 237 (.agg #[]) else .iface 239 (.agg #[.int .i64 p])
theorem form_old (p : Int) : form 1 p = .iface 237 (.agg #[]) := if_pos rfl
theorem form_new (p : Int) : form 2 p = .iface 239 (.agg #[.int .i64 p]) := if_neg (by decide)

theorem formOf_ok (v p : Int) (w : World) (hv : okV v p = true) :
    Calls Tryz.prog 235 #[.int .i64 v, .int .i64 p] w fun e w' => e = .returned (.tuple #[form v p, .bool true]) ∧ w = w' := by
  obtain ⟨h1, h2, h3, h4⟩ := okV_is.1 hv
  have g1 : ¬ p < 0 := by omega
  have g2 : ¬ (1000000000 : Int) < p := by omega
  rcases okV_two hv with rfl | rfl
  · have HE := Lib.hid (form_old p)
    clear hv h1 h2 h3 h4
    go_enter Tryz.func235, Tryz.ntmps235
    go_wp2
    go_ret2
    exact ⟨by rw [HE.out]; rfl, rfl⟩
  · have HE := Lib.hid (form_new p)
    clear hv h1 h2 h3 h4
    go_enter Tryz.func235, Tryz.ntmps235
    go_wp2
    go_ret2
    exact ⟨by rw [HE.out]; rfl, rfl⟩
theorem formOf_no (v p : Int) (w : World) (hv : okV v p = false) :
    Calls Tryz.prog 235 #[.int .i64 v, .int .i64 p] w fun e w' => e = .returned (.tuple #[.nilIface, .bool false]) ∧ w = w' := by
  by_cases g1 : p < 0
  · clear hv
    go_enter Tryz.func235, Tryz.ntmps235
    go_wp2
    go_ret2
    exact ⟨rfl, rfl⟩
  · by_cases g2 : (1000000000 : Int) < p
    · clear hv
      go_enter Tryz.func235, Tryz.ntmps235
      go_wp2
      go_ret2
      exact ⟨rfl, rfl⟩
    · have g3 : ¬ v = 1 := by have := okV_no.1 hv; omega
      have g4 : ¬ v = 2 := by have := okV_no.1 hv; omega
      have e3 : decide (v = 1) = false := decide_eq_false g3
      have e4 : decide (v = 2) = false := decide_eq_false g4
      clear hv
      go_enter Tryz.func235, Tryz.ntmps235
      go_wp2
      go_ret2
      exact ⟨rfl, rfl⟩

theorem old_mark (w : World) :
    Calls Tryz.prog 263 #[.agg #[]] w fun e w' => e = .returned (.string { data := #[255, 255, 255, 255, 15] }) ∧ Below w.heap.size w w' := by
  go_enter Tryz.func263, Tryz.ntmps263
  go_wp2
  go_ret
  exact ⟨rfl, (Below.refl _ _).alloc (Nat.le_refl _) _⟩
theorem new_opening (p n : Int) (w : World) :
    Calls Tryz.prog 270 #[.agg #[.int .i64 p], .int .i64 n] w fun e w' => e = .returned (.string (fxI n 4 ++ fxI ((sumT (fxI p 8 ++ fxI n 4) : Nat) : Int) 4)) ∧ Below w.heap.size w w' := by
  obtain ⟨W, hW⟩ : ∃ W, W = w.alloc (.cells #[.int .i64 p] 239) := ⟨_, rfl⟩
  have hb : Below w.heap.size w W := by rw [hW]; exact (Below.refl _ _).alloc (Nat.le_refl _) _
  have z0 : w.heap.size < W.heap.size := by rw [hW]; simp
  have x0 : W.cell? ⟨w.heap.size, 0, none⟩ = some (.int .i64 p) := by rw [hW]; simp
  have HW := Lib.hid hW
  have HB := Lib.hid hb
  have n1 := fxI_size n 4
  have n2 := fxI_size p 8
  have CA := Lib.hid (fun w => implFixL n 4 w)
  have CP := Lib.hid (fun w => implFixL p 8 w)
  obtain ⟨L, hL⟩ : ∃ L, fxI n 4 = L := ⟨_, rfl⟩
  obtain ⟨P8, hP⟩ : ∃ P8, fxI p 8 = P8 := ⟨_, rfl⟩
  rw [hL] at CA n1 ⊢
  rw [hP] at CP n2 ⊢
  have CU := Lib.hid (fun w => implSumT (P8 ++ L) w (by rw [ByteArray.size_append]; omega))
  have n3 := fxI_size ((sumT (P8 ++ L) : Nat) : Int) 4
  have CW := Lib.hid (fun w => implFixL ((sumT (P8 ++ L) : Nat) : Int) 4 w)
  obtain ⟨U, hU⟩ : ∃ U, fxI ((sumT (P8 ++ L) : Nat) : Int) 4 = U := ⟨_, rfl⟩
  rw [hU] at n3 CW ⊢
  clear hU hL hP hb hW
  go_enter Tryz.func270, Tryz.ntmps270
  go_wp2_with (fail)
  rw [← HW.out]
  refine (CA.out _).mono ?_
  rintro e w1 ⟨rfl, b1⟩
  have B1 := Lib.hid (HB.out.trans (b1.mono (Nat.le_of_lt z0)))
  have y0 : w1.cell? ⟨w.heap.size, 0, none⟩ = some (.int .i64 p) := (b1.cell (p := ⟨w.heap.size, 0, none⟩) z0).trans x0
  clear b1 x0
  go_wp2_with (fail)
  refine (CP.out _).mono ?_
  rintro e w2 ⟨rfl, b2⟩
  have B2 := Lib.hid (B1.out.trans (b2.mono B1.out.size))
  clear b2
  go_wp2_with (fail)
  refine (CU.out _).mono ?_
  rintro e w' ⟨rfl, rfl⟩
  go_wp2_with (fail)
  refine (CW.out _).mono ?_
  rintro e w3 ⟨rfl, b3⟩
  go_wp2
  go_ret
  exact ⟨rfl, B2.out.trans (b3.mono B2.out.size)⟩
theorem new_mark (p : Int) (w : World) :
    Calls Tryz.prog 269 #[.agg #[.int .i64 p]] w fun e w' => e = .returned (.string (hdr p 4294967295)) ∧ Below w.heap.size w w' := by
  have CO := Lib.hid (new_opening p 4294967295 (w.alloc (.cells #[.int .i64 p] 239)))
  have HB := Lib.hid ((Below.refl w.heap.size w).alloc (Nat.le_refl _) (.cells #[.int .i64 p] 239))
  have HE := Lib.hid (show fxI 4294967295 4 ++ fxI ((sumT (fxI p 8 ++ fxI 4294967295 4) : Nat) : Int) 4 = hdr p 4294967295 from rfl)
  obtain ⟨X, hX⟩ : ∃ X, fxI 4294967295 4 ++ fxI ((sumT (fxI p 8 ++ fxI 4294967295 4) : Nat) : Int) 4 = X := ⟨_, rfl⟩
  rw [hX] at CO HE
  clear hX
  go_enter Tryz.func269, Tryz.ntmps269
  go_wp2_with (fail)
  refine CO.out.mono ?_
  rintro e w1 ⟨rfl, b1⟩
  go_wp2
  go_ret
  exact ⟨by rw [HE.out]; rfl, HB.out.trans (b1.mono HB.out.size)⟩
theorem implMark_any (v p : Int) (w : World) :
    Calls Tryz.prog 221 #[.int .i64 v, .int .i64 p] w fun e w' => e = .returned (.string (emT v p)) ∧ Below w.heap.size w w' := by
  cases hv : okV v p with
  | true =>
    have C1 := Lib.hid (fun w => formOf_ok v p w hv)
    rcases okV_two hv with rfl | rfl
    · rw [form_old] at C1
      have HE := Lib.hid (emT_old hv)
      clear hv
      go_enter Tryz.func221, Tryz.ntmps221
      go_wp2_with (fail)
      refine (C1.out _).mono ?_
      rintro e w' ⟨rfl, rfl⟩
      go_wp2_with (fail)
      refine (old_mark _).mono ?_
      rintro e w1 ⟨rfl, b1⟩
      go_wp2
      go_ret
      exact ⟨by rw [HE.out]; rfl, b1⟩
    · rw [form_new] at C1
      have HE := Lib.hid (emT_new hv)
      have CM := Lib.hid (fun w => new_mark p w)
      obtain ⟨X, hX⟩ : ∃ X, hdr p 4294967295 = X := ⟨_, rfl⟩
      rw [hX] at CM HE
      clear hv hX
      go_enter Tryz.func221, Tryz.ntmps221
      go_wp2_with (fail)
      refine (C1.out _).mono ?_
      rintro e w' ⟨rfl, rfl⟩
      go_wp2_with (fail)
      refine (CM.out _).mono ?_
      rintro e w1 ⟨rfl, b1⟩
      go_wp2
      go_ret
      exact ⟨by rw [HE.out]; rfl, b1⟩
  | false =>
    have HE := Lib.hid (emT_no hv)
    have C1 := Lib.hid (fun w => formOf_no v p w hv)
    clear hv
    go_enter Tryz.func221, Tryz.ntmps221
    go_wp2_with (fail)
    refine (C1.out _).mono ?_
    rintro e w' ⟨rfl, rfl⟩
    go_wp2
    go_ret
    exact ⟨by rw [HE.out]; rfl, Below.refl _ _⟩

end Go.Proofs.YtiehfobcbhgfkaaGreatDoor.fr

namespace Go.Proofs.YtiehfobcbhgfkaaGreatDoor.fr
set_option maxRecDepth 20000
open Go.RowKit
open kit sum num burst hd

/-! ### the methods -/
theorem old_opening (n : Int) (w : World) :
    Calls Tryz.prog 264 #[.agg #[], .int .i64 n] w fun e w' => e = .returned (.string (vtI n)) ∧ Below w.heap.size w w' := by
  go_enter Tryz.func264, Tryz.ntmps264
  go_wp2_with (fail)
  refine (implVarL _ _).mono ?_
  rintro e w1 ⟨rfl, b1⟩
  go_wp2
  go_ret
  exact ⟨rfl, ((Below.refl _ _).alloc (Nat.le_refl _) _).trans (b1.mono (by simp))⟩
/-! ### written -/
set_option maxHeartbeats 1000000 in
theorem implFrame_ok (v p : Int) (r : ByteArray) (w : World) (hv : okV v p = true) (hr : r.size ≤ 60) :
    Calls Tryz.prog 219 #[.int .i64 v, .int .i64 p, .string r] w fun e w' => e = .returned (.string (frT v p r)) ∧ Below w.heap.size w w' := by
  have C1 := Lib.hid (fun w => formOf_ok v p w hv)
  have CS := Lib.hid (fun w => implSumT r w (by omega))
  have nT := fxI_size ((sumT r : Nat) : Int) 4
  have CT := Lib.hid (fun w => implFixL ((sumT r : Nat) : Int) 4 w)
  have HT := Lib.hid (show fx4 (sumT r) = fxI ((sumT r : Nat) : Int) 4 from rfl)
  obtain ⟨T, hT⟩ : ∃ T, fxI ((sumT r : Nat) : Int) 4 = T := ⟨_, rfl⟩
  rw [hT] at nT CT HT
  have g60 : ¬ (60 : Int) < (r.size : Int) := by omega
  clear hT
  rcases okV_two hv with rfl | rfl
  · rw [form_old] at C1
    have HE := Lib.hid (frT_old hv hr)
    have CV := Lib.hid (fun w => old_opening (r.size : Int) w)
    have nV := vtI_size (r.size : Int)
    have HO := Lib.hid (show frO r = vtI (r.size : Int) ++ r ++ T by unfold frO; rw [HT.out])
    obtain ⟨V, hV⟩ : ∃ V, vtI (r.size : Int) = V := ⟨_, rfl⟩
    rw [hV] at CV nV HO
    clear hV hv
    go_enter Tryz.func219, Tryz.ntmps219
    go_wp2_with (fail)
    refine (C1.out _).mono ?_
    rintro e w' ⟨rfl, rfl⟩
    go_wp2_with (fail)
    refine (CV.out _).mono ?_
    rintro e w1 ⟨rfl, b1⟩
    go_wp2_with (fail)
    refine (CS.out _).mono ?_
    rintro e w' ⟨rfl, rfl⟩
    go_wp2_with (fail)
    refine (CT.out _).mono ?_
    rintro e w2 ⟨rfl, b2⟩
    have B2 := Lib.hid (b1.trans (b2.mono b1.size))
    clear b1 b2
    go_wp2
    go_ret
    exact ⟨by rw [HE.out, HO.out]; rfl, B2.out⟩
  · rw [form_new] at C1
    have HE := Lib.hid (frT_new hv hr)
    have CV := Lib.hid (fun w => new_opening p (r.size : Int) w)
    have nV : (fxI (r.size : Int) 4 ++ fxI ((sumT (fxI p 8 ++ fxI (r.size : Int) 4) : Nat) : Int) 4).size ≤ 16 := by
      have h1 := fxI_size (r.size : Int) 4
      have h2 := fxI_size ((sumT (fxI p 8 ++ fxI (r.size : Int) 4) : Nat) : Int) 4
      rw [ByteArray.size_append]
      omega
    have HO := Lib.hid (show frN p r = fxI (r.size : Int) 4 ++ fxI ((sumT (fxI p 8 ++ fxI (r.size : Int) 4) : Nat) : Int) 4 ++ r ++ T by unfold frN; rw [HT.out]; rfl)
    obtain ⟨V, hV⟩ : ∃ V, fxI (r.size : Int) 4 ++ fxI ((sumT (fxI p 8 ++ fxI (r.size : Int) 4) : Nat) : Int) 4 = V := ⟨_, rfl⟩
    rw [hV] at CV nV HO
    clear hV hv
    go_enter Tryz.func219, Tryz.ntmps219
    go_wp2_with (fail)
    refine (C1.out _).mono ?_
    rintro e w' ⟨rfl, rfl⟩
    go_wp2_with (fail)
    refine (CV.out _).mono ?_
    rintro e w1 ⟨rfl, b1⟩
    go_wp2_with (fail)
    refine (CS.out _).mono ?_
    rintro e w' ⟨rfl, rfl⟩
    go_wp2_with (fail)
    refine (CT.out _).mono ?_
    rintro e w2 ⟨rfl, b2⟩
    have B2 := Lib.hid (b1.trans (b2.mono b1.size))
    clear b1 b2
    go_wp2
    go_ret
    exact ⟨by rw [HE.out, HO.out]; rfl, B2.out⟩
theorem implFrame_all (v p : Int) (r : ByteArray) (w : World) :
    Calls Tryz.prog 219 #[.int .i64 v, .int .i64 p, .string r] w fun e w' => e = .returned (.string (frT v p r)) ∧ Below w.heap.size w w' := by
  cases hv : okV v p with
  | true =>
    by_cases hr : r.size ≤ 60
    · exact implFrame_ok v p r w hv hr
    · have HE := Lib.hid (frT_no (v := v) (p := p) (r := r) fun h => hr h.2)
      have C1 := Lib.hid (fun w => formOf_ok v p w hv)
      obtain ⟨f, hf⟩ : ∃ f, form v p = f := ⟨_, rfl⟩
      rw [hf] at C1
      have g60 : (60 : Int) < (r.size : Int) := by omega
      clear hv hr hf
      go_enter Tryz.func219, Tryz.ntmps219
      go_wp2_with (fail)
      refine (C1.out _).mono ?_
      rintro e w' ⟨rfl, rfl⟩
      go_wp2
      go_ret
      exact ⟨by rw [HE.out]; rfl, Below.refl _ _⟩
  | false =>
    have HE := Lib.hid (frT_no (v := v) (p := p) (r := r) fun h => by rw [hv] at h; exact absurd h.1 (by decide))
    have C1 := Lib.hid (fun w => formOf_no v p w hv)
    clear hv
    go_enter Tryz.func219, Tryz.ntmps219
    go_wp2_with (fail)
    refine (C1.out _).mono ?_
    rintro e w' ⟨rfl, rfl⟩
    go_wp2
    go_ret
    exact ⟨by rw [HE.out]; rfl, Below.refl _ _⟩
theorem implFrame_any (v p : Int) (r : ByteArray) (w : World) (_hm : r.size ≤ 9223372036854775807) :
    Calls Tryz.prog 219 #[.int .i64 v, .int .i64 p, .string r] w fun e w' => e = .returned (.string (frT v p r)) ∧ Below w.heap.size w w' := implFrame_all v p r w
end Go.Proofs.YtiehfobcbhgfkaaGreatDoor.fr

namespace Go.Proofs.YtiehfobcbhgfkaaGreatDoor.fr
set_option maxRecDepth 20000
open Go.RowKit
open kit sum num burst hd

theorem old_read (b : ByteArray) (a : Int) (w : World) (hm : b.size ≤ 1048576) :
    Calls Tryz.prog 265 #[.agg #[], .string b, .int .i64 a] w fun e w' => e = .returned (rvAt b a) ∧ Below w.heap.size w w' := by
  have CR := Lib.hid (fun w => implRead_any b a w hm)
  obtain ⟨n, q, k, hR⟩ := rv_any b a
  rw [hR] at CR ⊢
  clear hR
  go_enter Tryz.func265, Tryz.ntmps265
  go_wp2_with (fail)
  refine (CR.out _).mono ?_
  rintro e w1 ⟨rfl, rfl⟩
  go_wp2
  go_ret3
  exact ⟨rfl, (Below.refl _ _).alloc (Nat.le_refl _) _⟩

theorem new_read_in (p : Int) (b : ByteArray) (a n : Nat) (w : World) (hm : b.size ≤ 1048576) (ha : a + 4 ≤ b.size) (hR : rfAt b (a : Int) 4 = .tuple #[.int .i64 (n : Int), .bool true]) :
    Calls Tryz.prog 271 #[.agg #[.int .i64 p], .string b, .int .i64 (a : Int)] w fun e w' => e = .returned (.tuple #[.int .i64 (n : Int), .int .i64 ((a + 8 : Nat) : Int), .bool true]) ∧ Below w.heap.size w w' := by
  have CR := Lib.hid (fun w => implRf_any b (a : Int) 4 w hm)
  rw [hR] at CR
  clear hR
  go_enter Tryz.func271, Tryz.ntmps271
  go_wp2_with (fail)
  refine (CR.out _).mono ?_
  rintro e w1 ⟨rfl, rfl⟩
  go_wp2
  go_ret3
  exact ⟨rfl, (Below.refl _ _).alloc (Nat.le_refl _) _⟩
theorem new_read_out (p : Int) (b : ByteArray) (a : Int) (w : World) (hm : b.size ≤ 1048576) (hR : rfAt b a 4 = no1) :
    Calls Tryz.prog 271 #[.agg #[.int .i64 p], .string b, .int .i64 a] w fun e w' => e = .returned no2 ∧ Below w.heap.size w w' := by
  have CR := Lib.hid (fun w => implRf_any b a 4 w hm)
  rw [hR, show no1 = .tuple #[.int .i64 0, .bool false] from rfl] at CR
  clear hR
  go_enter Tryz.func271, Tryz.ntmps271
  go_wp2_with (fail)
  refine (CR.out _).mono ?_
  rintro e w1 ⟨rfl, rfl⟩
  go_wp2
  go_ret3
  exact ⟨rfl, (Below.refl _ _).alloc (Nat.le_refl _) _⟩

end Go.Proofs.YtiehfobcbhgfkaaGreatDoor.fr

namespace Go.Proofs.YtiehfobcbhgfkaaGreatDoor.fr
set_option maxRecDepth 20000
open Go.RowKit
open kit sum num burst hd

/-! ### a beginning -/
def beg (s t : ByteArray) : Bool := decide (t.size ≤ s.size ∧ s.extract 0 t.size = t)
theorem prefix_any (s t : ByteArray) (w : World) :
    Calls Tryz.prog 209 #[.string s, .string t] w fun e w' => e = .returned (.bool (beg s t)) ∧ w = w' := by
  by_cases h : t.size ≤ s.size
  · have g1 : (t.size : Int) ≤ (s.size : Int) := by omega
    by_cases he : s.extract 0 t.size = t
    · have hc : ((s.extract 0 t.size).toList == t.toList) = true := str_yes he
      have HE := Lib.hid (show beg s t = true from decide_eq_true ⟨h, he⟩)
      clear he
      go_enter Tryz.func209, Tryz.ntmps209
      go_wp2
      go_ret
      exact ⟨by rw [HE.out]; rfl, rfl⟩
    · have hc : ((s.extract 0 t.size).toList == t.toList) = false := str_ne he
      have HE := Lib.hid (show beg s t = false from decide_eq_false fun h => he h.2)
      clear he
      go_enter Tryz.func209, Tryz.ntmps209
      go_wp2
      go_ret
      exact ⟨by rw [HE.out]; rfl, rfl⟩
  · have g1 : ¬ (t.size : Int) ≤ (s.size : Int) := by omega
    have HE := Lib.hid (show beg s t = false from decide_eq_false fun h' => h h'.1)
    clear h
    go_enter Tryz.func209, Tryz.ntmps209
    go_wp2
    go_ret
    exact ⟨by rw [HE.out]; rfl, rfl⟩
theorem hasPrefix_any (s t : ByteArray) (w : World) :
    Calls Tryz.prog 168 #[.string s, .string t] w fun e w' => e = .returned (.bool (beg s t)) ∧ w = w' := by
  have C := Lib.hid (fun w => prefix_any s t w)
  obtain ⟨d, hd⟩ : ∃ d, beg s t = d := ⟨_, rfl⟩
  rw [hd] at C ⊢
  clear hd
  go_enter Tryz.func168, Tryz.ntmps168
  go_wp2_with (fail)
  refine (C.out _).mono ?_
  rintro e w' ⟨rfl, rfl⟩
  go_wp2
  go_ret
  exact ⟨rfl, rfl⟩
/-- a text stands there -/
def stands (b : ByteArray) (a : Int) (t : ByteArray) : Bool := decide (0 ≤ a ∧ a + (t.size : Int) ≤ b.size ∧ b.extract a.toNat (a.toNat + t.size) = t)
theorem ext_ext (b : ByteArray) (a k : Nat) (h : a + k ≤ b.size) : (b.extract a b.size).extract 0 k = b.extract a (a + k) := by
  rw [ByteArray.extract_extract, Nat.add_zero]
  congr 1
  omega
theorem isText_any (b : ByteArray) (a : Int) (t : ByteArray) (w : World) :
    Calls Tryz.prog 220 #[.string b, .int .i64 a, .string t] w fun e w' => e = .returned (.bool (stands b a t)) ∧ w = w' := by
  by_cases h0 : 0 ≤ a
  · by_cases h1 : a ≤ (b.size : Int)
    · obtain ⟨n, rfl⟩ := Int.eq_ofNat_of_zero_le h0
      have hs : (b.extract n b.size).size = b.size - n := by rw [ByteArray.size_extract]; omega
      have C := Lib.hid (fun w => hasPrefix_any (b.extract n b.size) t w)
      have HE := Lib.hid (show stands b (n : Int) t = beg (b.extract n b.size) t by
        unfold stands beg
        rw [hs, Int.toNat_natCast]
        refine decide_eq_decide.2 ?_
        constructor
        · rintro ⟨_, x, y⟩
          exact ⟨by omega, by rw [ext_ext _ _ _ (by omega)]; exact y⟩
        · rintro ⟨x, y⟩
          rw [ext_ext _ _ _ (by omega)] at y
          exact ⟨by omega, by omega, y⟩)
      obtain ⟨d, hd⟩ : ∃ d, beg (b.extract n b.size) t = d := ⟨_, rfl⟩
      rw [hd] at C HE
      clear hd hs
      go_enter Tryz.func220, Tryz.ntmps220
      go_wp2_with (fail)
      refine (C.out _).mono ?_
      rintro e w' ⟨rfl, rfl⟩
      go_wp2
      go_ret
      exact ⟨by rw [HE.out]; rfl, rfl⟩
    · have HE := Lib.hid (show stands b a t = false from decide_eq_false fun h => by have := h.2.1; omega)
      go_enter Tryz.func220, Tryz.ntmps220
      go_wp2
      go_ret
      exact ⟨by rw [HE.out]; rfl, rfl⟩
  · have HE := Lib.hid (show stands b a t = false from decide_eq_false fun h => h0 h.1)
    go_enter Tryz.func220, Tryz.ntmps220
    go_wp2
    go_ret
    exact ⟨by rw [HE.out]; rfl, rfl⟩

/-! ### the record that may stand there -/
def recN (v : Int) (b : ByteArray) (a : Nat) : Option ByteArray :=
  match lenF v b a with
  | none => none
  | some x => if x.1 ≤ 60 ∧ x.2 + x.1 ≤ b.size then some (b.extract x.2 (x.2 + x.1)) else none
theorem recN_none {v : Int} {b : ByteArray} {a : Nat} (h : lenF v b a = none) : recN v b a = none := by unfold recN; rw [h]
theorem recN_no {v : Int} {b : ByteArray} {a n q : Nat} (h : lenF v b a = some (n, q)) (hc : ¬ (n ≤ 60 ∧ q + n ≤ b.size)) : recN v b a = none := by unfold recN; rw [h]; exact if_neg hc
theorem recN_yes {v : Int} {b : ByteArray} {a n q : Nat} (h : lenF v b a = some (n, q)) (hc : n ≤ 60 ∧ q + n ≤ b.size) : recN v b a = some (b.extract q (q + n)) := by unfold recN; rw [h]; exact if_pos hc
theorem recN_size {v : Int} {b r : ByteArray} {a : Nat} (h : recN v b a = some r) : r.size ≤ 60 := by
  unfold recN at h
  split at h
  · cases h
  · split at h
    · next hc =>
      simp only [Option.some.injEq] at h
      subst h
      rw [ByteArray.size_extract]
      omega
    · cases h
theorem rdN_rec_none {v p : Int} {b : ByteArray} {a : Nat} (h : recN v b a = none) : rdN v p b a = none := by
  cases hL : lenF v b a with
  | none => exact rdN_none hL
  | some x =>
    refine rdN_no hL fun hc => ?_
    rw [recN_yes hL ⟨hc.1, hc.2.1⟩] at h
    cases h
theorem rdN_rec_some {v p : Int} {b r : ByteArray} {a : Nat} (h : recN v b a = some r) : rdN v p b a = if stands b (a : Int) (frT v p r) = true then some (r, a + (frT v p r).size) else none := by
  cases hL : lenF v b a with
  | none => rw [recN_none hL] at h; cases h
  | some x =>
    by_cases hc : x.1 ≤ 60 ∧ x.2 + x.1 ≤ b.size
    · rw [recN_yes hL hc] at h
      simp only [Option.some.injEq] at h
      subst h
      by_cases hs : stands b (a : Int) (frT v p (b.extract x.2 (x.2 + x.1))) = true
      · rw [if_pos hs]
        obtain ⟨_, h2, h3⟩ := of_decide_eq_true hs
        rw [Int.toNat_natCast] at h3
        exact rdN_yes hL ⟨hc.1, hc.2, by omega, h3⟩
      · rw [if_neg hs]
        refine rdN_no hL fun hk => hs ?_
        exact decide_eq_true ⟨by omega, by omega, by rw [Int.toNat_natCast]; exact hk.2.2.2⟩
    · rw [recN_no hL hc] at h
      cases h
def recR : Option ByteArray → Value
  | none => .tuple #[.string { data := #[] }, .bool false]
  | some r => .tuple #[.string r, .bool true]

set_option maxHeartbeats 1000000 in
theorem record_in (v p : Int) (b : ByteArray) (a : Nat) (w : World) (hm : b.size ≤ 1048576) (hv : okV v p = true) :
    Calls Tryz.prog 218 #[.int .i64 v, .int .i64 p, .string b, .int .i64 (a : Int)] w fun e w' => e = .returned (recR (recN v b a)) ∧ Below w.heap.size w w' := by
  have C1 := Lib.hid (fun w => formOf_ok v p w hv)
  rcases okV_two hv with rfl | rfl
  · rw [form_old] at C1
    have CV := Lib.hid (fun w => old_read b (a : Int) w hm)
    clear hv
    rcases len_old (b := b) (a := a) with ⟨hL, hR⟩ | ⟨n, m, hL, hm5, hn9, hR⟩
    · have HE := Lib.hid (recN_none hL)
      rw [hR, show no2 = .tuple #[.int .i64 0, .int .i64 0, .bool false] from rfl] at CV
      clear hL hR
      go_enter Tryz.func218, Tryz.ntmps218
      go_wp2_with (fail)
      refine (C1.out _).mono ?_
      rintro e w' ⟨rfl, rfl⟩
      go_wp2_with (fail)
      refine (CV.out _).mono ?_
      rintro e w1 ⟨rfl, b1⟩
      go_wp2
      go_ret2
      exact ⟨by rw [HE.out]; rfl, b1⟩
    · rw [hR] at CV
      clear hR
      by_cases h60 : n ≤ 60
      · by_cases hin : a + m + n ≤ b.size
        · have HE := Lib.hid (recN_yes hL ⟨h60, hin⟩)
          have k1 : ¬ (60 : Int) < (n : Int) := by omega
          have k2 : ¬ (b.size : Int) - (n : Int) < ((a + m : Nat) : Int) := by omega
          clear hL
          go_enter Tryz.func218, Tryz.ntmps218
          go_wp2_with (fail)
          refine (C1.out _).mono ?_
          rintro e w' ⟨rfl, rfl⟩
          go_wp2_with (fail)
          refine (CV.out _).mono ?_
          rintro e w1 ⟨rfl, b1⟩
          go_wp2
          go_ret2
          exact ⟨by rw [HE.out]; rfl, b1⟩
        · have HE := Lib.hid (recN_no hL fun h => hin h.2)
          have k1 : ¬ (60 : Int) < (n : Int) := by omega
          have k2 : (b.size : Int) - (n : Int) < ((a + m : Nat) : Int) := by omega
          clear hL hin
          go_enter Tryz.func218, Tryz.ntmps218
          go_wp2_with (fail)
          refine (C1.out _).mono ?_
          rintro e w' ⟨rfl, rfl⟩
          go_wp2_with (fail)
          refine (CV.out _).mono ?_
          rintro e w1 ⟨rfl, b1⟩
          go_wp2
          go_ret2
          exact ⟨by rw [HE.out]; rfl, b1⟩
      · have HE := Lib.hid (recN_no hL fun h => h60 h.1)
        have k1 : (60 : Int) < (n : Int) := by omega
        clear hL
        go_enter Tryz.func218, Tryz.ntmps218
        go_wp2_with (fail)
        refine (C1.out _).mono ?_
        rintro e w' ⟨rfl, rfl⟩
        go_wp2_with (fail)
        refine (CV.out _).mono ?_
        rintro e w1 ⟨rfl, b1⟩
        go_wp2
        go_ret2
        exact ⟨by rw [HE.out]; rfl, b1⟩
  · rw [form_new] at C1
    clear hv
    rcases len_new (b := b) (a := a) with ⟨hL, hR⟩ | ⟨n, hL, hn9, hR⟩
    · have HE := Lib.hid (recN_none hL)
      have CV := Lib.hid (fun w => new_read_out p b (a : Int) w hm hR)
      rw [show no2 = .tuple #[.int .i64 0, .int .i64 0, .bool false] from rfl] at CV
      clear hL hR
      go_enter Tryz.func218, Tryz.ntmps218
      go_wp2_with (fail)
      refine (C1.out _).mono ?_
      rintro e w' ⟨rfl, rfl⟩
      go_wp2_with (fail)
      refine (CV.out _).mono ?_
      rintro e w1 ⟨rfl, b1⟩
      go_wp2
      go_ret2
      exact ⟨by rw [HE.out]; rfl, b1⟩
    · have ha4 : a + 4 ≤ b.size := by
        have e2 : ¬ (2 : Int) = 1 := by decide
        unfold lenF at hL
        rw [if_neg e2] at hL
        split at hL
        · assumption
        · cases hL
      have CV := Lib.hid (fun w => new_read_in p b a n w hm ha4 hR)
      clear hR
      by_cases h60 : n ≤ 60
      · by_cases hin : a + 8 + n ≤ b.size
        · have HE := Lib.hid (recN_yes hL ⟨h60, hin⟩)
          have k1 : ¬ (60 : Int) < (n : Int) := by omega
          have k2 : ¬ (b.size : Int) - (n : Int) < ((a + 8 : Nat) : Int) := by omega
          clear hL
          go_enter Tryz.func218, Tryz.ntmps218
          go_wp2_with (fail)
          refine (C1.out _).mono ?_
          rintro e w' ⟨rfl, rfl⟩
          go_wp2_with (fail)
          refine (CV.out _).mono ?_
          rintro e w1 ⟨rfl, b1⟩
          go_wp2
          go_ret2
          exact ⟨by rw [HE.out]; rfl, b1⟩
        · have HE := Lib.hid (recN_no hL fun h => hin h.2)
          have k1 : ¬ (60 : Int) < (n : Int) := by omega
          have k2 : (b.size : Int) - (n : Int) < ((a + 8 : Nat) : Int) := by omega
          clear hL hin
          go_enter Tryz.func218, Tryz.ntmps218
          go_wp2_with (fail)
          refine (C1.out _).mono ?_
          rintro e w' ⟨rfl, rfl⟩
          go_wp2_with (fail)
          refine (CV.out _).mono ?_
          rintro e w1 ⟨rfl, b1⟩
          go_wp2
          go_ret2
          exact ⟨by rw [HE.out]; rfl, b1⟩
      · have HE := Lib.hid (recN_no hL fun h => h60 h.1)
        have k1 : (60 : Int) < (n : Int) := by omega
        clear hL
        go_enter Tryz.func218, Tryz.ntmps218
        go_wp2_with (fail)
        refine (C1.out _).mono ?_
        rintro e w' ⟨rfl, rfl⟩
        go_wp2_with (fail)
        refine (CV.out _).mono ?_
        rintro e w1 ⟨rfl, b1⟩
        go_wp2
        go_ret2
        exact ⟨by rw [HE.out]; rfl, b1⟩
theorem record_out (v p : Int) (b : ByteArray) (a : Int) (w : World) (hm : b.size ≤ 1048576) (h : okV v p = false ∨ a < 0) :
    Calls Tryz.prog 218 #[.int .i64 v, .int .i64 p, .string b, .int .i64 a] w fun e w' => e = .returned (recR none) ∧ Below w.heap.size w w' := by
  cases hv : okV v p with
  | false =>
    have C1 := Lib.hid (fun w => formOf_no v p w hv)
    clear h hv
    go_enter Tryz.func218, Tryz.ntmps218
    go_wp2_with (fail)
    refine (C1.out _).mono ?_
    rintro e w' ⟨rfl, rfl⟩
    go_wp2
    go_ret2
    exact ⟨rfl, Below.refl _ _⟩
  | true =>
    have ha : a < 0 := by
      rcases h with h | h
      · rw [hv] at h; cases h
      · exact h
    have C1 := Lib.hid (fun w => formOf_ok v p w hv)
    rcases okV_two hv with rfl | rfl
    · rw [form_old] at C1
      have CV := Lib.hid (fun w => old_read b a w hm)
      rw [rvAt_neg b a ha, show no2 = .tuple #[.int .i64 0, .int .i64 0, .bool false] from rfl] at CV
      clear hv h ha
      go_enter Tryz.func218, Tryz.ntmps218
      go_wp2_with (fail)
      refine (C1.out _).mono ?_
      rintro e w' ⟨rfl, rfl⟩
      go_wp2_with (fail)
      refine (CV.out _).mono ?_
      rintro e w1 ⟨rfl, b1⟩
      go_wp2
      go_ret2
      exact ⟨rfl, b1⟩
    · rw [form_new] at C1
      have CV := Lib.hid (fun w => new_read_out p b a w hm (rfAt_out b a 4 (.inr (.inr (.inl ha)))))
      rw [show no2 = .tuple #[.int .i64 0, .int .i64 0, .bool false] from rfl] at CV
      clear hv h ha
      go_enter Tryz.func218, Tryz.ntmps218
      go_wp2_with (fail)
      refine (C1.out _).mono ?_
      rintro e w' ⟨rfl, rfl⟩
      go_wp2_with (fail)
      refine (CV.out _).mono ?_
      rintro e w1 ⟨rfl, b1⟩
      go_wp2
      go_ret2
      exact ⟨rfl, b1⟩

/-! ### reading -/
theorem implReadF_none (v p : Int) (b : ByteArray) (a : Int) (w : World) (C : Hid (Calls Tryz.prog 218 #[.int .i64 v, .int .i64 p, .string b, .int .i64 a] w fun e w' => e = .returned (recR none) ∧ Below w.heap.size w w')) :
    Calls Tryz.prog 190 #[.int .i64 v, .int .i64 p, .string b, .int .i64 a] w fun e w' => e = .returned (frR none) ∧ Below w.heap.size w w' := by
  rw [show recR none = .tuple #[.string { data := #[] }, .bool false] from rfl] at C
  go_enter Tryz.func190, Tryz.ntmps190
  go_wp2_with (fail)
  refine C.out.mono ?_
  rintro e w1 ⟨rfl, b1⟩
  go_wp2
  go_ret3
  exact ⟨rfl, b1⟩
set_option maxHeartbeats 1000000 in
theorem implReadF_any (v p : Int) (b : ByteArray) (a : Int) (w : World) (hm : b.size ≤ 1048576) :
    Calls Tryz.prog 190 #[.int .i64 v, .int .i64 p, .string b, .int .i64 a] w fun e w' => e = .returned (frR (rdF v p b a)) ∧ Below w.heap.size w w' := by
  by_cases hout : okV v p = false ∨ a < 0
  · rw [rdF_out (v := v) (p := p) (b := b) (a := a) fun h => by
      rcases hout with h' | h'
      · rw [h'] at h; exact absurd h.1 (by decide)
      · have := h.2.1; omega]
    exact implReadF_none v p b a w (Lib.hid (record_out v p b a w hm hout))
  · have hv : okV v p = true := by
      cases h : okV v p with
      | true => rfl
      | false => exact absurd (.inl h) hout
    obtain ⟨n, rfl⟩ := Int.eq_ofNat_of_zero_le (show 0 ≤ a by
      by_cases h : a < 0
      · exact absurd (.inr h) hout
      · omega)
    have C0 := Lib.hid (record_in v p b n w hm hv)
    have HR : rdF v p b (n : Int) = rdN v p b n := by
      by_cases hn : n ≤ b.size
      · exact rdF_in hv hn
      · rw [rdF_out fun h => hn (by have := h.2.2; omega)]
        cases hr : rdN v p b n with
        | none => rfl
        | some x =>
          obtain ⟨r, q⟩ := x
          have := rdN_some hr
          omega
    rw [HR]
    cases hr : recN v b n with
    | none =>
      rw [rdN_rec_none hr]
      rw [hr] at C0
      exact implReadF_none v p b _ w C0
    | some r =>
      rw [rdN_rec_some hr]
      rw [hr, show recR (some r) = .tuple #[.string r, .bool true] from rfl] at C0
      have hr60 := recN_size hr
      have CF := Lib.hid (fun w => implFrame_any v p r w (by omega))
      have hle := frT_le v p r
      have CT := Lib.hid (fun w => isText_any b (n : Int) (frT v p r) w)
      have HS : stands b (n : Int) (frT v p r) = true → n + (frT v p r).size ≤ b.size := fun h => by
        have := (of_decide_eq_true h).2.1
        omega
      obtain ⟨Tt, hT⟩ : ∃ Tt, frT v p r = Tt := ⟨_, rfl⟩
      rw [hT] at CF hle CT HS ⊢
      clear hT HR hr hv hout
      cases hs : stands b (n : Int) Tt with
      | true =>
        have hfit := HS hs
        rw [hs] at CT
        rw [if_pos rfl]
        clear hs HS
        go_enter Tryz.func190, Tryz.ntmps190
        go_wp2_with (fail)
        refine C0.out.mono ?_
        rintro e w1 ⟨rfl, b1⟩
        go_wp2_with (fail)
        refine (CF.out _).mono ?_
        rintro e w2 ⟨rfl, b2⟩
        go_wp2_with (fail)
        refine (CT.out _).mono ?_
        rintro e w' ⟨rfl, rfl⟩
        go_wp2
        go_ret3
        exact ⟨rfl, b1.trans (b2.mono b1.size)⟩
      | false =>
        rw [hs] at CT
        rw [if_neg (by decide)]
        clear hs HS
        go_enter Tryz.func190, Tryz.ntmps190
        go_wp2_with (fail)
        refine C0.out.mono ?_
        rintro e w1 ⟨rfl, b1⟩
        go_wp2_with (fail)
        refine (CF.out _).mono ?_
        rintro e w2 ⟨rfl, b2⟩
        go_wp2_with (fail)
        refine (CT.out _).mono ?_
        rintro e w' ⟨rfl, rfl⟩
        go_wp2
        go_ret3
        exact ⟨rfl, b1.trans (b2.mono b1.size)⟩

theorem implMarkAt_any (v p : Int) (b : ByteArray) (a : Int) (w : World) (_ : b.size ≤ 1048576) :
    Calls Tryz.prog 191 #[.int .i64 v, .int .i64 p, .string b, .int .i64 a] w fun e w' => e = .returned (.bool (mkAt v p b a)) ∧ Below w.heap.size w w' := by
  have CM := Lib.hid (implMark_any v p w)
  cases hv : okV v p with
  | false =>
    have HE := Lib.hid (mkAt_no1 (b := b) (a := a) hv)
    rw [emT_no hv, show nul = { data := #[] } from rfl] at CM
    clear hv
    go_enter Tryz.func191, Tryz.ntmps191
    go_wp2_with (fail)
    refine CM.out.mono ?_
    rintro e w1 ⟨rfl, b1⟩
    go_wp2
    go_ret
    exact ⟨by rw [HE.out]; rfl, b1⟩
  | true =>
    have hs := emT_size hv
    have hs5 : 5 ≤ (emT v p).size := by rw [hs]; split <;> omega
    have hs8 := emT_le v p
    have hne := str_full (show 0 < (emT v p).size by omega)
    have CT := Lib.hid (fun w => isText_any b a (emT v p) w)
    have HE := Lib.hid (show mkAt v p b a = stands b a (emT v p) by
      by_cases ha : 0 ≤ a ∧ a + (emT v p).size ≤ b.size
      · obtain ⟨n, rfl⟩ := Int.eq_ofNat_of_zero_le ha.1
        rw [mkAt_in hv (by omega)]
        unfold stands
        rw [Int.toNat_natCast]
        exact decide_eq_decide.2 ⟨fun h => ⟨by omega, by omega, h⟩, fun h => h.2.2⟩
      · rw [mkAt_out ha]
        exact (decide_eq_false fun h => ha ⟨h.1, h.2.1⟩).symm)
    obtain ⟨Tt, hT⟩ : ∃ Tt, emT v p = Tt := ⟨_, rfl⟩
    rw [hT] at CM CT HE hs5 hs8 hne
    obtain ⟨d, hd⟩ : ∃ d, stands b a Tt = d := ⟨_, rfl⟩
    rw [hd] at CT HE
    clear hT hs hv hd
    go_enter Tryz.func191, Tryz.ntmps191
    go_wp2_with (fail)
    refine CM.out.mono ?_
    rintro e w1 ⟨rfl, b1⟩
    go_wp2_with (fail)
    refine (CT.out _).mono ?_
    rintro e w' ⟨rfl, rfl⟩
    go_wp2
    go_ret
    exact ⟨by rw [HE.out]; rfl, b1⟩

end Go.Proofs.YtiehfobcbhgfkaaGreatDoor.fr
