/-
  Contracts of spec's frames: FrameText, FrameSize, EndMark.
-/
import Derived.Test.YtiehfobcbhgfkaaGreatDoorMathX
import Derived.Test.YtiehfobcbhgfkaaGreatDoorNumX
import Derived.Test.YtiehfobcbhgfkaaGreatDoorSumX
namespace Go.Proofs.YtiehfobcbhgfkaaGreatDoor.fr
set_option maxRecDepth 20000
open Go.RowKit
open kit sum num burst hd

theorem sum_zero (t : ByteArray) : more 0 t = sumT t := by
  unfold more sumT sumMore
  rw [show low 0 = 0 from rfl, Nat.zero_xor]
theorem specSum (t : ByteArray) (w : World) (hm : t.size ≤ 9223372036854775807) :
    Calls Tryz.prog 124 #[.string t] w fun e w' => e = .returned (.int .i64 ((sumT t : Nat) : Int)) ∧ w = w' := by
  rw [← sum_zero]
  exact specOf_any t w hm
/-- what is not right -/
theorem okV_bad {v p : Int} (h : okV v p = false) : (v < 1 ∨ 2 < v) ∨ (1 ≤ v ∧ v ≤ 2 ∧ (p < 0 ∨ 1000000000 < p)) := by
  have := okV_no.1 h
  omega

set_option maxHeartbeats 1000000 in
theorem specFrame_ok (v p : Int) (r : ByteArray) (w : World) (hv : okV v p = true) (hr : r.size ≤ 60) :
    Calls Tryz.prog 79 #[.int .i64 v, .int .i64 p, .string r] w fun e w' => e = .returned (.string (frT v p r)) ∧ Below w.heap.size w w' := by
  obtain ⟨h1, h2, h3, h4⟩ := okV_is.1 hv
  have two := okV_two hv
  have C1 := Lib.hid (fun w => in_yes v 1 2 w h1 h2)
  have C2 := Lib.hid (fun w => in_yes p 0 1000000000 w h3 h4)
  have CS := Lib.hid (fun w => specSum r w (by omega))
  have nT := fxI_size ((sumT r : Nat) : Int) 4
  have CT := Lib.hid (fun w => specFix_any ((sumT r : Nat) : Int) 4 w)
  have HT := Lib.hid (show fx4 (sumT r) = fxI ((sumT r : Nat) : Int) 4 from rfl)
  obtain ⟨T, hT⟩ : ∃ T, fxI ((sumT r : Nat) : Int) 4 = T := ⟨_, rfl⟩
  rw [hT] at nT CT HT
  have g60 : ¬ (60 : Int) < (r.size : Int) := by omega
  clear hT
  rcases two with rfl | rfl
  · have HE := Lib.hid (frT_old hv hr)
    have CV := Lib.hid (fun w => specVar_any (r.size : Int) w)
    have nV := vtI_size (r.size : Int)
    have HO := Lib.hid (show frO r = vtI (r.size : Int) ++ r ++ T by unfold frO; rw [HT.out])
    obtain ⟨V, hV⟩ : ∃ V, vtI (r.size : Int) = V := ⟨_, rfl⟩
    rw [hV] at CV nV HO
    clear hV hv h1 h2 h3 h4
    go_enter Tryz.func79, Tryz.ntmps79
    go_wp2_with (fail)
    refine (C1.out _).mono ?_
    rintro e w' ⟨rfl, rfl⟩
    go_wp2_with (fail)
    refine (C2.out _).mono ?_
    rintro e w' ⟨rfl, rfl⟩
    go_wp2_with (fail)
    refine (CS.out _).mono ?_
    rintro e w' ⟨rfl, rfl⟩
    go_wp2_with (fail)
    refine (CT.out _).mono ?_
    rintro e w1 ⟨rfl, b1⟩
    go_wp2_with (fail)
    refine (CV.out _).mono ?_
    rintro e w2 ⟨rfl, b2⟩
    have B2 := Lib.hid (b1.trans (b2.mono b1.size))
    clear b1 b2
    go_wp2
    go_ret
    exact ⟨by rw [HE.out, HO.out]; rfl, B2.out⟩
  · have HE := Lib.hid (frT_new hv hr)
    have n1 := fxI_size (r.size : Int) 4
    have n2 := fxI_size p 8
    have HO := Lib.hid (show frN p r = fxI (r.size : Int) 4 ++ fxI ((sumT (fxI p 8 ++ fxI (r.size : Int) 4) : Nat) : Int) 4 ++ r ++ T by unfold frN; rw [HT.out]; rfl)
    have CA := Lib.hid (fun w => specFix_any (r.size : Int) 4 w)
    have CP := Lib.hid (fun w => specFix_any p 8 w)
    obtain ⟨A, hA⟩ : ∃ A, fxI (r.size : Int) 4 = A := ⟨_, rfl⟩
    obtain ⟨P8, hP⟩ : ∃ P8, fxI p 8 = P8 := ⟨_, rfl⟩
    rw [hA] at CA n1 HO
    rw [hP] at CP n2 HO
    have CU := Lib.hid (fun w => specSum (P8 ++ A) w (by rw [ByteArray.size_append]; omega))
    have n3 := fxI_size ((sumT (P8 ++ A) : Nat) : Int) 4
    have CW := Lib.hid (fun w => specFix_any ((sumT (P8 ++ A) : Nat) : Int) 4 w)
    obtain ⟨U, hU⟩ : ∃ U, fxI ((sumT (P8 ++ A) : Nat) : Int) 4 = U := ⟨_, rfl⟩
    rw [hU] at n3 CW HO
    clear hU hA hP hv h1 h2 h3 h4
    go_enter Tryz.func79, Tryz.ntmps79
    go_wp2_with (fail)
    refine (C1.out _).mono ?_
    rintro e w' ⟨rfl, rfl⟩
    go_wp2_with (fail)
    refine (C2.out _).mono ?_
    rintro e w' ⟨rfl, rfl⟩
    go_wp2_with (fail)
    refine (CS.out _).mono ?_
    rintro e w' ⟨rfl, rfl⟩
    go_wp2_with (fail)
    refine (CT.out _).mono ?_
    rintro e w1 ⟨rfl, b1⟩
    go_wp2_with (fail)
    refine (CA.out _).mono ?_
    rintro e w2 ⟨rfl, b2⟩
    have B2 := Lib.hid (b1.trans (b2.mono b1.size))
    clear b1 b2
    go_wp2_with (fail)
    refine (CP.out _).mono ?_
    rintro e w3 ⟨rfl, b3⟩
    have B3 := Lib.hid (B2.out.trans (b3.mono B2.out.size))
    clear b3
    go_wp2_with (fail)
    refine (CU.out _).mono ?_
    rintro e w' ⟨rfl, rfl⟩
    go_wp2_with (fail)
    refine (CW.out _).mono ?_
    rintro e w4 ⟨rfl, b4⟩
    have B4 := Lib.hid (B3.out.trans (b4.mono B3.out.size))
    clear b4
    go_wp2
    go_ret
    exact ⟨by rw [HE.out, HO.out]; rfl, B4.out⟩
theorem specFrame_any (v p : Int) (r : ByteArray) (w : World) (hm : r.size ≤ 9223372036854775807) :
    Calls Tryz.prog 79 #[.int .i64 v, .int .i64 p, .string r] w fun e w' => e = .returned (.string (frT v p r)) ∧ Below w.heap.size w w' := by
  cases hv : okV v p with
  | true =>
    by_cases hr : r.size ≤ 60
    · exact specFrame_ok v p r w hv hr
    · obtain ⟨h1, h2, h3, h4⟩ := okV_is.1 hv
      have HE := Lib.hid (frT_no (v := v) (p := p) (r := r) fun h => hr h.2)
      have C1 := Lib.hid (fun w => in_yes v 1 2 w h1 h2)
      have C2 := Lib.hid (fun w => in_yes p 0 1000000000 w h3 h4)
      have g60 : (60 : Int) < (r.size : Int) := by omega
      clear hv hr h1 h2 h3 h4
      go_enter Tryz.func79, Tryz.ntmps79
      go_wp2_with (fail)
      refine (C1.out _).mono ?_
      rintro e w' ⟨rfl, rfl⟩
      go_wp2_with (fail)
      refine (C2.out _).mono ?_
      rintro e w' ⟨rfl, rfl⟩
      go_wp2
      go_ret
      exact ⟨by rw [HE.out]; rfl, Below.refl _ _⟩
  | false =>
    have HE := Lib.hid (frT_no (v := v) (p := p) (r := r) fun h => by rw [hv] at h; exact absurd h.1 (by decide))
    rcases okV_bad hv with h | ⟨h1, h2, h⟩
    · have C1 := Lib.hid (fun w => in_no v 1 2 w h)
      clear hv h
      go_enter Tryz.func79, Tryz.ntmps79
      go_wp2_with (fail)
      refine (C1.out _).mono ?_
      rintro e w' ⟨rfl, rfl⟩
      go_wp2
      go_ret
      exact ⟨by rw [HE.out]; rfl, Below.refl _ _⟩
    · have C1 := Lib.hid (fun w => in_yes v 1 2 w h1 h2)
      have C2 := Lib.hid (fun w => in_no p 0 1000000000 w h)
      clear hv h h1 h2
      go_enter Tryz.func79, Tryz.ntmps79
      go_wp2_with (fail)
      refine (C1.out _).mono ?_
      rintro e w' ⟨rfl, rfl⟩
      go_wp2_with (fail)
      refine (C2.out _).mono ?_
      rintro e w' ⟨rfl, rfl⟩
      go_wp2
      go_ret
      exact ⟨by rw [HE.out]; rfl, Below.refl _ _⟩
set_option maxHeartbeats 1000000 in
theorem specMark_any (v p : Int) (w : World) :
    Calls Tryz.prog 126 #[.int .i64 v, .int .i64 p] w fun e w' => e = .returned (.string (emT v p)) ∧ Below w.heap.size w w' := by
  cases hv : okV v p with
  | true =>
    obtain ⟨h1, h2, h3, h4⟩ := okV_is.1 hv
    have two := okV_two hv
    have C1 := Lib.hid (fun w => in_yes v 1 2 w h1 h2)
    have C2 := Lib.hid (fun w => in_yes p 0 1000000000 w h3 h4)
    rcases two with rfl | rfl
    · have HE := Lib.hid (emT_old hv)
      clear hv h1 h2 h3 h4
      go_enter Tryz.func126, Tryz.ntmps126
      go_wp2_with (fail)
      refine (C1.out _).mono ?_
      rintro e w' ⟨rfl, rfl⟩
      go_wp2_with (fail)
      refine (C2.out _).mono ?_
      rintro e w' ⟨rfl, rfl⟩
      go_wp2
      go_ret
      exact ⟨by rw [HE.out]; rfl, Below.refl _ _⟩
    · have HE := Lib.hid (emT_new hv)
      have n1 := fxI_size 4294967295 4
      have n2 := fxI_size p 8
      have HO := Lib.hid (show hdr p 4294967295 = fxI 4294967295 4 ++ fxI ((sumT (fxI p 8 ++ fxI 4294967295 4) : Nat) : Int) 4 from rfl)
      have CA := Lib.hid (fun w => specFix_any 4294967295 4 w)
      have CP := Lib.hid (fun w => specFix_any p 8 w)
      obtain ⟨A, hA⟩ : ∃ A, fxI 4294967295 4 = A := ⟨_, rfl⟩
      obtain ⟨P8, hP⟩ : ∃ P8, fxI p 8 = P8 := ⟨_, rfl⟩
      rw [hA] at CA n1 HO
      rw [hP] at CP n2 HO
      have CU := Lib.hid (fun w => specSum (P8 ++ A) w (by rw [ByteArray.size_append]; omega))
      have n3 := fxI_size ((sumT (P8 ++ A) : Nat) : Int) 4
      have CW := Lib.hid (fun w => specFix_any ((sumT (P8 ++ A) : Nat) : Int) 4 w)
      obtain ⟨U, hU⟩ : ∃ U, fxI ((sumT (P8 ++ A) : Nat) : Int) 4 = U := ⟨_, rfl⟩
      rw [hU] at n3 CW HO
      clear hU hA hP hv h1 h2 h3 h4
      go_enter Tryz.func126, Tryz.ntmps126
      go_wp2_with (fail)
      refine (C1.out _).mono ?_
      rintro e w' ⟨rfl, rfl⟩
      go_wp2_with (fail)
      refine (C2.out _).mono ?_
      rintro e w' ⟨rfl, rfl⟩
      go_wp2_with (fail)
      refine (CA.out _).mono ?_
      rintro e w2 ⟨rfl, b2⟩
      have B2 := Lib.hid b2
      clear b2
      go_wp2_with (fail)
      refine (CP.out _).mono ?_
      rintro e w3 ⟨rfl, b3⟩
      have B3 := Lib.hid (B2.out.trans (b3.mono B2.out.size))
      clear b3
      go_wp2_with (fail)
      refine (CU.out _).mono ?_
      rintro e w' ⟨rfl, rfl⟩
      go_wp2_with (fail)
      refine (CW.out _).mono ?_
      rintro e w4 ⟨rfl, b4⟩
      have B4 := Lib.hid (B3.out.trans (b4.mono B3.out.size))
      clear b4
      go_wp2
      go_ret
      exact ⟨by rw [HE.out, HO.out]; rfl, B4.out⟩
  | false =>
    have HE := Lib.hid (emT_no hv)
    rcases okV_bad hv with h | ⟨h1, h2, h⟩
    · have C1 := Lib.hid (fun w => in_no v 1 2 w h)
      clear hv h
      go_enter Tryz.func126, Tryz.ntmps126
      go_wp2_with (fail)
      refine (C1.out _).mono ?_
      rintro e w' ⟨rfl, rfl⟩
      go_wp2
      go_ret
      exact ⟨by rw [HE.out]; rfl, Below.refl _ _⟩
    · have C1 := Lib.hid (fun w => in_yes v 1 2 w h1 h2)
      have C2 := Lib.hid (fun w => in_no p 0 1000000000 w h)
      clear hv h h1 h2
      go_enter Tryz.func126, Tryz.ntmps126
      go_wp2_with (fail)
      refine (C1.out _).mono ?_
      rintro e w' ⟨rfl, rfl⟩
      go_wp2_with (fail)
      refine (C2.out _).mono ?_
      rintro e w' ⟨rfl, rfl⟩
      go_wp2
      go_ret
      exact ⟨by rw [HE.out]; rfl, Below.refl _ _⟩

end Go.Proofs.YtiehfobcbhgfkaaGreatDoor.fr

namespace Go.Proofs.YtiehfobcbhgfkaaGreatDoor.fr
set_option maxRecDepth 20000
open Go.RowKit
open kit sum num burst hd

/-- what is answered of a reading -/
def frR : Option (ByteArray × Nat) → Value
  | none => .tuple #[.string { data := #[] }, .int .i64 0, .bool false]
  | some x => .tuple #[.string x.1, .int .i64 (x.2 : Int), .bool true]
/-- the first reading, as it is used -/
theorem len_old {b : ByteArray} {a : Nat} : (lenF 1 b a = none ∧ rvAt b (a : Int) = no2) ∨ ∃ n m : Nat, lenF 1 b a = some (n, a + m) ∧ m ≤ 5 ∧ n ≤ 1000000000 ∧ rvAt b (a : Int) = .tuple #[.int .i64 (n : Int), .int .i64 ((a + m : Nat) : Int), .bool true] := by
  cases h : rv (nats b a) with
  | none => exact .inl ⟨by unfold lenF; rw [if_pos rfl, h]; rfl, rvAt_none b a h⟩
  | some x =>
    obtain ⟨n, m⟩ := x
    obtain ⟨h1, h2, h3⟩ := rv_some h
    refine .inr ⟨n, m, by unfold lenF; rw [if_pos rfl, h]; rfl, by have := vb_length 4 n; omega, h2, rvAt_some b a n m h⟩
theorem rv_any (b : ByteArray) (a : Int) : ∃ (n q : Int) (k : Bool), rvAt b a = .tuple #[.int .i64 n, .int .i64 q, .bool k] := by
  unfold rvAt
  split
  · split
    · exact ⟨_, _, _, rfl⟩
    · exact ⟨_, _, _, rfl⟩
  · exact ⟨_, _, _, rfl⟩
theorem len_new {b : ByteArray} {a : Nat} : (lenF 2 b a = none ∧ rfAt b (a : Int) 4 = no1) ∨ ∃ n : Nat, lenF 2 b a = some (n, a + 8) ∧ n < 4294967296 ∧ rfAt b (a : Int) 4 = .tuple #[.int .i64 (n : Int), .bool true] := by
  have e2 : ¬ (2 : Int) = 1 := by decide
  by_cases h : a + 4 ≤ b.size
  · have h4 := val_lt ((nats b a).take 4) fun c hc => nats_byte b a c (List.mem_of_mem_take hc)
    have hl : ((nats b a).take 4).length = 4 := by rw [List.length_take, nats_length]; omega
    have e4 : (256 : Nat) ^ 4 = 4294967296 := by decide
    rw [hl, e4] at h4
    refine .inr ⟨valF b a 4, by unfold lenF; rw [if_neg e2, if_pos h], h4, rfAt_in b a 4 (by omega) (by omega) h (below8 b a 4 (by omega))⟩
  · refine .inl ⟨by unfold lenF; rw [if_neg e2, if_neg h], rfAt_out b a 4 (by omega)⟩
theorem rdN_none {v p : Int} {b : ByteArray} {a : Nat} (h : lenF v b a = none) : rdN v p b a = none := by unfold rdN; rw [h]
theorem rdN_no {v p : Int} {b : ByteArray} {a n q : Nat} (h : lenF v b a = some (n, q)) (hc : ¬ (n ≤ 60 ∧ q + n ≤ b.size ∧ a + (frT v p (b.extract q (q + n))).size ≤ b.size ∧ b.extract a (a + (frT v p (b.extract q (q + n))).size) = frT v p (b.extract q (q + n)))) : rdN v p b a = none := by
  unfold rdN
  rw [h]
  exact if_neg hc
theorem rdN_yes {v p : Int} {b : ByteArray} {a n q : Nat} (h : lenF v b a = some (n, q)) (hc : n ≤ 60 ∧ q + n ≤ b.size ∧ a + (frT v p (b.extract q (q + n))).size ≤ b.size ∧ b.extract a (a + (frT v p (b.extract q (q + n))).size) = frT v p (b.extract q (q + n))) : rdN v p b a = some (b.extract q (q + n), a + (frT v p (b.extract q (q + n))).size) := by
  unfold rdN
  rw [h]
  exact if_pos hc

set_option maxHeartbeats 2000000 in
theorem specReadF_in (v p : Int) (b : ByteArray) (a : Nat) (w : World) (hm : b.size ≤ 1048576) (hv : okV v p = true) (ha : a ≤ b.size) :
    Calls Tryz.prog 119 #[.int .i64 v, .int .i64 p, .string b, .int .i64 (a : Int)] w fun e w' => e = .returned (frR (rdN v p b a)) ∧ Below w.heap.size w w' := by
  obtain ⟨h1, h2, h3, h4⟩ := okV_is.1 hv
  have two := okV_two hv
  have C1 := Lib.hid (fun w => in_yes v 1 2 w h1 h2)
  have C2 := Lib.hid (fun w => in_yes p 0 1000000000 w h3 h4)
  have C3 := Lib.hid (fun w => in_yes (a : Int) 0 (b.size : Int) w (by omega) (by omega))
  have CV := Lib.hid (fun w => specRead_any b (a : Int) w hm)
  clear hv h1 h2 h3 h4
  rcases two with rfl | rfl
  · rcases len_old (b := b) (a := a) with ⟨hL, hR⟩ | ⟨n, m, hL, hm5, hn9, hR⟩
    · have HE := Lib.hid (rdN_none (p := p) hL)
      rw [hR, show no2 = .tuple #[.int .i64 0, .int .i64 0, .bool false] from rfl] at CV
      clear hL hR
      go_enter Tryz.func119, Tryz.ntmps119
      go_wp2_with (fail)
      refine (C1.out _).mono ?_
      rintro e w' ⟨rfl, rfl⟩
      go_wp2_with (fail)
      refine (C2.out _).mono ?_
      rintro e w' ⟨rfl, rfl⟩
      go_wp2_with (fail)
      refine (C3.out _).mono ?_
      rintro e w' ⟨rfl, rfl⟩
      go_wp2_with (fail)
      refine (CV.out _).mono ?_
      rintro e w1 ⟨rfl, b1⟩
      go_wp2
      go_ret3
      exact ⟨by rw [HE.out]; rfl, b1⟩
    · rw [hR] at CV
      clear hR
      by_cases h60 : n ≤ 60
      · by_cases hin : a + m + n ≤ b.size
        · have k1 : ¬ (60 : Int) < (n : Int) := by omega
          have k2 : ¬ (b.size : Int) - (n : Int) < ((a + m : Nat) : Int) := by omega
          have hrs : (b.extract (a + m) (a + m + n)).size = n := by rw [ByteArray.size_extract]; omega
          have CF := Lib.hid (fun w => specFrame_any 1 p (b.extract (a + m) (a + m + n)) w (by omega))
          have hle := frT_le 1 p (b.extract (a + m) (a + m + n))
          have HY := Lib.hid (rdN_yes (p := p) hL)
          have HN := Lib.hid (rdN_no (p := p) hL)
          obtain ⟨S, hS⟩ : ∃ S, b.extract (a + m) (a + m + n) = S := ⟨_, rfl⟩
          rw [hS] at CF hle HY HN hrs
          obtain ⟨Tt, hT⟩ : ∃ Tt, frT 1 p S = Tt := ⟨_, rfl⟩
          rw [hT] at CF hle HY HN
          have hc1 : (a + m + n) = (a + m) + n := rfl
          clear hT hL hc1
          by_cases hfit : a + Tt.size ≤ b.size
          · by_cases heq : b.extract a (a + Tt.size) = Tt
            · have HE := Lib.hid (HY.out ⟨h60, hin, hfit, heq⟩)
              have hc : ((b.extract a (a + Tt.size)).toList == Tt.toList) = true := str_yes heq
              have k3 : ¬ (b.size : Int) - (a : Int) < (Tt.size : Int) := by omega
              clear HY HN heq
              go_enter Tryz.func119, Tryz.ntmps119
              go_wp2_with (fail)
              refine (C1.out _).mono ?_
              rintro e w' ⟨rfl, rfl⟩
              go_wp2_with (fail)
              refine (C2.out _).mono ?_
              rintro e w' ⟨rfl, rfl⟩
              go_wp2_with (fail)
              refine (C3.out _).mono ?_
              rintro e w' ⟨rfl, rfl⟩
              go_wp2_with (fail)
              refine (CV.out _).mono ?_
              rintro e w1 ⟨rfl, b1⟩
              go_wp2_with (fail)
              refine (CF.out _).mono ?_
              rintro e w2 ⟨rfl, b2⟩
              go_wp2
              go_ret3
              exact ⟨by rw [HE.out]; rfl, b1.trans (b2.mono b1.size)⟩
            · have HE := Lib.hid (HN.out fun h => heq h.2.2.2)
              have hc : ((b.extract a (a + Tt.size)).toList == Tt.toList) = false := str_ne heq
              have k3 : ¬ (b.size : Int) - (a : Int) < (Tt.size : Int) := by omega
              clear HY HN heq
              go_enter Tryz.func119, Tryz.ntmps119
              go_wp2_with (fail)
              refine (C1.out _).mono ?_
              rintro e w' ⟨rfl, rfl⟩
              go_wp2_with (fail)
              refine (C2.out _).mono ?_
              rintro e w' ⟨rfl, rfl⟩
              go_wp2_with (fail)
              refine (C3.out _).mono ?_
              rintro e w' ⟨rfl, rfl⟩
              go_wp2_with (fail)
              refine (CV.out _).mono ?_
              rintro e w1 ⟨rfl, b1⟩
              go_wp2_with (fail)
              refine (CF.out _).mono ?_
              rintro e w2 ⟨rfl, b2⟩
              go_wp2
              go_ret3
              exact ⟨by rw [HE.out]; rfl, b1.trans (b2.mono b1.size)⟩
          · have HE := Lib.hid (HN.out fun h => hfit h.2.2.1)
            have k3 : (b.size : Int) - (a : Int) < (Tt.size : Int) := by omega
            clear HY HN
            go_enter Tryz.func119, Tryz.ntmps119
            go_wp2_with (fail)
            refine (C1.out _).mono ?_
            rintro e w' ⟨rfl, rfl⟩
            go_wp2_with (fail)
            refine (C2.out _).mono ?_
            rintro e w' ⟨rfl, rfl⟩
            go_wp2_with (fail)
            refine (C3.out _).mono ?_
            rintro e w' ⟨rfl, rfl⟩
            go_wp2_with (fail)
            refine (CV.out _).mono ?_
            rintro e w1 ⟨rfl, b1⟩
            go_wp2_with (fail)
            refine (CF.out _).mono ?_
            rintro e w2 ⟨rfl, b2⟩
            go_wp2
            go_ret3
            exact ⟨by rw [HE.out]; rfl, b1.trans (b2.mono b1.size)⟩
        · have HE := Lib.hid (rdN_no (p := p) hL fun h => hin h.2.1)
          have k1 : ¬ (60 : Int) < (n : Int) := by omega
          have k2 : (b.size : Int) - (n : Int) < ((a + m : Nat) : Int) := by omega
          clear hL hin
          go_enter Tryz.func119, Tryz.ntmps119
          go_wp2_with (fail)
          refine (C1.out _).mono ?_
          rintro e w' ⟨rfl, rfl⟩
          go_wp2_with (fail)
          refine (C2.out _).mono ?_
          rintro e w' ⟨rfl, rfl⟩
          go_wp2_with (fail)
          refine (C3.out _).mono ?_
          rintro e w' ⟨rfl, rfl⟩
          go_wp2_with (fail)
          refine (CV.out _).mono ?_
          rintro e w1 ⟨rfl, b1⟩
          go_wp2
          go_ret3
          exact ⟨by rw [HE.out]; rfl, b1⟩
      · have HE := Lib.hid (rdN_no (p := p) hL fun h => h60 h.1)
        have k1 : (60 : Int) < (n : Int) := by omega
        clear hL
        go_enter Tryz.func119, Tryz.ntmps119
        go_wp2_with (fail)
        refine (C1.out _).mono ?_
        rintro e w' ⟨rfl, rfl⟩
        go_wp2_with (fail)
        refine (C2.out _).mono ?_
        rintro e w' ⟨rfl, rfl⟩
        go_wp2_with (fail)
        refine (C3.out _).mono ?_
        rintro e w' ⟨rfl, rfl⟩
        go_wp2_with (fail)
        refine (CV.out _).mono ?_
        rintro e w1 ⟨rfl, b1⟩
        go_wp2
        go_ret3
        exact ⟨by rw [HE.out]; rfl, b1⟩
  · obtain ⟨n0, q0, k0, hR0⟩ := rv_any b (a : Int)
    rw [hR0] at CV
    have CX := Lib.hid (fun w => specRf_any b (a : Int) 4 w hm)
    clear hR0
    rcases len_new (b := b) (a := a) with ⟨hL, hR⟩ | ⟨n, hL, hn9, hR⟩
    · have HE := Lib.hid (rdN_none (p := p) hL)
      rw [hR, show no1 = .tuple #[.int .i64 0, .bool false] from rfl] at CX
      clear hL hR
      go_enter Tryz.func119, Tryz.ntmps119
      go_wp2_with (fail)
      refine (C1.out _).mono ?_
      rintro e w' ⟨rfl, rfl⟩
      go_wp2_with (fail)
      refine (C2.out _).mono ?_
      rintro e w' ⟨rfl, rfl⟩
      go_wp2_with (fail)
      refine (C3.out _).mono ?_
      rintro e w' ⟨rfl, rfl⟩
      go_wp2_with (fail)
      refine (CV.out _).mono ?_
      rintro e w1 ⟨rfl, b1⟩
      go_wp2_with (fail)
      refine (CX.out _).mono ?_
      rintro e w' ⟨rfl, rfl⟩
      go_wp2
      go_ret3
      exact ⟨by rw [HE.out]; rfl, b1⟩
    · rw [hR] at CX
      clear hR
      by_cases h60 : n ≤ 60
      · by_cases hin : a + 8 + n ≤ b.size
        · have k1 : ¬ (60 : Int) < (n : Int) := by omega
          have k2 : ¬ (b.size : Int) - (n : Int) < ((a + 8 : Nat) : Int) := by omega
          have hrs : (b.extract (a + 8) (a + 8 + n)).size = n := by rw [ByteArray.size_extract]; omega
          have CF := Lib.hid (fun w => specFrame_any 2 p (b.extract (a + 8) (a + 8 + n)) w (by omega))
          have hle := frT_le 2 p (b.extract (a + 8) (a + 8 + n))
          have HY := Lib.hid (rdN_yes (p := p) hL)
          have HN := Lib.hid (rdN_no (p := p) hL)
          obtain ⟨S, hS⟩ : ∃ S, b.extract (a + 8) (a + 8 + n) = S := ⟨_, rfl⟩
          rw [hS] at CF hle HY HN hrs
          obtain ⟨Tt, hT⟩ : ∃ Tt, frT 2 p S = Tt := ⟨_, rfl⟩
          rw [hT] at CF hle HY HN
          have hc1 : (a + 8 + n) = (a + 8) + n := rfl
          clear hT hL hc1
          by_cases hfit : a + Tt.size ≤ b.size
          · by_cases heq : b.extract a (a + Tt.size) = Tt
            · have HE := Lib.hid (HY.out ⟨h60, hin, hfit, heq⟩)
              have hc : ((b.extract a (a + Tt.size)).toList == Tt.toList) = true := str_yes heq
              have k3 : ¬ (b.size : Int) - (a : Int) < (Tt.size : Int) := by omega
              clear HY HN heq
              go_enter Tryz.func119, Tryz.ntmps119
              go_wp2_with (fail)
              refine (C1.out _).mono ?_
              rintro e w' ⟨rfl, rfl⟩
              go_wp2_with (fail)
              refine (C2.out _).mono ?_
              rintro e w' ⟨rfl, rfl⟩
              go_wp2_with (fail)
              refine (C3.out _).mono ?_
              rintro e w' ⟨rfl, rfl⟩
              go_wp2_with (fail)
              refine (CV.out _).mono ?_
              rintro e w1 ⟨rfl, b1⟩
              go_wp2_with (fail)
              refine (CX.out _).mono ?_
              rintro e w' ⟨rfl, rfl⟩
              go_wp2_with (fail)
              refine (CF.out _).mono ?_
              rintro e w2 ⟨rfl, b2⟩
              go_wp2
              go_ret3
              exact ⟨by rw [HE.out]; rfl, b1.trans (b2.mono b1.size)⟩
            · have HE := Lib.hid (HN.out fun h => heq h.2.2.2)
              have hc : ((b.extract a (a + Tt.size)).toList == Tt.toList) = false := str_ne heq
              have k3 : ¬ (b.size : Int) - (a : Int) < (Tt.size : Int) := by omega
              clear HY HN heq
              go_enter Tryz.func119, Tryz.ntmps119
              go_wp2_with (fail)
              refine (C1.out _).mono ?_
              rintro e w' ⟨rfl, rfl⟩
              go_wp2_with (fail)
              refine (C2.out _).mono ?_
              rintro e w' ⟨rfl, rfl⟩
              go_wp2_with (fail)
              refine (C3.out _).mono ?_
              rintro e w' ⟨rfl, rfl⟩
              go_wp2_with (fail)
              refine (CV.out _).mono ?_
              rintro e w1 ⟨rfl, b1⟩
              go_wp2_with (fail)
              refine (CX.out _).mono ?_
              rintro e w' ⟨rfl, rfl⟩
              go_wp2_with (fail)
              refine (CF.out _).mono ?_
              rintro e w2 ⟨rfl, b2⟩
              go_wp2
              go_ret3
              exact ⟨by rw [HE.out]; rfl, b1.trans (b2.mono b1.size)⟩
          · have HE := Lib.hid (HN.out fun h => hfit h.2.2.1)
            have k3 : (b.size : Int) - (a : Int) < (Tt.size : Int) := by omega
            clear HY HN
            go_enter Tryz.func119, Tryz.ntmps119
            go_wp2_with (fail)
            refine (C1.out _).mono ?_
            rintro e w' ⟨rfl, rfl⟩
            go_wp2_with (fail)
            refine (C2.out _).mono ?_
            rintro e w' ⟨rfl, rfl⟩
            go_wp2_with (fail)
            refine (C3.out _).mono ?_
            rintro e w' ⟨rfl, rfl⟩
            go_wp2_with (fail)
            refine (CV.out _).mono ?_
            rintro e w1 ⟨rfl, b1⟩
            go_wp2_with (fail)
            refine (CX.out _).mono ?_
            rintro e w' ⟨rfl, rfl⟩
            go_wp2_with (fail)
            refine (CF.out _).mono ?_
            rintro e w2 ⟨rfl, b2⟩
            go_wp2
            go_ret3
            exact ⟨by rw [HE.out]; rfl, b1.trans (b2.mono b1.size)⟩
        · have HE := Lib.hid (rdN_no (p := p) hL fun h => hin h.2.1)
          have k1 : ¬ (60 : Int) < (n : Int) := by omega
          have k2 : (b.size : Int) - (n : Int) < ((a + 8 : Nat) : Int) := by omega
          clear hL hin
          go_enter Tryz.func119, Tryz.ntmps119
          go_wp2_with (fail)
          refine (C1.out _).mono ?_
          rintro e w' ⟨rfl, rfl⟩
          go_wp2_with (fail)
          refine (C2.out _).mono ?_
          rintro e w' ⟨rfl, rfl⟩
          go_wp2_with (fail)
          refine (C3.out _).mono ?_
          rintro e w' ⟨rfl, rfl⟩
          go_wp2_with (fail)
          refine (CV.out _).mono ?_
          rintro e w1 ⟨rfl, b1⟩
          go_wp2_with (fail)
          refine (CX.out _).mono ?_
          rintro e w' ⟨rfl, rfl⟩
          go_wp2
          go_ret3
          exact ⟨by rw [HE.out]; rfl, b1⟩
      · have HE := Lib.hid (rdN_no (p := p) hL fun h => h60 h.1)
        have k1 : (60 : Int) < (n : Int) := by omega
        clear hL
        go_enter Tryz.func119, Tryz.ntmps119
        go_wp2_with (fail)
        refine (C1.out _).mono ?_
        rintro e w' ⟨rfl, rfl⟩
        go_wp2_with (fail)
        refine (C2.out _).mono ?_
        rintro e w' ⟨rfl, rfl⟩
        go_wp2_with (fail)
        refine (C3.out _).mono ?_
        rintro e w' ⟨rfl, rfl⟩
        go_wp2_with (fail)
        refine (CV.out _).mono ?_
        rintro e w1 ⟨rfl, b1⟩
        go_wp2_with (fail)
        refine (CX.out _).mono ?_
        rintro e w' ⟨rfl, rfl⟩
        go_wp2
        go_ret3
        exact ⟨by rw [HE.out]; rfl, b1⟩

theorem specReadF_any (v p : Int) (b : ByteArray) (a : Int) (w : World) (hm : b.size ≤ 1048576) :
    Calls Tryz.prog 119 #[.int .i64 v, .int .i64 p, .string b, .int .i64 a] w fun e w' => e = .returned (frR (rdF v p b a)) ∧ Below w.heap.size w w' := by
  cases hv : okV v p with
  | true =>
    by_cases ha : 0 ≤ a ∧ a ≤ b.size
    · obtain ⟨n, rfl⟩ := Int.eq_ofNat_of_zero_le ha.1
      rw [rdF_in hv (by omega)]
      exact specReadF_in v p b n w hm hv (by omega)
    · obtain ⟨h1, h2, h3, h4⟩ := okV_is.1 hv
      have HE := Lib.hid (rdF_out (v := v) (p := p) (b := b) (a := a) fun h => ha h.2)
      have C1 := Lib.hid (fun w => in_yes v 1 2 w h1 h2)
      have C2 := Lib.hid (fun w => in_yes p 0 1000000000 w h3 h4)
      have C3 := Lib.hid (fun w => in_no a 0 (b.size : Int) w (by omega))
      clear hv ha h1 h2 h3 h4
      go_enter Tryz.func119, Tryz.ntmps119
      go_wp2_with (fail)
      refine (C1.out _).mono ?_
      rintro e w' ⟨rfl, rfl⟩
      go_wp2_with (fail)
      refine (C2.out _).mono ?_
      rintro e w' ⟨rfl, rfl⟩
      go_wp2_with (fail)
      refine (C3.out _).mono ?_
      rintro e w' ⟨rfl, rfl⟩
      go_wp2
      go_ret3
      exact ⟨by rw [HE.out]; rfl, Below.refl _ _⟩
  | false =>
    have HE := Lib.hid (rdF_out (v := v) (p := p) (b := b) (a := a) fun h => by rw [hv] at h; exact absurd h.1 (by decide))
    rcases okV_bad hv with h | ⟨h1, h2, h⟩
    · have C1 := Lib.hid (fun w => in_no v 1 2 w h)
      clear hv h
      go_enter Tryz.func119, Tryz.ntmps119
      go_wp2_with (fail)
      refine (C1.out _).mono ?_
      rintro e w' ⟨rfl, rfl⟩
      go_wp2
      go_ret3
      exact ⟨by rw [HE.out]; rfl, Below.refl _ _⟩
    · have C1 := Lib.hid (fun w => in_yes v 1 2 w h1 h2)
      have C2 := Lib.hid (fun w => in_no p 0 1000000000 w h)
      clear hv h h1 h2
      go_enter Tryz.func119, Tryz.ntmps119
      go_wp2_with (fail)
      refine (C1.out _).mono ?_
      rintro e w' ⟨rfl, rfl⟩
      go_wp2_with (fail)
      refine (C2.out _).mono ?_
      rintro e w' ⟨rfl, rfl⟩
      go_wp2
      go_ret3
      exact ⟨by rw [HE.out]; rfl, Below.refl _ _⟩

set_option maxHeartbeats 2000000 in
theorem specMarkAt_any (v p : Int) (b : ByteArray) (a : Int) (w : World) (hm : b.size ≤ 1048576) :
    Calls Tryz.prog 118 #[.int .i64 v, .int .i64 p, .string b, .int .i64 a] w fun e w' => e = .returned (.bool (mkAt v p b a)) ∧ Below w.heap.size w w' := by
  have CM := Lib.hid (specMark_any v p w)
  cases hv : okV v p with
  | false =>
    have HE := Lib.hid (mkAt_no1 (b := b) (a := a) hv)
    rw [emT_no hv, show nul = { data := #[] } from rfl] at CM
    clear hv
    go_enter Tryz.func118, Tryz.ntmps118
    go_wp2_with (fail)
    refine CM.out.mono ?_
    rintro e w1 ⟨rfl, b1⟩
    go_wp2
    go_ret
    exact ⟨by rw [HE.out]; rfl, b1⟩
  | true =>
    have hs := emT_size hv
    have hs5 : 5 ≤ (emT v p).size := by rw [hs]; split <;> omega
    have hs8 := emT_le v p
    have hne := str_full (show 0 < (emT v p).size by omega)
    by_cases ha : 0 ≤ a ∧ a + (emT v p).size ≤ b.size
    · obtain ⟨n, rfl⟩ := Int.eq_ofNat_of_zero_le ha.1
      have hn : n + (emT v p).size ≤ b.size := by omega
      have HE := Lib.hid (mkAt_in hv hn)
      obtain ⟨Tt, hT⟩ : ∃ Tt, emT v p = Tt := ⟨_, rfl⟩
      rw [hT] at CM HE hs5 hs8 hne hn
      have CI := Lib.hid (fun w => in_yes (n : Int) 0 ((b.size : Int) - (Tt.size : Int)) w (by omega) (by omega))
      clear hT hs ha hv
      cases he : decide (b.extract n (n + Tt.size) = Tt) with
      | true =>
        have hc : ((b.extract n (n + Tt.size)).toList == Tt.toList) = true := str_yes (of_decide_eq_true he)
        have HF := Lib.hid (HE.out.trans he)
        clear he HE
        go_enter Tryz.func118, Tryz.ntmps118
        go_wp2_with (fail)
        refine CM.out.mono ?_
        rintro e w1 ⟨rfl, b1⟩
        go_wp2_with (fail)
        refine (CI.out _).mono ?_
        rintro e w' ⟨rfl, rfl⟩
        go_wp2
        go_ret
        exact ⟨by rw [HF.out]; rfl, b1⟩
      | false =>
        have hc : ((b.extract n (n + Tt.size)).toList == Tt.toList) = false := str_ne (of_decide_eq_false he)
        have HF := Lib.hid (HE.out.trans he)
        clear he HE
        go_enter Tryz.func118, Tryz.ntmps118
        go_wp2_with (fail)
        refine CM.out.mono ?_
        rintro e w1 ⟨rfl, b1⟩
        go_wp2_with (fail)
        refine (CI.out _).mono ?_
        rintro e w' ⟨rfl, rfl⟩
        go_wp2
        go_ret
        exact ⟨by rw [HF.out]; rfl, b1⟩
    · have HE := Lib.hid (mkAt_out (v := v) (p := p) (b := b) (a := a) ha)
      obtain ⟨Tt, hT⟩ : ∃ Tt, emT v p = Tt := ⟨_, rfl⟩
      rw [hT] at CM hs5 hs8 hne ha
      have CI := Lib.hid (fun w => in_no a 0 ((b.size : Int) - (Tt.size : Int)) w (by omega))
      clear hT hs ha hv
      go_enter Tryz.func118, Tryz.ntmps118
      go_wp2_with (fail)
      refine CM.out.mono ?_
      rintro e w1 ⟨rfl, b1⟩
      go_wp2_with (fail)
      refine (CI.out _).mono ?_
      rintro e w' ⟨rfl, rfl⟩
      go_wp2
      go_ret
      exact ⟨by rw [HE.out]; rfl, b1⟩

end Go.Proofs.YtiehfobcbhgfkaaGreatDoor.fr
