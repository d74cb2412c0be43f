/-
  The walk of FnPlaces.
-/
import Derived.Test.YtideejpopneplaaPlI
import Derived.Test.YtideejpopneplaaPlG
import Derived.Test.YtideejpopneplaaPlL
import Derived.Test.YtideejpopneplaaPlQ
import Derived.Test.YtideejpopneplaaBig
namespace Go.Proofs.Ytideejpopneplaa.pl
set_option maxRecDepth 20000
open Go.RowKit
open kit sum num burst hd fr recs sc

/-- the parts of an answer -/
theorem RdP.split {o : Option (List Plc × Nat)} (ho : ∀ x, o = some x → x.1.length ≤ 1000) : ∃ (L : List Plc) (Q : Nat) (K : Bool), L.length ≤ 1000 ∧ ∀ w e w', RdP o w e w' → (∃ v, e = .returned (.tuple #[v, .int .i64 (Q : Int), .bool K]) ∧ OwnP w.heap.size w' v L) ∧ Below w.heap.size w w' := by
  cases o with
  | none => exact ⟨[], 0, false, Nat.zero_le _, fun w e w' h => h⟩
  | some x => exact ⟨x.1, x.2, true, ho x rfl, fun w e w' h => h⟩
theorem nil_text : plT [] = ({ data := #[0] } : ByteArray) := by
  rw [show plT [] = vtI ((0 : Nat) : Int) from rfl, vtI_in 0 (by decide)]
  rfl
theorem two_ab : ({ data := #[97, 98] } : ByteArray).size = 2 := rfl
theorem one_z : ({ data := #[122] } : ByteArray).size = 1 := rfl
theorem nul_list : (({ data := #[0] } : ByteArray).toList == [0]) = true := by rw [ByteArray.toList_eq]; rfl

theorem places_big (a : Option Addr) (len cap : Nat) (w : World) (h : 1048576 < len) :
    Calls Try.prog 3 #[.slice a len cap] w fun e w' => e = .returned (.bool true) ∧ Below w.heap.size w w' := by
  go_enter Try.func3, Try.ntmps3
  go_wp2_with (go_at_call 11; refine (big_yes _ _ _ _ h).mono ?_; rintro e w' ⟨rfl, rfl⟩)
  go_ret
  exact ⟨rfl, Below.refl _ _⟩

set_option maxHeartbeats 4000000 in
theorem places_small (a : Option Addr) (len cap : Nat) (w : World) (hc : draw.CodeAt w w.heap.size a len) :
    Calls Try.prog 3 #[.slice a len cap] w fun e w' => e = .returned (.bool true) ∧ Below w.heap.size w w' := by
  have HC := Lib.hid hc
  have hlen := hc.1
  clear hc
  go_enter Try.func3, Try.ntmps3
  go_wp2_with (fail)
  refine (big_no _ _ _ _ hlen).mono ?_
  rintro e w' ⟨rfl, rfl⟩
  clear hlen
  go_wp2_with (fail)
  refine (draw.drawPlacesOf_any a len cap w HC.out).mono ?_
  rintro e w1 ⟨⟨s, v, n, os, rfl, hs, hn, hos, ho⟩, b1⟩
  have B1 := Lib.hid b1
  obtain ⟨av, cv, rfl, hxl, _, _⟩ := own_form ho
  have hol : os.length = n := by simpa using hxl
  have AO := Lib.hid (ints.At.of_own ho)
  clear b1 ho hxl
  have hle := plN_le s os
  have hts := plT_size (plN s os)
  have HWF := Lib.hid (plN_wf (s := s) (os := os) (by omega) hos)
  have HAT := Lib.hid (fun i c (h : (plN s os)[i]? = some c) => plN_at h)
  have HRT := Lib.hid (fun (hT : plT (plN s os) ≠ nul) => rdP_plT (xs := plN s os) (by omega) hT { data := #[97, 98] } { data := #[122] })
  have CI := Lib.hid (fun w (h : ints.At w av n os) => implPlaces s av cv n os w (by omega) hs h)
  have CS := Lib.hid (fun w (h : ints.At w av n os) => specPlaces s av cv n os w (by omega) hs h)
  obtain ⟨L, hL⟩ : ∃ L, plN s os = L := ⟨_, rfl⟩
  obtain ⟨T, hT⟩ : ∃ T, plT L = T := ⟨_, rfl⟩
  simp only [hL] at HAT HRT
  rw [hL] at hle hts HWF CI CS
  simp only [hT] at HRT
  rw [hT] at hts
  obtain ⟨m, hm⟩ : ∃ m, L.length = m := ⟨_, rfl⟩
  rw [hm] at hle hts
  have HM := Lib.hid hm
  have hS := Lib.hid (fun (a b : Option Addr) (c d : Nat) w (ha : AtP w a m L) (hb : AtP w b m L) => samePlaces_any a b c d m L w (by omega) ha hb)
  have CTI := Lib.hid (fun w a c (h : AtP w a m L) => implPlacesText a c m L w (by omega) HWF.out h)
  have CTS := Lib.hid (fun w a c (h : AtP w a m L) => specPlacesText a c m L w (by omega) HWF.out h)
  rw [hT] at CTI CTS
  have CN := Lib.hid (fun w => implPlacesText none 0 0 [] w (by decide) (fun e he => by cases he) ⟨rfl, .inl rfl⟩)
  rw [nil_text] at CN
  have kn := nul_list
  clear hL hT hm
  go_wp2_with (fail)
  refine (CI.out _ AO.out).mono ?_
  rintro e w2 ⟨⟨_, rfl, o2⟩, b2⟩
  have B2 := Lib.hid (B1.out.trans (b2.mono B1.out.size))
  obtain ⟨a2, c2, rfl, A2⟩ := o2.form
  rw [HM.out] at A2 ⊢
  have A2 := Lib.hid A2
  have AO := Lib.hid (AO.out.below b2)
  clear b2 o2 B1
  go_wp2_with (fail)
  refine (CS.out _ AO.out).mono ?_
  rintro e w3 ⟨⟨_, rfl, o3⟩, b3⟩
  have B3 := Lib.hid (B2.out.trans (b3.mono B2.out.size))
  obtain ⟨a3, c3, rfl, A3⟩ := o3.form
  rw [HM.out] at A3 ⊢
  have A3 := Lib.hid A3
  have A2 := Lib.hid (A2.out.below b3)
  have AO := Lib.hid (AO.out.below b3)
  clear b3 o3 B2
  go_wp2_with fail
  refine (hS.out a2 a3 c2 c3 _ A2.out A3.out).mono ?_
  rintro e w4 ⟨rfl, b4⟩
  have B4 := Lib.hid (B3.out.trans (b4.mono B3.out.size))
  have A2 := Lib.hid (A2.out.below b4)
  have AO := Lib.hid (AO.out.below b4)
  clear b4 B3
  go_wp2_with fail
  refine (CTI.out _ a2 c2 A2.out).mono ?_
  rintro e w5 ⟨rfl, b5⟩
  have B5 := Lib.hid (B4.out.trans (b5.mono B4.out.size))
  have A2 := Lib.hid (A2.out.below b5)
  have AO := Lib.hid (AO.out.below b5)
  clear b5 B4
  go_wp2_with fail
  refine (CTS.out _ a2 c2 A2.out).mono ?_
  rintro e w6 ⟨rfl, b6⟩
  have B6 := Lib.hid (B5.out.trans (b6.mono B5.out.size))
  have A2 := Lib.hid (A2.out.below b6)
  have AO := Lib.hid (AO.out.below b6)
  clear b6 B5
  clear A3 CI CS CTI CTS
  have kI : draw.CodeAt w6 w6.heap.size a len := (HC.out.below B6.out).raise B6.out.size
  go_wp2_with (fail)
  refine (draw.drawReadPlaces_any a len cap w6 kI).mono ?_
  rintro e w7 ⟨⟨b, q, hb, rfl⟩, b7⟩
  have B7 := Lib.hid (B6.out.trans (b7.mono B6.out.size))
  have A2 := Lib.hid (A2.out.below b7)
  have AO := Lib.hid (AO.out.below b7)
  clear b7 kI B6
  obtain ⟨L2, Q2, K2, hL2, hsp⟩ := RdP.split (o := rdP b q) (fun x hx => rdP_len hx)
  have CI := Lib.hid (fun w => (implReadPlaces b q w (by omega)).mono (fun e w' h => hsp w e w' h))
  have CS := Lib.hid (fun w => (specReadPlaces b q w (by omega)).mono (fun e w' h => hsp w e w' h))
  clear hsp
  go_wp2_with (fail)
  refine (CI.out _).mono ?_
  rintro e w8 ⟨⟨_, rfl, o8⟩, b8⟩
  have B8 := Lib.hid (B7.out.trans (b8.mono B7.out.size))
  obtain ⟨a8, c8, rfl, A8⟩ := o8.form
  have A8 := Lib.hid A8
  have A2 := Lib.hid (A2.out.below b8)
  have AO := Lib.hid (AO.out.below b8)
  clear b8 o8 B7
  go_wp2_with (fail)
  refine (CS.out _).mono ?_
  rintro e w9 ⟨⟨_, rfl, o9⟩, b9⟩
  have B9 := Lib.hid (B8.out.trans (b9.mono B8.out.size))
  obtain ⟨a9, c9, rfl, A9⟩ := o9.form
  have A9 := Lib.hid A9
  have A8 := Lib.hid (A8.out.below b9)
  have A2 := Lib.hid (A2.out.below b9)
  have AO := Lib.hid (AO.out.below b9)
  clear b9 o9 B8 CI CS
  go_wp2_with fail
  refine (samePlaces_any a8 a9 c8 c9 L2.length L2 w9 (by omega) A8.out A9.out).mono ?_
  rintro e w10 ⟨rfl, b10⟩
  have B10 := Lib.hid (B9.out.trans (b10.mono B9.out.size))
  have A2 := Lib.hid (A2.out.below b10)
  have AO := Lib.hid (AO.out.below b10)
  clear b10 B9
  clear A8 A9
  by_cases hnul : T = nul
  · have k0 := emp_yes hnul
    clear HRT HAT hnul
    go_wp2_with fail
    refine (CN.out _).mono ?_
    rintro e w11 ⟨rfl, b11⟩
    have B11 := Lib.hid (B10.out.trans (b11.mono B10.out.size))
    clear b11 B10
    go_wp2
    go_ret
    exact ⟨rfl, B11.out⟩
  · have k0 := emp_no hnul
    have hrt := HRT.out hnul
    have z1 := two_ab
    have z2 := one_z
    have CR := Lib.hid (fun w => (implReadPlaces (({ data := #[97, 98] } : ByteArray) ++ T ++ { data := #[122] }) 2 w (by rw [ByteArray.size_append, ByteArray.size_append, two_ab, one_z]; omega)))
    rw [show rdP (({ data := #[97, 98] } : ByteArray) ++ T ++ { data := #[122] }) 2 = some (L, 2 + T.size) by rw [app_assoc]; exact hrt] at CR
    clear HRT hrt hnul
    go_wp2_with (fail)
    refine (CR.out _).mono ?_
    rintro e w11 ⟨⟨_, rfl, o11⟩, b11⟩
    have B11 := Lib.hid (B10.out.trans (b11.mono B10.out.size))
    have o11 : OwnP w10.heap.size w11 _ L := o11
    obtain ⟨a11, c11, rfl, A11⟩ := o11.form
    rw [HM.out] at A11 ⊢
    have A11 := Lib.hid A11
    have A2 := Lib.hid (A2.out.below b11)
    have AO := Lib.hid (AO.out.below b11)
    clear b11 o11 B10 CR
    go_wp2
    clear k0 z1 z2
    go_loopw [18] (fun i wr => ∃ k : Nat, k ≤ m ∧ i = .int .i64 k ∧ Hid (Below w11.heap.size w11 wr)) (fun i _ => m - (intOf i).toNat)
    case atStart => exact ⟨0, Nat.zero_le _, rfl, Lib.hid (Below.refl _ _)⟩
    case round =>
      obtain ⟨k, hk, rfl, hbw⟩ := hrel
      by_cases hlt : k < m
      · obtain ⟨x0, x1, g, o, hx, rfl, hg, c0, c1⟩ := (A2.out.below hbw.out).get hlt
        obtain ⟨hs1, e0, e1⟩ := HAT.out k (x0, x1) hx
        obtain ⟨t, ht⟩ : ∃ t, k * s.toNat = t := ⟨_, rfl⟩
        rw [ht] at e0 e1
        have hmul : (k : Int) * s = (t : Int) := by
          rw [← ht]
          obtain ⟨sn, rfl⟩ := Int.eq_ofNat_of_zero_le (show 0 ≤ s by omega)
          rw [Int.toNat_natCast]
          push_cast
          rfl
        have e0 : x0 = (t : Int) := e0
        have e1 : os[t]? = some x1 := e1
        have htn : t < n := by have := (List.getElem?_eq_some_iff.1 e1).1; omega
        subst e0
        obtain ⟨g2, o2, rfl, hg2, hcell⟩ := (AO.out.below hbw.out).2.resolve_left (by omega)
        have d0 := hcell t x1 e1
        have j0 : (0 : Int) ≤ (k : Int) := by omega
        have j1 : (k : Int) < (m : Int) := by omega
        have j2 : (0 : Int) ≤ (t : Int) := by omega
        have j3 : (t : Int) < (n : Int) := by omega
        have hn9 : n ≤ 9 := hn
        have hm9 : m ≤ 9 := by omega
        clear hx e1 hcell ht hle hts HAT HM hs1 hos hs hol
        go_wp2
        go_quiet (fail)
        go_wp2
        go_roundw
        case rel => exact ⟨k + 1, by omega, by go_num, Lib.hid (below_drewN hbw.out _)⟩
        case measure => simp [intOf]; omega
      · have B12 := Lib.hid (B11.out.trans (hbw.out.mono B11.out.size))
        have A11 := Lib.hid (A11.out.below hbw.out)
        have A2 := Lib.hid (A2.out.below hbw.out)
        have kn := nul_list
        clear hbw
        go_wp2_with (fail)
        refine (hS.out a11 a2 c11 c2 _ A11.out A2.out).mono ?_
        rintro e w13 ⟨rfl, b13⟩
        have B13 := Lib.hid (B12.out.trans (b13.mono B12.out.size))
        go_wp2_with (fail)
        refine (CN.out _).mono ?_
        rintro e w14 ⟨rfl, b14⟩
        have B14 := Lib.hid (B13.out.trans (b14.mono B13.out.size))
        go_wp2
        go_ret
        exact ⟨rfl, B14.out⟩

end Go.Proofs.Ytideejpopneplaa.pl
