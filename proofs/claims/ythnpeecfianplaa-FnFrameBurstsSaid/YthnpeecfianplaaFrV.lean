/-
  The walk of FnFrameBursts.
-/
import Derived.Test.YthnpeecfianplaaFrE
import Derived.Test.YthnpeecfianplaaFrJ
import Derived.Test.YthnpeecfianplaaBig
import Derived.Test.YthnpeecfianplaaLater
import Derived.Test.YthnpeecfianplaaTbA
import Derived.Test.YthnpeecfianplaaPlaces
import Derived.BigQuiet
namespace Go.Proofs.Ythnpeecfianplaa.fr
open Go.RowKit
open kit sum num burst hd

set_option maxHeartbeats 400000 in
theorem many_any (n : Nat) (w : World) (hn : n ≤ 5000) :
    Calls Try.prog 22 #[.int .i64 (n : Int)] w fun e w' => (∃ s : ByteArray, s.size = n ∧ e = .returned (.string s)) ∧ Below w.heap.size w w' := by
  obtain ⟨i0, hi, hz0, hz1, hz2⟩ := info_parts Try.infoU8
  go_enter Try.func22, Try.ntmps22
  go_wp2
  go_loopw [3, 4] (fun v i wr => ∃ (j : Nat) (xs : List Int), i = .int .i64 j ∧ j ≤ n ∧ wr.ownsRow w.heap.size 5 1 v j (xs.map (Value.int .u8)) ∧ Below w.heap.size w wr) (fun _ i _ => n - (intOf i).toNat)
  case atStart => exact ⟨0, [], rfl, Nat.zero_le _, World.ownsRow_made _ _ _ (Nat.le_refl _) (by decide) rfl, (Below.refl _ _).alloc (Nat.le_refl _) _⟩
  case round =>
    obtain ⟨j, xs, rfl, hj, hown, hb⟩ := hrel
    by_cases hlt : j < n
    · go_wp2_with (at_builtin; refine list_app (by rfl) (.tmp 11) (.tmp 12) 22 (by rfl) w wr 5 i0 (.int .u8 0) 1 Try.underlying22 hi hz0 hz1 hz2 (by rfl) _ j _ hown hb [.int .u8 113] 1 ?_ ?_ ?_ ?_ (by rfl) (by rfl) (by rfl) ?_ ?_; rfl; simp [Value.oneCell']; unfold maxLen; omega; omega; exact ⟨rfl, rfl, rfl⟩; intro v' w' hown' hb')
      go_roundw
      case rel => exact ⟨j + 1, xs ++ [113], by go_num, by omega, by simpa using hown', hb'⟩
      case measure => simp [intOf]; omega
    · obtain rfl : j = n := by omega
      have hcv := conv_own Try.underlying22 Try.underlying5 hown
      have hl : (strOfNums xs).size = j := by rw [strOfNums_size]; have := hown.1; simpa using this
      have HL := Lib.hid hl
      clear hl
      go_wp2
      go_ret
      exact ⟨⟨_, HL.out, rfl⟩, hb⟩

theorem six_m : ({ data := #[97, 255, 255, 255, 255, 15] } : ByteArray).size = 6 := rfl
theorem implMarkOld (w : World) : Calls Try.prog 19 #[.int .i64 1, .int .i64 0, .string { data := #[97, 255, 255, 255, 255, 15] }, .int .i64 1] w fun e w' => e = .returned (.bool true) ∧ Below w.heap.size w w' := by
  have h := implMarkAt_any 1 0 ({ data := #[97, 255, 255, 255, 255, 15] } : ByteArray) 1 w (by rw [six_m]; omega)
  rw [mark_old] at h
  exact h
theorem implMark1 (w : World) : Calls Try.prog 18 #[.int .i64 1, .int .i64 0] w fun e w' => e = .returned (.string { data := #[255, 255, 255, 255, 15] }) ∧ Below w.heap.size w w' := by
  have h := implMark_any 1 0 w
  rw [emT_old (by decide)] at h
  exact h
theorem implMark2 : ∃ t : ByteArray, t.size = 8 ∧ ∀ w, Calls Try.prog 18 #[.int .i64 2, .int .i64 0] w fun e w' => e = .returned (.string t) ∧ Below w.heap.size w w' :=
  ⟨_, emT_size (v := 2) (p := 0) (by decide), implMark_any 2 0⟩

theorem fbursts_big (a : Option Addr) (len cap : Nat) (w : World) (h : 1048576 < len) :
    Calls Try.prog 4 #[.slice a len cap] w fun e w' => e = .returned (.bool true) ∧ Below w.heap.size w w' := by
  go_enter Try.func4, Try.ntmps4
  go_wp2_with (go_at_call 10; refine (big_yes _ _ _ _ h).mono ?_; rintro e w' ⟨rfl, rfl⟩)
  go_ret
  exact ⟨rfl, Below.refl _ _⟩

set_option maxHeartbeats 4000000 in
set_option maxRecDepth 20000 in
theorem fbursts_small (a : Option Addr) (len cap : Nat) (w : World) (hc : draw.CodeAt w w.heap.size a len) :
    Calls Try.prog 4 #[.slice a len cap] w fun e w' => e = .returned (.bool true) ∧ Below w.heap.size w w' := by
  have HC := Lib.hid hc
  have hlen := hc.1
  clear hc
  have CM := Lib.hid (fun w => implMarkOld w)
  go_enter Try.func4, Try.ntmps4
  go_wp2_with (fail)
  refine (big_no _ _ _ _ hlen).mono ?_
  rintro e w' ⟨rfl, rfl⟩
  clear hlen
  go_wp2_with (fail)
  refine (draw.drawFrameText_any a len cap w HC.out).mono ?_
  rintro e w1 ⟨⟨v, p, r, hv0, hv3, hp0, hp1, hr, rfl⟩, b1⟩
  have B1 := Lib.hid b1
  clear b1 hv0 hv3
  by_cases hin : 0 ≤ p ∧ p ≤ 1000000000 ∧ r.size ≤ 60
  · obtain ⟨h0, h1, hr60⟩ := hin
    clear hp0 hp1 hr
    have CT := Lib.hid (fun w => implFrame_any 2 p r w (by omega))
    have CE := Lib.hid (fun w => implMark_any 2 p w)
    have ok : okV 2 p = true := okV_is.2 ⟨by omega, by omega, h0, h1⟩
    rw [frT_new ok hr60] at CT
    rw [emT_new ok] at CE
    have hts := frN_size h0 h1 hr60
    have hms := hdr_size h0 h1 (show 4294967295 < 4294967296 by decide)
    have FB := Lib.hid (fun (z : ByteArray) (a m : Nat) (ha : a < 8 * (12 + r.size)) (hm : m < 4294967296) (ho : m % 2 = 1) => frame_burst (z := z) h0 h1 hr60 ha hm ho)
    have FT := Lib.hid (fun (z : ByteArray) (a m : Nat) (ha : a < 64) (hm : m < 4294967296) (ho : m % 2 = 1) => torn_frame (z := z) h0 h1 ha hm ho)
    have FM := Lib.hid (fun (z : ByteArray) => mark_frame (z := z) h0 h1)
    have MT := Lib.hid (mark_there h0 h1)
    have MB := Lib.hid (fun (a m : Nat) (hm : m < 4294967296) (ho : m % 2 = 1) => bent_mark (at_ := a) h0 h1 hr60 hm ho)
    have MM := Lib.hid (fun (a m : Nat) (ha : a < 64) (hm : m < 4294967296) (ho : m % 2 = 1) => torn_mark h0 h1 ha hm ho)
    obtain ⟨T, hT⟩ : ∃ T, frN p r = T := ⟨_, rfl⟩
    obtain ⟨M, hM⟩ : ∃ M, hdr p 4294967295 = M := ⟨_, rfl⟩
    rw [hT] at CT hts FB MB
    rw [hM] at CE hms FT FM MT MM
    have g0 : ¬ p < 0 := by omega
    have g1 : ¬ 1000000000 < p := by omega
    have g2 : ¬ (60 : Int) < (r.size : Int) := by omega
    clear ok hT hM h0 h1
    go_wp2_with (fail)
    refine (CT.out _).mono ?_
    rintro e w2 ⟨rfl, b2⟩
    have B2 := Lib.hid (B1.out.trans (b2.mono B1.out.size))
    clear b2 B1 CT
    go_wp2_with (fail)
    refine (CE.out _).mono ?_
    rintro e w3 ⟨rfl, b3⟩
    have B3 := Lib.hid (B2.out.trans (b3.mono B2.out.size))
    clear b3 B2 CE
    have e1 : ((T.size : Int) == 12 + (r.size : Int)) = true := by rw [beq_iff_eq]; omega
    have e2 : ((M.size : Int) == 8) = true := by rw [beq_iff_eq]; omega
    go_wp2_with (fail)
    refine (draw.places_any a len cap w3 ((HC.out.below B3.out).raise B3.out.size)).mono ?_
    rintro e w4 ⟨u, ps, rfl, hps, hown, b4⟩
    have B4 := Lib.hid (B3.out.trans (b4.mono B3.out.size))
    obtain ⟨ga, cc, rfl, hl12, _, hf⟩ := own_form hown
    obtain ⟨g, rfl, hgB, hgl, hcell, _⟩ := hf.resolve_left (by omega)
    rw [List.length_map] at hl12
    obtain ⟨p0, p1, p2, p3, p4, pr, rfl⟩ : ∃ p0 p1 p2 p3 p4 pr, ps = p0 :: p1 :: p2 :: p3 :: p4 :: pr := by
      match ps, hl12 with
      | p0 :: p1 :: p2 :: p3 :: p4 :: pr, _ => exact ⟨p0, p1, p2, p3, p4, pr, rfl⟩
    have r0 := hps p0 (by simp)
    have r1 := hps p1 (by simp)
    have r2 := hps p2 (by simp)
    have r3 := hps p3 (by simp)
    have r4 := hps p4 (by simp)
    have c0 : w4.cell? ⟨g, 0, none⟩ = some (.int .i64 p0) := hcell 0 (by omega)
    have c1 : w4.cell? ⟨g, 1, none⟩ = some (.int .i64 p1) := hcell 1 (by omega)
    have c2 : w4.cell? ⟨g, 2, none⟩ = some (.int .i64 p2) := hcell 2 (by omega)
    have c3 : w4.cell? ⟨g, 3, none⟩ = some (.int .i64 p3) := hcell 3 (by omega)
    have c4 : w4.cell? ⟨g, 4, none⟩ = some (.int .i64 p4) := hcell 4 (by omega)
    obtain ⟨n0, rfl⟩ := Int.eq_ofNat_of_zero_le r0.1
    obtain ⟨n1, rfl⟩ := Int.eq_ofNat_of_zero_le r1.1
    obtain ⟨n2, rfl⟩ := Int.eq_ofNat_of_zero_le r2.1
    obtain ⟨n3, rfl⟩ := Int.eq_ofNat_of_zero_le r3.1
    obtain ⟨n4, rfl⟩ := Int.eq_ofNat_of_zero_le r4.1
    have r0' := r0.2
    have r1' := r1.2
    have r2' := r2.2
    have r3' := r3.2
    have r4' := r4.2
    clear hown hcell hf hl12 hps b4 r0 r1 r2 r3 r4 B3 e1 e2 g0 g1 g2
    have HTS := Lib.hid hts
    have HMS := Lib.hid hms
    obtain ⟨Z, hZ⟩ : ∃ Z : Nat, 1 + 2 * ((n1 * 10000 + n2) * 20 + n3 % 20) = Z := ⟨_, rfl⟩
    have hZl : Z < 4294967296 := by omega
    have hZo : Z % 2 = 1 := by omega
    have HCELL0 := Lib.hid c0
    have HCELL4 := Lib.hid c4
    have HGL := Lib.hid hgl
    have hden : ((8 * (T.size : Int)) == 0) = false := by rw [beq_eq_false_iff_ne]; omega
    have hts2 : 8 * (T.size : Int) ≤ 1000 := by omega
    go_wp2
    go_region
    have B4 := Lib.hid B4.out.drew
    obtain ⟨X, hX⟩ : ∃ X, X = w4.drew := ⟨_, rfl⟩
    have c0 : X.cell? ⟨g, 0, none⟩ = some (.int .i64 (n0 : Int)) := by rw [hX]; exact HCELL0.out
    have c4 : X.cell? ⟨g, 4, none⟩ = some (.int .i64 (n4 : Int)) := by rw [hX]; exact HCELL4.out
    have hgl : g < X.heap.size := by rw [hX]; exact HGL.out
    rw [← hX] at B4 ⊢
    clear hX
    rw [show (1 : Int) + 2 * (((n1 : Int) * 10000 + (n2 : Int)) * 20 + (n3 : Int) % 20) = (Z : Int) by omega]
    clear hZ r1' r2' r3'
    clear c1 c2 c3
    obtain ⟨A, hA⟩ : ∃ A, n0 % (8 * (12 + r.size)) = A := ⟨_, rfl⟩
    have hAl : A < 8 * (12 + r.size) := by rw [← hA]; exact Nat.mod_lt _ (by omega)
    obtain ⟨A4, hA4⟩ : ∃ A4, n4 % 64 = A4 := ⟨_, rfl⟩
    have hA4l : A4 < 64 := by omega
    have hA4K := Lib.hid hA4
    have hAi : (n0 : Int) % (8 * (12 + (r.size : Int))) = (A : Int) := by rw [← hA]; push_cast; rfl
    have hA4i : (n4 : Int) % 64 = (A4 : Int) := by omega
    have TM := Lib.hid (fun w => specTurn_in M A4 (Z : Int) w (by omega) (by omega))
    have TT := Lib.hid (fun w => specTurn_in T A (Z : Int) w (by omega) (by omega))
    have hus : (turn T A Z).size = 12 + r.size := by rw [turn_size]; exact hts
    have hvs : (turn M A4 Z).size = 8 := by rw [turn_size]; exact hms
    rw [low_of Z hZl] at TM TT
    have FB := Lib.hid (fun z => FB.out z A Z hAl hZl hZo)
    have MB := Lib.hid (MB.out A Z hZl hZo)
    have FT := Lib.hid (fun z => FT.out z A4 Z hA4l hZl hZo)
    have MM := Lib.hid (MM.out A4 Z hA4l hZl hZo)
    obtain ⟨U, hU⟩ : ∃ U, turn T A Z = U := ⟨_, rfl⟩
    obtain ⟨V, hV⟩ : ∃ V, turn M A4 Z = V := ⟨_, rfl⟩
    rw [hU] at TT FB MB hus
    rw [hV] at TM FT MM hvs
    clear hU hV hA hA4 hAl hA4l hZl hZo hA4i r0' r4'
    have CR := Lib.hid (fun (b : ByteArray) (w : World) (h : b.size ≤ 100000) => implReadF_any 2 p b 0 w (by omega))
    have CK := Lib.hid (fun (b : ByteArray) (w : World) (h : b.size ≤ 100000) => implMarkAt_any 2 p b 0 w (by omega))
    go_wp2_with (fail)
    rw [hAi]
    clear hAi c0
    refine (TT.out _).mono ?_
    rintro e w5 ⟨rfl, b5⟩
    have B5 := Lib.hid (B4.out.trans (b5.mono B4.out.size))
    have HC4 := Lib.hid ((b5.cell (p := ⟨g, 4, none⟩) hgl).trans c4)
    clear B4 TT c4
    have c4 := HC4.out
    have hgl5 : g < w5.heap.size := Nat.lt_of_lt_of_le hgl b5.size
    clear b5
    go_wp2_with (fail)
    have hA4 := hA4K.out
    rw [show (n4 : Int) % 64 = (A4 : Int) by omega]
    clear hA4
    refine (TM.out _).mono ?_
    rintro e w6 ⟨rfl, b6⟩
    have B6 := Lib.hid (B5.out.trans (b6.mono B5.out.size))
    clear b6 B5 TM c4 HC4
    go_wp2_with (fail)
    refine (many_any 60 _ (by omega)).mono ?_
    rintro e w7 ⟨⟨s1, hs1, rfl⟩, b7⟩
    have B7 := Lib.hid (B6.out.trans (b7.mono B6.out.size))
    clear b7 B6
    have RU := Lib.hid (fun w => CR.out (U ++ s1) w (by rw [ByteArray.size_append]; omega))
    rw [FB.out s1, show frR none = .tuple #[.string { data := #[] }, .int .i64 0, .bool false] from rfl] at RU
    go_wp2_with (fail)
    refine (RU.out _).mono ?_
    rintro e w8 ⟨rfl, b8⟩
    have B8 := Lib.hid (B7.out.trans (b8.mono B7.out.size))
    clear b8 B7 RU
    go_wp2_with (fail)
    refine (many_any 60 _ (by omega)).mono ?_
    rintro e w9 ⟨⟨s2, hs2, rfl⟩, b9⟩
    have B9 := Lib.hid (B8.out.trans (b9.mono B8.out.size))
    clear b9 B8
    have RV := Lib.hid (fun w => CR.out (V ++ s2) w (by rw [ByteArray.size_append]; omega))
    rw [FT.out s2, show frR none = .tuple #[.string { data := #[] }, .int .i64 0, .bool false] from rfl] at RV
    go_wp2_with (fail)
    refine (RV.out _).mono ?_
    rintro e w10 ⟨rfl, b10⟩
    have B10 := Lib.hid (B9.out.trans (b10.mono B9.out.size))
    clear b10 B9 RV
    go_wp2_with (fail)
    refine (many_any 60 _ (by omega)).mono ?_
    rintro e w11 ⟨⟨s3, hs3, rfl⟩, b11⟩
    have B11 := Lib.hid (B10.out.trans (b11.mono B10.out.size))
    clear b11 B10
    have RM := Lib.hid (fun w => CR.out (M ++ s3) w (by rw [ByteArray.size_append]; omega))
    rw [FM.out s3, show frR none = .tuple #[.string { data := #[] }, .int .i64 0, .bool false] from rfl] at RM
    go_wp2_with (fail)
    refine (RM.out _).mono ?_
    rintro e w12 ⟨rfl, b12⟩
    have B12 := Lib.hid (B11.out.trans (b12.mono B11.out.size))
    clear b12 B11 RM
    have KM := Lib.hid (fun w => CK.out M w (by omega))
    rw [MT.out] at KM
    have KV := Lib.hid (fun w => CK.out V w (by omega))
    rw [MM.out] at KV
    have KU := Lib.hid (fun w => CK.out U w (by omega))
    rw [MB.out] at KU
    go_wp2_with (fail)
    refine (KM.out _).mono ?_
    rintro e w13 ⟨rfl, b13⟩
    have B13 := Lib.hid (B12.out.trans (b13.mono B12.out.size))
    clear b13 B12 KM
    go_wp2_with (fail)
    refine (KV.out _).mono ?_
    rintro e w14 ⟨rfl, b14⟩
    have B14 := Lib.hid (B13.out.trans (b14.mono B13.out.size))
    clear b14 B13 KV
    go_wp2_with (fail)
    refine (KU.out _).mono ?_
    rintro e w15 ⟨rfl, b15⟩
    have B15 := Lib.hid (B14.out.trans (b15.mono B14.out.size))
    clear b15 B14 KU
    go_wp2_with (fail)
    refine (CM.out _).mono ?_
    rintro e w16 ⟨rfl, b16⟩
    have B16 := Lib.hid (B15.out.trans (b16.mono B15.out.size))
    clear b16 B15
    go_wp2
    go_ret
    exact ⟨rfl, B16.out⟩
  · have CB := Lib.hid (fun w => implMark1 w)
    obtain ⟨m2, hm2, CA⟩ := implMark2
    have CA := Lib.hid CA
    have hor : p < 0 ∨ (¬ p < 0 ∧ 1000000000 < p) ∨ (¬ p < 0 ∧ ¬ 1000000000 < p ∧ (60 : Int) < (r.size : Int)) := by omega
    clear hin hp0 hp1 hr
    rcases hor with g0 | ⟨g0, g1⟩ | ⟨g0, g1, g2⟩
    · go_wp2_with (fail)
      refine (CA.out _).mono ?_
      rintro e w2 ⟨rfl, b2⟩
      have B2 := Lib.hid (B1.out.trans (b2.mono B1.out.size))
      clear b2 B1
      go_wp2_with (fail)
      refine (CB.out _).mono ?_
      rintro e w3 ⟨rfl, b3⟩
      have B3 := Lib.hid (B2.out.trans (b3.mono B2.out.size))
      clear b3 B2
      go_wp2_with (fail)
      refine (CM.out _).mono ?_
      rintro e w4 ⟨rfl, b4⟩
      have B4 := Lib.hid (B3.out.trans (b4.mono B3.out.size))
      clear b4 B3
      go_wp2
      go_ret
      exact ⟨rfl, B4.out⟩
    · go_wp2_with (fail)
      refine (CA.out _).mono ?_
      rintro e w2 ⟨rfl, b2⟩
      have B2 := Lib.hid (B1.out.trans (b2.mono B1.out.size))
      clear b2 B1
      go_wp2_with (fail)
      refine (CB.out _).mono ?_
      rintro e w3 ⟨rfl, b3⟩
      have B3 := Lib.hid (B2.out.trans (b3.mono B2.out.size))
      clear b3 B2
      go_wp2_with (fail)
      refine (CM.out _).mono ?_
      rintro e w4 ⟨rfl, b4⟩
      have B4 := Lib.hid (B3.out.trans (b4.mono B3.out.size))
      clear b4 B3
      go_wp2
      go_ret
      exact ⟨rfl, B4.out⟩
    · go_wp2_with (fail)
      refine (CA.out _).mono ?_
      rintro e w2 ⟨rfl, b2⟩
      have B2 := Lib.hid (B1.out.trans (b2.mono B1.out.size))
      clear b2 B1
      go_wp2_with (fail)
      refine (CB.out _).mono ?_
      rintro e w3 ⟨rfl, b3⟩
      have B3 := Lib.hid (B2.out.trans (b3.mono B2.out.size))
      clear b3 B2
      go_wp2_with (fail)
      refine (CM.out _).mono ?_
      rintro e w4 ⟨rfl, b4⟩
      have B4 := Lib.hid (B3.out.trans (b4.mono B3.out.size))
      clear b4 B3
      go_wp2
      go_ret
      exact ⟨rfl, B4.out⟩

end Go.Proofs.Ythnpeecfianplaa.fr
