/-
  The walk of FnFrames.
-/
import Derived.Test.YthnpeecfianplaaFrE
import Derived.Test.YthnpeecfianplaaFrJ
import Derived.Test.YthnpeecfianplaaBig
import Derived.Test.YthnpeecfianplaaLater
import Derived.BigQuiet
namespace Go.Proofs.Ythnpeecfianplaa.fr
open Go.RowKit
open kit sum num burst hd

theorem two_ab : ({ data := #[97, 98] } : ByteArray).size = 2 := rfl
theorem one_z : ({ data := #[122] } : ByteArray).size = 1 := rfl
theorem size_zero {v p : Int} {r : ByteArray} (h : okV v p = true) (hr : r.size ≤ 60) : (frT v 0 r).size = (frT v p r).size := by
  have h' := okV_is.1 h
  rw [frT_size h hr, frT_size (okV_is.2 ⟨h'.1, h'.2.1, by omega, by omega⟩) hr]
theorem app_nul (t : ByteArray) : t ++ nul = t := by
  have h := txt_self t
  have h2 := txt_self (t ++ nul)
  rw [nats_app0, show nats nul 0 = [] from rfl, List.append_nil] at h2
  exact h2.symm.trans h
theorem other_eight {r : ByteArray} (hr : r.size ≤ 60) : rdF 2 8 (frT 2 7 r) 0 = none := by
  have h := other_place (p := 7) (p' := 8) (z := nul) (by omega) (by omega) hr (by omega)
  rw [app_nul] at h
  rw [frT_new (by decide) hr]
  exact h
theorem implSize1 (w : World) : Calls Try.prog 17 #[.int .i64 1, .string { data := #[97, 98] }] w fun e w' => e = .returned (.int .i64 7) ∧ Below w.heap.size w w' := by
  have h := implFrameSize_any 1 ({ data := #[97, 98] } : ByteArray) w (by rw [two_ab]; omega)
  rw [frT_size (by decide) (by rw [two_ab]; omega)] at h
  exact h
theorem implSize2 (w : World) : Calls Try.prog 17 #[.int .i64 2, .string { data := #[97, 98] }] w fun e w' => e = .returned (.int .i64 14) ∧ Below w.heap.size w w' := by
  have h := implFrameSize_any 2 ({ data := #[97, 98] } : ByteArray) w (by rw [two_ab]; omega)
  rw [frT_size (by decide) (by rw [two_ab]; omega)] at h
  exact h

theorem frames_big (a : Option Addr) (len cap : Nat) (w : World) (h : 1048576 < len) :
    Calls Try.prog 3 #[.slice a len cap] w fun e w' => e = .returned (.bool true) ∧ Below w.heap.size w w' := by
  go_enter Try.func3, Try.ntmps3
  go_wp2_with (go_at_call 10; refine (big_yes _ _ _ _ h).mono ?_; rintro e w' ⟨rfl, rfl⟩)
  go_ret
  exact ⟨rfl, Below.refl _ _⟩

set_option maxHeartbeats 4000000 in
set_option maxRecDepth 20000 in
theorem frames_small (a : Option Addr) (len cap : Nat) (w : World) (hc : draw.CodeAt w w.heap.size a len) :
    Calls Try.prog 3 #[.slice a len cap] w fun e w' => e = .returned (.bool true) ∧ Below w.heap.size w w' := by
  have HC := Lib.hid hc
  have hlen := hc.1
  clear hc
  go_enter Try.func3, Try.ntmps3
  go_wp2_with (fail)
  refine (big_no _ _ _ _ hlen).mono ?_
  rintro e w' ⟨rfl, rfl⟩
  clear hlen
  go_wp2_with (fail)
  refine (draw.drawReadFrame_any a len cap w HC.out).mono ?_
  rintro e w1 ⟨⟨v, p, b, q, hv0, hv3, hp0, hp9, hb, hq0, hq1, rfl⟩, b1⟩
  have B1 := Lib.hid b1
  have CR := Lib.hid (fun w => implReadF_any v p b q w (by omega))
  have CQ := Lib.hid (fun w => specReadF_any v p b q w (by omega))
  clear b1 hv0 hv3 hp0 hp9
  cases hx : rdF v p b q with
  | none =>
    rw [hx, show frR none = .tuple #[.string { data := #[] }, .int .i64 0, .bool false] from rfl] at CR CQ
    clear hx
    go_wp2_with (fail)
    refine (CR.out _).mono ?_
    rintro e w2 ⟨rfl, b2⟩
    have B2 := Lib.hid (B1.out.trans (b2.mono B1.out.size))
    clear b2 B1 CR
    have hee : ((({ data := #[] } : ByteArray)).toList == ({ data := #[] } : ByteArray).toList) = true := beq_self_eq_true _
    go_wp2_with (fail)
    refine (CQ.out _).mono ?_
    rintro e w3 ⟨rfl, b3⟩
    have B3 := Lib.hid (B2.out.trans (b3.mono B2.out.size))
    clear b3 B2 CQ hq0 hq1 hb
    go_wp2
    go_region
    have B3 := Lib.hid B3.out.drew
    go_wp2_with (fail)
    refine (draw.drawFrameText_any a len cap w3.drew ((HC.out.below B3.out).raise B3.out.size)).mono ?_
    rintro e w4 ⟨⟨v2, p2, r2, hv0, hv3, hp0, hp1, hr2, rfl⟩, b4⟩
    have B4 := Lib.hid (B3.out.trans (b4.mono B3.out.size))
    clear b4 B3
    by_cases hok : okV v2 p2 = true ∧ r2.size ≤ 60
    · obtain ⟨ok, hr60⟩ := hok
      have CT := Lib.hid (fun w => implFrame_any v2 p2 r2 w (by omega))
      have CS := Lib.hid (fun w => specFrame_any v2 p2 r2 w (by omega))
      have CZ := Lib.hid (fun w => implFrameSize_any v2 r2 w (by omega))
      have CN := Lib.hid (fun w => specFrame_any 2 7 r2 w (by omega))
      have hts := frT_size ok hr60
      have HZ := Lib.hid (size_zero ok hr60)
      have HR := Lib.hid (rdF_frT ok hr60 ({ data := #[97, 98] } : ByteArray) { data := #[122] })
      have HN := Lib.hid (other_eight hr60)
      have hns := frT_le 2 7 r2
      obtain ⟨T, hT⟩ : ∃ T, frT v2 p2 r2 = T := ⟨_, rfl⟩
      obtain ⟨N7, hN7⟩ : ∃ N7, frT 2 7 r2 = N7 := ⟨_, rfl⟩
      rw [hT] at CT CS hts HR HZ
      rw [hN7] at CN HN hns
      have htl : T.size ≤ 72 := by rw [← hT]; exact frT_le _ _ _
      have hne : T.toList.isEmpty = false := str_full (by rw [hts]; split <;> omega)
      have hTT : (T.toList == T.toList) = true := beq_self_eq_true _
      rw [HZ.out] at CZ
      clear hT hN7 HZ hts ok hv0 hv3 hp0 hp1
      go_wp2_with (fail)
      refine (CT.out _).mono ?_
      rintro e w5 ⟨rfl, b5⟩
      have B5 := Lib.hid (B4.out.trans (b5.mono B4.out.size))
      clear b5 B4 CT
      go_wp2_with (fail)
      refine (CS.out _).mono ?_
      rintro e w6 ⟨rfl, b6⟩
      have B6 := Lib.hid (B5.out.trans (b6.mono B5.out.size))
      clear b6 B5 CS
      have CR := Lib.hid (fun w => implReadF_any v2 p2 (({ data := #[97, 98] } : ByteArray) ++ T ++ { data := #[122] }) 2 w (by rw [ByteArray.size_append, ByteArray.size_append, two_ab, one_z]; omega))
      rw [ByteArray.append_assoc, show (2 : Int) = ((({ data := #[97, 98] } : ByteArray).size : Nat) : Int) from rfl, HR.out, show ∀ k, frR (some (r2, k)) = .tuple #[.string r2, .int .i64 (k : Int), .bool true] from fun _ => rfl] at CR
      have CE := Lib.hid (fun w => implReadF_any 2 8 N7 0 w (by omega))
      rw [HN.out, show frR none = .tuple #[.string { data := #[] }, .int .i64 0, .bool false] from rfl] at CE
      clear HR HN
      have n1 := two_ab
      have n2 := one_z
      go_wp2_with (fail)
      rw [ByteArray.append_assoc]
      refine (CR.out _).mono ?_
      rintro e w7 ⟨rfl, b7⟩
      have B7 := Lib.hid (B6.out.trans (b7.mono B6.out.size))
      clear b7 B6 CR
      go_wp2_with (fail)
      refine (CN.out _).mono ?_
      rintro e w8 ⟨rfl, b8⟩
      have B8 := Lib.hid (B7.out.trans (b8.mono B7.out.size))
      clear b8 B7 CN
      go_wp2_with (fail)
      refine (CE.out _).mono ?_
      rintro e w9 ⟨rfl, b9⟩
      have B9 := Lib.hid (B8.out.trans (b9.mono B8.out.size))
      clear b9 B8 CE
      have hrr : (r2.toList == r2.toList) = true := beq_self_eq_true _
      have C1 := Lib.hid (fun w => implSize1 w)
      have C2 := Lib.hid (fun w => implSize2 w)
      go_wp2_with (fail)
      refine (CZ.out _).mono ?_
      rintro e w10 ⟨rfl, b10⟩
      have B10 := Lib.hid (B9.out.trans (b10.mono B9.out.size))
      clear b10 B9 CZ
      go_wp2_with (fail)
      refine (C1.out _).mono ?_
      rintro e w11 ⟨rfl, b11⟩
      have B11 := Lib.hid (B10.out.trans (b11.mono B10.out.size))
      clear b11 B10 C1
      go_wp2_with (fail)
      refine (C2.out _).mono ?_
      rintro e w12 ⟨rfl, b12⟩
      have B12 := Lib.hid (B11.out.trans (b12.mono B11.out.size))
      clear b12 B11 C2
      go_wp2
      go_ret
      exact ⟨rfl, B12.out⟩
    · have hno := frT_no hok
      have CT := Lib.hid (fun w => implFrame_any v2 p2 r2 w (by omega))
      have CS := Lib.hid (fun w => specFrame_any v2 p2 r2 w (by omega))
      rw [hno] at CT CS
      have he : nul.toList.isEmpty = true := by rw [ByteArray.toList_eq]; rfl
      have C1 := Lib.hid (fun w => implSize1 w)
      have C2 := Lib.hid (fun w => implSize2 w)
      have hTT : (nul.toList == nul.toList) = true := beq_self_eq_true _
      clear hno hok hv0 hv3 hp0 hp1
      go_wp2_with (fail)
      refine (CT.out _).mono ?_
      rintro e w5 ⟨rfl, b5⟩
      have B5 := Lib.hid (B4.out.trans (b5.mono B4.out.size))
      clear b5 B4 CT
      go_wp2_with (fail)
      refine (CS.out _).mono ?_
      rintro e w6 ⟨rfl, b6⟩
      have B6 := Lib.hid (B5.out.trans (b6.mono B5.out.size))
      clear b6 B5 CS
      go_wp2_with (fail)
      refine (C1.out _).mono ?_
      rintro e w7 ⟨rfl, b7⟩
      have B7 := Lib.hid (B6.out.trans (b7.mono B6.out.size))
      clear b7 B6 C1
      go_wp2_with (fail)
      refine (C2.out _).mono ?_
      rintro e w8 ⟨rfl, b8⟩
      have B8 := Lib.hid (B7.out.trans (b8.mono B7.out.size))
      clear b8 B7 C2
      go_wp2
      go_ret
      exact ⟨rfl, B8.out⟩
  | some x =>
    obtain ⟨r, z⟩ := x
    rw [hx, show frR (some (r, z)) = .tuple #[.string r, .int .i64 (z : Int), .bool true] from rfl] at CR CQ
    obtain ⟨hok, ha0, hab, hr60, hz, hzb, hext⟩ := rdF_some hx
    obtain ⟨n, rfl⟩ := Int.eq_ofNat_of_zero_le ha0
    rw [Int.toNat_natCast] at hz hext
    have CF := Lib.hid (fun w => implFrame_any v p r w (by omega))
    obtain ⟨T, hT⟩ : ∃ T, frT v p r = T := ⟨_, rfl⟩
    rw [hT] at CF hz hext
    have hTT : (T.toList == (b.extract n z).toList) = true := by rw [hext]; exact beq_self_eq_true _
    have hnz : n ≤ z := by omega
    clear hx hT hok hz hext
    go_wp2_with (fail)
    refine (CR.out _).mono ?_
    rintro e w2 ⟨rfl, b2⟩
    have B2 := Lib.hid (B1.out.trans (b2.mono B1.out.size))
    clear b2 B1 CR
    have hrr : (r.toList == r.toList) = true := beq_self_eq_true _
    go_wp2_with (fail)
    refine (CQ.out _).mono ?_
    rintro e w2b ⟨rfl, b3⟩
    have B2b := Lib.hid (B2.out.trans (b3.mono B2.out.size))
    clear b3 B2 CQ hq0 hq1
    go_wp2
    refine wp_region_later (by kernel_rfl) (by kernel_rfl) ?_
    repeat (first | go_big_quiet_skip | (go_big_quiet_want; go_big_quiet_op; go_big_quiet_on))
    go_big_quiet_want
    go_big_quiet_op
    apply Exists.intro
    refine ⟨fun x => ?_, ?_⟩
    · go_at_call 14
      exact Calls.later (CF.out x.val)
    go_big_quiet_on
    repeat (first | go_big_quiet_skip | (go_big_quiet_want; go_big_quiet_op; go_big_quiet_on))
    refine wpQuiet_nil ?_
    rintro w3 ⟨x2, hx2⟩
    have b3 : Below w2b.heap.size w2b w3 := hx2 ▸ x2.2
    clear hx2 x2
    have B3 := Lib.hid (B2b.out.trans (b3.mono B2b.out.size))
    clear b3 B2b CF hTT hrr
    go_wp2_with (fail)
    refine (draw.drawFrameText_any a len cap w3 ((HC.out.below B3.out).raise B3.out.size)).mono ?_
    rintro e w4 ⟨⟨v2, p2, r2, hv0, hv3, hp0, hp1, hr2, rfl⟩, b4⟩
    have B4 := Lib.hid (B3.out.trans (b4.mono B3.out.size))
    clear b4 B3
    by_cases hok : okV v2 p2 = true ∧ r2.size ≤ 60
    · obtain ⟨ok, hr60⟩ := hok
      have CT := Lib.hid (fun w => implFrame_any v2 p2 r2 w (by omega))
      have CS := Lib.hid (fun w => specFrame_any v2 p2 r2 w (by omega))
      have CZ := Lib.hid (fun w => implFrameSize_any v2 r2 w (by omega))
      have CN := Lib.hid (fun w => specFrame_any 2 7 r2 w (by omega))
      have hts := frT_size ok hr60
      have HZ := Lib.hid (size_zero ok hr60)
      have HR := Lib.hid (rdF_frT ok hr60 ({ data := #[97, 98] } : ByteArray) { data := #[122] })
      have HN := Lib.hid (other_eight hr60)
      have hns := frT_le 2 7 r2
      obtain ⟨T, hT⟩ : ∃ T, frT v2 p2 r2 = T := ⟨_, rfl⟩
      obtain ⟨N7, hN7⟩ : ∃ N7, frT 2 7 r2 = N7 := ⟨_, rfl⟩
      rw [hT] at CT CS hts HR HZ
      rw [hN7] at CN HN hns
      have htl : T.size ≤ 72 := by rw [← hT]; exact frT_le _ _ _
      have hne : T.toList.isEmpty = false := str_full (by rw [hts]; split <;> omega)
      have hTT : (T.toList == T.toList) = true := beq_self_eq_true _
      rw [HZ.out] at CZ
      clear hT hN7 HZ hts ok hv0 hv3 hp0 hp1
      go_wp2_with (fail)
      refine (CT.out _).mono ?_
      rintro e w5 ⟨rfl, b5⟩
      have B5 := Lib.hid (B4.out.trans (b5.mono B4.out.size))
      clear b5 B4 CT
      go_wp2_with (fail)
      refine (CS.out _).mono ?_
      rintro e w6 ⟨rfl, b6⟩
      have B6 := Lib.hid (B5.out.trans (b6.mono B5.out.size))
      clear b6 B5 CS
      have CR := Lib.hid (fun w => implReadF_any v2 p2 (({ data := #[97, 98] } : ByteArray) ++ T ++ { data := #[122] }) 2 w (by rw [ByteArray.size_append, ByteArray.size_append, two_ab, one_z]; omega))
      rw [ByteArray.append_assoc, show (2 : Int) = ((({ data := #[97, 98] } : ByteArray).size : Nat) : Int) from rfl, HR.out, show ∀ k, frR (some (r2, k)) = .tuple #[.string r2, .int .i64 (k : Int), .bool true] from fun _ => rfl] at CR
      have CE := Lib.hid (fun w => implReadF_any 2 8 N7 0 w (by omega))
      rw [HN.out, show frR none = .tuple #[.string { data := #[] }, .int .i64 0, .bool false] from rfl] at CE
      clear HR HN
      have n1 := two_ab
      have n2 := one_z
      go_wp2_with (fail)
      rw [ByteArray.append_assoc]
      refine (CR.out _).mono ?_
      rintro e w7 ⟨rfl, b7⟩
      have B7 := Lib.hid (B6.out.trans (b7.mono B6.out.size))
      clear b7 B6 CR
      go_wp2_with (fail)
      refine (CN.out _).mono ?_
      rintro e w8 ⟨rfl, b8⟩
      have B8 := Lib.hid (B7.out.trans (b8.mono B7.out.size))
      clear b8 B7 CN
      go_wp2_with (fail)
      refine (CE.out _).mono ?_
      rintro e w9 ⟨rfl, b9⟩
      have B9 := Lib.hid (B8.out.trans (b9.mono B8.out.size))
      clear b9 B8 CE
      have hrr : (r2.toList == r2.toList) = true := beq_self_eq_true _
      have C1 := Lib.hid (fun w => implSize1 w)
      have C2 := Lib.hid (fun w => implSize2 w)
      go_wp2_with (fail)
      refine (CZ.out _).mono ?_
      rintro e w10 ⟨rfl, b10⟩
      have B10 := Lib.hid (B9.out.trans (b10.mono B9.out.size))
      clear b10 B9 CZ
      go_wp2_with (fail)
      refine (C1.out _).mono ?_
      rintro e w11 ⟨rfl, b11⟩
      have B11 := Lib.hid (B10.out.trans (b11.mono B10.out.size))
      clear b11 B10 C1
      go_wp2_with (fail)
      refine (C2.out _).mono ?_
      rintro e w12 ⟨rfl, b12⟩
      have B12 := Lib.hid (B11.out.trans (b12.mono B11.out.size))
      clear b12 B11 C2
      go_wp2
      go_ret
      exact ⟨rfl, B12.out⟩
    · have hno := frT_no hok
      have CT := Lib.hid (fun w => implFrame_any v2 p2 r2 w (by omega))
      have CS := Lib.hid (fun w => specFrame_any v2 p2 r2 w (by omega))
      rw [hno] at CT CS
      have he : nul.toList.isEmpty = true := by rw [ByteArray.toList_eq]; rfl
      have C1 := Lib.hid (fun w => implSize1 w)
      have C2 := Lib.hid (fun w => implSize2 w)
      have hTT : (nul.toList == nul.toList) = true := beq_self_eq_true _
      clear hno hok hv0 hv3 hp0 hp1
      go_wp2_with (fail)
      refine (CT.out _).mono ?_
      rintro e w5 ⟨rfl, b5⟩
      have B5 := Lib.hid (B4.out.trans (b5.mono B4.out.size))
      clear b5 B4 CT
      go_wp2_with (fail)
      refine (CS.out _).mono ?_
      rintro e w6 ⟨rfl, b6⟩
      have B6 := Lib.hid (B5.out.trans (b6.mono B5.out.size))
      clear b6 B5 CS
      go_wp2_with (fail)
      refine (C1.out _).mono ?_
      rintro e w7 ⟨rfl, b7⟩
      have B7 := Lib.hid (B6.out.trans (b7.mono B6.out.size))
      clear b7 B6 C1
      go_wp2_with (fail)
      refine (C2.out _).mono ?_
      rintro e w8 ⟨rfl, b8⟩
      have B8 := Lib.hid (B7.out.trans (b8.mono B7.out.size))
      clear b8 B7 C2
      go_wp2
      go_ret
      exact ⟨rfl, B8.out⟩

end Go.Proofs.Ythnpeecfianplaa.fr
