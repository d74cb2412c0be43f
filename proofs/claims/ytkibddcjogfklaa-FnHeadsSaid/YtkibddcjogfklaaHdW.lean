/-
  The walks of FnHeads and FnLinks.
-/
import Derived.Test.YtkibddcjogfklaaHdX
import Derived.Test.YtkibddcjogfklaaHdE
import Derived.Test.YtkibddcjogfklaaTbA
import Derived.Test.YtkibddcjogfklaaPlaces
namespace Go.Proofs.Ytkibddcjogfklaa.hd
open Go.RowKit
open kit sum num burst

theorem specHeadTextL (v s b l : Int) (w : World) : Calls Try.prog 13 #[.agg #[.int .i64 v, .int .i64 s, .int .i64 b, .int .i64 l]] w fun e w' => e = .returned (.string (hdT ⟨v, s, b, l⟩)) ∧ Below w.heap.size w w' := specHeadText v s b l w
theorem good_ok : okH ⟨2, 3, 7, 5⟩ = true := by decide
theorem two_xy : (({ data := #[120, 121] } : ByteArray)).size = 2 := rfl
theorem heads_big (a : Option Addr) (len cap : Nat) (w : World) (h : 1048576 < len) :
    Calls Try.prog 3 #[.slice a len cap] w fun e w' => e = .returned (.bool true) ∧ Below w.heap.size w w' := by
  go_enter Try.func3, Try.ntmps3
  go_wp2_with (go_at_call 10; refine (big_yes _ _ _ _ h).mono ?_; rintro e w' ⟨rfl, rfl⟩)
  go_ret
  exact ⟨rfl, Below.refl _ _⟩

set_option maxHeartbeats 4000000 in
set_option maxRecDepth 20000 in
theorem heads_small (a : Option Addr) (len cap : Nat) (w : World) (hc : draw.CodeAt w w.heap.size a len) :
    Calls Try.prog 3 #[.slice a len cap] w fun e w' => e = .returned (.bool true) ∧ Below w.heap.size w w' := by
  have HC := Lib.hid hc
  have hlen := hc.1
  clear hc
  go_enter Try.func3, Try.ntmps3
  go_wp2_with (fail)
  refine (big_no _ _ _ _ hlen).mono ?_
  rintro e w' ⟨rfl, rfl⟩
  clear hlen
  go_wp2_with (fail)
  refine (draw.drawHeadText_any a len cap w HC.out).mono ?_
  rintro e w1 ⟨⟨v, s, b, l, rfl⟩, b1⟩
  have B0 := Lib.hid (Below.refl w.heap.size w)
  obtain ⟨W1, hW1⟩ : ∃ W1, W1 = w1.alloc (.cells #[.int .i64 v, .int .i64 s, .int .i64 b, .int .i64 l] 25) := ⟨_, rfl⟩
  have qW1 : Below w.heap.size w W1 := by rw [hW1]; exact b1.alloc b1.size _
  have B1 := Lib.hid (B0.out.trans (qW1.mono B0.out.size))
  have F1 := Lib.hid (show Four W1 w1.heap.size (.int .i64 v) (.int .i64 s) (.int .i64 b) (.int .i64 l) by rw [hW1]; exact Four.new w1 _ _ _ _ _)
  have HW1 := Lib.hid hW1
  clear hW1
  obtain ⟨_, x0, x1, x2, x3⟩ := F1.out
  rw [HW1.out] at x0 x1 x2 x3
  clear b1 qW1
  have CT := Lib.hid (fun w => implHeadText v s b l w)
  have CS := Lib.hid (fun w => specHeadTextL v s b l w)
  have CI := Lib.hid (fun w => implHeadOk v s b l w)
  have CO := Lib.hid (fun w => specHeadOk v s b l w)
  have hT2 : hdT ⟨v, s, b, l⟩ = nul ∨ (hdT ⟨v, s, b, l⟩).size = 24 := by
    cases k : okH ⟨v, s, b, l⟩ with
    | true => exact .inr (hdT_size k)
    | false => exact .inl (hdT_no k)
  obtain ⟨T, hT⟩ : ∃ T, hdT ⟨v, s, b, l⟩ = T := ⟨_, rfl⟩
  obtain ⟨o, ho⟩ : ∃ o, okH ⟨v, s, b, l⟩ = o := ⟨_, rfl⟩
  rw [hT] at CT CS hT2
  rw [ho] at CI CO
  have HT2 := Lib.hid hT2
  clear hT ho hT2
  go_wp2_with (fail)
  rw [← HW1.out]
  clear x0 x1 x2 x3
  refine (CT.out _).mono ?_
  rintro e w2 ⟨rfl, b2⟩
  have B2 := Lib.hid (B1.out.trans (b2.mono B1.out.size))
  obtain ⟨z2, y0, y1, y2, y3⟩ := F1.out.below b2
  have q0 := Later.cell y0 z2
  have q1 := Later.cell y1 z2
  have q2 := Later.cell y2 z2
  have q3 := Later.cell y3 z2
  have hTT : (T.toList == T.toList) = true := beq_self_eq_true _
  clear b2 CT
  go_wp2
  refine wp_region_later (by kernel_rfl) (by kernel_rfl) ?_
  repeat (first | go_big_quiet_skip | (go_big_quiet_want; go_big_quiet_op; go_big_quiet_on))
  go_big_quiet_want
  go_big_quiet_op
  apply Exists.intro
  refine ⟨fun x => ?_, ?_⟩
  · go_at_call 13
    exact Calls.later (CS.out x.val)
  go_big_quiet_on
  repeat (first | go_big_quiet_skip | (go_big_quiet_want; go_big_quiet_op; go_big_quiet_on))
  go_big_quiet_want
  go_big_quiet_op
  apply Exists.intro
  refine ⟨fun x => ?_, ?_⟩
  · go_at_call 14
    exact Calls.later (CI.out x.val)
  go_big_quiet_on
  repeat (first | go_big_quiet_skip | (go_big_quiet_want; go_big_quiet_op; go_big_quiet_on))
  go_big_quiet_want
  go_big_quiet_op
  apply Exists.intro
  refine ⟨fun x => ?_, ?_⟩
  · go_at_call 15
    exact Calls.later (CO.out x.val)
  go_big_quiet_on
  repeat (first | go_big_quiet_skip | (go_big_quiet_want; go_big_quiet_op; go_big_quiet_on))
  refine wpQuiet_nil ?_
  rintro w3 ⟨x2, hx2⟩
  have b3 : Below w2.heap.size w2 w3 := hx2 ▸ x2.2
  clear hx2 x2
  have B3 := Lib.hid (B2.out.trans (b3.mono B2.out.size))
  clear b3 q0 q1 q2 q3 y0 y1 y2 y3 hTT CS CI CO F1
  go_wp2_with (fail)
  refine (draw.drawReadHead_any a len cap w3 ((HC.out.below B3.out).raise B3.out.size)).mono ?_
  rintro e w4 ⟨⟨t, ht, rfl⟩, b4⟩
  have B4 := Lib.hid (B3.out.trans (b4.mono B3.out.size))
  clear b4 B3
  have CR := Lib.hid (fun w => implReadHead t w (by omega))
  have CQ := Lib.hid (fun w => specReadHead t w (by omega))
  obtain ⟨xv, xs, xb, xl, hx⟩ := hdV_form (rdH t)
  unfold hdR at CR CQ
  rw [hx] at CR CQ
  obtain ⟨k, hk⟩ : ∃ k, (rdH t).isSome = k := ⟨_, rfl⟩
  rw [hk] at CR CQ
  clear hx hk ht
  go_wp2_with (fail)
  refine (CR.out _).mono ?_
  rintro e w5 ⟨rfl, b5⟩
  obtain ⟨W5, hW5⟩ : ∃ W5, W5 = w5.alloc (.cells #[.int .i64 xv, .int .i64 xs, .int .i64 xb, .int .i64 xl] 25) := ⟨_, rfl⟩
  have qW5 : Below w4.heap.size w4 W5 := by rw [hW5]; exact b5.alloc b5.size _
  have B5 := Lib.hid (B4.out.trans (qW5.mono B4.out.size))
  have F5 := Lib.hid (show Four W5 w5.heap.size (.int .i64 xv) (.int .i64 xs) (.int .i64 xb) (.int .i64 xl) by rw [hW5]; exact Four.new w5 _ _ _ _ _)
  have HW5 := Lib.hid hW5
  clear hW5
  clear b5 qW5 CR
  go_wp2_with (fail)
  rw [← HW5.out]
  refine (CQ.out _).mono ?_
  rintro e w6 ⟨rfl, b6⟩
  obtain ⟨W6, hW6⟩ : ∃ W6, W6 = w6.alloc (.cells #[.int .i64 xv, .int .i64 xs, .int .i64 xb, .int .i64 xl] 25) := ⟨_, rfl⟩
  have qW6 : Below W5.heap.size W5 W6 := by rw [hW6]; exact b6.alloc b6.size _
  have B6 := Lib.hid (B5.out.trans (qW6.mono B5.out.size))
  have F6 := Lib.hid (show Four W6 w6.heap.size (.int .i64 xv) (.int .i64 xs) (.int .i64 xb) (.int .i64 xl) by rw [hW6]; exact Four.new w6 _ _ _ _ _)
  have HW6 := Lib.hid hW6
  clear hW6
  obtain ⟨_, x0, x1, x2, x3⟩ := F5.out.below qW6
  obtain ⟨_, y0, y1, y2, y3⟩ := F6.out
  rw [HW6.out] at x0 x1 x2 x3 y0 y1 y2 y3
  clear b6 qW6 CQ F5 F6
  have CG := Lib.hid (fun w => specHeadTextL 2 3 7 5 w)
  have hG := hdT_size good_ok
  have HGR := Lib.hid (fun a m (hm : m < 4294967296) (h0 : bur 24 a m ≠ 0) => rdH_turn (g := ⟨2, 3, 7, 5⟩) (at_ := a) good_ok hm h0)
  have HGY := Lib.hid (rdH_hdT good_ok { data := #[120, 121] })
  obtain ⟨G, hGe⟩ : ∃ G, hdT ⟨2, 3, 7, 5⟩ = G := ⟨_, rfl⟩
  rw [hGe] at CG hG HGR HGY
  have HG := Lib.hid hG
  clear hGe hG
  go_wp2_with (fail)
  rw [← HW6.out]
  clear x0 x1 x2 x3 y0 y1 y2 y3
  refine (CG.out _).mono ?_
  rintro e w7 ⟨rfl, b7⟩
  have B7 := Lib.hid (B6.out.trans (b7.mono B6.out.size))
  clear b7 CG
  go_wp2_with (fail)
  refine (draw.places_any a len cap w7 ((HC.out.below B7.out).raise B7.out.size)).mono ?_
  rintro e w8 ⟨u, ps, rfl, hps, hown, b8⟩
  have B8 := Lib.hid (B7.out.trans (b8.mono B7.out.size))
  obtain ⟨ga, cc, rfl, hl12, _, hf⟩ := own_form hown
  obtain ⟨g, rfl, hgB, hgl, hcell, _⟩ := hf.resolve_left (by omega)
  rw [List.length_map] at hl12
  obtain ⟨p0, p1, p2, p3, pr, rfl⟩ : ∃ p0 p1 p2 p3 pr, ps = p0 :: p1 :: p2 :: p3 :: pr := by
    match ps, hl12 with
    | p0 :: p1 :: p2 :: p3 :: pr, _ => exact ⟨p0, p1, p2, p3, pr, rfl⟩
  have r0 := hps p0 (by simp)
  have r1 := hps p1 (by simp)
  have r2 := hps p2 (by simp)
  have r3 := hps p3 (by simp)
  have c0 : w8.cell? ⟨g, 0, none⟩ = some (.int .i64 p0) := hcell 0 (by omega)
  have c1 : w8.cell? ⟨g, 1, none⟩ = some (.int .i64 p1) := hcell 1 (by omega)
  have c2 : w8.cell? ⟨g, 2, none⟩ = some (.int .i64 p2) := hcell 2 (by omega)
  have c3 : w8.cell? ⟨g, 3, none⟩ = some (.int .i64 p3) := hcell 3 (by omega)
  obtain ⟨n0, rfl⟩ := Int.eq_ofNat_of_zero_le r0.1
  obtain ⟨n1, rfl⟩ := Int.eq_ofNat_of_zero_le r1.1
  obtain ⟨n2, rfl⟩ := Int.eq_ofNat_of_zero_le r2.1
  obtain ⟨n3, rfl⟩ := Int.eq_ofNat_of_zero_le r3.1
  have r0' := r0.2
  have r1' := r1.2
  have r2' := r2.2
  have r3' := r3.2
  have gsz : G.size = 24 := HG.out
  clear hown hcell hf hl12 hps b8 r0 r1 r2 r3 B7
  go_wp2
  go_region
  go_wp2_with (fail)
  clear c0 c1 c2 c3
  obtain ⟨A, hA⟩ : ∃ A, n0 % 192 = A := ⟨_, rfl⟩
  rw [show (n0 : Int) % 192 = (A : Int) by omega]
  obtain ⟨M, hM⟩ : ∃ M : Nat, 1 + 2 * ((n1 * 10000 + n2) * 20 + n3 % 20) = M := ⟨_, rfl⟩
  rw [show (1 : Int) + 2 * (((n1 : Int) * 10000 + (n2 : Int)) * 20 + (n3 : Int) % 20) = (M : Int) by omega]
  have hAl : A < 192 := by omega
  have hMl : M < 4294967296 := by omega
  have hMo : M % 2 = 1 := by omega
  clear hA hM r0' r1' r2' r3'
  refine (specTurn_in G A (M : Int) w8.drew (by omega) (by omega)).mono ?_
  rw [low_of M hMl]
  rintro e w9 ⟨rfl, b9⟩
  have B9 := Lib.hid (B8.out.trans (((Below.refl w8.heap.size w8).drew.trans b9).mono B8.out.size))
  have hno := HGR.out A M hMl (bur_odd (by omega) hMo)
  have hus : (turn G A M).size = 24 := by rw [turn_size]; exact gsz
  obtain ⟨U, hU⟩ : ∃ U, turn G A M = U := ⟨_, rfl⟩
  rw [hU] at hno hus ⊢
  have CU := Lib.hid (fun w => implReadHead U w (by omega))
  rw [hno, show hdR none = .tuple #[.agg #[.int .i64 0, .int .i64 0, .int .i64 0, .int .i64 0], .bool false] from rfl] at CU
  clear hU hno hus b9 hAl hMl hMo B8 HGR
  go_wp2_with (fail)
  refine (CU.out _).mono ?_
  rintro e w10 ⟨rfl, b10⟩
  obtain ⟨W10, hW10⟩ : ∃ W10, W10 = w10.alloc (.cells #[.int .i64 0, .int .i64 0, .int .i64 0, .int .i64 0] 25) := ⟨_, rfl⟩
  have qW10 : Below w9.heap.size w9 W10 := by rw [hW10]; exact b10.alloc b10.size _
  have B10 := Lib.hid (B9.out.trans (qW10.mono B9.out.size))
  have F10 := Lib.hid (show Four W10 w10.heap.size (.int .i64 0) (.int .i64 0) (.int .i64 0) (.int .i64 0) by rw [hW10]; exact Four.new w10 _ _ _ _ _)
  have HW10 := Lib.hid hW10
  clear hW10
  clear b10 qW10 CU
  have CY := Lib.hid (fun w => implReadHead (G ++ { data := #[120, 121] }) w (by rw [ByteArray.size_append, two_xy]; omega))
  rw [HGY.out, show hdR (some ⟨2, 3, 7, 5⟩) = .tuple #[.agg #[.int .i64 2, .int .i64 3, .int .i64 7, .int .i64 5], .bool true] from rfl] at CY
  go_wp2_with (fail)
  rw [← HW10.out]
  refine (CY.out _).mono ?_
  rintro e w11 ⟨rfl, b11⟩
  obtain ⟨W11, hW11⟩ : ∃ W11, W11 = w11.alloc (.cells #[.int .i64 2, .int .i64 3, .int .i64 7, .int .i64 5] 25) := ⟨_, rfl⟩
  have qW11 : Below W10.heap.size W10 W11 := by rw [hW11]; exact b11.alloc b11.size _
  have B11 := Lib.hid (B10.out.trans (qW11.mono B10.out.size))
  have F11 := Lib.hid (show Four W11 w11.heap.size (.int .i64 2) (.int .i64 3) (.int .i64 7) (.int .i64 5) by rw [hW11]; exact Four.new w11 _ _ _ _ _)
  have HW11 := Lib.hid hW11
  clear hW11
  obtain ⟨_, x0, x1, x2, x3⟩ := F10.out.below qW11
  obtain ⟨_, y0, y1, y2, y3⟩ := F11.out
  rw [HW11.out] at x0 x1 x2 x3 y0 y1 y2 y3
  clear b11 qW11 CY F10 F11 B9 B10
  rcases HT2.out with hT | hT
  · subst hT
    have he : nul.toList.isEmpty = true := by rw [ByteArray.toList_eq]; rfl
    go_wp2
    rw [← HW11.out]
    go_ret
    exact ⟨rfl, B11.out⟩
  · have hne : T.toList.isEmpty = false := str_full (by omega)
    have ht : ((T.size : Int) == 24) = true := by rw [beq_iff_eq]; omega
    go_wp2
    rw [← HW11.out]
    go_ret
    exact ⟨rfl, B11.out⟩

end Go.Proofs.Ytkibddcjogfklaa.hd
