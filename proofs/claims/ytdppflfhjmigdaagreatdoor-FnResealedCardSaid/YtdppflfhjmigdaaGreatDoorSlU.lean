/-
  The walk of FnResealed.
-/
import Derived.Test.YtdppflfhjmigdaaGreatDoorSlR
import Derived.Test.YtdppflfhjmigdaaGreatDoorSlDE
import Derived.Test.YtdppflfhjmigdaaGreatDoorScQ
import Derived.Test.YtdppflfhjmigdaaGreatDoorBig
namespace Go.Proofs.YtdppflfhjmigdaaGreatDoor.sl
set_option maxRecDepth 20000
open Go.RowKit
open kit sum num burst hd fr recs sc pl om

theorem rsT_le (b : ByteArray) (v : Int) : (rsT b v).size ≤ 100000 := by
  unfold rsT
  split
  · exact slT_le _ _
  · exact Nat.zero_le _
theorem rsT_slT {h : Hd} {rs : List ByteArray} (hk : okS h rs) {u : Int} (h0 : 0 ≤ u) (h2 : u ≤ 2) : rsT (slT h rs) u = slT (anew h u) rs := by
  obtain ⟨s1, s2, _⟩ := scan_self hk
  rw [rsT_yes s1 h0 h2, s2]
def two : List ByteArray := [{ data := #[97] }, { data := #[98] }]
theorem two_ok (v : Int) (h1 : 1 ≤ v) (h2 : v ≤ 2) : okS ⟨v, 2, 0, 0⟩ two :=
  ⟨okH_is.2 ⟨h1, h2, by show (1 : Int) ≤ 2; decide, by show (2 : Int) ≤ 20; decide, by show (0 : Int) ≤ 0; decide, by show (0 : Int) ≤ 1000000000; decide, by show (0 : Int) ≤ 0; decide, by show (0 : Int) ≤ 4294967295; decide⟩, by decide, by show (0 : Int) + 2 ≤ 1000000000; decide, fun r hr => by
    simp only [two, List.mem_cons, List.not_mem_nil, or_false] at hr
    rcases hr with rfl | rfl <;> decide⟩
theorem two_at (w : World) : strs.At (w.alloc (.cells #[.string { data := #[97] }, .string { data := #[98] }] 9)) (some ⟨w.heap.size, 0, none⟩) 2 two := by
  refine ⟨rfl, .inr ⟨w.heap.size, 0, rfl, by simp, fun k x hx => ?_⟩⟩
  rw [Nat.zero_add, cell_of_row _ _ _ _ _ _ (heap_alloc_new w _)]
  match k, hx with
  | 0, hx => simp [two] at hx; subst hx; rfl
  | 1, hx => simp [two] at hx; subst hx; rfl

theorem resealed_big (a : Option Addr) (len cap : Nat) (w : World) (h : 1048576 < len) :
    Calls Tryz.prog 3 #[.slice a len cap] w fun e w' => e = .returned (.bool true) ∧ Below w.heap.size w w' := by
  go_enter Tryz.func3, Tryz.ntmps3
  go_wp2_with (go_at_call 4; refine (big_yes _ _ _ _ h).mono ?_; rintro e w' ⟨rfl, rfl⟩)
  go_ret
  exact ⟨rfl, Below.refl _ _⟩

set_option maxHeartbeats 4000000 in
theorem resealed_small (a : Option Addr) (len cap : Nat) (w : World) (hc : draw.CodeAt w w.heap.size a len) (hg : GE w) :
    Calls Tryz.prog 3 #[.slice a len cap] w fun e w' => e = .returned (.bool true) ∧ Below w.heap.size w w' := by
  have HG := Lib.hid hg
  clear hg
  have HC := Lib.hid hc
  have hlen := hc.1
  clear hc
  go_enter Tryz.func3, Tryz.ntmps3
  go_wp2_with (fail)
  refine (big_no _ _ _ _ hlen).mono ?_
  rintro e w' ⟨rfl, rfl⟩
  clear hlen
  go_wp2_with (fail)
  refine (draw.drawResealed_any a len cap w HC.out).mono ?_
  rintro e w1 ⟨⟨b, q, hb, rfl⟩, b1⟩
  have B1 := Lib.hid b1
  have hm : b.size ≤ 1048576 := by omega
  clear b1 HC
  have hT := rsT_le b q
  have CI := Lib.hid (fun w (g : GE w) => implResealed b q w hm g)
  have CS := Lib.hid (fun w => specResealed b q w hm)
  have HF := Lib.hid (fun h => rsT_full (b := b) (v := q) h)
  obtain ⟨T, hTT⟩ : ∃ T, rsT b q = T := ⟨_, rfl⟩
  rw [hTT] at CI CS hT
  simp only [hTT] at HF
  have hmT : T.size ≤ 1048576 := by omega
  clear hTT hT
  go_wp2_with fail
  refine (CI.out _ (HG.out.below B1.out)).mono ?_
  rintro e w2 ⟨rfl, b2⟩
  have B2 := Lib.hid (B1.out.trans (b2.mono B1.out.size))
  clear b2 B1
  go_wp2_with fail
  refine (CS.out _).mono ?_
  rintro e w3 ⟨rfl, b3⟩
  have B3 := Lib.hid (B2.out.trans (b3.mono B2.out.size))
  clear b3 B2
  clear CI CS
  by_cases hnul : T = nul
  · have k0 := emp_yes hnul
    clear HF hnul
    have h1 := two_ok 1 (by decide) (by decide)
    have hX := slT_le ⟨1, 2, 0, 0⟩ two
    have hY := slT_le ⟨2, 2, 0, 0⟩ two
    have CX := Lib.hid (fun w => specSeal 1 2 0 0 (some ⟨w.heap.size, 0, none⟩) 2 2 two _ (by decide) (two_at w))
    have CY := Lib.hid (fun w => specSeal 2 2 0 0 (some ⟨w.heap.size, 0, none⟩) 2 2 two _ (by decide) (two_at w))
    have HA := Lib.hid (fun w : World => (Below.refl w.heap.size w).alloc (Nat.le_refl _) (.cells #[.string { data := #[97] }, .string { data := #[98] }] 9))
    have C0 := Lib.hid (fun w (g : GE w) => implResealed (slT ⟨1, 2, 0, 0⟩ two) 0 w (by omega) g)
    have C2 := Lib.hid (fun w (g : GE w) => implResealed (slT ⟨1, 2, 0, 0⟩ two) 2 w (by omega) g)
    rw [rsT_slT h1 (by decide) (by decide), anew_zero] at C0
    rw [rsT_slT h1 (by decide) (by decide), show anew ⟨1, 2, 0, 0⟩ 2 = ⟨2, 2, 0, 0⟩ from if_pos (by decide)] at C2
    obtain ⟨X, hXX⟩ : ∃ X, slT ⟨1, 2, 0, 0⟩ two = X := ⟨_, rfl⟩
    obtain ⟨Y, hYY⟩ : ∃ Y, slT ⟨2, 2, 0, 0⟩ two = Y := ⟨_, rfl⟩
    simp only [hXX] at CX
    simp only [hYY] at CY
    rw [hXX] at C0 C2 hX
    rw [hYY] at C2 hY
    clear hXX hYY h1
    go_wp2_with fail
    refine (CX.out w3).mono ?_
    rintro e w4 ⟨rfl, b4⟩
    have B4 := Lib.hid ((B3.out.trans ((HA.out w3).mono B3.out.size)).trans (b4.mono ((B3.out.trans ((HA.out w3).mono B3.out.size)).size)))
    clear b4 B3
    go_wp2_with fail
    refine (C0.out _ (HG.out.below B4.out)).mono ?_
    rintro e w5 ⟨rfl, b5⟩
    have B5 := Lib.hid (B4.out.trans (b5.mono B4.out.size))
    clear b5 B4
    go_wp2_with fail
    refine (C2.out _ (HG.out.below B5.out)).mono ?_
    rintro e w6 ⟨rfl, b6⟩
    have B6 := Lib.hid (B5.out.trans (b6.mono B5.out.size))
    clear b6 B5
    go_wp2_with fail
    refine (CY.out w6).mono ?_
    rintro e w7 ⟨rfl, b7⟩
    have B7 := Lib.hid ((B6.out.trans ((HA.out w6).mono B6.out.size)).trans (b7.mono ((B6.out.trans ((HA.out w6).mono B6.out.size)).size)))
    clear b7 B6
    go_wp2
    go_ret
    exact ⟨rfl, B7.out⟩
  · have k0 := emp_no hnul
    obtain ⟨f1, f2, f3, f4, f5⟩ := HF.out hnul
    clear HF
    have h1 := rsT_le T 1
    have h2 := rsT_le T 2
    have CK := Lib.hid (fun w => specSealedOk T w hmT)
    have CB := Lib.hid (fun w => specSealedOk b w hm)
    rw [f1] at CK
    have CR := Lib.hid (fun w => specRecords T w hmT)
    have CQ := Lib.hid (fun w => specRecords b w hm)
    rw [f2] at CR
    have hn := recs_le b
    have C0 := Lib.hid (fun w (g : GE w) => implResealed T 0 w hmT g)
    have C1 := Lib.hid (fun w (g : GE w) => implResealed T 1 w hmT g)
    have C2 := Lib.hid (fun w (g : GE w) => implResealed T 2 w hmT g)
    have C12 := Lib.hid (fun w (g : GE w) => implResealed (rsT T 1) 2 w (by omega) g)
    rw [f3] at C0
    rw [f4] at C12
    obtain ⟨R1, hR1⟩ : ∃ R, rsT T 1 = R := ⟨_, rfl⟩
    obtain ⟨R2, hR2⟩ : ∃ R, rsT T 2 = R := ⟨_, rfl⟩
    rw [hR1] at C1 C12 h1
    rw [hR2] at C2 C12 h2
    obtain ⟨n, hnn⟩ : ∃ n, (sc.recs b).length = n := ⟨_, rfl⟩
    rw [hnn] at CR CQ hn
    have hS := Lib.hid (fun (v u : Option Addr) (c d : Nat) w (hv : strs.At w v n (sc.recs b)) (hu : strs.At w u n (sc.recs b)) => same_any v u c d n (sc.recs b) w (by omega) hv hu)
    have F5 := Lib.hid f5
    clear hR1 hR2 hnn f1 f2 f3 f4 f5 hnul
    go_wp2_with fail
    refine (CK.out _).mono ?_
    rintro e w4 ⟨rfl, b4⟩
    have B4 := Lib.hid (B3.out.trans (b4.mono B3.out.size))
    clear b4 B3
    go_wp2_with fail
    refine (CR.out _).mono ?_
    rintro e w5 ⟨⟨v5, rfl, o5⟩, b5⟩
    have B5 := Lib.hid (B4.out.trans (b5.mono B4.out.size))
    obtain ⟨a5, c5, rfl, _, _, _⟩ := own_form o5
    have A5 := Lib.hid (strs.At.of_own o5)
    clear o5 b5 B4
    go_wp2_with fail
    refine (CQ.out _).mono ?_
    rintro e w6 ⟨⟨v6, rfl, o6⟩, b6⟩
    have B6 := Lib.hid (B5.out.trans (b6.mono B5.out.size))
    obtain ⟨a6, c6, rfl, _, _, _⟩ := own_form o6
    have A6 := Lib.hid (strs.At.of_own o6)
    have A5 := Lib.hid (A5.out.below b6)
    clear o6 b6 B5
    go_wp2_with fail
    refine (hS.out a5 a6 c5 c6 _ A5.out A6.out).mono ?_
    rintro e w7 ⟨rfl, b7⟩
    have B7 := Lib.hid (B6.out.trans (b7.mono B6.out.size))
    clear b7 B6
    go_wp2_with fail
    refine (C0.out _ (HG.out.below B7.out)).mono ?_
    rintro e w8 ⟨rfl, b8⟩
    have B8 := Lib.hid (B7.out.trans (b8.mono B7.out.size))
    clear b8 B7
    go_wp2_with fail
    refine (C1.out _ (HG.out.below B8.out)).mono ?_
    rintro e w9 ⟨rfl, b9⟩
    have B9 := Lib.hid (B8.out.trans (b9.mono B8.out.size))
    clear b9 B8
    go_wp2_with fail
    refine (C12.out _ (HG.out.below B9.out)).mono ?_
    rintro e w10 ⟨rfl, b10⟩
    have B10 := Lib.hid (B9.out.trans (b10.mono B9.out.size))
    clear b10 B9
    go_wp2_with fail
    refine (C2.out _ (HG.out.below B10.out)).mono ?_
    rintro e w11 ⟨rfl, b11⟩
    have B11 := Lib.hid (B10.out.trans (b11.mono B10.out.size))
    clear b11 B10
    cases hs : isS b with
    | false =>
      rw [hs] at CB
      go_wp2_with fail
      refine (CB.out _).mono ?_
      rintro e w12 ⟨rfl, b12⟩
      have B12 := Lib.hid (B11.out.trans (b12.mono B11.out.size))
      clear b12 B11
      go_wp2
      go_ret
      exact ⟨rfl, B12.out⟩
    | true =>
      rw [hs] at CB
      go_wp2_with fail
      refine (CB.out _).mono ?_
      rintro e w12 ⟨rfl, b12⟩
      have B12 := Lib.hid (B11.out.trans (b12.mono B11.out.size))
      clear b12 B11
      by_cases hq : 0 < q
      · go_wp2
        go_ret
        exact ⟨rfl, B12.out⟩
      · have kT : (T.toList == b.toList) = true := str_yes (F5.out hs (by omega))
        go_wp2
        go_ret
        exact ⟨rfl, B12.out⟩

end Go.Proofs.YtdppflfhjmigdaaGreatDoor.sl
