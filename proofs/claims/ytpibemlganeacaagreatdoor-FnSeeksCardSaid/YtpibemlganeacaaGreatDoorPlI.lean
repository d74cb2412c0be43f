/-
  Contracts of impl's ReadTrailer and FootText.
-/
import Derived.Test.YtpibemlganeacaaGreatDoorPlMX
import Derived.Test.YtpibemlganeacaaGreatDoorHdQ
namespace Go.Proofs.YtpibemlganeacaaGreatDoor.pl
set_option maxRecDepth 20000
open Go.RowKit
open kit sum num burst hd fr recs sc

theorem suffix_any (b : ByteArray) (w : World) (hm : b.size ≤ 1048576) (h20 : 20 ≤ b.size) :
    Calls Tryz.prog 75 #[.string b, .string { data := #[73, 68, 88, 33] }] w fun e w' => e = .returned (.bool (decide (b.extract (b.size - 4) b.size = idx))) ∧ w = w' := by
  refine (Tryz.strings_HasSuffix b { data := #[73, 68, 88, 33] } w (by omega)).mono ?_
  rintro e w' ⟨rfl, rfl⟩
  refine ⟨?_, rfl⟩
  rw [← Lib.hasSuffix_raw]
  have e4 : ({ data := #[73, 68, 88, 33] } : ByteArray).size = 4 := rfl
  rw [e4, decide_eq_true (show 4 ≤ b.size by omega), Bool.true_and]
  congr 2
  rw [Bool.eq_iff_iff, decide_eq_true_iff, beq_iff_eq]
  constructor
  · intro h
    by_cases hc : b.extract (b.size - 4) b.size = idx
    · exact hc
    · have := str_ne hc
      rw [show ((b.extract (b.size - 4) b.size).toList == idx.toList) = true from by rw [h]; exact str_yes rfl] at this
      cases this
  · intro h
    rw [h]
    rfl
theorem implRfL (b : ByteArray) (a : Int) (w : World) (hm : b.size ≤ 1048576) : Calls Tryz.prog 76 #[.string b, .int .i64 a, .int .i64 4] w fun e w' => e = .returned (rfAt b a 4) ∧ w = w' := implRf_any b a 4 w hm

set_option maxHeartbeats 1000000 in
theorem implReadTrailer (b : ByteArray) (w : World) (hm : b.size ≤ 1048576) :
    Calls Tryz.prog 50 #[.string b] w fun e w' => e = .returned (rtR (rdT b)) ∧ Below w.heap.size w w' := by
  by_cases h20 : 20 ≤ b.size
  · obtain ⟨p, hp⟩ : ∃ p, b.size = p + 20 := ⟨b.size - 20, by omega⟩
    have n0 : (b.size : Int) - 20 = (p : Int) := by omega
    have n2 : ¬ (p : Int) < 0 := by omega
    have n4 : p ≤ 1048576 := by omega
    have CS := Lib.hid (fun w => suffix_any b w hm h20)
    by_cases hi : b.extract (b.size - 4) b.size = idx
    · have HE := Lib.hid (rdT_yes h20 hi)
      rw [decide_eq_true hi] at CS
      have FF := Lib.hid (fun (k : Nat) (hk : k < 4) w => show Calls Tryz.prog 76 #[.string b, .int .i64 ((p : Int) + (k : Int) * 4), .int .i64 4] w fun e w' => e = .returned (.tuple #[.int .i64 ((valF b (p + 4 * k) 4 : Nat) : Int), .bool true]) ∧ w = w' from by
        have h := implRfL b ((p + 4 * k : Nat) : Int) w hm
        rw [rf4 b _ (by omega)] at h
        rw [show (p : Int) + (k : Int) * 4 = ((p + 4 * k : Nat) : Int) by omega]
        exact h)
      rw [show b.size - 20 = p by omega, show b.size - 16 = p + 4 by omega, show b.size - 12 = p + 8 by omega, show b.size - 8 = p + 12 by omega] at HE
      obtain ⟨v0, hv0⟩ : ∃ v, valF b p 4 = v := ⟨_, rfl⟩
      obtain ⟨v1, hv1⟩ : ∃ v, valF b (p + 4) 4 = v := ⟨_, rfl⟩
      obtain ⟨v2, hv2⟩ : ∃ v, valF b (p + 8) 4 = v := ⟨_, rfl⟩
      obtain ⟨v3, hv3⟩ : ∃ v, valF b (p + 12) 4 = v := ⟨_, rfl⟩
      rw [hv0, hv1, hv2, hv3] at HE
      have HV := Lib.hid (show ∀ k : Nat, k < 4 → ([(v0 : Int), (v1 : Int), (v2 : Int), (v3 : Int)] : List Int)[k]? = some ((valF b (p + 4 * k) 4 : Nat) : Int) from fun k hk => by
        rcases (show k = 0 ∨ k = 1 ∨ k = 2 ∨ k = 3 by omega) with rfl | rfl | rfl | rfl
        · rw [← hv0]; rfl
        · rw [← hv1]; rfl
        · rw [← hv2]; rfl
        · rw [← hv3]; rfl)
      clear hi hv0 hv1 hv2 hv3
      have b1 := (Below.refl w.heap.size w).alloc (Nat.le_refl _) (.cells #[.int .i64 0, .int .i64 0, .int .i64 0, .int .i64 0] 107)
      have bx := Box.new w #[.int .i64 0, .int .i64 0, .int .i64 0, .int .i64 0] 107
      obtain ⟨W, hW⟩ : ∃ W, W = w.alloc (.cells #[.int .i64 0, .int .i64 0, .int .i64 0, .int .i64 0] 107) := ⟨_, rfl⟩
      rw [← hW] at b1 bx
      have B1 := Lib.hid b1
      have BX := Lib.hid bx
      have HW := Lib.hid hW
      clear b1 bx hW
      go_enter Tryz.func50, Tryz.ntmps50
      go_wp2_with (fail)
      refine (CS.out _).mono ?_
      rintro e w' ⟨rfl, rfl⟩
      go_wp2
      rw [← HW.out]
      clear HW
      go_loopw [20] (fun i wr => ∃ k : Nat, k ≤ 4 ∧ i = .int .i64 k ∧ Hid (Box wr w.heap.size ((([(v0 : Int), (v1 : Int), (v2 : Int), (v3 : Int)] : List Int).take k ++ List.replicate (4 - k) 0).map (Value.int .i64))) ∧ Hid (Below w.heap.size w wr)) (fun i _ => 4 - (intOf i).toNat)
      case atStart => exact ⟨0, Nat.zero_le _, rfl, BX, B1⟩
      case round =>
        obtain ⟨k, hk, rfl, HB, hb⟩ := hrel
        by_cases hlt : k < 4
        · have j0 : (0 : Int) ≤ (k : Int) := by omega
          have j1 : (k : Int) < 4 := by omega
          have CF := Lib.hid (fun w => FF.out k hlt w)
          have HS := Lib.hid (fill_set2 ([(v0 : Int), (v1 : Int), (v2 : Int), (v3 : Int)] : List Int) 0 _ 4 k rfl hlt (HV.out k hlt))
          have hl : k < ((([(v0 : Int), (v1 : Int), (v2 : Int), (v3 : Int)] : List Int).take k ++ List.replicate (4 - k) 0).map (Value.int .i64)).length := by simp; omega
          obtain ⟨u0, c0⟩ : ∃ u, wr.cell? ⟨w.heap.size, k, none⟩ = some u := ⟨_, HB.out.at k _ (List.getElem?_eq_getElem hl)⟩
          have f0 := HB.out.2 k
          obtain ⟨q, hq⟩ : ∃ q, valF b (p + 4 * k) 4 = q := ⟨_, rfl⟩
          rw [hq] at CF HS
          have HLL := Lib.hid hl
          clear hq hl
          go_wp2_with (fail)
          refine (CF.out _).mono ?_
          rintro e w' ⟨rfl, rfl⟩
          go_wp2
          go_roundw
          case rel =>
            refine ⟨k + 1, by omega, by go_num, Lib.hid ?_, Lib.hid (hb.out.setCell (p := ⟨w.heap.size, k, none⟩) (Nat.le_refl _) _)⟩
            rw [← HS.out, List.map_set]
            exact HB.out.set k (.int .i64 (q : Int)) HLL.out
          case measure => simp [intOf]; omega
        · obtain rfl : k = 4 := by omega
          have x0 := HB.out.at 0 (.int .i64 (v0 : Int)) rfl
          have x1 := HB.out.at 1 (.int .i64 (v1 : Int)) rfl
          have x2 := HB.out.at 2 (.int .i64 (v2 : Int)) rfl
          have x3 := HB.out.at 3 (.int .i64 (v3 : Int)) rfl
          clear FF HV
          go_wp2
          go_quiet (fail)
          go_wp2
          try simp only [Exit.inBlock, Exit.then]
          refine bodyPost_ret (results_tmp5 rfl _ _ _) rfl ?_
          exact ⟨by rw [HE.out]; rfl, below_drewN hb.out _⟩
    · have HE := Lib.hid (rdT_no (b := b) fun h => hi h.2)
      rw [decide_eq_false hi] at CS
      clear hi
      go_enter Tryz.func50, Tryz.ntmps50
      go_wp2_with (fail)
      refine (CS.out _).mono ?_
      rintro e w' ⟨rfl, rfl⟩
      go_wp2
      try simp only [Exit.inBlock, Exit.then]
      refine bodyPost_ret (results_tmp5 rfl _ _ _) rfl ?_
      exact ⟨by rw [HE.out]; rfl, Below.refl _ _⟩
  · have HE := Lib.hid (rdT_no (b := b) fun h => h20 h.1)
    have n2 : (b.size : Int) - 20 < 0 := by omega
    go_enter Tryz.func50, Tryz.ntmps50
    go_wp2
    try simp only [Exit.inBlock, Exit.then]
    refine bodyPost_ret (results_tmp5 rfl _ _ _) rfl ?_
    exact ⟨by rw [HE.out]; rfl, Below.refl _ _⟩

set_option maxHeartbeats 2000000 in
theorem implFoot (v s p l e : Int) (a : Option Addr) (c n : Nat) (os : List Int) (w : World) (hm : n ≤ 1048576) (hw : ∀ o ∈ os, i64 o) (ha : ints.At w a n os) :
    Calls Tryz.prog 101 #[.agg #[.int .i64 v, .int .i64 s, .int .i64 p, .int .i64 l], .slice a n c, .int .i64 e] w fun en w' => en = .returned (.string (ftT ⟨v, s, p, l⟩ os e)) ∧ Below w.heap.size w w' := by
  have hlen := ha.1
  have B1 := (Below.refl w.heap.size w).alloc (Nat.le_refl _) (.cells #[.int .i64 v, .int .i64 s, .int .i64 p, .int .i64 l] 41)
  have bx := Box.new w #[.int .i64 v, .int .i64 s, .int .i64 p, .int .i64 l] 41
  obtain ⟨W, hW⟩ : ∃ W, W = w.alloc (.cells #[.int .i64 v, .int .i64 s, .int .i64 p, .int .i64 l] 41) := ⟨_, rfl⟩
  rw [← hW] at B1 bx
  have HA := Lib.hid (ha.below B1)
  have B1 := Lib.hid B1
  have BX := Lib.hid bx
  have HW := Lib.hid hW
  have x0 := bx.at 0 _ rfl
  have x1 := bx.at 1 _ rfl
  have x2 := bx.at 2 _ rfl
  have x3 := bx.at 3 _ rfl
  rw [hW] at x0 x1 x2 x3
  have CK := Lib.hid (implHeadOk v s p l W)
  clear bx hW ha
  cases hk : okH ⟨v, s, p, l⟩ with
  | false =>
    have HE := Lib.hid (ftT_no (os := os) (e := e) hk)
    rw [hk] at CK
    clear hk
    go_enter Tryz.func101, Tryz.ntmps101
    go_wp2_with (fail)
    rw [← HW.out]
    refine CK.out.mono ?_
    rintro en w2 ⟨rfl, b2⟩
    go_wp2
    go_ret
    exact ⟨by rw [HE.out]; rfl, B1.out.trans (b2.mono B1.out.size)⟩
  | true =>
    have hs : 1 ≤ s ∧ s ≤ 20 ∧ 0 ≤ p ∧ p ≤ 1000000000 := by
      have h := okH_is.1 hk
      exact ⟨h.2.2.1, h.2.2.2.1, h.2.2.2.2.1, h.2.2.2.2.2.1⟩
    obtain ⟨s0, s1, p0, p1⟩ := hs
    have HG := ftT_jn (os := os) (e := e) hk
    rw [hlen] at HG
    have HG := Lib.hid (show ftT ⟨v, s, p, l⟩ os e = jn [emT v (p + (n : Int)), plT (plN s os), trT e (n : Int) s (sumT (emT v (p + (n : Int)) ++ plT (plN s os) ++ ahT e (n : Int) s) : Nat)] from HG)
    rw [hk] at CK
    have hpl := plT_size (plN s os)
    have hple := plN_le s os
    have hwp := Lib.hid (plN_wf (s := s) (os := os) (by omega) hw)
    rw [hlen] at hple
    have C1 := Lib.hid (fun w => implMark_any v (p + (n : Int)) w)
    have n1 := emT_le v (p + (n : Int))
    have C2 := Lib.hid (fun w (h : ints.At w a n os) => implPlaces s a c n os w hm (by unfold i64; omega) h)
    have C3 := Lib.hid (fun w a' c' (h : AtP w a' (plN s os).length (plN s os)) => implPlacesText a' c' (plN s os).length (plN s os) w (by omega) hwp.out h)
    have C4 := Lib.hid (fun w => implAhead e (n : Int) s w)
    have n4 := ahT_le e (n : Int) s
    have C6 := Lib.hid (fun q w => implTrailer e (n : Int) s q w)
    have n6 := fun q => trT_le e (n : Int) s q
    obtain ⟨M, hM⟩ : ∃ M, emT v (p + (n : Int)) = M := ⟨_, rfl⟩
    obtain ⟨L, hL⟩ : ∃ L, plT (plN s os) = L := ⟨_, rfl⟩
    obtain ⟨T, hT⟩ : ∃ T, ahT e (n : Int) s = T := ⟨_, rfl⟩
    obtain ⟨K, hK⟩ : ∃ K, (plN s os).length = K := ⟨_, rfl⟩
    rw [hM] at HG C1 n1
    rw [hL] at HG C3 hpl
    rw [hT] at HG C4 n4
    rw [hK] at hpl hple C3
    have HK := Lib.hid hK
    have C5 := Lib.hid (fun W => summed3 M L T W (by omega) (by omega) (by omega))
    obtain ⟨q, hq⟩ : ∃ q, sumT (M ++ L ++ T) = q := ⟨_, rfl⟩
    rw [hq] at HG C5
    have n6 := n6 (q : Int)
    have C6 := Lib.hid (fun w => C6.out (q : Int) w)
    obtain ⟨U, hU⟩ : ∃ U, trT e (n : Int) s (q : Int) = U := ⟨_, rfl⟩
    rw [hU] at HG C6 n6
    have C7 := Lib.hid (fun W => joined3 M L U W (by omega) (by omega) (by omega))
    clear hM hL hT hk hw hK hq hU hpl hple n1 n4 n6
    go_enter Tryz.func101, Tryz.ntmps101
    go_wp2_with (fail)
    rw [← HW.out]
    refine CK.out.mono ?_
    rintro en w2 ⟨rfl, b2⟩
    have HA := Lib.hid (HA.out.below b2)
    have B2 := Lib.hid (B1.out.trans (b2.mono B1.out.size))
    have BX := Lib.hid (BX.out.below b2)
    clear b2 x0 x1 x2 x3
    have x0 := BX.out.at 0 _ rfl
    have x1 := BX.out.at 1 _ rfl
    have x2 := BX.out.at 2 _ rfl
    go_wp2_with (fail)
    refine (C1.out _).mono ?_
    rintro en w3 ⟨rfl, b3⟩
    have HA := Lib.hid (HA.out.below b3)
    have B3 := Lib.hid (B2.out.trans (b3.mono B2.out.size))
    have BX := Lib.hid (BX.out.below b3)
    clear b3 x0 x1 x2
    have x1 := BX.out.at 1 _ rfl
    go_wp2_with (fail)
    refine (C2.out _ HA.out).mono ?_
    rintro en w4 ⟨⟨v4, rfl, o4⟩, b4⟩
    obtain ⟨a4, c4, rfl, A4⟩ := o4.form
    rw [HK.out] at A4
    have B4 := Lib.hid (B3.out.trans (b4.mono B3.out.size))
    have BX := Lib.hid (BX.out.below b4)
    clear b4 x1
    have x1 := BX.out.at 1 _ rfl
    rw [HK.out]
    clear o4
    go_wp2_with (fail)
    refine (C3.out _ _ _ A4).mono ?_
    rintro en w5 ⟨rfl, b5⟩
    have B5 := Lib.hid (B4.out.trans (b5.mono B4.out.size))
    have BX := Lib.hid (BX.out.below b5)
    clear b5 x1 A4
    have x1 := BX.out.at 1 _ rfl
    go_wp2_with (fail)
    refine (C4.out _).mono ?_
    rintro en w6 ⟨rfl, b6⟩
    have B6 := Lib.hid (B5.out.trans (b6.mono B5.out.size))
    have BX := Lib.hid (BX.out.below b6)
    clear b6 x1
    go_wp2_with (fail)
    refine (C5.out _).mono ?_
    rintro en w7 ⟨rfl, b7⟩
    have B7 := Lib.hid (B6.out.trans (b7.mono B6.out.size))
    have BX := Lib.hid (BX.out.below b7)
    clear b7
    have x1 := BX.out.at 1 _ rfl
    go_wp2_with (fail)
    refine (C6.out _).mono ?_
    rintro en w8 ⟨rfl, b8⟩
    have B8 := Lib.hid (B7.out.trans (b8.mono B7.out.size))
    clear b8 x1
    go_wp2_with (fail)
    refine (C7.out _).mono ?_
    rintro en w9 ⟨rfl, b9⟩
    have B9 := Lib.hid (B8.out.trans (b9.mono B8.out.size))
    clear b9
    go_wp2
    go_ret
    exact ⟨by rw [HG.out]; rfl, B9.out⟩

end Go.Proofs.YtpibemlganeacaaGreatDoor.pl
