/-
  Contracts of impl's ReadTrailer and FootText.
-/
import Derived.Test.YtdppflfhjmigdaaPlMX
import Derived.Test.YtdppflfhjmigdaaHdQ
namespace Go.Proofs.Ytdppflfhjmigdaa.pl
set_option maxRecDepth 20000
open Go.RowKit
open kit sum num burst hd fr recs sc

set_option maxHeartbeats 2000000 in
theorem implFoot (v s p l e : Int) (a : Option Addr) (c n : Nat) (os : List Int) (w : World) (hm : n ≤ 1048576) (hw : ∀ o ∈ os, i64 o) (ha : ints.At w a n os) :
    Calls Try.prog 20 #[.agg #[.int .i64 v, .int .i64 s, .int .i64 p, .int .i64 l], .slice a n c, .int .i64 e] w fun en w' => en = .returned (.string (ftT ⟨v, s, p, l⟩ os e)) ∧ Below w.heap.size w w' := by
  have hlen := ha.1
  have B1 := (Below.refl w.heap.size w).alloc (Nat.le_refl _) (.cells #[.int .i64 v, .int .i64 s, .int .i64 p, .int .i64 l] 27)
  have bx := Box.new w #[.int .i64 v, .int .i64 s, .int .i64 p, .int .i64 l] 27
  obtain ⟨W, hW⟩ : ∃ W, W = w.alloc (.cells #[.int .i64 v, .int .i64 s, .int .i64 p, .int .i64 l] 27) := ⟨_, rfl⟩
  rw [← hW] at B1 bx
  have HA := Lib.hid (ha.below B1)
  have B1 := Lib.hid B1
  have BX := Lib.hid bx
  have HW := Lib.hid hW
  have x0 := bx.at 0 _ rfl
  have x1 := bx.at 1 _ rfl
  have x2 := bx.at 2 _ rfl
  have x3 := bx.at 3 _ rfl
  rw [hW] at x0 x1 x2 x3
  have CK := Lib.hid (implHeadOk v s p l W)
  clear bx hW ha
  cases hk : okH ⟨v, s, p, l⟩ with
  | false =>
    have HE := Lib.hid (ftT_no (os := os) (e := e) hk)
    rw [hk] at CK
    clear hk
    go_enter Try.func20, Try.ntmps20
    go_wp2_with (fail)
    rw [← HW.out]
    refine CK.out.mono ?_
    rintro en w2 ⟨rfl, b2⟩
    go_wp2
    go_ret
    exact ⟨by rw [HE.out]; rfl, B1.out.trans (b2.mono B1.out.size)⟩
  | true =>
    have hs : 1 ≤ s ∧ s ≤ 20 ∧ 0 ≤ p ∧ p ≤ 1000000000 := by
      have h := okH_is.1 hk
      exact ⟨h.2.2.1, h.2.2.2.1, h.2.2.2.2.1, h.2.2.2.2.2.1⟩
    obtain ⟨s0, s1, p0, p1⟩ := hs
    have HG := ftT_jn (os := os) (e := e) hk
    rw [hlen] at HG
    have HG := Lib.hid (show ftT ⟨v, s, p, l⟩ os e = jn [emT v (p + (n : Int)), plT (plN s os), trT e (n : Int) s (sumT (emT v (p + (n : Int)) ++ plT (plN s os) ++ ahT e (n : Int) s) : Nat)] from HG)
    rw [hk] at CK
    have hpl := plT_size (plN s os)
    have hple := plN_le s os
    have hwp := Lib.hid (plN_wf (s := s) (os := os) (by omega) hw)
    rw [hlen] at hple
    have C1 := Lib.hid (fun w => implMark_any v (p + (n : Int)) w)
    have n1 := emT_le v (p + (n : Int))
    have C2 := Lib.hid (fun w (h : ints.At w a n os) => implPlaces s a c n os w hm (by unfold i64; omega) h)
    have C3 := Lib.hid (fun w a' c' (h : AtP w a' (plN s os).length (plN s os)) => implPlacesText a' c' (plN s os).length (plN s os) w (by omega) hwp.out h)
    have C4 := Lib.hid (fun w => implAhead e (n : Int) s w)
    have n4 := ahT_le e (n : Int) s
    have C6 := Lib.hid (fun q w => implTrailer e (n : Int) s q w)
    have n6 := fun q => trT_le e (n : Int) s q
    obtain ⟨M, hM⟩ : ∃ M, emT v (p + (n : Int)) = M := ⟨_, rfl⟩
    obtain ⟨L, hL⟩ : ∃ L, plT (plN s os) = L := ⟨_, rfl⟩
    obtain ⟨T, hT⟩ : ∃ T, ahT e (n : Int) s = T := ⟨_, rfl⟩
    obtain ⟨K, hK⟩ : ∃ K, (plN s os).length = K := ⟨_, rfl⟩
    rw [hM] at HG C1 n1
    rw [hL] at HG C3 hpl
    rw [hT] at HG C4 n4
    rw [hK] at hpl hple C3
    have HK := Lib.hid hK
    have C5 := Lib.hid (fun W => summed3 M L T W (by omega) (by omega) (by omega))
    obtain ⟨q, hq⟩ : ∃ q, sumT (M ++ L ++ T) = q := ⟨_, rfl⟩
    rw [hq] at HG C5
    have n6 := n6 (q : Int)
    have C6 := Lib.hid (fun w => C6.out (q : Int) w)
    obtain ⟨U, hU⟩ : ∃ U, trT e (n : Int) s (q : Int) = U := ⟨_, rfl⟩
    rw [hU] at HG C6 n6
    have C7 := Lib.hid (fun W => joined3 M L U W (by omega) (by omega) (by omega))
    clear hM hL hT hk hw hK hq hU hpl hple n1 n4 n6
    go_enter Try.func20, Try.ntmps20
    go_wp2_with (fail)
    rw [← HW.out]
    refine CK.out.mono ?_
    rintro en w2 ⟨rfl, b2⟩
    have HA := Lib.hid (HA.out.below b2)
    have B2 := Lib.hid (B1.out.trans (b2.mono B1.out.size))
    have BX := Lib.hid (BX.out.below b2)
    clear b2 x0 x1 x2 x3
    have x0 := BX.out.at 0 _ rfl
    have x1 := BX.out.at 1 _ rfl
    have x2 := BX.out.at 2 _ rfl
    go_wp2_with (fail)
    refine (C1.out _).mono ?_
    rintro en w3 ⟨rfl, b3⟩
    have HA := Lib.hid (HA.out.below b3)
    have B3 := Lib.hid (B2.out.trans (b3.mono B2.out.size))
    have BX := Lib.hid (BX.out.below b3)
    clear b3 x0 x1 x2
    have x1 := BX.out.at 1 _ rfl
    go_wp2_with (fail)
    refine (C2.out _ HA.out).mono ?_
    rintro en w4 ⟨⟨v4, rfl, o4⟩, b4⟩
    obtain ⟨a4, c4, rfl, A4⟩ := o4.form
    rw [HK.out] at A4
    have B4 := Lib.hid (B3.out.trans (b4.mono B3.out.size))
    have BX := Lib.hid (BX.out.below b4)
    clear b4 x1
    have x1 := BX.out.at 1 _ rfl
    rw [HK.out]
    clear o4
    go_wp2_with (fail)
    refine (C3.out _ _ _ A4).mono ?_
    rintro en w5 ⟨rfl, b5⟩
    have B5 := Lib.hid (B4.out.trans (b5.mono B4.out.size))
    have BX := Lib.hid (BX.out.below b5)
    clear b5 x1 A4
    have x1 := BX.out.at 1 _ rfl
    go_wp2_with (fail)
    refine (C4.out _).mono ?_
    rintro en w6 ⟨rfl, b6⟩
    have B6 := Lib.hid (B5.out.trans (b6.mono B5.out.size))
    have BX := Lib.hid (BX.out.below b6)
    clear b6 x1
    go_wp2_with (fail)
    refine (C5.out _).mono ?_
    rintro en w7 ⟨rfl, b7⟩
    have B7 := Lib.hid (B6.out.trans (b7.mono B6.out.size))
    have BX := Lib.hid (BX.out.below b7)
    clear b7
    have x1 := BX.out.at 1 _ rfl
    go_wp2_with (fail)
    refine (C6.out _).mono ?_
    rintro en w8 ⟨rfl, b8⟩
    have B8 := Lib.hid (B7.out.trans (b8.mono B7.out.size))
    clear b8 x1
    go_wp2_with (fail)
    refine (C7.out _).mono ?_
    rintro en w9 ⟨rfl, b9⟩
    have B9 := Lib.hid (B8.out.trans (b9.mono B8.out.size))
    clear b9
    go_wp2
    go_ret
    exact ⟨by rw [HG.out]; rfl, B9.out⟩

end Go.Proofs.Ytdppflfhjmigdaa.pl
