/-
  The exact walks of PlacesOf, PlacesText, TrailerText, ReadTrailer, FootText. impl's contracts come from PlI.
-/
import Derived.Test.YtideejpopneplaaPlR
import Derived.Test.YtideejpopneplaaPlY
import Derived.Test.YtideejpopneplaaHdY
namespace Go.Proofs.Ytideejpopneplaa.pl
set_option maxRecDepth 20000
open Go.RowKit
open kit sum num burst hd fr recs sc

theorem ints_atI {w : World} {a : Option Addr} {n : Nat} {xs : List Int} (h : AtI w a n xs) : ints.At w a n xs := by
  refine ⟨by have := h.1; simpa using this, h.2.imp id fun ⟨b, off, h1, h2, h3⟩ => ⟨b, off, h1, h2, fun j x hx => ?_⟩⟩
  exact h3 j _ (by rw [List.getElem?_map, hx]; rfl)
/-- a row of one's own in a block above what was marked stays -/
theorem own_other {w w' : World} {B B' s s' n n' : Nat} {e e' : TypeId} {u v : Value} {xs ys : List Value} (hu : w.ownsRow B e s u n xs) (hv : w'.ownsRow B' e' s' v n' ys) (h : w.heap.size ≤ B') : v.ownBlock = none ∨ v.ownBlock ≠ u.ownBlock := by
  cases h1 : v.ownBlock with
  | none => exact .inl rfl
  | some g =>
    refine .inr fun h2 => ?_
    have a := (own_block_ge hv g h1).1
    have b := (own_block_ge hu g h2.symm).2
    omega

theorem own_apart {w w' : World} {B B' s s' n n' : Nat} {e e' : TypeId} {u v : Value} {xs ys : List Value} (hu : w.ownsRow B e s u n xs) (hv : w'.ownsRow B' e' s' v n' ys) (h : w.heap.size ≤ B') : u.ownBlock = none ∨ u.ownBlock ≠ v.ownBlock :=
  (own_other hu hv h).elim (fun h1 => by rw [h1]; cases u.ownBlock with | none => exact .inl rfl | some g => exact .inr (by simp)) (fun h1 => .inr (Ne.symm h1))

set_option maxHeartbeats 2000000 in
theorem exactPlacesOf (s : Int) (a : Option Addr) (n c : Nat) (xs : List Int) (w : World) (hs : recs.wfI s) (hm : n ≤ maxLen) (ha : AtI w a n xs) :
    Calls Try.prog 5 #[.int .i64 s, .slice a n c] w fun e w' => e = .returned (.bool true) ∧ Below w.heap.size w w' := by
  have HA := Lib.hid (ints_atI ha)
  have HS : Hid (i64 s) := Lib.hid hs
  have hl : xs.length = n := (ints_atI ha).1
  clear ha hs
  by_cases h1 : 1048576 < n
  · have g1 : (1048576 : Int) < (n : Int) := by omega
    unfold maxLen at hm
    go_enter Try.func5, Try.ntmps5
    go_wp2
    go_ret
    exact ⟨rfl, Below.refl _ _⟩
  · have g1 : ¬ (1048576 : Int) < (n : Int) := by omega
    have g0 : n ≤ 1048576 := by omega
    have g2 : ¬ ((1 : Int) + (n : Int)) < 0 := by omega
    have CS := Lib.hid (fun a c w (h : ints.At w a n xs) => specPlaces s a c n xs w g0 HS.out h)
    have CI := Lib.hid (fun a c w (h : ints.At w a n xs) => implPlaces s a c n xs w g0 HS.out h)
    have hp : (plN s xs).length ≤ 1048576 := by have := plN_le s xs; omega
    obtain ⟨ps, hps⟩ : ∃ ps, plN s xs = ps := ⟨_, rfl⟩
    rw [hps] at CS CI hp
    unfold PlR at CS CI
    clear hps h1 hl
    go_enter Try.func5, Try.ntmps5
    go_wp2_with fail
    refine (ints.to_any a c n xs w g0 HA.out).mono ?_
    rintro e w1 ⟨rfl, o1, b1⟩
    have B1 := Lib.hid b1
    have A1 := Lib.hid (ints.At.of_own o1)
    clear b1 o1
    go_wp2_with fail
    refine (CS.out _ _ _ A1.out).mono ?_
    rintro e w2 ⟨⟨v2, rfl, o2⟩, b2⟩
    have B2 := Lib.hid (chain B1.out b2)
    have OW2 := Lib.hid o2
    clear A1 b2 o2 B1 CS
    go_wp2_with fail
    refine (ints.to_any a c n xs w2 g0 (HA.out.below B2.out)).mono ?_
    rintro e w3 ⟨rfl, o3, b3⟩
    have B3 := Lib.hid (chain B2.out b3)
    have OX3 := Lib.hid o3
    have OW3 := Lib.hid (OW2.out.below b3)
    have GX := Lib.hid (own_apart OW2.out o3 (Nat.le_refl _))
    have s2 := B2.out.size
    obtain ⟨x, hx⟩ : ∃ x, (Value.slice (some ⟨w2.heap.size, 0, none⟩) n n) = x := ⟨_, rfl⟩
    have HX := Lib.hid hx
    clear b3 o3 OW2 B2 hx
    go_wp2_with fail
    refine (CI.out _ _ _ (ints.At.of_own OX3.out)).mono ?_
    rintro e w4 ⟨⟨v4, rfl, o4⟩, b4⟩
    have B4 := Lib.hid (chain B3.out b4)
    have OG4 := Lib.hid o4
    have OW4 := Lib.hid (OW3.out.below b4)
    have OX4 := Lib.hid (own_below OX3.out b4)
    have GW := Lib.hid (OwnP.apart OW3.out o4 (Nat.le_refl _))
    have GG := Lib.hid (own_other OX3.out o4 (Nat.le_refl _))
    have s3 := B3.out.size
    clear b4 o4 OW3 OX3 B3
    go_wp2_with fail
    refine (eqP' w4 OG4.out OW4.out).mono ?_
    rintro e w5 ⟨rfl, b5⟩
    have B5 := Lib.hid (chain B4.out b5)
    have OG5 := Lib.hid (OG4.out.below b5)
    have OW5 := Lib.hid (OW4.out.below b5)
    have OX5 := Lib.hid (own_below OX4.out b5)
    clear b5 OG4 OW4 OX4 B4
    go_wp2_with fail
    refine (ints.to_any a c n xs w5 g0 (HA.out.below B5.out)).mono ?_
    rintro e w6 ⟨rfl, o6, b6⟩
    have B6 := Lib.hid (chain B5.out b6)
    have OG6 := Lib.hid (OG5.out.below b6)
    have OW6 := Lib.hid (OW5.out.below b6)
    have OX6 := Lib.hid (own_below OX5.out b6)
    have AT6 := Lib.hid (ints.At.of_own o6)
    clear b6 o6 OG5 OW5 OX5 B5
    go_wp2_with fail
    refine (ints.eq_any _ _ _ _ n xs w6 hm (ints.At.of_own OX6.out) AT6.out).mono ?_
    rintro e w7 ⟨rfl, b7⟩
    have B7 := Lib.hid (chain B6.out b7)
    have OG7 := Lib.hid (OG6.out.below b7)
    have OW7 := Lib.hid (OW6.out.below b7)
    have OX7 := Lib.hid (own_below OX6.out b7)
    clear b7 OG6 OW6 OX6 B6 AT6
    go_wp2_with fail
    refine (ints.mark_any (k := 1) w7 (by omega) OX7.out).mono ?_
    rintro e w8 ⟨rfl, o8, g8⟩
    have B8 := Lib.hid (B7.out.grown g8 B7.out.size (fun k' hk' => Nat.le_trans s2 (own_block_ge OX7.out k' hk').1))
    have OG8 : Hid (OwnP _ w8 v4 ps) := Lib.hid (World.ownsRow.kept OG7.out g8 GG.out)
    have OW8 : Hid (OwnP _ w8 v2 ps) := Lib.hid (World.ownsRow.kept OW7.out g8 GX.out)
    clear o8 g8 OG7 OW7 OX7 B7
    go_wp2_with fail
    refine (eqP' w8 OG8.out OW8.out).mono ?_
    rintro e w9 ⟨rfl, b9⟩
    have B9 := Lib.hid (chain B8.out b9)
    have OG9 := Lib.hid (OG8.out.below b9)
    have OW9 := Lib.hid (OW8.out.below b9)
    clear b9 OG8 OW8 B8
    go_wp2_with fail
    refine (markP' (k := 1) w9 (by omega) OG9.out).mono ?_
    rintro e w10 ⟨rfl, o10, g10⟩
    have B10 := Lib.hid (B9.out.grown g10 B9.out.size (fun k' hk' => Nat.le_trans s3 (OG9.out.lt k' hk').1))
    have OM10 := Lib.hid o10
    have OW10 : Hid (OwnP _ w10 v2 ps) := Lib.hid (World.ownsRow.kept OW9.out g10 GW.out)
    clear o10 g10 OG9 OW9 B9
    go_wp2_with fail
    refine (heldP' (k := 1) w10 (by omega) OM10.out).mono ?_
    rintro e w11 ⟨rfl, b11⟩
    have B11 := Lib.hid (chain B10.out b11)
    have OM11 := Lib.hid (OwnP.below OM10.out b11)
    have OW11 := Lib.hid (OwnP.below OW10.out b11)
    clear b11 OM10 OW10 B10
    go_wp2_with fail
    refine (ints.to_any a c n xs w11 g0 (HA.out.below B11.out)).mono ?_
    rintro e w12 ⟨rfl, o12, b12⟩
    have B12 := Lib.hid (chain B11.out b12)
    have OM12 := Lib.hid (OM11.out.below b12)
    have OW12 := Lib.hid (OW11.out.below b12)
    have AT12 := Lib.hid (ints.At.of_own o12)
    clear b12 o12 OM11 OW11 B11
    go_wp2_with fail
    refine (CI.out _ _ _ AT12.out).mono ?_
    rintro e w13 ⟨⟨v13, rfl, o13⟩, b13⟩
    have B13 := Lib.hid (chain B12.out b13)
    have OH13 := Lib.hid o13
    have OM13 := Lib.hid (OM12.out.below b13)
    have OW13 := Lib.hid (OW12.out.below b13)
    clear b13 o13 OM12 OW12 B12 AT12
    go_wp2_with fail
    refine (eqP' w13 OH13.out OW13.out).mono ?_
    rintro e w14 ⟨rfl, b14⟩
    have B14 := Lib.hid (chain B13.out b14)
    have OM14 := Lib.hid (OM13.out.below b14)
    clear b14 OM13 OW13 B13 OH13
    go_wp2_with fail
    refine (heldP' (k := 1) w14 (by omega) OM14.out).mono ?_
    rintro e w15 ⟨rfl, b15⟩
    have B15 := Lib.hid (chain B14.out b15)
    clear b15 OM14 B14
    go_wp2
    go_ret
    exact ⟨rfl, B15.out⟩

set_option maxHeartbeats 2000000 in
theorem exactPlacesText (a : Option Addr) (n c : Nat) (xs : List Plc) (w : World) (hm : n ≤ maxLen) (ha : AtP w a n xs) (hw : wfP xs) :
    Calls Try.prog 6 #[.slice a n c] w fun e w' => e = .returned (.bool true) ∧ Below w.heap.size w w' := by
  have HA := Lib.hid ha
  have HL := szPlaceS_any a c n w hm
  have HWF := Lib.hid hw
  clear ha hw
  by_cases h1 : n ≤ 1048576
  · rw [if_pos h1] at HL
    have HZ := Lib.hid HL
    have g2 : ¬ (1048576 : Int) - (n : Int) < 0 := by omega
    have CP := Lib.hid (fun w (h : AtP w a n xs) => toPlaceS_any a c n xs w h1 h)
    have CS := Lib.hid (fun a c w (h : AtP w a n xs) => specPlacesText a c n xs w h1 HWF.out h)
    have CI := Lib.hid (fun a c w (h : AtP w a n xs) => implPlacesText a c n xs w h1 HWF.out h)
    obtain ⟨t, ht⟩ : ∃ t, plT xs = t := ⟨_, rfl⟩
    rw [ht] at CS CI
    clear ht HL
    go_enter Try.func6, Try.ntmps6
    go_wp2_with fail
    refine HZ.out.mono ?_
    rintro e w0 ⟨rfl, hw0⟩
    rw [← hw0]
    clear hw0
    go_wp2_with fail
    refine (CP.out _ HA.out).mono ?_
    rintro e w1 ⟨rfl, o1, b1⟩
    have B1 := Lib.hid b1
    have A1 := Lib.hid (AtP.of_own o1)
    clear b1 o1
    go_wp2_with fail
    refine (CS.out _ _ _ A1.out).mono ?_
    rintro e w2 ⟨rfl, b2⟩
    have B2 := Lib.hid (chain B1.out b2)
    clear b2 A1 B1
    go_wp2_with fail
    refine (CP.out _ (HA.out.below B2.out)).mono ?_
    rintro e w3 ⟨rfl, o3, b3⟩
    have B3 := Lib.hid (chain B2.out b3)
    have A3 := Lib.hid (AtP.of_own o3)
    clear b3 o3 B2
    go_wp2_with fail
    refine (CI.out _ _ _ A3.out).mono ?_
    rintro e w4 ⟨rfl, b4⟩
    have B4 := Lib.hid (chain B3.out b4)
    have A4 := Lib.hid (A3.out.below b4)
    clear b4 A3 B3
    go_wp2_with fail
    refine (CP.out _ (HA.out.below B4.out)).mono ?_
    rintro e w5 ⟨rfl, o5, b5⟩
    have B5 := Lib.hid (chain B4.out b5)
    have A5 := Lib.hid (A4.out.below b5)
    have C5 := Lib.hid (AtP.of_own o5)
    clear b5 o5 A4 B4
    go_wp2_with fail
    refine (eqPlaceS_same _ _ _ _ n xs w5 hm A5.out C5.out).mono ?_
    rintro e w6 ⟨rfl, b6⟩
    have B6 := Lib.hid (chain B5.out b6)
    clear b6 A5 C5 B5
    go_wp2
    go_ret
    exact ⟨rfl, B6.out⟩
  · rw [if_neg h1] at HL
    have HZ := Lib.hid HL
    clear HL
    go_enter Try.func6, Try.ntmps6
    go_wp2_with fail
    refine HZ.out.mono ?_
    rintro e w0 ⟨rfl, hw0⟩
    rw [← hw0]
    clear hw0
    go_wp2
    go_ret
    exact ⟨rfl, Below.refl _ _⟩

set_option maxHeartbeats 1000000 in
theorem exactTrailerText (a b c d : Int) (w : World) :
    Calls Try.prog 8 #[.int .i64 a, .int .i64 b, .int .i64 c, .int .i64 d] w fun e w' => e = .returned (.bool true) ∧ Below w.heap.size w w' := by
  have CS := Lib.hid (fun w => specTrailer a b c d w)
  have CI := Lib.hid (fun w => implTrailer a b c d w)
  obtain ⟨r, hr⟩ : ∃ r, trT a b c d = r := ⟨_, rfl⟩
  rw [hr] at CS CI
  clear hr
  go_enter Try.func8, Try.ntmps8
  go_wp2_with fail
  refine (CS.out _).mono ?_
  rintro e w1 ⟨rfl, b1⟩
  go_wp2_with fail
  refine (CI.out _).mono ?_
  rintro e w2 ⟨rfl, b2⟩
  have B2 := Lib.hid (chain b1 b2)
  clear b1 b2
  go_wp2
  go_ret
  exact ⟨rfl, B2.out⟩

theorem rtR_form (o : Option (Nat × Nat × Nat × Nat)) : ∃ (x y z u : Int) (d : Bool), rtR o = .tuple #[.int .i64 x, .int .i64 y, .int .i64 z, .int .i64 u, .bool d] := by
  cases o with
  | none => exact ⟨_, _, _, _, _, rfl⟩
  | some t => exact ⟨_, _, _, _, _, rfl⟩
set_option maxHeartbeats 1000000 in
theorem exactReadTrailer (b : ByteArray) (w : World) (hb : b.size ≤ 9223372036854775807) :
    Calls Try.prog 9 #[.string b] w fun e w' => e = .returned (.bool true) ∧ Below w.heap.size w w' := by
  by_cases h1 : 1048576 < b.size
  · go_enter Try.func9, Try.ntmps9
    go_wp2
    go_ret
    exact ⟨rfl, Below.refl _ _⟩
  · have CS := Lib.hid (fun w => specReadTrailer b w (by omega))
    have CI := Lib.hid (fun w => implReadTrailer b w (by omega))
    obtain ⟨x, y, z, u, d, hr⟩ := rtR_form (rdT b)
    rw [hr] at CS CI
    clear hr
    go_enter Try.func9, Try.ntmps9
    go_wp2_with fail
    refine (CS.out _).mono ?_
    rintro e w1 ⟨rfl, hw1⟩
    rw [← hw1]
    clear hw1
    go_wp2_with fail
    refine (CI.out _).mono ?_
    rintro e w2 ⟨rfl, b2⟩
    have B2 := Lib.hid b2
    clear b2
    go_wp2
    go_ret
    exact ⟨rfl, B2.out⟩

set_option maxHeartbeats 2000000 in
theorem exactFootText (v s p l : Int) (a : Option Addr) (n c : Nat) (xs : List Int) (f : Int) (w : World) (hm : n ≤ maxLen) (ha : AtI w a n xs) (hw : ∀ o ∈ xs, recs.wfI o) :
    Calls Try.prog 10 #[.agg #[.int .i64 v, .int .i64 s, .int .i64 p, .int .i64 l], .slice a n c, .int .i64 f] w fun e w' => e = .returned (.bool true) ∧ Below w.heap.size w w' := by
  obtain ⟨W, hW⟩ : ∃ W, W = w.alloc (.cells #[.int .i64 v, .int .i64 s, .int .i64 p, .int .i64 l] 59) := ⟨_, rfl⟩
  have HB := Lib.hid (show Below w.heap.size w W by rw [hW]; exact (Below.refl _ _).alloc (Nat.le_refl _) _)
  have HF := Lib.hid (show Four W w.heap.size (.int .i64 v) (.int .i64 s) (.int .i64 p) (.int .i64 l) by rw [hW]; exact Four.new w _ _ _ _ _)
  have HW := Lib.hid hW
  have HA := Lib.hid ((ints_atI ha).below HB.out)
  have HWF : Hid (∀ o ∈ xs, i64 o) := Lib.hid hw
  clear hw
  obtain ⟨_, x0, x1, x2, x3⟩ := HF.out
  rw [hW] at x0 x1 x2 x3
  clear hW ha
  by_cases h1 : 1048576 < n
  · have g1 : (1048576 : Int) < (n : Int) := by omega
    unfold maxLen at hm
    go_enter Try.func10, Try.ntmps10
    go_wp2
    go_ret
    exact ⟨rfl, by rw [← HW.out]; exact HB.out⟩
  · have g1 : ¬ (1048576 : Int) < (n : Int) := by omega
    have g0 : n ≤ 1048576 := by omega
    have CT := Lib.hid (fun w => toHead_any v s p l w)
    have CP := Lib.hid (fun w (h : ints.At w a n xs) => ints.to_any a c n xs w g0 h)
    have CS := Lib.hid (fun a c w (h : ints.At w a n xs) => specFoot v s p l f a c n xs w g0 HWF.out h)
    have CI := Lib.hid (fun a c w (h : ints.At w a n xs) => implFoot v s p l f a c n xs w g0 HWF.out h)
    obtain ⟨r, hr⟩ : ∃ r, ftT ⟨v, s, p, l⟩ xs f = r := ⟨_, rfl⟩
    rw [hr] at CS CI
    clear hr
    go_enter Try.func10, Try.ntmps10
    go_wp2_with fail
    rw [← HW.out]
    refine (CT.out _).mono ?_
    rintro e w1 ⟨rfl, b1⟩
    have B1 := Lib.hid b1
    clear b1
    go_wp2_with fail
    refine (CP.out _ (HA.out.below B1.out)).mono ?_
    rintro e w2 ⟨rfl, o2, b2⟩
    have B2 := Lib.hid (chain B1.out b2)
    have A2 := Lib.hid (ints.At.of_own o2)
    clear b2 o2 B1
    go_wp2_with fail
    refine (CS.out _ _ _ A2.out).mono ?_
    rintro e w3 ⟨rfl, b3⟩
    have B3 := Lib.hid (chain B2.out b3)
    clear b3 B2 A2 x0 x1 x2 x3
    go_wp2_with fail
    refine (CP.out _ (HA.out.below B3.out)).mono ?_
    rintro e w4 ⟨rfl, o4, b4⟩
    have B4 := Lib.hid (chain B3.out b4)
    have A4 := Lib.hid (ints.At.of_own o4)
    obtain ⟨_, y0, y1, y2, y3⟩ := HF.out.below B4.out
    clear b4 o4 B3
    go_wp2_with fail
    refine (CT.out _).mono ?_
    rintro e w5 ⟨rfl, b5⟩
    have B5 := Lib.hid (chain B4.out b5)
    have A5 := Lib.hid (A4.out.below b5)
    clear b5 A4 B4 y0 y1 y2 y3
    go_wp2_with fail
    refine (CI.out _ _ _ A5.out).mono ?_
    rintro e w6 ⟨rfl, b6⟩
    have B6 := Lib.hid (chain B5.out b6)
    have A6 := Lib.hid (A5.out.below b6)
    clear b6 A5 B5
    go_wp2_with fail
    refine (CP.out _ (HA.out.below B6.out)).mono ?_
    rintro e w7 ⟨rfl, o7, b7⟩
    have B7 := Lib.hid (chain B6.out b7)
    have A7 := Lib.hid (A6.out.below b7)
    have C7 := Lib.hid (ints.At.of_own o7)
    clear b7 o7 A6 B6
    go_wp2_with fail
    refine (ints.eq_any _ _ _ _ n xs w7 hm A7.out C7.out).mono ?_
    rintro e w8 ⟨rfl, b8⟩
    have B8 := Lib.hid (chain B7.out b8)
    clear b8 B7 A7 C7
    go_wp2
    go_ret
    exact ⟨rfl, HB.out.trans (B8.out.mono HB.out.size)⟩

end Go.Proofs.Ytideejpopneplaa.pl
