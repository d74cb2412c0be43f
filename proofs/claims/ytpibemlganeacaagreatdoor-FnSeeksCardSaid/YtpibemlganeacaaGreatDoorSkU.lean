/-
  The draws of a text and a number to seek, and of places and a number.
-/
import Derived.Test.YtpibemlganeacaaGreatDoorSkA
import Derived.Test.YtpibemlganeacaaGreatDoorSlD
import Derived.Test.YtpibemlganeacaaGreatDoorPlQQ
import Derived.Test.YtpibemlganeacaaGreatDoorSkP
import Derived.Test.YtpibemlganeacaaGreatDoorSkQ
import Derived.Test.YtpibemlganeacaaGreatDoorPlQ
namespace Go.Proofs.YtpibemlganeacaaGreatDoor.draw
set_option maxRecDepth 20000
open Go.RowKit
open kit sum num burst hd fr recs sc pl sl sk

theorem i64_near {x k : Int} (h0 : 0 ≤ x) (h1 : x ≤ 1000000000) (h2 : -1 ≤ k) (h3 : k ≤ 5) : i64 (x + k) := ⟨by omega, by omega⟩

set_option maxHeartbeats 1000000 in
theorem case13_any (a : Option Addr) (len cap : Nat) (w : World) (hc : CodeAt w w.heap.size a len) :
    Calls Tryz.prog 21 #[.slice a len cap] w fun e w' => (∃ (b : ByteArray) (i : Int), b.size ≤ 100000 ∧ i64 i ∧ e = .returned (.tuple #[.string b, .int .i64 i])) ∧ Below w.heap.size w w' := by
  have HC0 := Lib.hid hc
  go_enter Tryz.func21, Tryz.ntmps21
  go_wp2_with fail
  refine (text12_any a len cap w hc).mono ?_
  rintro e w1 ⟨⟨b, hb, rfl⟩, b1⟩
  have B1 := Lib.hid b1
  clear hc b1
  have CR := Lib.hid (specReadHead b w1 (by omega))
  obtain ⟨h, k, hr, h0, h9⟩ : ∃ (h : Hd) (k : Bool), hdR (rdH b) = .tuple #[.agg #[.int .i64 h.v, .int .i64 h.s, .int .i64 h.b, .int .i64 h.l], .bool k] ∧ 0 ≤ h.b ∧ h.b ≤ 1000000000 := by
    have hb0 := hdOf_base b
    cases hx : rdH b with
    | none => exact ⟨⟨0, 0, 0, 0⟩, false, hdR_none, by decide, by decide⟩
    | some h =>
      rw [hdOf_some hx] at hb0
      exact ⟨h, true, hdR_some h, hb0.1, hb0.2⟩
  rw [hr] at CR
  clear hr
  go_wp2_with fail
  refine CR.out.mono ?_
  rintro e w2 ⟨rfl, b2⟩
  have sx := Box.new w2 #[.int .i64 h.v, .int .i64 h.s, .int .i64 h.b, .int .i64 h.l] 41
  have al := (Below.refl w2.heap.size w2).alloc (Nat.le_refl _) (.cells #[.int .i64 h.v, .int .i64 h.s, .int .i64 h.b, .int .i64 h.l] 41)
  obtain ⟨W, hW⟩ : ∃ W, W = w2.alloc (.cells #[.int .i64 h.v, .int .i64 h.s, .int .i64 h.b, .int .i64 h.l] 41) := ⟨_, rfl⟩
  rw [← hW] at sx al
  have SX := Lib.hid sx
  have BW := Lib.hid ((B1.out.trans (b2.mono B1.out.size)).trans (al.mono (Nat.le_trans B1.out.size b2.size)))
  have HCW := Lib.hid (HC0.out.below BW.out)
  obtain ⟨c, hcc⟩ : ∃ c, W.heap.size = c := ⟨_, rfl⟩
  have hwc : w.heap.size ≤ c := by rw [← hcc]; exact BW.out.size
  have CN := Lib.hid (new_any w.heap.size a len cap W BW.out.size HCW.out)
  clear b2 sx al CR B1
  go_wp2_with fail
  rw [← hW]
  clear hW
  refine CN.out.mono ?_
  rintro e w3 ⟨rfl, u3, b3, sz3⟩
  have k3 := HCW.out.below (b3.mono BW.out.size)
  rw [hcc] at u3
  have hs3 : c < w3.heap.size := by omega
  have B3 := Lib.hid (BW.out.trans (b3.mono BW.out.size))
  have q2 := (SX.out.below b3).at 2 _ rfl
  have CP := Lib.hid (pickNew w.heap.size c 8 a len cap [h.b, h.b + 1, h.b + 2, h.b + 5, h.b - 1, -1, 9223372036854775807, -9223372036854775808] w3 hwc hs3 k3 u3 rfl (by decide) (by decide))
  rw [hcc]
  clear k3 u3 b3 CN sz3
  go_wp2_with fail
  refine CP.out.mono ?_
  rintro e w4 ⟨⟨i, him, rfl⟩, u4, g4⟩
  have hi : i64 i := by
    simp only [List.mem_cons, List.not_mem_nil, or_false] at him
    rcases him with rfl | rfl | rfl | rfl | rfl | rfl | rfl | rfl
    · exact ⟨by omega, by omega⟩
    · exact ⟨by omega, by omega⟩
    · exact ⟨by omega, by omega⟩
    · exact ⟨by omega, by omega⟩
    · exact ⟨by omega, by omega⟩
    · exact ⟨by decide, by decide⟩
    · exact ⟨by decide, by decide⟩
    · exact ⟨by decide, by decide⟩
  clear him q2
  go_wp2
  go_ret2
  exact ⟨⟨b, i, hb, hi, rfl⟩, B3.out.grown g4 B3.out.size (fun k hk => by injection hk with hk; omega)⟩

theorem drawSeek_any (a : Option Addr) (len cap : Nat) (w : World) (hc : CodeAt w w.heap.size a len) :
    Calls Tryz.prog 5 #[.slice a len cap] w fun e w' => (∃ (b : ByteArray) (i : Int), b.size ≤ 100000 ∧ i64 i ∧ e = .returned (.tuple #[.string b, .int .i64 i])) ∧ Below w.heap.size w w' := by
  go_enter Tryz.func5, Tryz.ntmps5
  go_wp2_with fail
  refine (case13_any a len cap w hc).mono ?_
  rintro e w1 ⟨⟨b, i, hb, hi, rfl⟩, b1⟩
  go_wp2
  go_ret2
  exact ⟨⟨b, i, hb, hi, rfl⟩, b1⟩

set_option maxHeartbeats 1000000 in
theorem drawPlaceFor_any (a : Option Addr) (len cap : Nat) (w : World) (hc : CodeAt w w.heap.size a len) :
    Calls Tryz.prog 15 #[.slice a len cap] w fun e w' => (∃ (v : Value) (xs : List Plc) (i : Int), xs.length ≤ 1000 ∧ e = .returned (.tuple #[v, .int .i64 i]) ∧ OwnP w.heap.size w' v xs) ∧ Below w.heap.size w w' := by
  obtain ⟨c, hcc⟩ : ∃ c, w.heap.size = c := ⟨_, rfl⟩
  have hBc : c ≤ c := Nat.le_refl _
  go_enter Tryz.func15, Tryz.ntmps15
  go_wp2_with fail
  refine (new_any w.heap.size a len cap w (Nat.le_refl _) hc).mono ?_
  rintro e w1 ⟨rfl, u1, b1, sz1⟩
  have k1 := hc.below b1
  rw [hcc] at u1 k1
  have hs1 : c < w1.heap.size := by omega
  have HB1 := Lib.hid b1
  have HCC := Lib.hid hcc
  have G1 := Lib.hid (grown_refl w1 (some c))
  clear hc b1 sz1
  rw [hcc]
  clear hcc
  go_wp2_with fail
  refine (below_any c c a len cap 3 w1 hBc (by omega) k1 u1 (by decide) (by decide)).mono ?_
  rintro e w2 ⟨⟨s, hs0, hs3, rfl⟩, u2, g2⟩
  have k2 := k1.grown hBc (by omega) g2
  have hs2 : c < w2.heap.size := Nat.lt_of_lt_of_le hs1 g2.size
  have G2 := Lib.hid (grown_trans G1.out g2)
  clear k1 u1 hs1 G1
  go_wp2_with fail
  refine (offsets11_any c c a len cap w2 hBc hs2 k2 u2).mono ?_
  rintro e w3 ⟨⟨v, n, os, rfl, hn, hos, ho⟩, u3, g3⟩
  have k3 := k2.grown hBc (by omega) g3
  have hs3 : c < w3.heap.size := Nat.lt_of_lt_of_le hs2 g3.size
  have G3 := Lib.hid (grown_trans G2.out g3)
  have z2 : c ≤ w2.heap.size := by omega
  clear k2 u2 hs2 G2
  obtain ⟨av, cv, rfl, hl, _, _⟩ := own_form ho
  have AO := Lib.hid (ints.At.of_own ho)
  have hle := plN_le (1 + s) os
  have hol : os.length = n := by simpa using hl
  have CP := Lib.hid (specPlaces (1 + s) av cv n os w3 (by omega) ⟨by omega, by omega⟩ AO.out)
  obtain ⟨xs, hxs⟩ : ∃ xs, plN (1 + s) os = xs := ⟨_, rfl⟩
  rw [hxs] at CP hle
  unfold PlR at CP
  have hx9 : xs.length ≤ 1000 := by omega
  clear hxs ho hl hol hle
  go_wp2_with fail
  refine CP.out.mono ?_
  rintro e w4 ⟨⟨v4, rfl, o4⟩, b4⟩
  have k4 := k3.below (b4.mono (show c ≤ w3.heap.size by omega))
  have u4 := u3.below (b4.mono (show c + 1 ≤ w3.heap.size by omega))
  have hs4 : c < w4.heap.size := Nat.lt_of_lt_of_le hs3 b4.size
  have G4 := Lib.hid (grown_below G3.out (b4.mono G3.out.size))
  have O4 := Lib.hid o4
  clear k3 u3 G3 b4 o4
  obtain ⟨a4, c4, rfl, _, _, _⟩ := O4.out.formP
  go_wp2_with fail
  refine (pickNew c c 8 a len cap [0, 1, 2, 3, 5, 8, 100, -1] w4 hBc hs4 k4 u4 rfl (by decide) (by decide)).mono ?_
  rintro e w5 ⟨⟨q, _, rfl⟩, u5, g5⟩
  have O5 : Hid (OwnP w3.heap.size w5 (.slice a4 xs.length c4) xs) := Lib.hid (World.ownsRow.kept O4.out g5 (.inr fun h => by
    have := (O4.out.lt c h).1
    omega))
  have G5 := Lib.hid (grown_trans G4.out g5)
  clear k4 u4 G4
  go_wp2
  go_ret2
  refine ⟨⟨_, xs, q, hx9, rfl, own_base O5.out (by have := HCC.out; omega)⟩, (HB1.out.grown G5.out HB1.out.size (fun k hk => by injection hk with hk; have := HCC.out; omega))⟩

end Go.Proofs.YtpibemlganeacaaGreatDoor.draw

namespace Go.Proofs.YtpibemlganeacaaGreatDoor.sk
set_option maxRecDepth 20000
open Go.RowKit
open kit sum num burst hd fr recs sc pl sl

theorem seeks_big (a : Option Addr) (len cap : Nat) (w : World) (h : 1048576 < len) :
    Calls Tryz.prog 3 #[.slice a len cap] w fun e w' => e = .returned (.bool true) ∧ Below w.heap.size w w' := by
  go_enter Tryz.func3, Tryz.ntmps3
  go_wp2_with (go_at_call 4; refine (big_yes _ _ _ _ h).mono ?_; rintro e w' ⟨rfl, rfl⟩)
  go_ret
  exact ⟨rfl, Below.refl _ _⟩
def smpl : List ByteArray := [{ data := #[97] }, { data := #[98] }, { data := #[99] }]
theorem smpl_ok : okS ⟨1, 2, 0, 0⟩ smpl := ⟨by decide, by decide, by decide, fun r hr => by
  simp only [smpl, List.mem_cons, List.not_mem_nil, or_false] at hr
  rcases hr with rfl | rfl | rfl <;> decide⟩
theorem smpl_reads : rfN (slT ⟨1, 2, 0, 0⟩ smpl) 1 = 2 ∧ rfN (slT ⟨1, 2, 0, 0⟩ smpl) 2 = 1 := by
  obtain ⟨h1, h2, _⟩ := scan_self smpl_ok
  have hs := isS_slT smpl_ok
  have hh := hdOf_some h1
  have r1 := rfN_some (j := 1) (r := { data := #[98] }) hs (by rw [h2]; rfl)
  have r2 := rfN_some (j := 2) (r := { data := #[99] }) hs (by rw [h2]; rfl)
  rw [hh] at r1 r2
  exact ⟨r1, r2⟩
theorem smpl_at (w : World) : strs.At (w.alloc (.cells #[.string { data := #[97] }, .string { data := #[98] }, .string { data := #[99] }] 9)) (some ⟨w.heap.size, 0, none⟩) 3 smpl := by
  refine ⟨rfl, .inr ⟨_, 0, rfl, by simp, fun j x hx => ?_⟩⟩
  rw [cell_of_row _ _ _ _ _ _ (heap_alloc_new w _)]
  have hj : j < 3 := (List.getElem?_eq_some_iff.1 hx).1
  match j, hj with
  | 0, _ => cases hx; rfl
  | 1, _ => cases hx; rfl
  | 2, _ => cases hx; rfl

set_option maxHeartbeats 2000000 in
theorem seeks_small (a : Option Addr) (len cap : Nat) (w : World) (hc : draw.CodeAt w w.heap.size a len) (hg : sl.GE w) :
    Calls Tryz.prog 3 #[.slice a len cap] w fun e w' => e = .returned (.bool true) ∧ Below w.heap.size w w' := by
  have HG := Lib.hid hg
  clear hg
  have HC := Lib.hid hc
  have hlen := hc.1
  clear hc
  go_enter Tryz.func3, Tryz.ntmps3
  go_wp2_with (fail)
  refine (big_no _ _ _ _ hlen).mono ?_
  rintro e w' ⟨rfl, rfl⟩
  clear hlen
  go_wp2_with (fail)
  refine (draw.drawSeek_any a len cap w HC.out).mono ?_
  rintro e w1 ⟨⟨b, i, hb, hi, rfl⟩, b1⟩
  have B1 := Lib.hid b1
  have HI := Lib.hid hi
  have hm : b.size ≤ 1048576 := by omega
  have CK := Lib.hid (fun w => specSeek b i w hm HI.out)
  have DK := Lib.hid (fun w (g : sl.GE w) => implSeek b i w hm HI.out g)
  have CO := Lib.hid (fun w => specOffset b i w hm HI.out)
  have DO := Lib.hid (fun w => implOffset b i w hm HI.out)
  have CR := Lib.hid (fun w => specReads b i w hm HI.out)
  have DR := Lib.hid (fun w (g : sl.GE w) => implReads b i w hm HI.out g)
  have CL := Lib.hid (fun w => specListIn b w hm)
  have DL := Lib.hid (fun w (g : sl.GE w) => implListIn b w hm g)
  have hll := liN_le b
  obtain ⟨O, hO⟩ : ∃ O, ofN b i = O := ⟨_, rfl⟩
  obtain ⟨R, hR⟩ : ∃ R, rfN b i = R := ⟨_, rfl⟩
  obtain ⟨t, k, hK, hKN, hKS⟩ : ∃ t k, skR (skN b i) = .tuple #[.string t, .bool k] ∧ (k = false → skN b i = none) ∧ (k = true → skN b i = some t) := by
    cases h : skN b i with
    | none => exact ⟨_, _, rfl, fun _ => rfl, fun h => (by cases h)⟩
    | some r => exact ⟨_, _, rfl, fun h => (by cases h), fun _ => rfl⟩
  rw [hO] at CO DO
  rw [hR] at CR DR
  rw [hK] at CK DK
  have HR := Lib.hid hR
  have HKS := Lib.hid hKS
  have LM := Lib.hid (show (liN b).length ≤ 1048576 by omega)
  clear hO hK b1 hi hKN hKS hR hll
  have et : (t.toList == t.toList) = true := beq_self_eq_true _
  have ek : (k == k) = true := beq_self_eq_true _
  have eo : (O == O) = true := beq_self_eq_true _
  have er : (R == R) = true := beq_self_eq_true _
  go_wp2_with (fail)
  refine (DK.out _ (HG.out.below B1.out)).mono ?_
  rintro e w2 ⟨rfl, b2⟩
  have B2 := Lib.hid (chain B1.out b2)
  clear b2
  go_wp2_with (fail)
  refine (CK.out _).mono ?_
  rintro e w3 ⟨rfl, b3⟩
  have B3 := Lib.hid (chain B2.out b3)
  clear b3
  go_wp2_with (fail)
  refine (DO.out _).mono ?_
  rintro e w4 ⟨rfl, b4⟩
  have B4 := Lib.hid (chain B3.out b4)
  clear b4
  go_wp2_with (fail)
  refine (CO.out _).mono ?_
  rintro e w5 ⟨rfl, b5⟩
  have B5 := Lib.hid (chain B4.out b5)
  clear b5
  go_wp2_with (fail)
  refine (DR.out _ (HG.out.below B5.out)).mono ?_
  rintro e w6 ⟨rfl, b6⟩
  have B6 := Lib.hid (chain B5.out b6)
  clear b6
  go_wp2_with (fail)
  refine (CR.out _).mono ?_
  rintro e w7 ⟨rfl, b7⟩
  have B7 := Lib.hid (chain B6.out b7)
  clear b7 B1 B2 B3 B4 B5 B6
  go_wp2_with (fail)
  refine (DL.out _ (HG.out.below B7.out)).mono ?_
  rintro e w8 ⟨⟨v8, rfl, o8⟩, b8⟩
  obtain ⟨a8, c8, rfl, _, p8, _⟩ := o8.formP
  have P8 := Lib.hid p8
  have B8 := Lib.hid (chain B7.out b8)
  clear b8 o8 p8
  go_wp2_with (fail)
  refine (CL.out _).mono ?_
  rintro e w9 ⟨⟨v9, rfl, o9⟩, b9⟩
  obtain ⟨a9, c9, rfl, _, p9, _⟩ := o9.formP
  have P9 := Lib.hid p9
  have B9 := Lib.hid (chain B8.out b9)
  have Q9 := Lib.hid (P8.out.below b9)
  clear b9 o9 p9 P8
  go_wp2_with (fail)
  refine (samePlaces_any a8 a9 c8 c9 (liN b).length (liN b) w9 LM.out Q9.out P9.out).mono ?_
  rintro e w10 ⟨rfl, b10⟩
  have B10 := Lib.hid (chain B9.out b10)
  clear b10 P9 Q9
  go_wp2_with (fail)
  refine (draw.drawPlaceFor_any a len cap w10 ?_).mono ?_
  · exact ⟨HC.out.1, (HC.out.below B10.out).2.imp id fun ⟨g, o, h1, h2, h3⟩ => ⟨g, o, h1, Nat.lt_of_lt_of_le h2 B10.out.size, h3⟩⟩
  rintro e w11 ⟨⟨v11, xs, q, hx, rfl, o11⟩, b11⟩
  obtain ⟨a11, c11, rfl, _, p11, _⟩ := o11.formP
  have P11 := Lib.hid p11
  have R11 := Lib.hid (OwnP.room o11)
  have B11 := Lib.hid (chain B10.out b11)
  clear o11 p11 b11
  obtain ⟨x, y, z, hz⟩ := pfR_form (plcFor xs q)
  have DP := Lib.hid (implPlaceFor a11 c11 xs.length xs q w11 (by omega) P11.out R11.out)
  have CP := Lib.hid (fun w h => specPlaceFor a11 c11 xs.length xs q w (by omega) h)
  rw [hz] at DP CP
  clear hz
  go_wp2_with (fail)
  refine DP.out.mono ?_
  rintro e w12 ⟨rfl, b12⟩
  have bx := Box.new w12 #[.int .i64 x, .int .i64 y] 36
  have al := (Below.refl w12.heap.size w12).alloc (Nat.le_refl _) (.cells #[.int .i64 x, .int .i64 y] 36)
  obtain ⟨W, hW⟩ : ∃ W, W = w12.alloc (.cells #[.int .i64 x, .int .i64 y] 36) := ⟨_, rfl⟩
  rw [← hW] at bx al
  have X12 := Lib.hid bx
  have B12 := Lib.hid (chain (chain B11.out b12) al)
  have P12 := Lib.hid ((P11.out.below b12).below al)
  clear bx al b12 P11 DP
  go_wp2_with (fail)
  rw [← hW]
  clear hW
  refine (CP.out _ P12.out).mono ?_
  rintro e w13 ⟨rfl, b13⟩
  have by13 := Box.new w13 #[.int .i64 x, .int .i64 y] 36
  have al := (Below.refl w13.heap.size w13).alloc (Nat.le_refl _) (.cells #[.int .i64 x, .int .i64 y] 36)
  have B13 := Lib.hid (chain (chain B12.out b13) al)
  have X13 := Lib.hid ((X12.out.below b13).below al)
  have p0 := X13.out.at 0 _ rfl
  have p1 := X13.out.at 1 _ rfl
  have q0 := by13.at 0 _ rfl
  have q1 := by13.at 1 _ rfl
  have ex : (x == x) = true := beq_self_eq_true _
  have ey : (y == y) = true := beq_self_eq_true _
  have ez : (z == z) = true := beq_self_eq_true _
  clear by13 al b13 X12 B12 B11 B10 B9 B8 B7 P12
  obtain ⟨W13, hW13⟩ : ∃ W, W = w13.alloc (.cells #[.int .i64 x, .int .i64 y] 36) := ⟨_, rfl⟩
  rw [← hW13] at B13 p0 p1 q0 q1 X13
  have z13 := Lib.hid (show W13.heap.size = w13.heap.size + 1 by rw [hW13]; simp)
  cases k with
  | false =>
    have hsz := slT_le ⟨1, 2, 0, 0⟩ smpl
    obtain ⟨hs1, hs2⟩ := smpl_reads
    have CT := Lib.hid (fun w => specSeal 1 2 0 0 (some ⟨w.heap.size, 0, none⟩) 3 3 smpl (w.alloc (.cells #[.string { data := #[97] }, .string { data := #[98] }, .string { data := #[99] }] 9)) (by decide) (smpl_at w))
    have D1 := Lib.hid (fun w (g : sl.GE w) => implReads (slT ⟨1, 2, 0, 0⟩ smpl) 1 w (by omega) ⟨by decide, by decide⟩ g)
    have D2 := Lib.hid (fun w (g : sl.GE w) => implReads (slT ⟨1, 2, 0, 0⟩ smpl) 2 w (by omega) ⟨by decide, by decide⟩ g)
    rw [hs1] at D1
    rw [hs2] at D2
    obtain ⟨T, hT⟩ : ∃ T, slT ⟨1, 2, 0, 0⟩ smpl = T := ⟨_, rfl⟩
    rw [hT] at CT D1 D2
    clear hT hsz hs1 hs2
    rw [hW13] at p0 p1 q0 q1
    go_wp2_with (fail)
    rw [← hW13, ← z13.out]
    clear hW13 p0 p1 q0 q1
    refine (CT.out _).mono ?_
    rintro e w14 ⟨rfl, b14⟩
    have B14 := Lib.hid (chain B13.out ((((Below.refl _ _).alloc (Nat.le_refl _) _)).trans (b14.mono (by simp))))
    clear b14
    go_wp2_with (fail)
    refine (D1.out _ (HG.out.below B14.out)).mono ?_
    rintro e w15 ⟨rfl, b15⟩
    have B15 := Lib.hid (chain B14.out b15)
    clear b15
    go_wp2_with (fail)
    refine (D2.out _ (HG.out.below B15.out)).mono ?_
    rintro e w16 ⟨rfl, b16⟩
    have B16 := Lib.hid (chain B15.out b16)
    clear b16
    go_wp2
    go_ret
    exact ⟨rfl, B16.out⟩
  | true =>
    obtain ⟨hs, j, hj, hr⟩ := skN_some (HKS.out rfl)
    obtain ⟨hx1, hok⟩ := isS_head hs
    have hb0 := hdOf_base b
    have hin := rfN_in hs hr
    rw [← hj, HR.out] at hin
    obtain ⟨hn1, hn2⟩ := hin
    have CH := Lib.hid (fun w => specReadHead b w hm)
    rw [hx1, hdR_some] at CH
    have CA := Lib.hid (fun w => specRecords b w hm)
    have hrl := recs_le b
    have HRR := Lib.hid hr
    have hjl := (List.getElem?_eq_some_iff.1 hr).1
    have ew : i - (hdOf b).b = (j : Int) := by omega
    obtain ⟨h, hh⟩ : ∃ h, hdOf b = h := ⟨_, rfl⟩
    obtain ⟨rs, hrs⟩ : ∃ rs, sc.recs b = rs := ⟨_, rfl⟩
    rw [hh] at CH hb0 hn2 ew
    rw [hrs] at CA HRR hjl hrl
    clear hj hr hs hx1 hok hh hrs
    rw [hW13] at p0 p1 q0 q1
    go_wp2_with (fail)
    rw [← hW13]
    clear hW13 p0 p1 q0 q1
    refine (CH.out _).mono ?_
    rintro e w14 ⟨rfl, b14⟩
    have bx := Box.new w14 #[.int .i64 h.v, .int .i64 h.s, .int .i64 h.b, .int .i64 h.l] 41
    have al := (Below.refl w14.heap.size w14).alloc (Nat.le_refl _) (.cells #[.int .i64 h.v, .int .i64 h.s, .int .i64 h.b, .int .i64 h.l] 41)
    obtain ⟨W, hW⟩ : ∃ W, W = w14.alloc (.cells #[.int .i64 h.v, .int .i64 h.s, .int .i64 h.b, .int .i64 h.l] 41) := ⟨_, rfl⟩
    rw [← hW] at bx al
    have X14 := Lib.hid bx
    have B14 := Lib.hid (chain (chain B13.out b14) al)
    clear bx al b14
    go_wp2_with (fail)
    rw [← hW]
    clear hW
    refine (DR.out _ (HG.out.below B14.out)).mono ?_
    rintro e w15 ⟨rfl, b15⟩
    have B15 := Lib.hid (chain B14.out b15)
    have X15 := Lib.hid (X14.out.below b15)
    clear b15
    go_wp2_with (fail)
    refine (CA.out _).mono ?_
    rintro e w16 ⟨⟨v16, rfl, o16⟩, b16⟩
    obtain ⟨a16, c16, rfl, _, _, _⟩ := own_form o16
    have A16 := strs.At.of_own o16
    have B16 := Lib.hid (chain B15.out b16)
    have X16 := Lib.hid (X15.out.below b16)
    have x1 := X16.out.at 1 _ rfl
    have x2 := X16.out.at 2 _ rfl
    obtain ⟨g, p, rfl, hg, hc⟩ := A16.2.resolve_left (by omega)
    have d1 := hc j t HRR.out
    have i0 : (0 : Int) ≤ (j : Int) := by omega
    have i1 : (j : Int) < (rs.length : Int) := by omega
    clear b16 o16 A16 hc
    go_wp2
    go_ret
    exact ⟨rfl, B16.out⟩

end Go.Proofs.YtpibemlganeacaaGreatDoor.sk
