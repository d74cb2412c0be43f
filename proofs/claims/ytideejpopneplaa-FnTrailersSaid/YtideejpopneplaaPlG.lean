/-
  Draws of what is laid in places, and read as such; of trailers and feet.
-/
import Derived.Test.YtideejpopneplaaPlF
namespace Go.Proofs.Ytideejpopneplaa.draw
set_option maxRecDepth 20000
open Go.RowKit
open kit hd sc pl

/-- a stride and offsets of the call's own -/
def PostPl (w : World) (e : Ending) (w' : World) : Prop := (∃ (s : Int) (v : Value) (n : Nat) (os : List Int), e = .returned (.tuple #[.int .i64 s, v]) ∧ i64 s ∧ n ≤ 9 ∧ (∀ o ∈ os, i64 o) ∧ w'.ownsRow w.heap.size 3 1 v n (os.map (Value.int .i64))) ∧ Below w.heap.size w w'
set_option maxHeartbeats 1000000 in
theorem drawPlacesOf_any (a : Option Addr) (len cap : Nat) (w : World) (hc : CodeAt w w.heap.size a len) :
    Calls Try.prog 12 #[.slice a len cap] w (PostPl w) := by
  obtain ⟨c, hcc⟩ : ∃ c, w.heap.size = c := ⟨_, rfl⟩
  have hBc : c ≤ c := Nat.le_refl _
  go_enter Try.func12, Try.ntmps12
  go_wp2_with fail
  refine (new_any w.heap.size a len cap w (Nat.le_refl _) hc).mono ?_
  rintro e w1 ⟨rfl, u1, b1, sz1⟩
  have k1 := hc.below b1
  rw [hcc] at u1 k1
  have hs1 : c < w1.heap.size := by omega
  have HB1 := Lib.hid b1
  have HCC := Lib.hid hcc
  have G1 := Lib.hid (grown_refl w1 (some c))
  clear hc b1 sz1
  rw [hcc]
  clear hcc
  go_wp2_with fail
  refine (pickNew c c 8 a len cap [1, 2, 3, 4, 20, 0, -1, 9223372036854775807] w1 hBc hs1 k1 u1 rfl (by decide) (by decide)).mono ?_
  rintro e w2 ⟨⟨s, hsm, rfl⟩, u2, g2⟩
  have k2 := k1.grown hBc (by omega) g2
  have hs2 : c < w2.heap.size := Nat.lt_of_lt_of_le hs1 g2.size
  have G2 := Lib.hid (grown_trans G1.out g2)
  clear k1 u1 hs1 G1
  have z2 : c ≤ w2.heap.size := by omega
  go_wp2_with fail
  refine (offsets11_any c c a len cap w2 hBc hs2 k2 u2).mono ?_
  rintro e w3 ⟨⟨v, n, os, rfl, hn, hos, ho⟩, u3, g3⟩
  have k3 := k2.grown hBc (by omega) g3
  have hs3 : c < w3.heap.size := Nat.lt_of_lt_of_le hs2 g3.size
  have G3 := Lib.hid (grown_trans G2.out g3)
  clear k2 u2 hs2 G2
  have hw : i64 s := by
    simp only [List.mem_cons, List.not_mem_nil, or_false] at hsm
    rcases hsm with rfl | rfl | rfl | rfl | rfl | rfl | rfl | rfl <;> exact i64_of (by decide) (by decide)
  clear hsm
  obtain ⟨av, cv, rfl, _, _, _⟩ := own_form ho
  have HO := Lib.hid (own_base ho (show w.heap.size ≤ w2.heap.size by have := HCC.out; omega))
  go_wp2
  go_ret2
  exact ⟨⟨s, _, n, os, rfl, hw, hn, hos, HO.out⟩, (HB1.out.grown G3.out HB1.out.size (fun k hk => by injection hk with hk; have := HCC.out; omega))⟩

theorem one_more {T z : ByteArray} (hz : z.size = 1) (h : T.size ≤ 99999) : (T ++ z).size ≤ 100000 := by rw [ByteArray.size_append]; omega
/-- a text and where to read -/
def PostRp (w : World) (e : Ending) (w' : World) : Prop := (∃ (b : ByteArray) (q : Int), b.size ≤ 1000 ∧ e = .returned (.tuple #[.string b, .int .i64 q])) ∧ Below w.heap.size w w'
set_option maxHeartbeats 2000000 in
theorem drawReadPlaces_any (a : Option Addr) (len cap : Nat) (w : World) (hc : CodeAt w w.heap.size a len) :
    Calls Try.prog 18 #[.slice a len cap] w (PostRp w) := by
  obtain ⟨c, hcc⟩ : ∃ c, w.heap.size = c := ⟨_, rfl⟩
  have hBc : c ≤ c := Nat.le_refl _
  go_enter Try.func18, Try.ntmps18
  go_wp2_with fail
  refine (new_any w.heap.size a len cap w (Nat.le_refl _) hc).mono ?_
  rintro e w1 ⟨rfl, u1, b1, sz1⟩
  have k1 := hc.below b1
  rw [hcc] at u1 k1
  have hs1 : c < w1.heap.size := by omega
  have HB1 := Lib.hid b1
  have HCC := Lib.hid hcc
  have G1 := Lib.hid (grown_refl w1 (some c))
  clear hc b1 sz1
  rw [hcc]
  clear hcc
  go_wp2_with fail
  refine (below_any c c a len cap 3 w1 hBc (by omega) k1 u1 (by decide) (by decide)).mono ?_
  rintro e w2 ⟨⟨z, z0, z1, rfl⟩, u2, g2⟩
  have k2 := k1.grown hBc (by omega) g2
  have hs2 : c < w2.heap.size := Nat.lt_of_lt_of_le hs1 g2.size
  have G2 := Lib.hid (grown_trans G1.out g2)
  clear k1 u1 hs1 G1
  go_wp2_with fail
  refine (offsets11_any c c a len cap w2 hBc hs2 k2 u2).mono ?_
  rintro e w3 ⟨⟨v, n, os, rfl, hn, hos, ho⟩, u3, g3⟩
  have k3 := k2.grown hBc (by omega) g3
  have hs3 : c < w3.heap.size := Nat.lt_of_lt_of_le hs2 g3.size
  have G3 := Lib.hid (grown_trans G2.out g3)
  clear k2 u2 hs2 G2
  obtain ⟨av, cv, rfl, hxl, _, _⟩ := own_form ho
  have hxl' : os.length = n := by simpa using hxl
  have AT := Lib.hid (ints.At.of_own ho)
  have hle := plN_le (1 + z) os
  have hts := plT_size (plN (1 + z) os)
  have HWF := Lib.hid (plN_wf (s := 1 + z) (os := os) (by omega) hos)
  have CP := Lib.hid (specPlaces (1 + z) av cv n os w3 (by omega) (i64_of (by omega) (by omega)) AT.out)
  clear ho hxl
  go_wp2_with fail
  refine (CP.out).mono ?_
  rintro e w4 ⟨⟨pv, rfl, op⟩, b4⟩
  have k4 := k3.below (b4.mono (show c ≤ w3.heap.size by omega))
  have u4 := u3.below (b4.mono (show c + 1 ≤ w3.heap.size by omega))
  have hs4 : c < w4.heap.size := Nat.lt_of_lt_of_le hs3 b4.size
  have G4 := Lib.hid (grown_below G3.out (b4.mono G3.out.size))
  clear k3 u3 hs3 G3
  obtain ⟨ap, cp, rfl, A4⟩ := op.form
  have CT := Lib.hid (specPlacesText ap cp (plN (1 + z) os).length (plN (1 + z) os) w4 (by omega) HWF.out A4)
  obtain ⟨T, hT⟩ : ∃ T, plT (plN (1 + z) os) = T := ⟨_, rfl⟩
  rw [hT] at CT hts
  obtain ⟨K, hK⟩ : ∃ K, (plN (1 + z) os).length = K := ⟨_, rfl⟩
  rw [hK] at CT hts hle ⊢
  clear hT hK op A4
  go_wp2_with fail
  refine (CT.out).mono ?_
  rintro e w5 ⟨rfl, b5⟩
  have k5 := k4.below (b5.mono (show c ≤ w4.heap.size by omega))
  have u5 := u4.below (b5.mono (show c + 1 ≤ w4.heap.size by omega))
  have hs5 : c < w5.heap.size := Nat.lt_of_lt_of_le hs4 b5.size
  have G5 := Lib.hid (grown_below G4.out (b5.mono G4.out.size))
  clear k4 u4 hs4 G4
  have hz1 : ({ data := #[122] } : ByteArray).size = 1 := rfl
  have hz : (T ++ ({ data := #[122] } : ByteArray)).size = T.size + 1 := by rw [ByteArray.size_append, hz1]
  go_wp2_with fail
  refine (bent8_any c c a len cap _ w5 hBc hs5 k5 u5 (one_more rfl (show T.size ≤ 99999 by omega))).mono ?_
  rintro e w6 ⟨⟨r, hr, rfl⟩, u6, g6⟩
  have k6 := k5.grown hBc (by omega) g6
  have hs6 : c < w6.heap.size := Nat.lt_of_lt_of_le hs5 g6.size
  have G6 := Lib.hid (grown_trans G5.out g6)
  clear k5 u5 hs5 G5
  have hr : r.size ≤ T.size + 5 := by rw [ByteArray.size_append] at hr; exact hr
  have hl1 : ({ data := #[97] } : ByteArray).size = 1 := rfl
  have ha : (({ data := #[97] } : ByteArray) ++ r).size = r.size + 1 := by rw [ByteArray.size_append, hl1]; omega
  go_wp2_with fail
  refine (once_any c c a len cap 12 w6 hBc (by omega) k6 u6 (by decide) (by decide)).mono ?_
  rintro e w7 ⟨⟨o, rfl⟩, u7, g7⟩
  have k7 := k6.grown hBc (by omega) g7
  have hs7 : c < w7.heap.size := Nat.lt_of_lt_of_le hs6 g7.size
  have G7 := Lib.hid (grown_trans G6.out g7)
  clear k6 u6 hs6 G6
  obtain ⟨R, hR⟩ : ∃ R, ({ data := #[97] } : ByteArray) ++ r = R := ⟨_, rfl⟩
  rw [hR] at ha ⊢
  have hRb : R.size ≤ 1000 := by omega
  clear hR ha
  cases o with
  | true =>
    go_wp2
    go_ret2
    exact ⟨⟨_, _, by decide, rfl⟩, (HB1.out.grown G7.out HB1.out.size (fun k hk => by injection hk with hk; have := HCC.out; omega))⟩
  | false =>
    have CI := Lib.hid (pickNew c c 7 a len cap [1, 1, 1, 1, 0, (R.size : Int), -1] w7 hBc hs7 k7 u7 rfl (by decide) (by decide))
    go_wp2_with fail
    refine (CI.out).mono ?_
    rintro e w8 ⟨⟨q, hq, rfl⟩, u8, g8⟩
    have k8 := k7.grown hBc (by omega) g8
    have hs8 : c < w8.heap.size := Nat.lt_of_lt_of_le hs7 g8.size
    have G8 := Lib.hid (grown_trans G7.out g8)
    clear k7 u7 hs7 G7
    go_wp2
    go_ret2
    exact ⟨⟨_, q, by omega, rfl⟩, (HB1.out.grown G8.out HB1.out.size (fun k hk => by injection hk with hk; have := HCC.out; omega))⟩

/-- a text that may end in a trailer -/
def PostTr (w : World) (e : Ending) (w' : World) : Prop := (∃ b : ByteArray, b.size ≤ 1000 ∧ e = .returned (.string b)) ∧ Below w.heap.size w w'
set_option maxHeartbeats 2000000 in
theorem drawReadTrailer_any (a : Option Addr) (len cap : Nat) (w : World) (hc : CodeAt w w.heap.size a len) :
    Calls Try.prog 21 #[.slice a len cap] w (PostTr w) := by
  obtain ⟨c, hcc⟩ : ∃ c, w.heap.size = c := ⟨_, rfl⟩
  have hBc : c ≤ c := Nat.le_refl _
  go_enter Try.func21, Try.ntmps21
  go_wp2_with fail
  refine (new_any w.heap.size a len cap w (Nat.le_refl _) hc).mono ?_
  rintro e w1 ⟨rfl, u1, b1, sz1⟩
  have k1 := hc.below b1
  rw [hcc] at u1 k1
  have hs1 : c < w1.heap.size := by omega
  have HB1 := Lib.hid b1
  have HCC := Lib.hid hcc
  have G1 := Lib.hid (grown_refl w1 (some c))
  clear hc b1 sz1
  rw [hcc]
  clear hcc
  go_wp2_with fail
  refine (below_any c c a len cap 5 w1 hBc (by omega) k1 u1 (by decide) (by decide)).mono ?_
  rintro e w2 ⟨⟨z, z0, z1, rfl⟩, u2, g2⟩
  have k2 := k1.grown hBc (by omega) g2
  have hs2 : c < w2.heap.size := Nat.lt_of_lt_of_le hs1 g2.size
  have G2 := Lib.hid (grown_trans G1.out g2)
  clear k1 u1 hs1 G1
  obtain ⟨zn, rfl⟩ := Int.eq_ofNat_of_zero_le z0
  go_wp2_with fail
  refine (text_any c c a len cap zn w2 hBc hs2 k2 u2 (by omega)).mono ?_
  rintro e w3 ⟨⟨t, ht, rfl⟩, u3, g3⟩
  have k3 := k2.grown hBc (by omega) g3
  have hs3 : c < w3.heap.size := Nat.lt_of_lt_of_le hs2 g3.size
  have G3 := Lib.hid (grown_trans G2.out g3)
  clear k2 u2 hs2 G2
  go_wp2_with fail
  refine (below_any c c a len cap 500 w3 hBc (by omega) k3 u3 (by decide) (by decide)).mono ?_
  rintro e w4 ⟨⟨x1, _, _, rfl⟩, u4, g4⟩
  have k4 := k3.grown hBc (by omega) g4
  have hs4 : c < w4.heap.size := Nat.lt_of_lt_of_le hs3 g4.size
  have G4 := Lib.hid (grown_trans G3.out g4)
  clear k3 u3 hs3 G3
  go_wp2_with fail
  refine (below_any c c a len cap 40 w4 hBc (by omega) k4 u4 (by decide) (by decide)).mono ?_
  rintro e w5 ⟨⟨x2, _, _, rfl⟩, u5, g5⟩
  have k5 := k4.grown hBc (by omega) g5
  have hs5 : c < w5.heap.size := Nat.lt_of_lt_of_le hs4 g5.size
  have G5 := Lib.hid (grown_trans G4.out g5)
  clear k4 u4 hs4 G4
  go_wp2_with fail
  refine (below_any c c a len cap 21 w5 hBc (by omega) k5 u5 (by decide) (by decide)).mono ?_
  rintro e w6 ⟨⟨x3, _, _, rfl⟩, u6, g6⟩
  have k6 := k5.grown hBc (by omega) g6
  have hs6 : c < w6.heap.size := Nat.lt_of_lt_of_le hs5 g6.size
  have G6 := Lib.hid (grown_trans G5.out g6)
  clear k5 u5 hs5 G5
  go_wp2_with fail
  refine (below_any c c a len cap 1000 w6 hBc (by omega) k6 u6 (by decide) (by decide)).mono ?_
  rintro e w7 ⟨⟨x4, _, _, rfl⟩, u7, g7⟩
  have k7 := k6.grown hBc (by omega) g7
  have hs7 : c < w7.heap.size := Nat.lt_of_lt_of_le hs6 g7.size
  have G7 := Lib.hid (grown_trans G6.out g7)
  clear k6 u6 hs6 G6
  have hT := trT_le x1 x2 x3 x4
  have CT := Lib.hid (specTrailer x1 x2 x3 x4 w7)
  obtain ⟨T, hTT⟩ : ∃ T, trT x1 x2 x3 x4 = T := ⟨_, rfl⟩
  rw [hTT] at CT hT
  clear hTT
  go_wp2_with fail
  refine (CT.out).mono ?_
  rintro e w8 ⟨rfl, b8⟩
  have k8 := k7.below (b8.mono (show c ≤ w7.heap.size by omega))
  have u8 := u7.below (b8.mono (show c + 1 ≤ w7.heap.size by omega))
  have hs8 : c < w8.heap.size := Nat.lt_of_lt_of_le hs7 b8.size
  have G8 := Lib.hid (grown_below G7.out (b8.mono G7.out.size))
  clear k7 u7 hs7 G7
  have hz : (t ++ T).size = t.size + T.size := by rw [ByteArray.size_append]
  go_wp2_with fail
  refine (bent8_any c c a len cap (t ++ T) w8 hBc hs8 k8 u8 (by omega)).mono ?_
  rintro e w9 ⟨⟨r, hr, rfl⟩, u9, g9⟩
  have k9 := k8.grown hBc (by omega) g9
  have hs9 : c < w9.heap.size := Nat.lt_of_lt_of_le hs8 g9.size
  have G9 := Lib.hid (grown_trans G8.out g9)
  clear k8 u8 hs8 G8
  rw [hz] at hr
  go_wp2
  go_ret
  exact ⟨⟨r, by omega, rfl⟩, (HB1.out.grown G9.out HB1.out.size (fun k hk => by injection hk with hk; have := HCC.out; omega))⟩

end Go.Proofs.Ytideejpopneplaa.draw
