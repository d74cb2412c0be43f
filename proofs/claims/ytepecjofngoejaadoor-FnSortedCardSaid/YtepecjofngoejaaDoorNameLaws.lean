/-
  What is asked of impl's names; the walk of laws.FnNames and of the exact laws of names, given that.
-/
import Derived.Test.YtepecjofngoejaaDoorNameD
import Derived.Test.YtepecjofngoejaaDoorBig
namespace Go.Proofs.YtepecjofngoejaaDoor.nam
open Go.RowKit
open kit
open num

def wfI (x : Int) : Prop := -9223372036854775808 ≤ x ∧ x ≤ 9223372036854775807
/-- what impl answers, in worlds where G holds -/
structure Impl (G : World → Prop) : Prop where
  keep : ∀ w w', G w → Below w.heap.size w w' → G w'
  segment : ∀ (n : Int) (w : World), G w → Calls Tryd.prog 13 #[.int .i64 n] w (PostT (segI n) w)
  temp : ∀ (n : Int) (w : World), G w → Calls Tryd.prog 14 #[.int .i64 n] w (PostT (tmpI n) w)
  read : ∀ (b : ByteArray) (w : World), b.size ≤ 1048576 → G w → Calls Tryd.prog 16 #[.string b] w (PostR (rnV b) w)
  ok : ∀ (b : ByteArray) (w : World), b.size ≤ 1048576 → G w → Calls Tryd.prog 18 #[.string b] w (PostR (.bool (nok b)) w)
  next : ∀ (b m : Int) (w : World), wfI b → wfI m → G w → Calls Tryd.prog 20 #[.int .i64 b, .int .i64 m] w (PostT (nxI b m) w)

theorem seg10 : segI 10 = { data := #[115, 48, 48, 48, 48, 48, 48, 48, 97, 46, 115, 101, 103] } := by decide +kernel

set_option maxHeartbeats 2000000 in
set_option maxRecDepth 20000 in
theorem names_small (G : World → Prop) (I : Impl G) (a : Option Addr) (len cap : Nat) (w : World) (hc : draw.CodeAt w w.heap.size a len) (hG : G w) :
    Calls Tryd.prog 3 #[.slice a len cap] w fun e w' => e = .returned (.bool true) ∧ Below w.heap.size w w' := by
  have HC := Lib.hid hc
  have HG := Lib.hid hG
  have HI := Lib.hid I
  have hlen := hc.1
  clear hc hG I
  go_enter Tryd.func3, Tryd.ntmps3
  go_wp2_with fail
  refine (big_no a len cap w hlen).mono ?_
  rintro e w' ⟨rfl, rfl⟩
  go_wp2_with fail
  refine (draw.drawSeg_any a len cap w HC.out).mono ?_
  rintro e w1 ⟨⟨n, rfl⟩, b1⟩
  go_wp2_with fail
  refine (HI.out.segment n w1 (HI.out.keep _ _ HG.out b1)).mono ?_
  rintro e w2 ⟨rfl, c2⟩
  have b2 := chain b1 c2
  go_wp2_with fail
  refine (HI.out.temp n w2 (HI.out.keep _ _ HG.out b2)).mono ?_
  rintro e w3 ⟨rfl, c3⟩
  have b3 := chain b2 c3
  clear c2 c3 b1 b2
  go_wp2_with fail
  refine (draw.drawName_any a len cap w3 ((HC.out.below b3).raise b3.size)).mono ?_
  rintro e w4 ⟨⟨s, hs, rfl⟩, c4⟩
  have b4 := chain b3 c4
  clear c4 b3
  obtain ⟨S, hS⟩ : ∃ S, segI n = S := ⟨_, rfl⟩
  obtain ⟨T, hT⟩ : ∃ T, tmpI n = T := ⟨_, rfl⟩
  rw [hS, hT]
  have HS := Lib.hid hS
  have HT := Lib.hid hT
  clear hS hT
  obtain ⟨p, hp⟩ : ∃ p, (rn s).1 = p := ⟨_, rfl⟩
  obtain ⟨q, hq⟩ : ∃ q, (rn s).2 = q := ⟨_, rfl⟩
  have HR := Lib.hid (show rnV s = .tuple #[.int .i64 p, .int .i64 q] by unfold rnV; rw [hp, hq])
  clear hp hq
  go_wp2_with fail
  refine (HI.out.read s w4 (by omega) (HI.out.keep _ _ HG.out b4)).mono ?_
  rw [HR.out]
  rintro e w5 ⟨rfl, c5⟩
  have b5 := chain b4 c5
  clear c5 b4
  go_wp2_with fail
  refine (specRn_any s w5 (by omega)).mono ?_
  rw [HR.out]
  rintro e w6 ⟨rfl, c6⟩
  have b6 := chain b5 c6
  clear c6 b5
  obtain ⟨o, ho⟩ : ∃ o, nok s = o := ⟨_, rfl⟩
  have HO := Lib.hid ho
  clear ho
  go_wp2_with fail
  refine (HI.out.ok s w6 (by omega) (HI.out.keep _ _ HG.out b6)).mono ?_
  rw [HO.out]
  rintro e w7 ⟨rfl, c7⟩
  have b7 := chain b6 c7
  clear c7 b6
  go_wp2_with fail
  refine (specOk_any s w7 (by omega)).mono ?_
  rw [HO.out]
  rintro e w8 ⟨rfl, rfl⟩
  have eo : (o != o) = false := by cases o <;> rfl
  by_cases hn : 0 ≤ n ∧ n ≤ 1000000000
  · obtain ⟨m, rfl⟩ := Int.eq_ofNat_of_zero_le hn.1
    have hm9 : m ≤ 1000000000 := by omega
    have n1 : ¬ (m : Int) < 0 := by omega
    have n2 : ¬ (1000000000 : Int) < (m : Int) := by omega
    have R1 := Lib.hid (show rnV S = .tuple #[.int .i64 1, .int .i64 (m : Int)] by unfold rnV; rw [← HS.out, rn_of_seg m hm9])
    have R2 := Lib.hid (show rnV T = .tuple #[.int .i64 2, .int .i64 (m : Int)] by unfold rnV; rw [← HT.out, rn_of_tmp m hm9])
    have O1 := Lib.hid (show nok S = true by rw [← HS.out]; exact nok_seg m hm9)
    have O2 := Lib.hid (show nok T = true by rw [← HT.out]; exact nok_tmp m hm9)
    have NX := Lib.hid (show nxI 0 (m : Int) = S by unfold nxI; rw [if_neg (by omega), Int.zero_add]; exact HS.out)
    have z1 : S.size = 13 := by rw [← HS.out, segI_in m hm9, seg_size]
    have z2 : T.size = 17 := by rw [← HT.out, tmpI_in m hm9, tmp_size]
    clear hn
    go_wp2_with fail
    refine (HI.out.read S w7 (by omega) (HI.out.keep _ _ HG.out b7)).mono ?_
    rw [R1.out]
    rintro e w9 ⟨rfl, c9⟩
    have b9 := chain b7 c9
    clear c9 b7
    go_wp2_with fail
    refine (HI.out.read T w9 (by omega) (HI.out.keep _ _ HG.out b9)).mono ?_
    rw [R2.out]
    rintro e w10 ⟨rfl, c10⟩
    have b10 := chain b9 c10
    clear c10 b9
    go_wp2_with fail
    refine (HI.out.ok S w10 (by omega) (HI.out.keep _ _ HG.out b10)).mono ?_
    rw [O1.out]
    rintro e w11 ⟨rfl, c11⟩
    have b11 := chain b10 c11
    clear c11 b10
    go_wp2_with fail
    refine (HI.out.ok T w11 (by omega) (HI.out.keep _ _ HG.out b11)).mono ?_
    rw [O2.out]
    rintro e w12 ⟨rfl, c12⟩
    have b12 := chain b11 c12
    clear c12 b11
    go_wp2_with fail
    refine (HI.out.next 0 (m : Int) w12 ⟨by omega, by omega⟩ ⟨by omega, by omega⟩ (HI.out.keep _ _ HG.out b12)).mono ?_
    rw [NX.out]
    rintro e w13 ⟨rfl, c13⟩
    have b13 := chain b12 c13
    clear c13 b12
    go_wp2_with fail
    refine (HI.out.segment 10 w13 (HI.out.keep _ _ HG.out b13)).mono ?_
    rw [seg10]
    rintro e w14 ⟨rfl, c14⟩
    have b14 := chain b13 c14
    clear c14 b13
    go_wp2
    go_ret
    exact ⟨rfl, b14⟩
  · have S0 : S = { data := #[] } := by rw [← HS.out]; exact segI_out n hn
    have T0 : T = { data := #[] } := by rw [← HT.out]; exact tmpI_out n hn
    subst S0
    subst T0
    by_cases n1 : n < 0
    · clear hn
      go_wp2_with fail
      refine (HI.out.segment 10 w7 (HI.out.keep _ _ HG.out b7)).mono ?_
      rw [seg10]
      rintro e w14 ⟨rfl, c14⟩
      have b14 := chain b7 c14
      clear c14 b7
      go_wp2
      go_ret
      exact ⟨rfl, b14⟩
    · have n2 : (1000000000 : Int) < n := by omega
      clear hn
      go_wp2_with fail
      refine (HI.out.segment 10 w7 (HI.out.keep _ _ HG.out b7)).mono ?_
      rw [seg10]
      rintro e w14 ⟨rfl, c14⟩
      have b14 := chain b7 c14
      clear c14 b7
      go_wp2
      go_ret
      exact ⟨rfl, b14⟩

set_option maxRecDepth 20000 in
theorem names_big (a : Option Addr) (len cap : Nat) (w : World) (h1 : 1048576 < len) :
    Calls Tryd.prog 3 #[.slice a len cap] w fun e w' => e = .returned (.bool true) ∧ Below w.heap.size w w' := by
  go_enter Tryd.func3, Tryd.ntmps3
  go_wp2_with fail
  refine (big_yes a len cap w h1).mono ?_
  rintro e w' ⟨rfl, rfl⟩
  go_wp2
  go_ret
  exact ⟨rfl, Below.refl _ _⟩

/-! ### exact laws -/
theorem exactSeg_any (G : World → Prop) (keep : ∀ w w', G w → Below w.heap.size w w' → G w') (segment : ∀ (n : Int) (w : World), G w → Calls Tryd.prog 13 #[.int .i64 n] w (PostT (segI n) w)) (n : Int) (w : World) (hG : G w) :
    Calls Tryd.prog 5 #[.int .i64 n] w fun e w' => e = .returned (.bool true) ∧ Below w.heap.size w w' := by
  obtain ⟨T, hT⟩ : ∃ T, segI n = T := ⟨_, rfl⟩
  go_enter Tryd.func5, Tryd.ntmps5
  go_wp2_with fail
  refine (specSeg_any n w).mono ?_
  rw [hT]
  rintro e w1 ⟨rfl, b1⟩
  go_wp2_with fail
  refine (segment n w1 (keep _ _ hG b1)).mono ?_
  rw [hT]
  rintro e w2 ⟨rfl, c2⟩
  clear hT
  go_wp2
  go_ret
  exact ⟨rfl, chain b1 c2⟩
theorem exactTemp_any (G : World → Prop) (keep : ∀ w w', G w → Below w.heap.size w w' → G w') (temp : ∀ (n : Int) (w : World), G w → Calls Tryd.prog 14 #[.int .i64 n] w (PostT (tmpI n) w)) (n : Int) (w : World) (hG : G w) :
    Calls Tryd.prog 6 #[.int .i64 n] w fun e w' => e = .returned (.bool true) ∧ Below w.heap.size w w' := by
  obtain ⟨T, hT⟩ : ∃ T, tmpI n = T := ⟨_, rfl⟩
  go_enter Tryd.func6, Tryd.ntmps6
  go_wp2_with fail
  refine (specTemp_any n w).mono ?_
  rw [hT]
  rintro e w1 ⟨rfl, b1⟩
  go_wp2_with fail
  refine (temp n w1 (keep _ _ hG b1)).mono ?_
  rw [hT]
  rintro e w2 ⟨rfl, c2⟩
  clear hT
  go_wp2
  go_ret
  exact ⟨rfl, chain b1 c2⟩
theorem exactNext_any (G : World → Prop) (keep : ∀ w w', G w → Below w.heap.size w w' → G w') (next : ∀ (b m : Int) (w : World), wfI b → wfI m → G w → Calls Tryd.prog 20 #[.int .i64 b, .int .i64 m] w (PostT (nxI b m) w)) (b m : Int) (hb : wfI b) (hm : wfI m) (w : World) (hG : G w) :
    Calls Tryd.prog 9 #[.int .i64 b, .int .i64 m] w fun e w' => e = .returned (.bool true) ∧ Below w.heap.size w w' := by
  obtain ⟨T, hT⟩ : ∃ T, nxI b m = T := ⟨_, rfl⟩
  go_enter Tryd.func9, Tryd.ntmps9
  go_wp2_with fail
  refine (specNext_any b m w hb.1 hb.2 hm.1 hm.2).mono ?_
  rw [hT]
  rintro e w1 ⟨rfl, b1⟩
  go_wp2_with fail
  refine (next b m w1 hb hm (keep _ _ hG b1)).mono ?_
  rw [hT]
  rintro e w2 ⟨rfl, c2⟩
  clear hT
  go_wp2
  go_ret
  exact ⟨rfl, chain b1 c2⟩
theorem exactRead_any (G : World → Prop) (keep : ∀ w w', G w → Below w.heap.size w w' → G w') (read : ∀ (b : ByteArray) (w : World), b.size ≤ 1048576 → G w → Calls Tryd.prog 16 #[.string b] w (PostR (rnV b) w)) (s : ByteArray) (w : World) (hb : s.size ≤ 9223372036854775807) (hG : G w) :
    Calls Tryd.prog 7 #[.string s] w fun e w' => e = .returned (.bool true) ∧ Below w.heap.size w w' := by
  by_cases h1 : 1048576 < s.size
  · go_enter Tryd.func7, Tryd.ntmps7
    go_wp2
    go_ret
    exact ⟨rfl, Below.refl _ _⟩
  · obtain ⟨p, hp⟩ : ∃ p, (rn s).1 = p := ⟨_, rfl⟩
    obtain ⟨q, hq⟩ : ∃ q, (rn s).2 = q := ⟨_, rfl⟩
    have HR := Lib.hid (show rnV s = .tuple #[.int .i64 p, .int .i64 q] by unfold rnV; rw [hp, hq])
    clear hp hq
    go_enter Tryd.func7, Tryd.ntmps7
    go_wp2_with fail
    refine (specRn_any s w hb).mono ?_
    rw [HR.out]
    rintro e w1 ⟨rfl, b1⟩
    go_wp2_with fail
    refine (read s w1 (by omega) (keep _ _ hG b1)).mono ?_
    rw [HR.out]
    rintro e w2 ⟨rfl, c2⟩
    go_wp2
    go_ret
    exact ⟨rfl, chain b1 c2⟩
theorem exactOk_any (G : World → Prop) (ok : ∀ (b : ByteArray) (w : World), b.size ≤ 1048576 → G w → Calls Tryd.prog 18 #[.string b] w (PostR (.bool (nok b)) w)) (s : ByteArray) (w : World) (hb : s.size ≤ 9223372036854775807) (hG : G w) :
    Calls Tryd.prog 8 #[.string s] w fun e w' => e = .returned (.bool true) ∧ Below w.heap.size w w' := by
  by_cases h1 : 1048576 < s.size
  · go_enter Tryd.func8, Tryd.ntmps8
    go_wp2
    go_ret
    exact ⟨rfl, Below.refl _ _⟩
  · obtain ⟨o, ho⟩ : ∃ o, nok s = o := ⟨_, rfl⟩
    have HO := Lib.hid ho
    clear ho
    have eo : (o != o) = false := by cases o <;> rfl
    go_enter Tryd.func8, Tryd.ntmps8
    go_wp2_with fail
    refine (specOk_any s w hb).mono ?_
    rw [HO.out]
    rintro e w1 ⟨rfl, rfl⟩
    go_wp2_with fail
    refine (ok s w (by omega) hG).mono ?_
    rw [HO.out]
    rintro e w2 ⟨rfl, c2⟩
    go_wp2
    go_ret
    exact ⟨rfl, c2⟩

end Go.Proofs.YtepecjofngoejaaDoor.nam
