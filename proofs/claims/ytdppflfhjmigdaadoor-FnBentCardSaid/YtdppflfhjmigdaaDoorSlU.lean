/-
  The walk of FnResealed.
-/
import Derived.Test.YtdppflfhjmigdaaDoorSlR
import Derived.Test.YtdppflfhjmigdaaDoorSlDE
import Derived.Test.YtdppflfhjmigdaaDoorScQ
import Derived.Test.YtdppflfhjmigdaaDoorBig
import Derived.Test.YtdppflfhjmigdaaDoorMathX
import Derived.Test.YtdppflfhjmigdaaDoorStrQ
import Derived.Test.YtdppflfhjmigdaaDoorNumX
import Derived.Test.YtdppflfhjmigdaaDoorTbQ
import Derived.Test.YtdppflfhjmigdaaDoorPlaces
namespace Go.Proofs.YtdppflfhjmigdaaDoor.sl
set_option maxRecDepth 20000
open Go.RowKit
open kit sum num burst hd fr recs sc pl om

theorem rsT_le (b : ByteArray) (v : Int) : (rsT b v).size ≤ 100000 := by
  unfold rsT
  split
  · exact slT_le _ _
  · exact Nat.zero_le _
theorem rsT_slT {h : Hd} {rs : List ByteArray} (hk : okS h rs) {u : Int} (h0 : 0 ≤ u) (h2 : u ≤ 2) : rsT (slT h rs) u = slT (anew h u) rs := by
  obtain ⟨s1, s2, _⟩ := scan_self hk
  rw [rsT_yes s1 h0 h2, s2]
def two : List ByteArray := [{ data := #[97] }, { data := #[98] }]
theorem two_ok (v : Int) (h1 : 1 ≤ v) (h2 : v ≤ 2) : okS ⟨v, 2, 0, 0⟩ two :=
  ⟨okH_is.2 ⟨h1, h2, by show (1 : Int) ≤ 2; decide, by show (2 : Int) ≤ 20; decide, by show (0 : Int) ≤ 0; decide, by show (0 : Int) ≤ 1000000000; decide, by show (0 : Int) ≤ 0; decide, by show (0 : Int) ≤ 4294967295; decide⟩, by decide, by show (0 : Int) + 2 ≤ 1000000000; decide, fun r hr => by
    simp only [two, List.mem_cons, List.not_mem_nil, or_false] at hr
    rcases hr with rfl | rfl <;> decide⟩
theorem two_at (w : World) : strs.At (w.alloc (.cells #[.string { data := #[97] }, .string { data := #[98] }] 9)) (some ⟨w.heap.size, 0, none⟩) 2 two := by
  refine ⟨rfl, .inr ⟨w.heap.size, 0, rfl, by simp, fun k x hx => ?_⟩⟩
  rw [Nat.zero_add, cell_of_row _ _ _ _ _ _ (heap_alloc_new w _)]
  match k, hx with
  | 0, hx => simp [two] at hx; subst hx; rfl
  | 1, hx => simp [two] at hx; subst hx; rfl

end Go.Proofs.YtdppflfhjmigdaaDoor.sl

namespace Go.Proofs.YtdppflfhjmigdaaDoor.sl
set_option maxRecDepth 20000
open Go.RowKit
open kit sum num burst hd fr recs sc pl om

theorem sH_slT {h : Hd} {rs : List ByteArray} (hk : okS h rs) : isS (slT h rs) = true ∧ sH (slT h rs) = h ∧ sR (slT h rs) = rs := by
  obtain ⟨s1, s2, _⟩ := scan_self hk
  have hi := isS_slT hk
  refine ⟨hi, ?_, ?_⟩
  · unfold sH
    rw [if_pos hi, hdOf_some s1]
  · unfold sR
    rw [if_pos hi, s2]
theorem empty_ok (v : Int) (h1 : 1 ≤ v) (h2 : v ≤ 2) : okS ⟨v, 1, 0, 0⟩ [] :=
  ⟨okH_is.2 ⟨h1, h2, by show (1 : Int) ≤ 1; decide, by show (1 : Int) ≤ 20; decide, by show (0 : Int) ≤ 0; decide, by show (0 : Int) ≤ 1000000000; decide, by show (0 : Int) ≤ 0; decide, by show (0 : Int) ≤ 4294967295; decide⟩, by decide, by show (0 : Int) + 0 ≤ 1000000000; decide, fun r hr => by cases hr⟩
theorem RsV.ofYes {B : Nat} {w : World} {r : Value} {b : ByteArray} {x y z u : Int} {xs : List ByteArray} (h : RsV B w r b) (h1 : isS b = true) (h2 : sH b = ⟨x, y, z, u⟩) (h3 : sR b = xs) : ∃ a c, r = .tuple #[.agg #[.int .i64 x, .int .i64 y, .int .i64 z, .int .i64 u], .slice a xs.length c, .bool true] ∧ w.ownsRow B 9 1 (.slice a xs.length c) xs.length (xs.map Value.string) := by
  obtain ⟨a, c, rfl, ho⟩ := h.form
  rw [h2, h3, h1]
  rw [h3] at ho
  exact ⟨a, c, rfl, ho⟩
theorem RsV.ofNo {B : Nat} {w : World} {r : Value} {b : ByteArray} (h : RsV B w r b) (h1 : isS b = false) : ∃ a c, r = .tuple #[.agg #[.int .i64 0, .int .i64 0, .int .i64 0, .int .i64 0], .slice a 0 c, .bool false] := by
  obtain ⟨a, c, rfl, _⟩ := h.form
  have h2 : sH b = ⟨0, 0, 0, 0⟩ := by unfold sH; rw [h1]; rfl
  have h3 : sR b = [] := by unfold sR; rw [h1]; rfl
  rw [h2, h3, h1]
  exact ⟨a, c, rfl⟩
theorem empty_size : (slT ⟨1, 1, 0, 0⟩ []).size = 50 := by
  have hk := empty_ok 1 (by decide) (by decide)
  have h1 : (tx ⟨1, 1, 0, 0⟩ [] 0).size = 24 := by rw [tx_zero]; exact hdT_size hk.1
  have h2 := emT_size (okS_place hk (Nat.le_refl _))
  rw [if_pos rfl] at h2
  have h3 : (tail ⟨1, 1, 0, 0⟩ []).size = 21 := by
    unfold tail
    have hp : (plT (plN 1 (offL ⟨1, 1, 0, 0⟩ []))).size = 1 := by
      rw [show plT (plN 1 (offL ⟨1, 1, 0, 0⟩ [])) = vtI ((0 : Nat) : Int) from rfl, vtI_in 0 (by decide), vt_size, vb_low 4 0 (by decide)]
      rfl
    have hq := sumT_lt (fbody ⟨1, 1, 0, 0⟩ (offL ⟨1, 1, 0, 0⟩ []) ((tx ⟨1, 1, 0, 0⟩ [] ([] : List ByteArray).length).size : Int))
    rw [ByteArray.size_append]
    show (plT (plN 1 (offL ⟨1, 1, 0, 0⟩ []))).size + _ = _
    rw [hp, tr20 ⟨by omega, by show ((tx ⟨1, 1, 0, 0⟩ [] 0).size : Int) < _; omega⟩ ⟨by decide, by decide⟩ ⟨by decide, by decide⟩ ⟨by omega, by omega⟩]
  rw [slT_parts hk, ByteArray.size_append, ByteArray.size_append, h2, h3]
  show (tx ⟨1, 1, 0, 0⟩ [] 0).size + _ = _
  omega

theorem sealed_big (a : Option Addr) (len cap : Nat) (w : World) (h : 1048576 < len) :
    Calls Tryd.prog 3 #[.slice a len cap] w fun e w' => e = .returned (.bool true) ∧ Below w.heap.size w w' := by
  go_enter Tryd.func3, Tryd.ntmps3
  go_wp2_with (go_at_call 10; refine (big_yes _ _ _ _ h).mono ?_; rintro e w' ⟨rfl, rfl⟩)
  go_ret
  exact ⟨rfl, Below.refl _ _⟩

set_option maxHeartbeats 4000000 in
theorem sealed_small (a : Option Addr) (len cap : Nat) (w : World) (hc : draw.CodeAt w w.heap.size a len) (hg : GE w) :
    Calls Tryd.prog 3 #[.slice a len cap] w fun e w' => e = .returned (.bool true) ∧ Below w.heap.size w w' := by
  have HG := Lib.hid hg
  clear hg
  have HC := Lib.hid hc
  have hlen := hc.1
  clear hc
  go_enter Tryd.func3, Tryd.ntmps3
  go_wp2_with (fail)
  refine (big_no _ _ _ _ hlen).mono ?_
  rintro e w' ⟨rfl, rfl⟩
  clear hlen
  go_wp2_with (fail)
  refine (draw.drawReadSealed_any a len cap w HC.out).mono ?_
  rintro e w1 ⟨⟨b, hb, rfl⟩, b1⟩
  have B1 := Lib.hid b1
  have hm : b.size ≤ 1048576 := by omega
  clear b1
  have CI := Lib.hid (fun w (g : GE w) => implReadSealed b w hm g)
  have CS := Lib.hid (fun w => specReadSealed b w hm)
  have CO := Lib.hid (fun w (g : GE w) => implSealedOk b w hm g)
  have hn : (sR b).length ≤ 1048576 := by
    unfold sR
    split
    · have := recs_le b; omega
    · exact Nat.zero_le _
  have CT := Lib.hid (fun w c (h : strs.At w c (sR b).length (sR b)) k => implSeal (sH b).v (sH b).s (sH b).b (sH b).l c k (sR b).length (sR b) w hn h)
  have HSS := Lib.hid (fun h : isS b = true => (show slT ⟨(sH b).v, (sH b).s, (sH b).b, (sH b).l⟩ (sR b) = b by
    have h2 := isS_self h
    unfold sH sR
    rw [if_pos h, if_pos h]
    exact h2))
  have hS := Lib.hid (fun (v u : Option Addr) (c d : Nat) w (hv : strs.At w v (sR b).length (sR b)) (hu : strs.At w u (sR b).length (sR b)) => same_any v u c d (sR b).length (sR b) w hn hv hu)
  go_wp2_with fail
  refine (CI.out _ (HG.out.below B1.out)).mono ?_
  rintro e w2 ⟨⟨_, rfl, hu⟩, b2⟩
  obtain ⟨a2, c2, rfl, o2⟩ := hu.form
  have B2 := Lib.hid (B1.out.trans (b2.mono B1.out.size))
  have A2 := Lib.hid (strs.At.of_own o2)
  have al := (Below.refl w2.heap.size w2).alloc (Nat.le_refl _) (.cells #[.int .i64 (sH b).v, .int .i64 (sH b).s, .int .i64 (sH b).b, .int .i64 (sH b).l] 26)
  have X2 := Box.new w2 #[.int .i64 (sH b).v, .int .i64 (sH b).s, .int .i64 (sH b).b, .int .i64 (sH b).l] 26
  obtain ⟨W2, hW⟩ : ∃ W, W = w2.alloc (.cells #[.int .i64 (sH b).v, .int .i64 (sH b).s, .int .i64 (sH b).b, .int .i64 (sH b).l] 26) := ⟨_, rfl⟩
  rw [← hW] at al X2
  have B2 := Lib.hid (B2.out.trans (al.mono B2.out.size))
  have X2 := Lib.hid X2
  have HW2 := Lib.hid hW
  have A2 := Lib.hid (A2.out.below al)
  clear al hW b2 o2 hu
  go_wp2_with fail
  rw [← HW2.out]
  refine (CS.out _).mono ?_
  rintro e w3 ⟨⟨_, rfl, hu⟩, b3⟩
  obtain ⟨a3, c3, rfl, o3⟩ := hu.form
  have B3 := Lib.hid (B2.out.trans (b3.mono B2.out.size))
  have A3 := Lib.hid (strs.At.of_own o3)
  have A2 := Lib.hid (A2.out.below b3)
  have X2 := Lib.hid (X2.out.below b3)
  have al := (Below.refl w3.heap.size w3).alloc (Nat.le_refl _) (.cells #[.int .i64 (sH b).v, .int .i64 (sH b).s, .int .i64 (sH b).b, .int .i64 (sH b).l] 26)
  have X3 := Box.new w3 #[.int .i64 (sH b).v, .int .i64 (sH b).s, .int .i64 (sH b).b, .int .i64 (sH b).l] 26
  obtain ⟨W3, hW⟩ : ∃ W, W = w3.alloc (.cells #[.int .i64 (sH b).v, .int .i64 (sH b).s, .int .i64 (sH b).b, .int .i64 (sH b).l] 26) := ⟨_, rfl⟩
  rw [← hW] at al X3
  have B3 := Lib.hid (B3.out.trans (al.mono B3.out.size))
  have X3 := Lib.hid X3
  have HW3 := Lib.hid hW
  have A2 := Lib.hid (A2.out.below al)
  have A3 := Lib.hid (A3.out.below al)
  have X2 := Lib.hid (X2.out.below al)
  have x0 := X2.out.at 0 _ rfl
  have x1 := X2.out.at 1 _ rfl
  have x2 := X2.out.at 2 _ rfl
  have x3 := X2.out.at 3 _ rfl
  have y0 := X3.out.at 0 _ rfl
  have y1 := X3.out.at 1 _ rfl
  have y2 := X3.out.at 2 _ rfl
  have y3 := X3.out.at 3 _ rfl
  rw [hW] at x0 x1 x2 x3 y0 y1 y2 y3
  clear al hW b3 o3 hu HW2
  obtain ⟨p0, hp0⟩ : ∃ p, (sH b).v = p := ⟨_, rfl⟩
  obtain ⟨p1, hp1⟩ : ∃ p, (sH b).s = p := ⟨_, rfl⟩
  obtain ⟨p2, hp2⟩ : ∃ p, (sH b).b = p := ⟨_, rfl⟩
  obtain ⟨p3, hp3⟩ : ∃ p, (sH b).l = p := ⟨_, rfl⟩
  obtain ⟨o, ho⟩ : ∃ o, isS b = o := ⟨_, rfl⟩
  obtain ⟨n, hnn⟩ : ∃ n, (sR b).length = n := ⟨_, rfl⟩
  rw [hp0, hp1, hp2, hp3] at HSS X2 X3 CT x0 x1 x2 x3 y0 y1 y2 y3 HW3
  rw [ho] at HSS CO
  rw [hnn] at A2 A3 CT hS hn
  obtain ⟨T0, hT0⟩ : ∃ T, slT ⟨p0, p1, p2, p3⟩ (sR b) = T := ⟨_, rfl⟩
  rw [hT0] at CT HSS
  rw [hp0, hp1, hp2, hp3, ho, hnn]
  clear hp0 hp1 hp2 hp3 hnn hT0 CI CS ho
  go_wp2_with fail
  rw [← HW3.out]
  clear HW3 x0 x1 x2 x3 y0 y1 y2 y3
  refine (hS.out a2 a3 c2 c3 _ A2.out A3.out).mono ?_
  rintro e w4 ⟨rfl, b4⟩
  have B4 := Lib.hid (B3.out.trans (b4.mono B3.out.size))
  have X4 := Lib.hid (X2.out.below b4)
  have A4 := Lib.hid (A2.out.below b4)
  clear b4 A2 A3 X2 X3
  go_wp2_with fail
  refine (CO.out _ (HG.out.below B4.out)).mono ?_
  rintro e w5 ⟨rfl, b5⟩
  have B5 := Lib.hid (B4.out.trans (b5.mono B4.out.size))
  have X4 := Lib.hid (X4.out.below b5)
  have A4 := Lib.hid (A4.out.below b5)
  clear b5 B4
  have x0 := X4.out.at 0 _ rfl
  have x1 := X4.out.at 1 _ rfl
  have x2 := X4.out.at 2 _ rfl
  have x3 := X4.out.at 3 _ rfl
  have CD := Lib.hid (draw.drawSeal_any a len cap)
  clear CO hS
  cases o with
  | false =>
    clear x0 x1 x2 x3 CT HSS
    have kI : draw.CodeAt w5 w5.heap.size a len := (HC.out.below B5.out).raise B5.out.size
    go_wp2_with fail
    refine (draw.drawSeal_any a len cap w5 kI).mono ?_
    rintro e w6 ⟨⟨x, y, z, u, v, m, xs, rfl, hm9, hxs, ho⟩, b6⟩
    have B6 := Lib.hid (B5.out.trans (b6.mono B5.out.size))
    obtain ⟨av, cv, rfl, hxl, _, _⟩ := own_form ho
    have hxl' : xs.length = m := by simpa using hxl
    have AV := Lib.hid (strs.At.of_own ho)
    clear b6 ho kI hxl X4 A4
    have al := (Below.refl w6.heap.size w6).alloc (Nat.le_refl _) (.cells #[.int .i64 x, .int .i64 y, .int .i64 z, .int .i64 u] 26)
    have XB := Box.new w6 #[.int .i64 x, .int .i64 y, .int .i64 z, .int .i64 u] 26
    obtain ⟨W6, hW⟩ : ∃ W, W = w6.alloc (.cells #[.int .i64 x, .int .i64 y, .int .i64 z, .int .i64 u] 26) := ⟨_, rfl⟩
    rw [← hW] at al XB
    have B6 := Lib.hid (B6.out.trans (al.mono B6.out.size))
    have XB := Lib.hid XB
    have HW6 := Lib.hid hW
    have AV := Lib.hid (AV.out.below al)
    have x0 := XB.out.at 0 _ rfl
    have x1 := XB.out.at 1 _ rfl
    have x2 := XB.out.at 2 _ rfl
    have x3 := XB.out.at 3 _ rfl
    rw [hW] at x0 x1 x2 x3
    have hT := slT_le ⟨x, y, z, u⟩ xs
    have CI := Lib.hid (fun w (h : strs.At w av m xs) => implSeal x y z u av cv m xs w (by omega) h)
    have CS := Lib.hid (fun w (h : strs.At w av m xs) => specSeal x y z u av cv m xs w (by omega) h)
    have CZ := Lib.hid (fun w (h : strs.At w av m xs) => implSealedSize x y z u av cv m xs w (by omega) h)
    have HOK := Lib.hid (slT_nul (h := ⟨x, y, z, u⟩) (rs := xs))
    have HSL := Lib.hid (fun h => sH_slT (h := ⟨x, y, z, u⟩) (rs := xs) h)
    have HMO := Lib.hid (fun (h : okS ⟨x, y, z, u⟩ xs) (q : ByteArray) (hq : q ≠ nul) => isS_more h hq)
    have HLE := Lib.hid (fun (h : okS ⟨x, y, z, u⟩ xs) => isS_less h)
    have HSZ := Lib.hid (fun (h : okS ⟨x, y, z, u⟩ xs) => (slT_size h).1)
    obtain ⟨T, hTT⟩ : ∃ T, slT ⟨x, y, z, u⟩ xs = T := ⟨_, rfl⟩
    rw [hTT] at CI CS CZ hT HOK
    simp only [hTT] at HSL HMO HLE HSZ
    clear hTT al hW
    go_wp2_with fail
    rw [← HW6.out]
    refine (CI.out _ AV.out).mono ?_
    rintro e w7 ⟨rfl, b7⟩
    have B7 := Lib.hid (B6.out.trans (b7.mono B6.out.size))
    have AV := Lib.hid (AV.out.below b7)
    have XB := Lib.hid (XB.out.below b7)
    clear x0 x1 x2 x3 HW6 CI b7 B6
    have x0 := XB.out.at 0 _ rfl
    have x1 := XB.out.at 1 _ rfl
    have x2 := XB.out.at 2 _ rfl
    have x3 := XB.out.at 3 _ rfl
    go_wp2_with fail
    refine (CS.out _ AV.out).mono ?_
    rintro e w8 ⟨rfl, b8⟩
    have B8 := Lib.hid (B7.out.trans (b8.mono B7.out.size))
    have AV := Lib.hid (AV.out.below b8)
    have XB := Lib.hid (XB.out.below b8)
    clear x0 x1 x2 x3 CS b8 B7
    by_cases hnul : T = nul
    · have k0 := emp_yes hnul
      have CN := Lib.hid (fun w (g : GE w) => implSealedOk nul w (by decide) g)
      have CE := Lib.hid (fun w => implSealedSize 1 1 0 0 none 0 0 [] w (by decide) ⟨rfl, .inl rfl⟩)
      rw [isS_nul] at CN
      rw [empty_size] at CE
      clear HOK HSL HMO HLE HSZ hnul
      go_wp2_with fail
      refine (CN.out _ (HG.out.below B8.out)).mono ?_
      rintro e w9 ⟨rfl, b9⟩
      have B9 := Lib.hid (B8.out.trans (b9.mono B8.out.size))
      clear b9 B8
      go_wp2_with fail
      refine (CE.out _).mono ?_
      rintro e w10 ⟨rfl, b10⟩
      have B10 := Lib.hid (B9.out.trans (b10.mono B9.out.size))
      clear b10 B9
      go_wp2
      go_ret
      exact ⟨rfl, B10.out⟩
    · have k0 := emp_no hnul
      have hok : okS ⟨x, y, z, u⟩ xs := by
        by_cases h : okS ⟨x, y, z, u⟩ xs
        · exact h
        · exact absurd (HOK.out.2 h) hnul
      obtain ⟨q1, q2, q3⟩ := HSL.out hok
      have q4 := HMO.out hok { data := #[120] } (by decide)
      have q5 := HLE.out hok
      have q6 := HSZ.out hok
      have CA := Lib.hid (fun w (g : GE w) => implReadSealed T w (by omega) g)
      have h1 : ({ data := #[120] } : ByteArray).size = 1 := rfl
      have CB := Lib.hid (fun w (g : GE w) => implReadSealed (T ++ { data := #[120] }) w (by rw [ByteArray.size_append, h1]; omega) g)
      have CC := Lib.hid (fun w (g : GE w) => implReadSealed (T.extract 0 (T.size - 1)) w (by rw [ByteArray.size_extract]; omega) g)
      have eT : (T.size : Int) - 1 = ((T.size - 1 : Nat) : Int) := by omega
      have hS2 := Lib.hid (fun (v u : Option Addr) (c d : Nat) w (hv : strs.At w v m xs) (hu : strs.At w u m xs) => same_any v u c d m xs w (by omega) hv hu)
      obtain ⟨Z, hZ⟩ : ∃ Z, T.extract 0 (T.size - 1) = Z := ⟨_, rfl⟩
      rw [hZ] at CC q5
      have HZ := Lib.hid hZ
      clear HOK HSL HMO HLE HSZ hZ
      go_wp2_with fail
      refine (CA.out _ (HG.out.below B8.out)).mono ?_
      rintro e w9 ⟨⟨_, rfl, hu⟩, b9⟩
      obtain ⟨a9, c9, rfl, o9⟩ := hu.ofYes q1 q2 q3
      rw [hxl'] at o9 ⊢
      have B9 := Lib.hid (B8.out.trans (b9.mono B8.out.size))
      have A9 := Lib.hid (strs.At.of_own o9)
      have AV := Lib.hid (AV.out.below b9)
      have XB := Lib.hid (XB.out.below b9)
      have al := (Below.refl w9.heap.size w9).alloc (Nat.le_refl _) (.cells #[.int .i64 x, .int .i64 y, .int .i64 z, .int .i64 u] 26)
      have XC := Box.new w9 #[.int .i64 x, .int .i64 y, .int .i64 z, .int .i64 u] 26
      obtain ⟨W9, hW⟩ : ∃ W, W = w9.alloc (.cells #[.int .i64 x, .int .i64 y, .int .i64 z, .int .i64 u] 26) := ⟨_, rfl⟩
      rw [← hW] at al XC
      have B9 := Lib.hid (B9.out.trans (al.mono B9.out.size))
      have XC := Lib.hid XC
      have HW9 := Lib.hid hW
      have AV := Lib.hid (AV.out.below al)
      have XB := Lib.hid (XB.out.below al)
      have A9 := Lib.hid (A9.out.below al)
      clear al hW b9 o9 hu CA q1 q2 q3
      go_wp2_with fail
      rw [← HW9.out]
      refine (CB.out _ (HG.out.below B9.out)).mono ?_
      rintro e w10 ⟨⟨_, rfl, hu⟩, b10⟩
      obtain ⟨a10, c10, rfl⟩ := hu.ofNo q4
      have B10 := Lib.hid (B9.out.trans (b10.mono B9.out.size))
      have AV := Lib.hid (AV.out.below b10)
      have XB := Lib.hid (XB.out.below b10)
      have A9 := Lib.hid (A9.out.below b10)
      have XC := Lib.hid (XC.out.below b10)
      have al := (Below.refl w10.heap.size w10).alloc (Nat.le_refl _) (.cells #[.int .i64 0, .int .i64 0, .int .i64 0, .int .i64 0] 26)
      have XD := Box.new w10 #[.int .i64 0, .int .i64 0, .int .i64 0, .int .i64 0] 26
      obtain ⟨W10, hW⟩ : ∃ W, W = w10.alloc (.cells #[.int .i64 0, .int .i64 0, .int .i64 0, .int .i64 0] 26) := ⟨_, rfl⟩
      rw [← hW] at al XD
      have B10 := Lib.hid (B10.out.trans (al.mono B10.out.size))
      have XD := Lib.hid XD
      have HW10 := Lib.hid hW
      have AV := Lib.hid (AV.out.below al)
      have XB := Lib.hid (XB.out.below al)
      have XC := Lib.hid (XC.out.below al)
      have A9 := Lib.hid (A9.out.below al)
      clear al hW b10 hu CB q4 HW9 XD
      go_wp2_with fail
      rw [← HW10.out, HZ.out]
      refine (CC.out _ (HG.out.below B10.out)).mono ?_
      rintro e w11 ⟨⟨_, rfl, hu⟩, b11⟩
      obtain ⟨a11, c11, rfl⟩ := hu.ofNo q5
      have B11 := Lib.hid (B10.out.trans (b11.mono B10.out.size))
      have AV := Lib.hid (AV.out.below b11)
      have XB := Lib.hid (XB.out.below b11)
      have A9 := Lib.hid (A9.out.below b11)
      have XC := Lib.hid (XC.out.below b11)
      have al := (Below.refl w11.heap.size w11).alloc (Nat.le_refl _) (.cells #[.int .i64 0, .int .i64 0, .int .i64 0, .int .i64 0] 26)
      have XD := Box.new w11 #[.int .i64 0, .int .i64 0, .int .i64 0, .int .i64 0] 26
      obtain ⟨W11, hW⟩ : ∃ W, W = w11.alloc (.cells #[.int .i64 0, .int .i64 0, .int .i64 0, .int .i64 0] 26) := ⟨_, rfl⟩
      rw [← hW] at al XD
      have B11 := Lib.hid (B11.out.trans (al.mono B11.out.size))
      have XD := Lib.hid XD
      have HW11 := Lib.hid hW
      have AV := Lib.hid (AV.out.below al)
      have XB := Lib.hid (XB.out.below al)
      have XC := Lib.hid (XC.out.below al)
      have A9 := Lib.hid (A9.out.below al)
      have x0 := XB.out.at 0 _ rfl
      have x1 := XB.out.at 1 _ rfl
      have x2 := XB.out.at 2 _ rfl
      have x3 := XB.out.at 3 _ rfl
      have y0 := XC.out.at 0 _ rfl
      have y1 := XC.out.at 1 _ rfl
      have y2 := XC.out.at 2 _ rfl
      have y3 := XC.out.at 3 _ rfl
      rw [hW] at x0 x1 x2 x3 y0 y1 y2 y3
      clear al hW b11 hu CC q5 HW10 XD
      go_wp2_with fail
      rw [← HW11.out]
      clear x0 x1 x2 x3 y0 y1 y2 y3 HW11
      refine (hS2.out a9 av c9 cv _ A9.out AV.out).mono ?_
      rintro e w12 ⟨rfl, b12⟩
      have B12 := Lib.hid (B11.out.trans (b12.mono B11.out.size))
      have AV := Lib.hid (AV.out.below b12)
      have XB := Lib.hid (XB.out.below b12)
      have x0 := XB.out.at 0 _ rfl
      have x1 := XB.out.at 1 _ rfl
      have x2 := XB.out.at 2 _ rfl
      have x3 := XB.out.at 3 _ rfl
      clear b12 hS2
      go_wp2_with fail
      refine (CZ.out _ AV.out).mono ?_
      rintro e w13 ⟨rfl, b13⟩
      have B13 := Lib.hid (B12.out.trans (b13.mono B12.out.size))
      go_wp2
      go_ret
      exact ⟨rfl, B13.out⟩
  | true =>
    have hTb := HSS.out rfl
    rw [hTb] at CT
    clear hTb HSS
    go_wp2_with fail
    refine (CT.out _ _ A4.out _).mono ?_
    rintro e w6 ⟨rfl, b6⟩
    have B6 := Lib.hid (B5.out.trans (b6.mono B5.out.size))
    clear b6 B5
    clear x0 x1 x2 x3
    have kI : draw.CodeAt w6 w6.heap.size a len := (HC.out.below B6.out).raise B6.out.size
    go_wp2_with fail
    refine (draw.drawSeal_any a len cap w6 kI).mono ?_
    rintro e w7 ⟨⟨x, y, z, u, v, m, xs, rfl, hm9, hxs, ho⟩, b7⟩
    have B7 := Lib.hid (B6.out.trans (b7.mono B6.out.size))
    obtain ⟨av, cv, rfl, hxl, _, _⟩ := own_form ho
    have hxl' : xs.length = m := by simpa using hxl
    have AV := Lib.hid (strs.At.of_own ho)
    clear b7 ho kI hxl X4 A4
    have al := (Below.refl w7.heap.size w7).alloc (Nat.le_refl _) (.cells #[.int .i64 x, .int .i64 y, .int .i64 z, .int .i64 u] 26)
    have XB := Box.new w7 #[.int .i64 x, .int .i64 y, .int .i64 z, .int .i64 u] 26
    obtain ⟨W7, hW⟩ : ∃ W, W = w7.alloc (.cells #[.int .i64 x, .int .i64 y, .int .i64 z, .int .i64 u] 26) := ⟨_, rfl⟩
    rw [← hW] at al XB
    have B7 := Lib.hid (B7.out.trans (al.mono B7.out.size))
    have XB := Lib.hid XB
    have HW7 := Lib.hid hW
    have AV := Lib.hid (AV.out.below al)
    have x0 := XB.out.at 0 _ rfl
    have x1 := XB.out.at 1 _ rfl
    have x2 := XB.out.at 2 _ rfl
    have x3 := XB.out.at 3 _ rfl
    rw [hW] at x0 x1 x2 x3
    have hT := slT_le ⟨x, y, z, u⟩ xs
    have CI := Lib.hid (fun w (h : strs.At w av m xs) => implSeal x y z u av cv m xs w (by omega) h)
    have CS := Lib.hid (fun w (h : strs.At w av m xs) => specSeal x y z u av cv m xs w (by omega) h)
    have CZ := Lib.hid (fun w (h : strs.At w av m xs) => implSealedSize x y z u av cv m xs w (by omega) h)
    have HOK := Lib.hid (slT_nul (h := ⟨x, y, z, u⟩) (rs := xs))
    have HSL := Lib.hid (fun h => sH_slT (h := ⟨x, y, z, u⟩) (rs := xs) h)
    have HMO := Lib.hid (fun (h : okS ⟨x, y, z, u⟩ xs) (q : ByteArray) (hq : q ≠ nul) => isS_more h hq)
    have HLE := Lib.hid (fun (h : okS ⟨x, y, z, u⟩ xs) => isS_less h)
    have HSZ := Lib.hid (fun (h : okS ⟨x, y, z, u⟩ xs) => (slT_size h).1)
    obtain ⟨T, hTT⟩ : ∃ T, slT ⟨x, y, z, u⟩ xs = T := ⟨_, rfl⟩
    rw [hTT] at CI CS CZ hT HOK
    simp only [hTT] at HSL HMO HLE HSZ
    clear hTT al hW
    go_wp2_with fail
    rw [← HW7.out]
    refine (CI.out _ AV.out).mono ?_
    rintro e w8 ⟨rfl, b8⟩
    have B8 := Lib.hid (B7.out.trans (b8.mono B7.out.size))
    have AV := Lib.hid (AV.out.below b8)
    have XB := Lib.hid (XB.out.below b8)
    clear x0 x1 x2 x3 HW7 CI b8 B7
    have x0 := XB.out.at 0 _ rfl
    have x1 := XB.out.at 1 _ rfl
    have x2 := XB.out.at 2 _ rfl
    have x3 := XB.out.at 3 _ rfl
    go_wp2_with fail
    refine (CS.out _ AV.out).mono ?_
    rintro e w9 ⟨rfl, b9⟩
    have B9 := Lib.hid (B8.out.trans (b9.mono B8.out.size))
    have AV := Lib.hid (AV.out.below b9)
    have XB := Lib.hid (XB.out.below b9)
    clear x0 x1 x2 x3 CS b9 B8
    by_cases hnul : T = nul
    · have k0 := emp_yes hnul
      have CN := Lib.hid (fun w (g : GE w) => implSealedOk nul w (by decide) g)
      have CE := Lib.hid (fun w => implSealedSize 1 1 0 0 none 0 0 [] w (by decide) ⟨rfl, .inl rfl⟩)
      rw [isS_nul] at CN
      rw [empty_size] at CE
      clear HOK HSL HMO HLE HSZ hnul
      go_wp2_with fail
      refine (CN.out _ (HG.out.below B9.out)).mono ?_
      rintro e w10 ⟨rfl, b10⟩
      have B10 := Lib.hid (B9.out.trans (b10.mono B9.out.size))
      clear b10 B9
      go_wp2_with fail
      refine (CE.out _).mono ?_
      rintro e w11 ⟨rfl, b11⟩
      have B11 := Lib.hid (B10.out.trans (b11.mono B10.out.size))
      clear b11 B10
      go_wp2
      go_ret
      exact ⟨rfl, B11.out⟩
    · have k0 := emp_no hnul
      have hok : okS ⟨x, y, z, u⟩ xs := by
        by_cases h : okS ⟨x, y, z, u⟩ xs
        · exact h
        · exact absurd (HOK.out.2 h) hnul
      obtain ⟨q1, q2, q3⟩ := HSL.out hok
      have q4 := HMO.out hok { data := #[120] } (by decide)
      have q5 := HLE.out hok
      have q6 := HSZ.out hok
      have CA := Lib.hid (fun w (g : GE w) => implReadSealed T w (by omega) g)
      have h1 : ({ data := #[120] } : ByteArray).size = 1 := rfl
      have CB := Lib.hid (fun w (g : GE w) => implReadSealed (T ++ { data := #[120] }) w (by rw [ByteArray.size_append, h1]; omega) g)
      have CC := Lib.hid (fun w (g : GE w) => implReadSealed (T.extract 0 (T.size - 1)) w (by rw [ByteArray.size_extract]; omega) g)
      have eT : (T.size : Int) - 1 = ((T.size - 1 : Nat) : Int) := by omega
      have hS2 := Lib.hid (fun (v u : Option Addr) (c d : Nat) w (hv : strs.At w v m xs) (hu : strs.At w u m xs) => same_any v u c d m xs w (by omega) hv hu)
      obtain ⟨Z, hZ⟩ : ∃ Z, T.extract 0 (T.size - 1) = Z := ⟨_, rfl⟩
      rw [hZ] at CC q5
      have HZ := Lib.hid hZ
      clear HOK HSL HMO HLE HSZ hZ
      go_wp2_with fail
      refine (CA.out _ (HG.out.below B9.out)).mono ?_
      rintro e w10 ⟨⟨_, rfl, hu⟩, b10⟩
      obtain ⟨a10, c10, rfl, o10⟩ := hu.ofYes q1 q2 q3
      rw [hxl'] at o10 ⊢
      have B10 := Lib.hid (B9.out.trans (b10.mono B9.out.size))
      have A10 := Lib.hid (strs.At.of_own o10)
      have AV := Lib.hid (AV.out.below b10)
      have XB := Lib.hid (XB.out.below b10)
      have al := (Below.refl w10.heap.size w10).alloc (Nat.le_refl _) (.cells #[.int .i64 x, .int .i64 y, .int .i64 z, .int .i64 u] 26)
      have XC := Box.new w10 #[.int .i64 x, .int .i64 y, .int .i64 z, .int .i64 u] 26
      obtain ⟨W10, hW⟩ : ∃ W, W = w10.alloc (.cells #[.int .i64 x, .int .i64 y, .int .i64 z, .int .i64 u] 26) := ⟨_, rfl⟩
      rw [← hW] at al XC
      have B10 := Lib.hid (B10.out.trans (al.mono B10.out.size))
      have XC := Lib.hid XC
      have HW10 := Lib.hid hW
      have AV := Lib.hid (AV.out.below al)
      have XB := Lib.hid (XB.out.below al)
      have A10 := Lib.hid (A10.out.below al)
      clear al hW b10 o10 hu CA q1 q2 q3
      go_wp2_with fail
      rw [← HW10.out]
      refine (CB.out _ (HG.out.below B10.out)).mono ?_
      rintro e w11 ⟨⟨_, rfl, hu⟩, b11⟩
      obtain ⟨a11, c11, rfl⟩ := hu.ofNo q4
      have B11 := Lib.hid (B10.out.trans (b11.mono B10.out.size))
      have AV := Lib.hid (AV.out.below b11)
      have XB := Lib.hid (XB.out.below b11)
      have A10 := Lib.hid (A10.out.below b11)
      have XC := Lib.hid (XC.out.below b11)
      have al := (Below.refl w11.heap.size w11).alloc (Nat.le_refl _) (.cells #[.int .i64 0, .int .i64 0, .int .i64 0, .int .i64 0] 26)
      have XD := Box.new w11 #[.int .i64 0, .int .i64 0, .int .i64 0, .int .i64 0] 26
      obtain ⟨W11, hW⟩ : ∃ W, W = w11.alloc (.cells #[.int .i64 0, .int .i64 0, .int .i64 0, .int .i64 0] 26) := ⟨_, rfl⟩
      rw [← hW] at al XD
      have B11 := Lib.hid (B11.out.trans (al.mono B11.out.size))
      have XD := Lib.hid XD
      have HW11 := Lib.hid hW
      have AV := Lib.hid (AV.out.below al)
      have XB := Lib.hid (XB.out.below al)
      have XC := Lib.hid (XC.out.below al)
      have A10 := Lib.hid (A10.out.below al)
      clear al hW b11 hu CB q4 HW10 XD
      go_wp2_with fail
      rw [← HW11.out, HZ.out]
      refine (CC.out _ (HG.out.below B11.out)).mono ?_
      rintro e w12 ⟨⟨_, rfl, hu⟩, b12⟩
      obtain ⟨a12, c12, rfl⟩ := hu.ofNo q5
      have B12 := Lib.hid (B11.out.trans (b12.mono B11.out.size))
      have AV := Lib.hid (AV.out.below b12)
      have XB := Lib.hid (XB.out.below b12)
      have A10 := Lib.hid (A10.out.below b12)
      have XC := Lib.hid (XC.out.below b12)
      have al := (Below.refl w12.heap.size w12).alloc (Nat.le_refl _) (.cells #[.int .i64 0, .int .i64 0, .int .i64 0, .int .i64 0] 26)
      have XD := Box.new w12 #[.int .i64 0, .int .i64 0, .int .i64 0, .int .i64 0] 26
      obtain ⟨W12, hW⟩ : ∃ W, W = w12.alloc (.cells #[.int .i64 0, .int .i64 0, .int .i64 0, .int .i64 0] 26) := ⟨_, rfl⟩
      rw [← hW] at al XD
      have B12 := Lib.hid (B12.out.trans (al.mono B12.out.size))
      have XD := Lib.hid XD
      have HW12 := Lib.hid hW
      have AV := Lib.hid (AV.out.below al)
      have XB := Lib.hid (XB.out.below al)
      have XC := Lib.hid (XC.out.below al)
      have A10 := Lib.hid (A10.out.below al)
      have x0 := XB.out.at 0 _ rfl
      have x1 := XB.out.at 1 _ rfl
      have x2 := XB.out.at 2 _ rfl
      have x3 := XB.out.at 3 _ rfl
      have y0 := XC.out.at 0 _ rfl
      have y1 := XC.out.at 1 _ rfl
      have y2 := XC.out.at 2 _ rfl
      have y3 := XC.out.at 3 _ rfl
      rw [hW] at x0 x1 x2 x3 y0 y1 y2 y3
      clear al hW b12 hu CC q5 HW11 XD
      go_wp2_with fail
      rw [← HW12.out]
      clear x0 x1 x2 x3 y0 y1 y2 y3 HW12
      refine (hS2.out a10 av c10 cv _ A10.out AV.out).mono ?_
      rintro e w13 ⟨rfl, b13⟩
      have B13 := Lib.hid (B12.out.trans (b13.mono B12.out.size))
      have AV := Lib.hid (AV.out.below b13)
      have XB := Lib.hid (XB.out.below b13)
      have x0 := XB.out.at 0 _ rfl
      have x1 := XB.out.at 1 _ rfl
      have x2 := XB.out.at 2 _ rfl
      have x3 := XB.out.at 3 _ rfl
      clear b13 hS2
      go_wp2_with fail
      refine (CZ.out _ AV.out).mono ?_
      rintro e w14 ⟨rfl, b14⟩
      have B14 := Lib.hid (B13.out.trans (b14.mono B13.out.size))
      go_wp2
      go_ret
      exact ⟨rfl, B14.out⟩

end Go.Proofs.YtdppflfhjmigdaaDoor.sl

namespace Go.Proofs.YtdppflfhjmigdaaDoor.sl
set_option maxRecDepth 20000
open Go.RowKit
open kit sum num burst hd fr sc pl

set_option maxHeartbeats 1000000 in
theorem sameD (a b : Option Addr) (c d n m : Nat) (xs ys : List ByteArray) (w : World) (hn : n ≤ 1048576) (hm : m ≤ 1048576) (ha : strs.At w a n xs) (hb : strs.At w b m ys) :
    Calls Tryd.prog 14 #[.slice a n c, .slice b m d] w fun e w' => e = .returned (.bool (decide (xs = ys))) ∧ Below w.heap.size w w' := by
  have HL := Lib.hid ha.1
  have HM := Lib.hid hb.1
  have HA := Lib.hid ha
  have HB := Lib.hid hb
  clear ha hb
  by_cases hnm : n = m
  · subst hnm
    go_enter Tryd.func14, Tryd.ntmps14
    go_wp2
    go_loopw [5] (fun i wr => ∃ k : Nat, k ≤ n ∧ i = .int .i64 k ∧ Hid (xs.take k = ys.take k) ∧ Below w.heap.size w wr) (fun i _ => n - (intOf i).toNat)
    case atStart => exact ⟨0, Nat.zero_le _, rfl, Lib.hid rfl, Below.refl _ _⟩
    case round =>
      obtain ⟨k, hk, rfl, HT, hb⟩ := hrel
      by_cases hlt : k < n
      · obtain ⟨x, hxk⟩ : ∃ x, xs[k]? = some x := ⟨_, List.getElem?_eq_getElem (by rw [HL.out]; exact hlt)⟩
        obtain ⟨y, hyk⟩ : ∃ y, ys[k]? = some y := ⟨_, List.getElem?_eq_getElem (by rw [HM.out]; exact hlt)⟩
        obtain ⟨g, o, rfl, hg, hx⟩ := HA.out.2.resolve_left (by omega)
        obtain ⟨h, p, rfl, hh, hy⟩ := HB.out.2.resolve_left (by omega)
        have c1 : wr.cell? ⟨g, o + k, none⟩ = some (.string x) := (hb.cell (p := ⟨g, o + k, none⟩) hg).trans (hx k x hxk)
        have c2 : wr.cell? ⟨h, p + k, none⟩ = some (.string y) := (hb.cell (p := ⟨h, p + k, none⟩) hh).trans (hy k y hyk)
        have i0 : (0 : Int) ≤ (k : Int) := by omega
        have i1 : (k : Int) < (n : Int) := by omega
        by_cases hxy : x = y
        · have hne := num.str_yes hxy
          have HT2 := Lib.hid (show xs.take (k + 1) = ys.take (k + 1) by rw [List.take_add_one, List.take_add_one, HT.out, hxk, hyk, hxy])
          clear hxk hyk hx hy HA HB hxy
          go_wp2
          go_quiet (fail)
          go_wp2
          go_roundw
          case rel => exact ⟨k + 1, by omega, by go_num, HT2, below_drewN hb _⟩
          case measure => simp [intOf]; omega
        · have hne := num.str_ne hxy
          have HD := Lib.hid (decide_eq_false (show ¬ xs = ys from fun e => hxy (by rw [e, hyk] at hxk; exact (Option.some.inj hxk).symm)))
          clear hxk hyk hx hy HA HB hxy
          go_wp2
          go_quiet (fail)
          go_wp2
          go_ret
          exact ⟨by rw [HD.out]; rfl, below_drewN hb _⟩
      · have hD := Lib.hid (decide_eq_true (show xs = ys by
          have h := HT.out
          obtain rfl : k = n := by omega
          rwa [List.take_of_length_le (by rw [HL.out]; exact Nat.le_refl _), List.take_of_length_le (by rw [HM.out]; exact Nat.le_refl _)] at h))
        go_wp2
        go_ret
        exact ⟨by rw [hD.out]; rfl, hb⟩
  · have HD := Lib.hid (decide_eq_false (show ¬ xs = ys from fun e => hnm (by rw [← HL.out, ← HM.out, e])))
    have k1 : ((n : Int) != (m : Int)) = true := by rw [bne_iff_ne]; omega
    have k2 : ((n : Int) == (m : Int)) = false := by rw [beq_eq_false_iff_ne]; omega
    have k3 : ¬ (n : Int) = (m : Int) := by omega
    clear hnm
    go_enter Tryd.func14, Tryd.ntmps14
    go_wp2
    go_ret
    exact ⟨by rw [HD.out]; rfl, Below.refl _ _⟩

theorem xor_other {x e : Nat} (h : 0 < e) : x ^^^ e ≠ x := fun h2 => by
  have h3 : x ^^^ (x ^^^ e) = x ^^^ x := congrArg (x ^^^ ·) h2
  rw [← Nat.xor_assoc, Nat.xor_self, Nat.zero_xor] at h3
  omega
/-- a text of which one byte is another one -/
theorem set_other {t : ByteArray} {k x e : Nat} (hx : (nats t 0)[k]? = some x) (h : 0 < e) (hb : ∀ c ∈ (nats t 0).set k (x ^^^ e), c < 256) : txt ((nats t 0).set k (x ^^^ e)) ≠ t := by
  intro h1
  have h2 := congrArg (fun s => nats s 0) h1
  simp only [nats_txt _ hb] at h2
  have h3 := congrArg (fun l : List Nat => l[k]?) h2
  have hk : k < (nats t 0).length := (List.getElem?_eq_some_iff.1 hx).1
  simp only [List.getElem?_set_self hk, hx, Option.some.injEq] at h3
  exact xor_other h h3

end Go.Proofs.YtdppflfhjmigdaaDoor.sl

namespace Go.Proofs.YtdppflfhjmigdaaDoor.sl
set_option maxRecDepth 20000
open Go.RowKit
open kit sum num burst hd fr recs sc pl om

theorem hiR_slT {h : Hd} {rs : List ByteArray} (hk : okS h rs) : hiR (slT h rs) = .tuple #[.agg #[.int .i64 h.v, .int .i64 h.s, .int .i64 h.b, .int .i64 h.l], .bool true] := by
  obtain ⟨h1, h2, _⟩ := sH_slT hk
  unfold hiR
  rw [h1, h2]
theorem asB_slT {h : Hd} {rs : List ByteArray} (hk : okS h rs) (ver : Int) : asB (slT h rs) ver = decide (h.v = ver) := by
  obtain ⟨h1, h2, _⟩ := sH_slT hk
  unfold asB
  rw [h1, h2, Bool.true_and]
theorem rw_below {w w' : World} {b : Nat} {xs : List Nat} (h : Rw w b xs) (hb : Below w.heap.size w w') : Rw w' b xs := by
  have hl := h.lt
  obtain ⟨C, k, h1, h2⟩ := h
  exact ⟨C, k, (hb.block b hl).trans h1, h2⟩
theorem bent_big (a : Option Addr) (len cap : Nat) (w : World) (h : 1048576 < len) :
    Calls Tryd.prog 4 #[.slice a len cap] w fun e w' => e = .returned (.bool true) ∧ Below w.heap.size w w' := by
  go_enter Tryd.func4, Tryd.ntmps4
  go_wp2_with (go_at_call 10; refine (big_yes _ _ _ _ h).mono ?_; rintro e w' ⟨rfl, rfl⟩)
  go_ret
  exact ⟨rfl, Below.refl _ _⟩

set_option maxHeartbeats 8000000 in
set_option maxRecDepth 20000 in
theorem bent_small (a : Option Addr) (len cap : Nat) (w : World) (hc : draw.CodeAt w w.heap.size a len) (hg : GE w) :
    Calls Tryd.prog 4 #[.slice a len cap] w fun e w' => e = .returned (.bool true) ∧ Below w.heap.size w w' := by
  have HG := Lib.hid hg
  clear hg
  have HC := Lib.hid hc
  have hlen := hc.1
  clear hc
  go_enter Tryd.func4, Tryd.ntmps4
  go_wp2_with (fail)
  refine (big_no _ _ _ _ hlen).mono ?_
  rintro e w' ⟨rfl, rfl⟩
  clear hlen
  go_wp2_with fail
  refine (draw.drawSeal_any a len cap w HC.out).mono ?_
  rintro e w1 ⟨⟨x, y, z, u, v, m, xs, rfl, hm9, hxs, ho⟩, b1⟩
  have B1 := Lib.hid b1
  obtain ⟨av, cv, rfl, hxl, _, _⟩ := own_form ho
  have AV := Lib.hid (strs.At.of_own ho)
  clear b1 ho hxl hxs
  have al := (Below.refl w1.heap.size w1).alloc (Nat.le_refl _) (.cells #[.int .i64 x, .int .i64 y, .int .i64 z, .int .i64 u] 26)
  have bx := Box.new w1 #[.int .i64 x, .int .i64 y, .int .i64 z, .int .i64 u] 26
  obtain ⟨W1, hW⟩ : ∃ W, W = w1.alloc (.cells #[.int .i64 x, .int .i64 y, .int .i64 z, .int .i64 u] 26) := ⟨_, rfl⟩
  rw [← hW] at al bx
  have B1 := Lib.hid (B1.out.trans (al.mono B1.out.size))
  have X1 := Lib.hid bx
  have HW1 := Lib.hid hW
  have AV := Lib.hid (AV.out.below al)
  have x0 := X1.out.at 0 _ rfl
  have x1 := X1.out.at 1 _ rfl
  have x2 := X1.out.at 2 _ rfl
  have x3 := X1.out.at 3 _ rfl
  rw [hW] at x0 x1 x2 x3
  have CS := Lib.hid (fun w (h : strs.At w av m xs) => specSeal x y z u av cv m xs w (by omega) h)
  have HOK := Lib.hid (slT_nul (h := ⟨x, y, z, u⟩) (rs := xs))
  have HHI := Lib.hid (fun (h : okS ⟨x, y, z, u⟩ xs) => hiR_slT h)
  have HAS := Lib.hid (fun (h : okS ⟨x, y, z, u⟩ xs) => asB_slT h)
  have HON := Lib.hid (fun (b : ByteArray) (h1 : isS b = true) (h2 : b ≠ slT ⟨x, y, z, u⟩ xs) => isS_one h1 h2)
  have hT := slT_le ⟨x, y, z, u⟩ xs
  obtain ⟨T, hTT⟩ : ∃ T, slT ⟨x, y, z, u⟩ xs = T := ⟨_, rfl⟩
  rw [hTT] at CS HOK hT
  simp only [hTT] at HHI HAS HON
  clear al hW bx hTT
  go_wp2_with fail
  rw [← HW1.out]
  refine (CS.out _ AV.out).mono ?_
  rintro e w2 ⟨rfl, b2⟩
  have B2 := Lib.hid (B1.out.trans (b2.mono B1.out.size))
  have AV := Lib.hid (AV.out.below b2)
  have XB := Lib.hid (X1.out.below b2)
  clear b2 x0 x1 x2 x3 HW1 X1 B1 CS
  by_cases hnul : T = nul
  · have k0 := emp_yes hnul
    have hk1 := empty_ok 1 (by decide) (by decide)
    have hk2 := empty_ok 2 (by decide) (by decide)
    have l1 := slT_le ⟨1, 1, 0, 0⟩ []
    have l2 := slT_le ⟨2, 1, 0, 0⟩ []
    have CX := Lib.hid (fun w => specSeal 1 1 0 0 none 0 0 [] w (by decide) ⟨rfl, .inl rfl⟩)
    have CY := Lib.hid (fun w => specSeal 2 1 0 0 none 0 0 [] w (by decide) ⟨rfl, .inl rfl⟩)
    have CH := Lib.hid (fun w (g : GE w) => implHeadIn (slT ⟨1, 1, 0, 0⟩ []) w (by omega) g)
    have CA := Lib.hid (fun w (g : GE w) => implSealedAs (slT ⟨2, 1, 0, 0⟩ []) 2 w (by omega) g)
    rw [hiR_slT hk1, show (⟨1, 1, 0, 0⟩ : Hd).v = 1 from rfl, show (⟨1, 1, 0, 0⟩ : Hd).s = 1 from rfl, show (⟨1, 1, 0, 0⟩ : Hd).b = 0 from rfl, show (⟨1, 1, 0, 0⟩ : Hd).l = 0 from rfl] at CH
    rw [asB_slT hk2, show decide ((⟨2, 1, 0, 0⟩ : Hd).v = 2) = true from rfl] at CA
    obtain ⟨X, hX⟩ : ∃ X, slT ⟨1, 1, 0, 0⟩ [] = X := ⟨_, rfl⟩
    obtain ⟨Y, hY⟩ : ∃ Y, slT ⟨2, 1, 0, 0⟩ [] = Y := ⟨_, rfl⟩
    rw [hX] at CX CH
    rw [hY] at CY CA
    clear HOK HHI HAS HON hX hY hk1 hk2 l1 l2 hnul
    go_wp2_with fail
    refine (CX.out _).mono ?_
    rintro e w3 ⟨rfl, b3⟩
    have B3 := Lib.hid (B2.out.trans (b3.mono B2.out.size))
    clear b3
    go_wp2_with fail
    refine (CH.out _ (HG.out.below B3.out)).mono ?_
    rintro e w4 ⟨rfl, b4⟩
    have B4 := Lib.hid (B3.out.trans (b4.mono B3.out.size))
    clear b4
    have al := (Below.refl w4.heap.size w4).alloc (Nat.le_refl _) (.cells #[.int .i64 1, .int .i64 1, .int .i64 0, .int .i64 0] 26)
    have bx := Box.new w4 #[.int .i64 1, .int .i64 1, .int .i64 0, .int .i64 0] 26
    obtain ⟨W4, hW⟩ : ∃ W, W = w4.alloc (.cells #[.int .i64 1, .int .i64 1, .int .i64 0, .int .i64 0] 26) := ⟨_, rfl⟩
    rw [← hW] at al bx
    have B4 := Lib.hid (B4.out.trans (al.mono B4.out.size))
    have X4 := Lib.hid bx
    have HW4 := Lib.hid hW
    have y0 := X4.out.at 0 _ rfl
    rw [hW] at y0
    clear al hW bx
    go_wp2_with fail
    rw [← HW4.out]
    clear y0
    refine (CY.out _).mono ?_
    rintro e w5 ⟨rfl, b5⟩
    have B5 := Lib.hid (B4.out.trans (b5.mono B4.out.size))
    clear b5
    go_wp2_with fail
    refine (CA.out _ (HG.out.below B5.out)).mono ?_
    rintro e w6 ⟨rfl, b6⟩
    have B6 := Lib.hid (B5.out.trans (b6.mono B5.out.size))
    clear b6
    go_wp2
    go_ret
    exact ⟨rfl, B6.out⟩
  · have k0 := emp_no hnul
    have hok : okS ⟨x, y, z, u⟩ xs := by
      by_cases h : okS ⟨x, y, z, u⟩ xs
      · exact h
      · exact absurd (HOK.out.2 h) hnul
    have hvv := okH_is.1 hok.1
    have hv1 : 1 ≤ x := hvv.1
    have hv2 : x ≤ 2 := hvv.2.1
    have hiT := HHI.out hok
    have hs0 : T.size ≠ 0 := fun h => hnul (ByteArray.size_eq_zero_iff.1 h)
    have CH := Lib.hid (fun w (g : GE w) => implHeadIn T w (by omega) g)
    rw [hiT] at CH
    have CA := Lib.hid (fun w (g : GE w) => implSealedAs T x w (by omega) g)
    rw [HAS.out hok x, show decide (x = x) = true from decide_eq_true rfl] at CA
    have CB := Lib.hid (fun w (g : GE w) => implSealedAs T (3 - x) w (by omega) g)
    rw [HAS.out hok (3 - x), show decide (x = 3 - x) = false from decide_eq_false (by omega)] at CB
    have w3x : IntKind.i64.wrap (3 - x) = 3 - x := by rw [IntKind.wrap_i64]; omega
    clear hvv hiT HHI HAS HOK hok
    go_wp2_with fail
    refine (draw.places_any a len cap w2 ((HC.out.below B2.out).raise B2.out.size)).mono ?_
    rintro e w3 ⟨_, ps, rfl, hps, hown, b3⟩
    have B3 := Lib.hid (B2.out.trans (b3.mono B2.out.size))
    have AV := Lib.hid (AV.out.below b3)
    have XB := Lib.hid (XB.out.below b3)
    obtain ⟨ga, cc, rfl, hl12, _, hf⟩ := own_form hown
    obtain ⟨g, rfl, hgB, hgl, hcell, _⟩ := hf.resolve_left (by omega)
    rw [List.length_map] at hl12
    obtain ⟨p0, p1, pr, rfl⟩ : ∃ p0 p1 pr, ps = p0 :: p1 :: pr := by
      match ps, hl12 with
      | p0 :: p1 :: pr, _ => exact ⟨p0, p1, pr, rfl⟩
    have r0 := hps p0 (by simp)
    have r1 := hps p1 (by simp)
    have c0 : w3.cell? ⟨g, 0, none⟩ = some (.int .i64 p0) := hcell 0 (by omega)
    have c1 : w3.cell? ⟨g, 1, none⟩ = some (.int .i64 p1) := hcell 1 (by omega)
    obtain ⟨n0, rfl⟩ := Int.eq_ofNat_of_zero_le r0.1
    obtain ⟨n1, rfl⟩ := Int.eq_ofNat_of_zero_le r1.1
    have r0' := r0.2
    have r1' := r1.2
    clear hown hcell hf hl12 hps b3 r0 r1 B2
    obtain ⟨S, hS⟩ : ∃ S, T.size = S := ⟨_, rfl⟩
    have hS8 : ¬ 8 * (S : Int) = 0 := by omega
    have HS := Lib.hid hS
    obtain ⟨j, hj⟩ : ∃ j, (n0 * 10000 + n1) % (8 * S) = j := ⟨_, rfl⟩
    have hj8 : j < 8 * S := by rw [← hj]; exact Nat.mod_lt _ (by omega)
    have hji : ((n0 : Int) * 10000 + (n1 : Int)) % (8 * (S : Int)) = (j : Int) := by rw [show (n0 : Int) * 10000 + (n1 : Int) = ((n0 * 10000 + n1 : Nat) : Int) by omega, show 8 * (S : Int) = ((8 * S : Nat) : Int) by omega, ← Int.natCast_emod, hj]
    have hjt : ((n0 : Int) * 10000 + (n1 : Int)).tmod (8 * (S : Int)) = (j : Int) := by rw [Int.tmod_eq_emod_of_nonneg (by omega)]; exact hji
    clear hj
    rw [hS] at hT hs0
    go_wp2
    go_region
    clear c0 c1 r0' r1' hji hjt hS8
    have bd := (Below.refl w3.heap.size w3).drew
    have AV := Lib.hid (AV.out.below bd)
    have XB := Lib.hid (XB.out.below bd)
    have B5 := Lib.hid (B3.out.trans (bd.mono B3.out.size))
    obtain ⟨w5, hw5⟩ : ∃ w5, w5 = w3.drew := ⟨_, rfl⟩
    rw [← hw5] at AV XB B5 ⊢
    clear hw5 bd B3
    have kc := fun (w : World) => run_bytes_of_string (P := Tryd.prog) w 9 22 5 T Tryd.underlying9 Tryd.underlying22 Tryd.underlying5
    have HN := Rw.new w5 T (grownCap w5 T.size 0 5)
    rw [hS] at HN
    obtain ⟨C, hC⟩ : ∃ C, grownCap w5 S 0 5 = C := ⟨_, rfl⟩
    rw [hC] at HN
    have HC5 := Lib.hid hC
    clear hC
    go_upto_region 11 with fail
    rw [HC5.out]
    clear kc
    obtain ⟨W5, hW5⟩ : ∃ W5, W5 = (w5.alloc (.cells (bytesRow T C) 5 ((bytesRow T C).size, (bytesRow T C).size + 1))).drew := ⟨_, rfl⟩
    have HN := Lib.hid (show Rw W5 w5.heap.size (nats T 0) by rw [hW5]; exact HN)
    have al : Below w5.heap.size w5 W5 := by rw [hW5]; exact ((Below.refl _ _).alloc (Nat.le_refl _) _).drew
    have AV5 := AV
    have AL5 := Lib.hid al
    have XBlt := Lib.hid XB.out.lt
    have AV := Lib.hid (AV.out.below al)
    have XB := Lib.hid (XB.out.below al)
    have B6 := Lib.hid (B5.out.trans (al.mono B5.out.size))
    have g5 := B5.out.size
    first
      | rw [← hW5]
      | (change Code.wp _ _ _ _ (w5.alloc (.cells (bytesRow T C) 5 ((bytesRow T C).size, (bytesRow T C).size + 1))).drew; rw [← hW5])
    clear hW5 al HC5
    have hl0 : (nats T 0).length = S := by rw [nats_length]; omega
    have hby := nats_byte T 0
    have hk8 : j / 8 < (nats T 0).length := by rw [hl0]; omega
    obtain ⟨q, hq⟩ : ∃ q, (nats T 0)[j / 8]? = some q := ⟨_, List.getElem?_eq_getElem hk8⟩
    have hq256 := hby q (List.mem_of_getElem? hq)
    have ht8 : j % 8 < 8 := Nat.mod_lt _ (by decide)
    have hbs := set_byte (k := j / 8) hby hq256 ht8
    have hother := set_other hq (e := 2 ^ (j % 8)) (Nat.two_pow_pos _) hbs
    have hcell := HN.out.cell hq
    have hfrz := HN.out.frozen hk8
    have hse := shl_one (j % 8) ht8
    have hpb := pow_byte (j % 8) ht8
    have hdv : (j : Int) / 8 = ((j / 8 : Nat) : Int) := by omega
    have hti : (j : Int) % 8 = ((j % 8 : Nat) : Int) := by omega
    obtain ⟨k, hk⟩ : ∃ k, j / 8 = k := ⟨_, rfl⟩
    obtain ⟨t, ht⟩ : ∃ t, j % 8 = t := ⟨_, rfl⟩
    rw [hk] at hq hbs hother hcell hfrz hdv hk8
    rw [ht] at hse hpb ht8 hbs hother hti
    have htu : IntKind.u64.wrap (t : Int) = (t : Int) := by rw [IntKind.wrap_u64]; omega
    obtain ⟨e, he⟩ : ∃ e, 2 ^ t = e := ⟨_, rfl⟩
    rw [he] at hse hpb hbs hother
    have h2t : (2 : Int) ^ t % 256 = (e : Int) := by
      rw [show (2 : Int) ^ t = ((2 ^ t : Nat) : Int) by push_cast; rfl, he]
      omega
    have hxr := xor_u8 q e hq256 hpb
    obtain ⟨r, hr⟩ : ∃ r, q ^^^ e = r := ⟨_, rfl⟩
    rw [hr] at hxr hbs hother
    have HRW := Lib.hid (HN.out.set (x := r) hk8)
    have hzl : ((nats T 0).set k r).length = S := by rw [List.length_set]; exact hl0
    obtain ⟨zs, hzs⟩ : ∃ zs, (nats T 0).set k r = zs := ⟨_, rfl⟩
    rw [hzs] at HRW hzl hbs hother
    have hkS : k < S := by omega
    have B7 := Lib.hid (B6.out.setCell (p := ⟨w5.heap.size, k, none⟩) g5 (.int .u8 (r : Int)))
    have XB7 := Lib.hid (XB.out.far k (.int .u8 (r : Int)) (show w5.heap.size ≠ w1.heap.size from fun h => by have := XBlt.out; omega))
    have AV7 := Lib.hid (AV5.out.below (AL5.out.setCell (p := ⟨w5.heap.size, k, none⟩) (Nat.le_refl _) (.int .u8 (r : Int))))
    have HBO := Lib.hid hother
    have HZL := Lib.hid hzl
    have HBS := Lib.hid hbs
    clear hq hq256 hby hr he ht hk hzs hl0 hbs hother hzl
    go_upto_region 12 with fail
    obtain ⟨w7, hw7⟩ : ∃ w7, w7 = W5.setCell ⟨w5.heap.size, k, none⟩ (.int .u8 (r : Int)) := ⟨_, rfl⟩
    rw [← hw7] at HRW B7 XB7 AV7 ⊢
    clear hw7 hcell hfrz hse hpb htu h2t hxr hti hdv AV XB AV5 AL5 B6 B5 HN
    have HCV := Lib.hid (fun (W : World) (h : Rw W w5.heap.size zs) => show ∀ dst, Tryd.prog.underlying dst = some .string → (convert 22 dst (.slice (some ⟨w5.heap.size, 0, none⟩) S C)).run Tryd.prog W = .ok (.string (txt zs)) W from by
      have h1 := run_convert_bytes_arg (P := Tryd.prog) W 22 5 Tryd.underlying22 Tryd.underlying5 w5.heap.size 0 S C (zs.map fun (c : Nat) => (c : Int)) (by rw [List.length_map]; exact HZL.out) (fun i hi => by
        have hi2 : i < zs.length := by rw [HZL.out]; exact hi
        rw [Nat.zero_add, h.cell (List.getElem?_eq_getElem hi2)]
        simp [List.getD, List.getElem?_eq_getElem hi2])
      rw [txt_nums] at h1
      exact h1)
    have hcv := HCV.out _ HRW.out
    have hZl : (txt zs).size = S := by rw [txt_size]; exact HZL.out
    have HONE := Lib.hid (fun h => HON.out (txt zs) h HBO.out)
    obtain ⟨Z, hZ⟩ : ∃ Z, txt zs = Z := ⟨_, rfl⟩
    rw [hZ] at hcv hZl
    simp only [hZ] at HCV HONE
    have CR := Lib.hid (fun w (g : GE w) => implReadSealed Z w (by omega) g)
    have CO := Lib.hid (fun w (g : GE w) => implSealedOk Z w (by omega) g)
    have hsl := recs_le Z
    have HYE := Lib.hid (fun (h : isS Z = true) => (show sH Z = hdOf Z ∧ sR Z = sc.recs Z by unfold sH sR; rw [if_pos h, if_pos h]; exact ⟨rfl, rfl⟩))
    have HRL := Lib.hid (show (sR Z).length ≤ 1048576 by
      unfold sR
      split
      · omega
      · exact Nat.zero_le _)
    clear hZ HON HBO HZL HBS
    go_wp2_with fail
    refine (CR.out _ (HG.out.below B7.out)).mono ?_
    rintro e' w8 ⟨⟨_, rfl, hu⟩, b8⟩
    obtain ⟨a8, c8, rfl, o8⟩ := hu.form
    have B8 := Lib.hid (B7.out.trans (b8.mono B7.out.size))
    have A8 := Lib.hid (strs.At.of_own o8)
    have AV := Lib.hid (AV7.out.below b8)
    have XB := Lib.hid (XB7.out.below b8)
    have RW := Lib.hid (rw_below HRW.out b8)
    obtain ⟨p1, hp1⟩ : ∃ p, (sH Z).v = p := ⟨_, rfl⟩
    obtain ⟨p2, hp2⟩ : ∃ p, (sH Z).s = p := ⟨_, rfl⟩
    obtain ⟨p3, hp3⟩ : ∃ p, (sH Z).b = p := ⟨_, rfl⟩
    obtain ⟨p4, hp4⟩ : ∃ p, (sH Z).l = p := ⟨_, rfl⟩
    have HPH := Lib.hid (show sH Z = ⟨p1, p2, p3, p4⟩ by rw [← hp1, ← hp2, ← hp3, ← hp4])
    obtain ⟨nz, hnz⟩ : ∃ n, (sR Z).length = n := ⟨_, rfl⟩
    rw [hp1, hp2, hp3, hp4, hnz]
    rw [hnz] at A8 HRL
    clear hp1 hp2 hp3 hp4 hnz b8 o8 hu CR hcv hsl
    have al := (Below.refl w8.heap.size w8).alloc (Nat.le_refl _) (.cells #[.int .i64 p1, .int .i64 p2, .int .i64 p3, .int .i64 p4] 26)
    have bx := Box.new w8 #[.int .i64 p1, .int .i64 p2, .int .i64 p3, .int .i64 p4] 26
    obtain ⟨W8, hW⟩ : ∃ W, W = w8.alloc (.cells #[.int .i64 p1, .int .i64 p2, .int .i64 p3, .int .i64 p4] 26) := ⟨_, rfl⟩
    rw [← hW] at al bx
    have B8 := Lib.hid (B8.out.trans (al.mono B8.out.size))
    have X8 := Lib.hid bx
    have HW8 := Lib.hid hW
    have AV := Lib.hid (AV.out.below al)
    have XB := Lib.hid (XB.out.below al)
    have A8 := Lib.hid (A8.out.below al)
    have RW := Lib.hid (rw_below RW.out al)
    clear al hW bx
    go_upto_region 13 with fail
    rw [← HW8.out]
    clear HW8
    go_wp2_with fail
    refine (CH.out _ (HG.out.below B8.out)).mono ?_
    rintro e' w9 ⟨rfl, b9⟩
    have B9 := Lib.hid (B8.out.trans (b9.mono B8.out.size))
    have AV := Lib.hid (AV.out.below b9)
    have XB := Lib.hid (XB.out.below b9)
    have X8 := Lib.hid (X8.out.below b9)
    have A8 := Lib.hid (A8.out.below b9)
    have RW := Lib.hid (rw_below RW.out b9)
    clear b9 CH
    have al := (Below.refl w9.heap.size w9).alloc (Nat.le_refl _) (.cells #[.int .i64 x, .int .i64 y, .int .i64 z, .int .i64 u] 26)
    have bx := Box.new w9 #[.int .i64 x, .int .i64 y, .int .i64 z, .int .i64 u] 26
    obtain ⟨W9, hW⟩ : ∃ W, W = w9.alloc (.cells #[.int .i64 x, .int .i64 y, .int .i64 z, .int .i64 u] 26) := ⟨_, rfl⟩
    rw [← hW] at al bx
    have B9 := Lib.hid (B9.out.trans (al.mono B9.out.size))
    have X9 := Lib.hid bx
    have HW9 := Lib.hid hW
    have AV := Lib.hid (AV.out.below al)
    have XB := Lib.hid (XB.out.below al)
    have X8 := Lib.hid (X8.out.below al)
    have A8 := Lib.hid (A8.out.below al)
    have RW := Lib.hid (rw_below RW.out al)
    clear al hW bx
    go_upto_region 14 with fail
    rw [← HW9.out]
    clear HW9
    have x0 := X9.out.at 0 _ rfl
    have x1 := X9.out.at 1 _ rfl
    have x2 := X9.out.at 2 _ rfl
    have x3 := X9.out.at 3 _ rfl
    have y0 := XB.out.at 0 _ rfl
    have y1 := XB.out.at 1 _ rfl
    have y2 := XB.out.at 2 _ rfl
    have y3 := XB.out.at 3 _ rfl
    go_wp2_with fail
    refine (CA.out _ (HG.out.below B9.out)).mono ?_
    rintro e' w10 ⟨rfl, b10⟩
    have B10 := Lib.hid (B9.out.trans (b10.mono B9.out.size))
    have AV := Lib.hid (AV.out.below b10)
    have XB := Lib.hid (XB.out.below b10)
    have X8 := Lib.hid (X8.out.below b10)
    have A8 := Lib.hid (A8.out.below b10)
    have RW := Lib.hid (rw_below RW.out b10)
    clear b10 CA x0 x1 x2 x3 y0 y1 y2 y3 X9
    have y0 := XB.out.at 0 _ rfl
    go_wp2_with fail
    refine (CB.out _ (HG.out.below B10.out)).mono ?_
    rintro e' w11 ⟨rfl, b11⟩
    have B11 := Lib.hid (B10.out.trans (b11.mono B10.out.size))
    have AV := Lib.hid (AV.out.below b11)
    have XB := Lib.hid (XB.out.below b11)
    have X8 := Lib.hid (X8.out.below b11)
    have A8 := Lib.hid (A8.out.below b11)
    have RW := Lib.hid (rw_below RW.out b11)
    clear b11 CB y0
    have z0 := X8.out.at 0 _ rfl
    have z1 := X8.out.at 1 _ rfl
    have z2 := X8.out.at 2 _ rfl
    have z3 := X8.out.at 3 _ rfl
    have y0 := XB.out.at 0 _ rfl
    have y1 := XB.out.at 1 _ rfl
    have y2 := XB.out.at 2 _ rfl
    have y3 := XB.out.at 3 _ rfl
    have hcv := HCV.out _ RW.out
    obtain ⟨iz, hiz⟩ : ∃ iz, isS Z = iz := ⟨_, rfl⟩
    rw [hiz] at CO ⊢
    cases iz with
    | false =>
      go_wp2_with fail
      refine (CO.out _ (HG.out.below B11.out)).mono ?_
      rintro e' w12 ⟨rfl, b12⟩
      go_wp2
      go_ret
      exact ⟨rfl, B11.out.trans (b12.mono B11.out.size)⟩
    | true =>
      obtain ⟨e1, e2⟩ := HYE.out hiz
      have hno := HONE.out hiz
      rw [← e1, ← e2, HPH.out] at hno
      clear e1 e2 hiz
      by_cases d1 : p1 = x
      · by_cases d2 : p2 = y
        · by_cases d3 : p3 = z
          · by_cases d4 : p4 = u
            · subst d1 d2 d3 d4
              have hdf : decide (sR Z = xs) = false := decide_eq_false fun h => hno ⟨rfl, h⟩
              have CC := Lib.hid (fun w (h1 : strs.At w a8 nz (sR Z)) (h2 : strs.At w av m xs) => sameD a8 av c8 cv nz m (sR Z) xs w HRL.out (by omega) h1 h2)
              rw [hdf] at CC
              clear hdf hno
              go_wp2_with fail
              refine (CC.out _ A8.out AV.out).mono ?_
              rintro e' w12 ⟨rfl, b12⟩
              have B12 := Lib.hid (B11.out.trans (b12.mono B11.out.size))
              have RW := Lib.hid (rw_below RW.out b12)
              have hcv := HCV.out _ RW.out
              clear b12
              go_wp2_with fail
              refine (CO.out _ (HG.out.below B12.out)).mono ?_
              rintro e' w13 ⟨rfl, b13⟩
              go_wp2
              go_ret
              exact ⟨rfl, B12.out.trans (b13.mono B12.out.size)⟩
            · have dd : (p4 == u) = false := by rw [beq_eq_false_iff_ne]; exact d4
              subst d1 d2 d3
              clear hno
              go_wp2_with fail
              refine (CO.out _ (HG.out.below B11.out)).mono ?_
              rintro e' w12 ⟨rfl, b12⟩
              go_wp2
              go_ret
              exact ⟨rfl, B11.out.trans (b12.mono B11.out.size)⟩
          · have dd : (p3 == z) = false := by rw [beq_eq_false_iff_ne]; exact d3
            subst d1 d2
            clear hno
            go_wp2_with fail
            refine (CO.out _ (HG.out.below B11.out)).mono ?_
            rintro e' w12 ⟨rfl, b12⟩
            go_wp2
            go_ret
            exact ⟨rfl, B11.out.trans (b12.mono B11.out.size)⟩
        · have dd : (p2 == y) = false := by rw [beq_eq_false_iff_ne]; exact d2
          subst d1
          clear hno
          go_wp2_with fail
          refine (CO.out _ (HG.out.below B11.out)).mono ?_
          rintro e' w12 ⟨rfl, b12⟩
          go_wp2
          go_ret
          exact ⟨rfl, B11.out.trans (b12.mono B11.out.size)⟩
      · have dd : (p1 == x) = false := by rw [beq_eq_false_iff_ne]; exact d1
        clear hno
        go_wp2_with fail
        refine (CO.out _ (HG.out.below B11.out)).mono ?_
        rintro e' w12 ⟨rfl, b12⟩
        go_wp2
        go_ret
        exact ⟨rfl, B11.out.trans (b12.mono B11.out.size)⟩

end Go.Proofs.YtdppflfhjmigdaaDoor.sl
