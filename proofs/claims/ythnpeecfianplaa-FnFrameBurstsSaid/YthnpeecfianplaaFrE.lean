/-
  Contract of the draw of a text to be read as a frame.
-/
import Derived.Test.YthnpeecfianplaaFrD
namespace Go.Proofs.Ythnpeecfianplaa.draw
open Go.RowKit
open kit fr

theorem results_tmp4 {fn : Func} {t u v x : Tmp} (h : fn.results = #[.tmp t, .tmp u, .tmp v, .tmp x]) (tmps : Array Value) (P : Program) (w : World) :
    (results fn tmps).run P w = .ok (.tuple #[tmps.getD t undef, tmps.getD u undef, tmps.getD v undef, tmps.getD x undef]) w := by
  simp [results, h]
/-- a version, a place, a text and a place in it; nothing that was there turns -/
def PostRF (w : World) (e : Ending) (w' : World) : Prop := (∃ (v p : Int) (b : ByteArray) (q : Int), 0 ≤ v ∧ v ≤ 3 ∧ 0 ≤ p ∧ p ≤ 9 ∧ b.size ≤ 200 ∧ -1 ≤ q ∧ q ≤ 9223372036854775807 ∧ e = .returned (.tuple #[.int .i64 v, .int .i64 p, .string b, .int .i64 q])) ∧ Below w.heap.size w w'

set_option maxHeartbeats 2000000 in
theorem drawReadFrame_any (a : Option Addr) (len cap : Nat) (w : World) (hc : CodeAt w w.heap.size a len) :
    Calls Try.prog 11 #[.slice a len cap] w (PostRF w) := by
  obtain ⟨c, hcc⟩ : ∃ c, w.heap.size = c := ⟨_, rfl⟩
  have hBc : c ≤ c := Nat.le_refl _
  go_enter Try.func11, Try.ntmps11
  go_wp2_with fail
  refine (new_any w.heap.size a len cap w (Nat.le_refl _) hc).mono ?_
  rintro e w1 ⟨rfl, u1, b1, sz1⟩
  have k1 := hc.below b1
  rw [hcc] at u1 k1
  have hs1 : c < w1.heap.size := by omega
  have B1 := Lib.hid b1
  clear hc b1 sz1
  go_wp2_with fail
  refine (version9_any c c a len cap w1 hBc hs1 k1 u1).mono ?_
  rintro e w2 ⟨⟨v, v0, v3, rfl⟩, u2, g2⟩
  have k2 := k1.grown hBc (by omega) g2
  have hs2 : c < w2.heap.size := Nat.lt_of_lt_of_le hs1 g2.size
  have B2 := Lib.hid (B1.out.grown g2 B1.out.size (fun k hk => by injection hk with hk; omega))
  clear k1 u1 g2 hs1 B1
  go_wp2_with fail
  refine (below_any c c a len cap 9 w2 hBc (by omega) k2 u2 (by omega) (by omega)).mono ?_
  rintro e w3 ⟨⟨p, p0, p8, rfl⟩, u3, g3⟩
  have k3 := k2.grown hBc (by omega) g3
  have hs3 : c < w3.heap.size := Nat.lt_of_lt_of_le hs2 g3.size
  have B3 := Lib.hid (B2.out.grown g3 B2.out.size (fun k hk => by injection hk with hk; omega))
  clear k2 u2 g3 hs2 B2
  go_wp2_with fail
  refine (below_any c c a len cap 3 w3 hBc (by omega) k3 u3 (by omega) (by omega)).mono ?_
  rintro e w4 ⟨⟨x, x0, x3, rfl⟩, u4, g4⟩
  have k4 := k3.grown hBc (by omega) g4
  have hs4 : c < w4.heap.size := Nat.lt_of_lt_of_le hs3 g4.size
  have B4 := Lib.hid (B3.out.grown g4 B3.out.size (fun k hk => by injection hk with hk; omega))
  clear k3 u3 g4 hs3 B3
  obtain ⟨n, rfl⟩ := Int.eq_ofNat_of_zero_le x0
  go_wp2_with fail
  refine (text_any c c a len cap n w4 hBc hs4 k4 u4 (by omega)).mono ?_
  rintro e w5 ⟨⟨s, hs, rfl⟩, u5, g5⟩
  have k5 := k4.grown hBc (by omega) g5
  have hs5 : c < w5.heap.size := Nat.lt_of_lt_of_le hs4 g5.size
  have B5 := Lib.hid (B4.out.grown g5 B4.out.size (fun k hk => by injection hk with hk; omega))
  clear k4 u4 g5 hs4 B4
  go_wp2_with fail
  refine (record8_any c c a len cap w5 hBc hs5 k5 u5).mono ?_
  rintro e w6 ⟨⟨r, hr, rfl⟩, u6, g6⟩
  have k6 := k5.grown hBc (by omega) g6
  have hs6 : c < w6.heap.size := Nat.lt_of_lt_of_le hs5 g6.size
  have B6 := Lib.hid (B5.out.grown g6 B5.out.size (fun k hk => by injection hk with hk; omega))
  clear k5 u5 g6 hs5 B5
  have HC := Lib.hid (specFrame_any v p r w6 (by omega))
  have hle := frT_le v p r
  obtain ⟨T, hT⟩ : ∃ T, frT v p r = T := ⟨_, rfl⟩
  rw [hT] at HC hle
  clear hT
  go_wp2_with fail
  refine HC.out.mono ?_
  rintro e w7 ⟨rfl, b7⟩
  have k7 := k6.below (b7.mono (show c ≤ w6.heap.size by omega))
  have u7 := u6.below (b7.mono (show c + 1 ≤ w6.heap.size by omega))
  have hs7 : c < w7.heap.size := Nat.lt_of_lt_of_le hs6 b7.size
  have B7 := Lib.hid (B6.out.trans (b7.mono B6.out.size))
  clear k6 u6 b7 hs6 B6 HC
  go_wp2_with fail
  refine (below_any c c a len cap 3 w7 hBc (by omega) k7 u7 (by omega) (by omega)).mono ?_
  rintro e w8 ⟨⟨y, y0, y3, rfl⟩, u8, g8⟩
  have k8 := k7.grown hBc (by omega) g8
  have hs8 : c < w8.heap.size := Nat.lt_of_lt_of_le hs7 g8.size
  have B8 := Lib.hid (B7.out.grown g8 B7.out.size (fun k hk => by injection hk with hk; omega))
  clear k7 u7 g8 hs7 B7
  obtain ⟨m, rfl⟩ := Int.eq_ofNat_of_zero_le y0
  go_wp2_with fail
  refine (text_any c c a len cap m w8 hBc hs8 k8 u8 (by omega)).mono ?_
  rintro e w9 ⟨⟨t, ht, rfl⟩, u9, g9⟩
  have k9 := k8.grown hBc (by omega) g9
  have hs9 : c < w9.heap.size := Nat.lt_of_lt_of_le hs8 g9.size
  have B9 := Lib.hid (B8.out.grown g9 B8.out.size (fun k hk => by injection hk with hk; omega))
  clear k8 u8 g9 hs8 B8
  have hsz : (T ++ t).size ≤ 90 := by rw [ByteArray.size_append]; omega
  go_wp2_with fail
  refine (bent8_any c c a len cap (T ++ t) w9 hBc hs9 k9 u9 (by omega)).mono ?_
  rintro e w10 ⟨⟨z, hz, rfl⟩, u10, g10⟩
  have k10 := k9.grown hBc (by omega) g10
  have hs10 : c < w10.heap.size := Nat.lt_of_lt_of_le hs9 g10.size
  have B10 := Lib.hid (B9.out.grown g10 B9.out.size (fun k hk => by injection hk with hk; omega))
  clear k9 u9 g10 hs9 B9
  have hsz2 : (s ++ z).size ≤ 200 := by rw [ByteArray.size_append]; omega
  go_wp2_with fail
  refine (once_any c c a len cap 12 w10 hBc (by omega) k10 u10 (by omega) (by omega)).mono ?_
  rintro e w11 ⟨⟨b, rfl⟩, u11, g11⟩
  have k11 := k10.grown hBc (by omega) g11
  have hs11 : c < w11.heap.size := Nat.lt_of_lt_of_le hs10 g11.size
  have B11 := Lib.hid (B10.out.grown g11 B10.out.size (fun k hk => by injection hk with hk; omega))
  clear k10 u10 g11 hs10 B10
  cases b with
  | true =>
    clear k11 u11
    go_wp2
    try simp only [Exit.inBlock, Exit.then]
    refine bodyPost_ret (results_tmp4 rfl _ _ _) rfl ?_
    exact ⟨⟨v, p + 1, s ++ z, _, v0, by omega, by omega, by omega, hsz2, by omega, by omega, rfl⟩, B11.out⟩
  | false =>
    obtain ⟨W, hW⟩ : ∃ W, W = w11.alloc (.cells #[.int .i64 ((s.size : Int)), .int .i64 ((s.size : Int)), .int .i64 ((s.size : Int)), .int .i64 ((s.size : Int)), .int .i64 (0), .int .i64 ((s.size : Int) + (z.size : Int)), .int .i64 (-1), .int .i64 (9223372036854775807)] 3) := ⟨_, rfl⟩
    have alW : Below w11.heap.size w11 W := by rw [hW]; exact (Below.refl _ _).alloc (Nat.le_refl _) _
    have kW := k11.below (alW.mono (show c ≤ w11.heap.size by omega))
    have uW := u11.below (alW.mono (show c + 1 ≤ w11.heap.size by omega))
    have sW : w11.heap.size < W.heap.size := by rw [hW]; simp
    have rW : W.heap[w11.heap.size]? = some (.cells #[.int .i64 ((s.size : Int)), .int .i64 ((s.size : Int)), .int .i64 ((s.size : Int)), .int .i64 ((s.size : Int)), .int .i64 (0), .int .i64 ((s.size : Int) + (z.size : Int)), .int .i64 (-1), .int .i64 (9223372036854775807)] 3 (0, 0)) := by rw [hW]; exact heap_alloc_new w11 _
    have HCW := Lib.hid (pickInt_any c c w11.heap.size 8 8 a len cap [(s.size : Int), (s.size : Int), (s.size : Int), (s.size : Int), 0, (s.size : Int) + (z.size : Int), -1, 9223372036854775807] W hBc (by omega) kW uW sW (by omega) rfl (by omega) (by omega) (fun j hj => by
      rw [cell_of_row W w11.heap.size j _ 3 (0, 0) rW, List.getElem?_toArray]
      rfl))
    have HGW := Lib.hid (grown_ofB alW (some c))
    have HKW := Lib.hid kW
    have HWW := Lib.hid hW
    clear kW uW rW alW hW
    go_wp2_with fail
    rw [← HWW.out]
    refine HCW.out.mono ?_
    rintro e w20 ⟨⟨x, hx, rfl⟩, u20, g20⟩
    obtain ⟨q, hq, rfl⟩ := List.mem_map.1 hx
    have hq0 : -1 ≤ q ∧ q ≤ 9223372036854775807 := by
      simp only [List.mem_cons, List.not_mem_nil, or_false] at hq
      omega
    have B20 := Lib.hid ((B11.out.grown HGW.out B11.out.size (fun k hk => by injection hk with hk; omega)).grown g20 (by have := B11.out.size; omega) (fun k hk => by injection hk with hk; omega))
    clear hx hq g20 u20
    go_wp2
    try simp only [Exit.inBlock, Exit.then]
    refine bodyPost_ret (results_tmp4 rfl _ _ _) rfl ?_
    exact ⟨⟨v, p, s ++ z, q, v0, by omega, by omega, by omega, hsz2, hq0.1, hq0.2, rfl⟩, B20.out⟩

end Go.Proofs.Ythnpeecfianplaa.draw
