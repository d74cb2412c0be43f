/-
  Contract of spec.l10Frames: how long its text may be.
-/
import Derived.Test.YtiehfobcbhgfkaaGreatDoorScP
import Derived.Test.YtiehfobcbhgfkaaGreatDoorLater
import Derived.BigQuiet
import Derived.Test.YtiehfobcbhgfkaaGreatDoorSlP
import Derived.Test.YtiehfobcbhgfkaaGreatDoorHdP
import Derived.Test.YtiehfobcbhgfkaaGreatDoorTbQ
namespace Go.Proofs.YtiehfobcbhgfkaaGreatDoor.sc
set_option maxRecDepth 20000
open Go.RowKit
open kit sum num burst hd fr

set_option maxHeartbeats 2000000 in
theorem frames10_any (v s bb l : Int) (a : Option Addr) (c n : Nat) (xs : List ByteArray) (w : World) (hn : n ≤ 1000) (hx : ∀ x ∈ xs, x.size ≤ 60) (ha : strs.At w a n xs) :
    Calls Tryz.prog 144 #[.agg #[.int .i64 v, .int .i64 s, .int .i64 bb, .int .i64 l], .slice a n c] w fun e w' => (∃ t : ByteArray, t.size ≤ 24 + 72 * n ∧ e = .returned (.string t)) ∧ Below w.heap.size w w' := by
  have HL := Lib.hid ha.1
  have HX := Lib.hid hx
  have CH := Lib.hid (fun w => specHeadText v s bb l w)
  have hhl := hdT_le ⟨v, s, bb, l⟩
  obtain ⟨H, hH⟩ : ∃ H, hdT ⟨v, s, bb, l⟩ = H := ⟨_, rfl⟩
  rw [hH] at CH hhl
  have al : Below w.heap.size w (w.alloc (.cells #[.int .i64 v, .int .i64 s, .int .i64 bb, .int .i64 l] 45)) := (Below.refl _ _).alloc (Nat.le_refl _) _
  have bx := Box.new w #[.int .i64 v, .int .i64 s, .int .i64 bb, .int .i64 l] 45
  obtain ⟨W, hW⟩ : ∃ W, W = w.alloc (.cells #[.int .i64 v, .int .i64 s, .int .i64 bb, .int .i64 l] 45) := ⟨_, rfl⟩
  rw [← hW] at al bx
  have HA := Lib.hid (ha.below al)
  have B0 := Lib.hid al
  have BX := Lib.hid bx
  have z0 : w.heap.size < W.heap.size := bx.lt
  have x0 := bx.at 0 _ rfl
  have x1 := bx.at 1 _ rfl
  have x2 := bx.at 2 _ rfl
  have x3 := bx.at 3 _ rfl
  rw [hW] at x0 x1 x2 x3
  clear al bx hx ha hH
  go_enter Tryz.func144, Tryz.ntmps144
  go_wp2_with fail
  rw [← hW]
  clear hW x0 x1 x2 x3
  refine (CH.out _).mono ?_
  rintro e w1 ⟨rfl, b1⟩
  have B1 := Lib.hid b1
  clear b1
  go_wp2
  go_loopw [5, 6] (fun t i wr => ∃ (k : Nat) (T : ByteArray), k ≤ n ∧ i = .int .i64 k ∧ t = .string T ∧ T.size ≤ 24 + 72 * k ∧ Hid (Below W.heap.size W wr)) (fun _ i _ => n - (intOf i).toNat)
  case atStart => exact ⟨0, H, Nat.zero_le _, rfl, rfl, by omega, B1⟩
  case round =>
    obtain ⟨k, T, hk, rfl, rfl, hT, hb⟩ := hrel
    by_cases hlt : k < n
    · obtain ⟨x, hxk⟩ : ∃ x, xs[k]? = some x := ⟨_, List.getElem?_eq_getElem (by rw [HL.out]; exact hlt)⟩
      obtain ⟨g, o, rfl, hg, hc⟩ := HA.out.2.resolve_left (by omega)
      have hx60 := HX.out x (List.mem_of_getElem? hxk)
      have bw := BX.out.below hb.out
      have c1 := Later.cell ((hb.out.cell (p := ⟨g, o + k, none⟩) hg).trans (hc k x hxk)) (Nat.lt_of_lt_of_le hg hb.out.size)
      have x0 := Later.cell (bw.at 0 _ rfl) bw.lt
      have x2 := Later.cell (bw.at 2 _ rfl) bw.lt
      have CF := Lib.hid (fun p w => specFrame_any v p x w (by omega))
      have hF := frT_le v (RowKit.wrap64 (bb + (k : Int))) x
      have i0 : (0 : Int) ≤ (k : Int) := by omega
      have i1 : (k : Int) < (n : Int) := by omega
      have HB := Lib.hid hb.out
      clear hc hxk bw
      go_wp2
      refine wp_region_later (by kernel_rfl) (by kernel_rfl) ?_
      repeat (first | go_big_quiet_skip | (go_big_quiet_want; go_big_quiet_op; go_big_quiet_on))
      go_big_quiet_want
      go_big_quiet_op
      apply Exists.intro
      refine ⟨fun x => ?_, ?_⟩
      · go_at_call 79
        exact Calls.later (CF.out _ x.val)
      go_big_quiet_on
      repeat (first | go_big_quiet_skip | (go_big_quiet_want; go_big_quiet_op; go_big_quiet_on))
      refine wpQuiet_nil ?_
      rintro w2 ⟨x2, hx2⟩
      have b2 : Below wr.heap.size wr w2 := hx2 ▸ x2.2
      clear hx2 x2
      go_wp2
      go_roundw
      case rel => exact ⟨k + 1, _, by omega, by go_num, rfl, by rw [ByteArray.size_append]; omega, Lib.hid (HB.out.trans (b2.mono HB.out.size))⟩
      case measure => simp [intOf]; omega
    · obtain rfl : k = n := by omega
      go_wp2
      go_ret
      exact ⟨⟨T, hT, rfl⟩, B0.out.trans (hb.out.mono B0.out.size)⟩

end Go.Proofs.YtiehfobcbhgfkaaGreatDoor.sc

namespace Go.Proofs.YtiehfobcbhgfkaaGreatDoor.draw
set_option maxRecDepth 20000
open Go.RowKit
open kit hd sc sl

theorem box_kept {w w' : World} {g c : Nat} {cs : List Value} (h : Box w g cs) (k : w.grownBy w' (some c)) (hne : g ≠ c) : Box w' g cs := by
  have hb := k.block g h.lt (fun e => hne (Option.some.inj e))
  refine ⟨⟨Nat.lt_of_lt_of_le h.lt k.size, fun j x hj => ?_⟩, fun j => (World.frozen?_of_block (a := ⟨g, j, none⟩) hb).trans (h.2 j)⟩
  rw [← h.1.2 j x hj]
  unfold World.cell?
  rw [hb]
theorem slT_few (h : Hd) (rs : List ByteArray) : (slT h rs).size ≤ 57 + 82 * rs.length := by
  by_cases hk : okS h rs
  · rw [slT_yes hk, ByteArray.size_append]
    have h1 := tx_le72 h rs rs.length
    have h2 := pl.ftT_le h (offL h rs) ((tx h rs rs.length).size : Int)
    rw [offL_length] at h2
    omega
  · rw [slT_no hk]; exact Nat.zero_le _

set_option maxHeartbeats 2000000 in
theorem file10_any (B c : Nat) (a : Option Addr) (len cap : Nat) (w : World) (hBc : B ≤ c) (hcw : c < w.heap.size) (hc : CodeAt w B a len) (hu : Cur w c a len cap) :
    Calls Tryz.prog 147 #[.pointer (some ⟨c, 0, none⟩)] w (PostS c a len cap 1000 w) := by
  have k0 := hc
  have u0 := hu
  have hs0 := hcw
  have G0 := Lib.hid (grown_refl w (some c))
  go_enter Tryz.func147, Tryz.ntmps147
  go_wp2_with fail
  refine (head8_any B c a len cap w hBc hs0 k0 u0).mono ?_
  rintro e w1 ⟨⟨x, y, z, u, rfl⟩, u1, g1⟩
  have k1 := k0.grown hBc (by omega) g1
  have hs1 : c < w1.heap.size := Nat.lt_of_lt_of_le hs0 g1.size
  have G1 := Lib.hid (grown_trans G0.out g1)
  clear k0 u0 hs0 G0
  have al := (Below.refl w1.heap.size w1).alloc (Nat.le_refl _) (.cells #[.int .i64 x, .int .i64 y, .int .i64 z, .int .i64 u] 45)
  have bx := Box.new w1 #[.int .i64 x, .int .i64 y, .int .i64 z, .int .i64 u] 45
  obtain ⟨w2, hw2⟩ : ∃ w2, w2 = w1.alloc (.cells #[.int .i64 x, .int .i64 y, .int .i64 z, .int .i64 u] 45) := ⟨_, rfl⟩
  rw [← hw2] at al bx
  have k2 := k1.below (al.mono (show B ≤ w1.heap.size by omega))
  have u2 := u1.below (al.mono (show c + 1 ≤ w1.heap.size by omega))
  have hs2 : c < w2.heap.size := Nat.lt_of_lt_of_le hs1 al.size
  have G2 := Lib.hid (grown_below G1.out (al.mono G1.out.size))
  have hg : c < w1.heap.size := hs1
  have HW2 := Lib.hid hw2
  clear k1 u1 hs1 G1 al hw2
  go_wp2_with fail
  rw [← HW2.out]
  refine (records8_any B c a len cap 6 w2 hBc hs2 k2 u2 (by omega)).mono ?_
  rintro e w3 ⟨⟨v, n, xs, rfl, hn, hx, ho⟩, u3, g3⟩
  have k3 := k2.grown hBc (by omega) g3
  have hs3 : c < w3.heap.size := Nat.lt_of_lt_of_le hs2 g3.size
  have G3 := Lib.hid (grown_trans G2.out g3)
  have bx := box_kept bx g3 (by omega)
  clear k2 u2 G2 HW2
  go_wp2_with fail
  refine (once_any B c a len cap 2 w3 hBc (by omega) k3 u3 (by decide) (by decide)).mono ?_
  rintro e w4 ⟨⟨o, rfl⟩, u4, g4⟩
  have k4 := k3.grown hBc (by omega) g4
  have hs4 : c < w4.heap.size := Nat.lt_of_lt_of_le hs3 g4.size
  have G4 := Lib.hid (grown_trans G3.out g4)
  clear k3 u3 hs3 G3
  have ho := own_base (ho.kept g4 (own_ne (own_base ho (show c + 1 ≤ w2.heap.size by omega)))) (show c + 1 ≤ w2.heap.size by omega)
  have bx := box_kept bx g4 (by omega)
  obtain ⟨av, cv, rfl, hxl, _, _⟩ := own_form ho
  have hxl' : xs.length = n := by simpa using hxl
  have AT := Lib.hid (strs.At.of_own ho)
  have y0 := bx.at 0 _ rfl
  have y1 := bx.at 1 _ rfl
  have y2 := bx.at 2 _ rfl
  have y3 := bx.at 3 _ rfl
  clear ho bx g3 g4
  cases o with
  | true =>
    have hT := slT_few ⟨x, y, z, u⟩ xs
    have CT := Lib.hid (specSeal x y z u av cv n xs w4 (by omega) AT.out)
    obtain ⟨T, hTT⟩ : ∃ T, slT ⟨x, y, z, u⟩ xs = T := ⟨_, rfl⟩
    rw [hTT] at CT hT
    clear hTT
    go_wp2_with fail
    refine (CT.out).mono ?_
    rintro e w5 ⟨rfl, b5⟩
    have k5 := k4.below (b5.mono (show B ≤ w4.heap.size by omega))
    have u5 := u4.below (b5.mono (show c + 1 ≤ w4.heap.size by omega))
    have hs5 : c < w5.heap.size := Nat.lt_of_lt_of_le hs4 b5.size
    have G5 := Lib.hid (grown_below G4.out (b5.mono G4.out.size))
    clear k4 u4 hs4 G4
    go_wp2_with fail
    refine (bent8_any B c a len cap T w5 hBc hs5 k5 u5 (by omega)).mono ?_
    rintro e w6 ⟨⟨r, hr, rfl⟩, u6, g6⟩
    have k6 := k5.grown hBc (by omega) g6
    have hs6 : c < w6.heap.size := Nat.lt_of_lt_of_le hs5 g6.size
    have G6 := Lib.hid (grown_trans G5.out g6)
    clear k5 u5 hs5 G5
    go_wp2
    go_ret
    exact ⟨⟨r, by omega, rfl⟩, u6, G6.out⟩
  | false =>
    have CT := Lib.hid (frames10_any x y z u av cv n xs w4 (by omega) hx AT.out)
    go_wp2_with fail
    refine (CT.out).mono ?_
    rintro e w5 ⟨⟨T, hT, rfl⟩, b5⟩
    have k5 := k4.below (b5.mono (show B ≤ w4.heap.size by omega))
    have u5 := u4.below (b5.mono (show c + 1 ≤ w4.heap.size by omega))
    have hs5 : c < w5.heap.size := Nat.lt_of_lt_of_le hs4 b5.size
    have G5 := Lib.hid (grown_below G4.out (b5.mono G4.out.size))
    clear k4 u4 hs4 G4
    go_wp2_with fail
    refine (bent8_any B c a len cap T w5 hBc hs5 k5 u5 (by omega)).mono ?_
    rintro e w6 ⟨⟨r, hr, rfl⟩, u6, g6⟩
    have k6 := k5.grown hBc (by omega) g6
    have hs6 : c < w6.heap.size := Nat.lt_of_lt_of_le hs5 g6.size
    have G6 := Lib.hid (grown_trans G5.out g6)
    clear k5 u5 hs5 G5
    go_wp2
    go_ret
    exact ⟨⟨r, by omega, rfl⟩, u6, G6.out⟩

end Go.Proofs.YtiehfobcbhgfkaaGreatDoor.draw
