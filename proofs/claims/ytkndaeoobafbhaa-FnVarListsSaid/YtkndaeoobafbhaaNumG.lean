/-
  Contracts of the draws of lists of numbers: l03Int, l03List, DrawVarList, DrawReadVars (bounds only).
-/
import Derived.Test.YtkndaeoobafbhaaNumF
import Derived.Test.YtkndaeoobafbhaaInt3
namespace Go.Proofs.Ytkndaeoobafbhaa.draw
open Go.RowKit
open kit

/-- a list of at most 6 numbers -/
def PostN (c : Nat) (a : Option Addr) (len cap : Nat) (w : World) (e : Ending) (w' : World) : Prop :=
  (∃ (v : Value) (n : Nat) (xs : List Int), n ≤ 6 ∧ e = .returned v ∧ w'.ownsRow w.heap.size 3 1 v n (xs.map (Value.int .i64))) ∧ Cur w' c a len cap ∧ w.grownBy w' (some c)

set_option maxHeartbeats 1000000 in
theorem list3_any (B c : Nat) (a : Option Addr) (len cap : Nat) (w : World) (hBc : B ≤ c) (hcw : c < w.heap.size) (hc : CodeAt w B a len) (hu : Cur w c a len cap) :
    Calls Try.prog 46 #[.pointer (some ⟨c, 0, none⟩)] w (PostN c a len cap w) := by
  obtain ⟨i0, hi, hz0, hz1, hz2⟩ := info_parts ints.Try.infoInt
  go_enter Try.func46, Try.ntmps46
  go_wp2
  go_loopw [3, 4] (fun v i wr => ∃ (k : Nat) (xs : List Int), k ≤ 5 ∧ i = .int .i64 k ∧ wr.ownsRow w.heap.size 3 1 v k (xs.map (Value.int .i64)) ∧ Cur wr c a len cap ∧ CodeAt wr B a len ∧ w.grownBy wr (some c)) (fun _ i _ => 5 - (intOf i).toNat)
  case atStart => exact ⟨0, [], Nat.zero_le _, rfl, World.ownsRow_made _ _ _ (Nat.le_refl _) (by decide) rfl, hu.below ((Below.refl _ _).alloc (by omega) _), hc.below ((Below.refl _ _).alloc (by omega) _), World.grownBy_alloc _ _ _⟩
  case round =>
    obtain ⟨k, xs, hk, rfl, hown, hcur, hcode, hgr⟩ := hrel
    have hsz := hgr.size
    go_wp2_with fail
    refine (below_any B c a len cap 6 wr hBc (by omega) hcode hcur (by omega) (by omega)).mono ?_
    rintro e w1 ⟨⟨x1, l1, m1, rfl⟩, u1, g1⟩
    have own1 := hown.kept g1 (own_ne (own_base hown (by omega)))
    have code1 := hcode.grown hBc (by omega) g1
    have gr1 := grown_trans hgr g1
    have sz1 := gr1.size
    clear hown hcur hcode g1
    by_cases hlt : (k : Int) < x1
    · go_wp2_with (first | (go_at_call 39; refine (below_any B c a len cap 100000 w1 hBc (by omega) code1 u1 (by omega) (by omega)).mono ?_; rintro e w2 ⟨⟨x, x0, x1, rfl⟩, u2, g2⟩; have own2 := own1.kept g2 (own_ne (own_base own1 (by omega))); have sz2 := Nat.le_trans sz1 g2.size; have code2 := code1.grown hBc (by omega) g2) | (at_builtin; refine list_app2 (by rfl) (.tmp 12) (.tmp 15) 29 (by rfl) w.heap.size w2 3 i0 (.int .i64 0) 8 Try.underlying29 hi hz0 hz1 hz2 (by rfl) _ k _ own2 ?_ [.int .i64 x] 1 ?_ ?_ ?_ ?_ (by rfl) (by rfl) (by rfl) ?_ ?_; exact sz2; rfl; simp [Value.oneCell']; unfold maxLen; omega; omega; exact ⟨rfl, rfl, rfl⟩; intro v' w' hown' hb'))
      go_roundw
      case rel => exact ⟨k + 1, xs ++ [x], by omega, by go_num, by simpa using hown', u2.below (hb'.mono (by omega)), code2.below (hb'.mono (by omega)), grown_below (grown_trans gr1 g2) hb'⟩
      case measure => simp [intOf]; omega
    · go_wp2_with fail
      refine (once_any B c a len cap 8 w1 hBc (by omega) code1 u1 (by omega) (by omega)).mono ?_
      rintro e w2 ⟨⟨b, rfl⟩, u2, g2⟩
      have own2 := own1.kept g2 (own_ne (own_base own1 (by omega)))
      have code2 := code1.grown hBc (by omega) g2
      have gr2 := grown_trans gr1 g2
      have sz2 := gr2.size
      clear own1 code1 u1 g2 gr1
      cases b
      · go_wp2
        go_ret
        exact ⟨⟨_, k, xs, by omega, rfl, own2⟩, u2, gr2⟩
      · go_wp2_with (first | (go_at_call 50; refine (int3_any B c a len cap w2 hBc (by omega) code2 u2).mono ?_; rintro e w3 ⟨⟨x, rfl⟩, u3, g3⟩; have own3 := own2.kept g3 (own_ne (own_base own2 (by omega))); have sz3 := Nat.le_trans sz2 g3.size) | (at_builtin; refine list_app2 (by rfl) (.tmp 19) (.tmp 22) 29 (by rfl) w.heap.size w3 3 i0 (.int .i64 0) 8 Try.underlying29 hi hz0 hz1 hz2 (by rfl) _ k _ own3 ?_ [.int .i64 x] 1 ?_ ?_ ?_ ?_ (by rfl) (by rfl) (by rfl) ?_ ?_; exact sz3; rfl; simp [Value.oneCell']; unfold maxLen; omega; omega; exact ⟨rfl, rfl, rfl⟩; intro v' w' hown' hb'))
        go_ret
        exact ⟨⟨_, k + 1, xs ++ [x], by omega, rfl, by simpa using hown'⟩, u3.below (hb'.mono (by omega)), grown_below (grown_trans gr2 g3) hb'⟩

/-- a list of at most 6 numbers; nothing of what was there turns -/
def PostM (w : World) (e : Ending) (w' : World) : Prop :=
  ∃ (ad : Option Addr) (c n : Nat) (xs : List Int), n ≤ 6 ∧ e = .returned (.slice ad n c) ∧ w'.ownsRow w.heap.size 3 1 (.slice ad n c) n (xs.map (Value.int .i64)) ∧ Below w.heap.size w w'
theorem varList_any (a : Option Addr) (len cap : Nat) (w : World) (hc : CodeAt w w.heap.size a len) :
    Calls Try.prog 23 #[.slice a len cap] w (PostM w) := by
  go_enter Try.func23, Try.ntmps23
  go_wp2_with fail
  refine (new_any w.heap.size a len cap w (Nat.le_refl _) hc).mono ?_
  rintro e w1 ⟨rfl, u1, b1, sz1⟩
  have code1 := hc.below b1
  have hs1 : w.heap.size < w1.heap.size := by omega
  clear sz1 hc
  go_wp2_with fail
  refine (list3_any w.heap.size w.heap.size a len cap w1 (Nat.le_refl _) hs1 code1 u1).mono ?_
  rintro e w2 ⟨⟨v, n, xs, hn, rfl, hown⟩, u2, g2⟩
  have b2 := below_of w w1 w2 b1 g2
  obtain ⟨ad, c, rfl⟩ := num.own_slice hown
  clear code1 u1 g2
  go_wp2
  go_ret
  exact ⟨ad, c, n, xs, hn, rfl, own_base hown (by omega), b2⟩

set_option maxHeartbeats 1000000 in
theorem readVars_any (a : Option Addr) (len cap : Nat) (w : World) (hc : CodeAt w w.heap.size a len) :
    Calls Try.prog 25 #[.slice a len cap] w (PostSI w) := by
  go_enter Try.func25, Try.ntmps25
  go_wp2_with fail
  refine (new_any w.heap.size a len cap w (Nat.le_refl _) hc).mono ?_
  rintro e w1 ⟨rfl, u1, b1, sz1⟩
  have code1 := hc.below b1
  have hs1 : w.heap.size < w1.heap.size := by omega
  clear sz1 hc
  go_wp2_with fail
  refine (list3_any w.heap.size w.heap.size a len cap w1 (Nat.le_refl _) hs1 code1 u1).mono ?_
  rintro e w2 ⟨⟨v, n, xs, hn, rfl, hown⟩, u2, g2⟩
  have b2 := below_of w w1 w2 b1 g2
  have code2 := code1.grown (Nat.le_refl _) (by omega) g2
  have hs2 := Nat.lt_of_lt_of_le hs1 g2.size
  obtain ⟨ad, c, rfl⟩ := num.own_slice hown
  have A2 := ints.At.of_own hown
  clear code1 u1 g2 hown b1
  go_wp2_with fail
  refine (num.specList_any ad c n xs w2 (by omega) A2).mono ?_
  rintro e w3 ⟨rfl, c3⟩
  have hvz := num.vl_size xs
  rw [A2.1] at hvz
  obtain ⟨T, hT⟩ : ∃ T, num.vl xs = T := ⟨_, rfl⟩
  rw [hT] at hvz
  rw [hT]
  have b3 := b2.trans (c3.mono (by omega))
  have code3 := code2.grown (Nat.le_refl _) (by omega) (grown_of c3 _)
  have u3 := u2.below (c3.mono (by omega))
  have hs3 := Nat.lt_of_lt_of_le hs2 c3.size
  have z1 : ({ data := #[97] } : ByteArray).size = 1 := rfl
  have z2 : ({ data := #[122] } : ByteArray).size = 1 := rfl
  have z3 : (({ data := #[97] } : ByteArray) ++ T).size = 1 + T.size := by rw [ByteArray.size_append, z1]
  have z4 : ((({ data := #[97] } : ByteArray) ++ T) ++ { data := #[122] }).size = 2 + T.size := by rw [ByteArray.size_append, z3, z2]; omega
  clear hT c3 u2 code2 b2 A2
  go_wp2_with fail
  obtain ⟨U, hU⟩ : ∃ U, (({ data := #[97] } : ByteArray) ++ T) ++ { data := #[122] } = U := ⟨_, rfl⟩
  rw [hU] at z4 ⊢
  have hUz : U.size ≤ 37 := by omega
  clear hU z1 z2 z3 z4 hvz
  refine (below_any w.heap.size w.heap.size a len cap 6 w3 (Nat.le_refl _) (by omega) code3 u3 (by omega) (by omega)).mono ?_
  rintro e w4 ⟨⟨y, l4, m4, rfl⟩, u4, g4⟩
  have b4 := below_of w w3 w4 b3 g4
  have code4 := code3.grown (Nat.le_refl _) (by omega) g4
  have hs4 := Nat.lt_of_lt_of_le hs3 g4.size
  clear g4 u3 code3 b3
  by_cases h0 : y = 0
  · subst h0
    go_wp2_with fail
    refine (below_any w.heap.size w.heap.size a len cap ((U.size : Int) + 1) w4 (Nat.le_refl _) (by omega) code4 u4 (by omega) (by omega)).mono ?_
    rintro e w5 ⟨⟨x, l5, m5, rfl⟩, u5, g5⟩
    obtain ⟨k, rfl⟩ := Int.eq_ofNat_of_zero_le l5
    have b5 := below_of w w4 w5 b4 g5
    have code5 := code4.grown (Nat.le_refl _) (by omega) g5
    have hs5 := Nat.lt_of_lt_of_le hs4 g5.size
    have hk1 : (k : Int) ≤ U.size := by omega
    have hV : (U.extract 0 k).size ≤ 37 := by rw [ByteArray.size_extract]; omega
    obtain ⟨V, hV2⟩ : ∃ V, U.extract 0 k = V := ⟨_, rfl⟩
    rw [hV2] at hV
    clear g5 u4 code4 b4
    go_wp2_with fail
    clear hV2
    refine (pickInt_any w.heap.size w.heap.size w5.heap.size 8 _ a len cap [1, 1, 1, 1, 0, (V.size : Int), -1, 9223372036854775807] _ (Nat.le_refl _) (by simp; omega) (code5.below ((Below.refl _ _).alloc (by omega) _)) (u5.below ((Below.refl _ _).alloc (by omega) _)) (by simp) (by omega) rfl (by omega) (by omega) (fun j hj => ?_)).mono ?_
    · rw [cell_of_row _ w5.heap.size j _ 3 (0, 0) (heap_alloc_new w5 _)]
      rw [List.getElem?_toArray]
      rfl
    rintro e w6 ⟨⟨v, hv, rfl⟩, u6, g6⟩
    obtain ⟨p, rfl⟩ : ∃ x, v = .int .i64 x := by
      obtain ⟨x, _, hx⟩ := List.mem_map.1 hv
      exact ⟨x, hx.symm⟩
    have g6' := grown_trans (World.grownBy_alloc w5 _ (some w.heap.size)) g6
    have b6 := below_of w w5 w6 b5 g6'
    clear hv g6 g6' u5 code5 b5
    go_wp2
    go_ret2
    exact ⟨⟨_, _, by omega, rfl⟩, b6⟩
  · by_cases h1 : y = 1
    · subst h1
      clear u4 code4
      go_wp2
      go_ret2
      exact ⟨⟨_, _, by decide, rfl⟩, b4⟩
    · have n0 : (y == 0) = false := by rw [beq_eq_false_iff_ne]; exact h0
      have n1 : (y == 1) = false := by rw [beq_eq_false_iff_ne]; exact h1
      go_wp2_with fail
      refine (pickInt_any w.heap.size w.heap.size w4.heap.size 8 _ a len cap [1, 1, 1, 1, 0, (U.size : Int), -1, 9223372036854775807] _ (Nat.le_refl _) (by simp; omega) (code4.below ((Below.refl _ _).alloc (by omega) _)) (u4.below ((Below.refl _ _).alloc (by omega) _)) (by simp) (by omega) rfl (by omega) (by omega) (fun j hj => ?_)).mono ?_
      · rw [cell_of_row _ w4.heap.size j _ 3 (0, 0) (heap_alloc_new w4 _)]
        rw [List.getElem?_toArray]
        rfl
      rintro e w6 ⟨⟨v, hv, rfl⟩, u6, g6⟩
      obtain ⟨p, rfl⟩ : ∃ x, v = .int .i64 x := by
        obtain ⟨x, _, hx⟩ := List.mem_map.1 hv
        exact ⟨x, hx.symm⟩
      have g6' := grown_trans (World.grownBy_alloc w4 _ (some w.heap.size)) g6
      have b6 := below_of w w4 w6 b4 g6'
      clear hv g6 g6' u4 code4 b4
      go_wp2
      go_ret2
      exact ⟨⟨_, _, by omega, rfl⟩, b6⟩

end Go.Proofs.Ytkndaeoobafbhaa.draw
