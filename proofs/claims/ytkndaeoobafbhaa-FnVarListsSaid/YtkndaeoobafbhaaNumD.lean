/-
  Contracts of DrawReadVar and DrawReadFix (bounds on sizes only), and of l01Long.
-/
import Derived.Test.YtkndaeoobafbhaaNumC
import Derived.Test.YtkndaeoobafbhaaDrawT
import Derived.Test.YtkndaeoobafbhaaInt3
namespace Go.Proofs.Ytkndaeoobafbhaa.draw
open Go.RowKit
open kit

/-- a text and a number -/
def PostSI (w : World) (e : Ending) (w' : World) : Prop := (∃ (s : ByteArray) (x : Int), s.size ≤ 100 ∧ e = .returned (.tuple #[.string s, .int .i64 x])) ∧ Below w.heap.size w w'

set_option maxHeartbeats 1000000 in
theorem readVar_any (a : Option Addr) (len cap : Nat) (w : World) (hc : CodeAt w w.heap.size a len) :
    Calls Try.prog 13 #[.slice a len cap] w (PostSI w) := by
  go_enter Try.func13, Try.ntmps13
  go_wp2_with fail
  refine (new_any w.heap.size a len cap w (Nat.le_refl _) hc).mono ?_
  rintro e w1 ⟨rfl, u1, b1, sz1⟩
  have code1 := hc.below b1
  have hs1 : w.heap.size < w1.heap.size := by omega
  clear sz1 hc
  go_wp2_with fail
  refine (pick_any w.heap.size w.heap.size w1.heap.size 3 _ a len cap [{ data := #[] }, { data := #[120] }, { data := #[97, 98] }] _ (Nat.le_refl _) (by simp; omega) (code1.below ((Below.refl _ _).alloc (by omega) _)) (u1.below ((Below.refl _ _).alloc (by omega) _)) (by simp) (by omega) rfl (by omega) (by omega) (fun j hj => ?_)).mono ?_
  · rw [cell_of_row _ w1.heap.size j _ 9 (0, 0) (heap_alloc_new w1 _)]
    rw [List.getElem?_toArray]
    rfl
  rintro e w2 ⟨⟨v, hv, rfl⟩, u2, g2⟩
  obtain ⟨s, rfl, hs⟩ : ∃ s : ByteArray, v = .string s ∧ s.size ≤ 2 := by
    obtain ⟨s, hs, rfl⟩ := List.mem_map.1 hv
    refine ⟨s, rfl, ?_⟩
    simp only [List.mem_cons, List.not_mem_nil, or_false] at hs
    rcases hs with rfl | rfl | rfl <;> decide
  have g2' := grown_trans (World.grownBy_alloc w1 _ (some w.heap.size)) g2
  have b2 := below_of w w1 w2 b1 g2'
  have code2 := code1.grown (Nat.le_refl _) (by omega) g2'
  have hs2 := Nat.lt_of_lt_of_le hs1 g2'.size
  clear hv g2 g2' u1 code1 b1
  go_wp2_with fail
  refine (below_any w.heap.size w.heap.size a len cap 1000000000 w2 (Nat.le_refl _) (by omega) code2 u2 (by omega) (by omega)).mono ?_
  rintro e w3 ⟨⟨x, l3, m3, rfl⟩, u3, g3⟩
  have b3 := below_of w w2 w3 b2 g3
  have code3 := code2.grown (Nat.le_refl _) (by omega) g3
  have hs3 := Nat.lt_of_lt_of_le hs2 g3.size
  clear g3 u2 code2 b2
  go_wp2_with fail
  refine (num.specVar_any x w3).mono ?_
  rintro e w4 ⟨rfl, c4⟩
  have hvz := num.vtI_size x
  have hsz := app_size hs hvz
  obtain ⟨T, hT⟩ : ∃ T, s ++ num.vtI x = T := ⟨_, rfl⟩
  have b4 := b3.trans (c4.mono (by omega))
  have code4 := code3.grown (Nat.le_refl _) (by omega) (grown_of c4 _)
  have u4 := u3.below (c4.mono (by omega))
  have hs4 := Nat.lt_of_lt_of_le hs3 c4.size
  rw [hT] at hsz
  clear c4 u3 code3 b3
  go_wp2_with fail
  clear hT hvz
  refine (below_any w.heap.size w.heap.size a len cap 6 w4 (Nat.le_refl _) (by omega) code4 u4 (by omega) (by omega)).mono ?_
  rintro e w5 ⟨⟨y, l5, m5, rfl⟩, u5, g5⟩
  have b5 := below_of w w4 w5 b4 g5
  have code5 := code4.grown (Nat.le_refl _) (by omega) g5
  have hs5 := Nat.lt_of_lt_of_le hs4 g5.size
  clear g5 u4 code4 b4
  by_cases h0 : y = 0
  · subst h0
    go_wp2_with fail
    refine (pick_any w.heap.size w.heap.size w5.heap.size 6 _ a len cap [{ data := #[128] }, { data := #[128, 0] }, { data := #[255, 255, 255, 255, 15] }, { data := #[128, 148, 235, 220, 3] }, { data := #[129, 148, 235, 220, 3] }, { data := #[128, 128, 128, 128, 128, 1] }] _ (Nat.le_refl _) (by simp; omega) (code5.below ((Below.refl _ _).alloc (by omega) _)) (u5.below ((Below.refl _ _).alloc (by omega) _)) (by simp) (by omega) rfl (by omega) (by omega) (fun j hj => ?_)).mono ?_
    · rw [cell_of_row _ w5.heap.size j _ 9 (0, 0) (heap_alloc_new w5 _)]
      rw [List.getElem?_toArray]
      rfl
    rintro e w6 ⟨⟨v, hv, rfl⟩, u6, g6⟩
    obtain ⟨z, rfl, hz⟩ : ∃ s : ByteArray, v = .string s ∧ s.size ≤ 6 := by
      obtain ⟨s, hs, rfl⟩ := List.mem_map.1 hv
      refine ⟨s, rfl, ?_⟩
      simp only [List.mem_cons, List.not_mem_nil, or_false] at hs
      rcases hs with rfl | rfl | rfl | rfl | rfl | rfl <;> decide
    have g6' := grown_trans (World.grownBy_alloc w5 _ (some w.heap.size)) g6
    have b6 := below_of w w5 w6 b5 g6'
    have code6 := code5.grown (Nat.le_refl _) (by omega) g6'
    have hs6 := Nat.lt_of_lt_of_le hs5 g6'.size
    have huz := app_size hs hz
    obtain ⟨U, hU⟩ : ∃ U, s ++ z = U := ⟨_, rfl⟩
    rw [hU] at huz
    clear hv g6 g6' u5 code5 b5
    go_wp2_with fail
    clear hU
    refine (below_any w.heap.size w.heap.size a len cap 3 w6 (Nat.le_refl _) (by omega) code6 u6 (by omega) (by omega)).mono ?_
    rintro e w7 ⟨⟨q, l7, m7, rfl⟩, u7, g7⟩
    obtain ⟨n, rfl⟩ := Int.eq_ofNat_of_zero_le l7
    have b7 := below_of w w6 w7 b6 g7
    have code7 := code6.grown (Nat.le_refl _) (by omega) g7
    have hs7 := Nat.lt_of_lt_of_le hs6 g7.size
    clear g7 u6 code6 b6
    go_wp2_with fail
    refine (text_any w.heap.size w.heap.size a len cap n w7 (Nat.le_refl _) hs7 code7 u7 (by omega)).mono ?_
    rintro e w8 ⟨⟨r, hr, rfl⟩, u8, g8⟩
    have b8 := below_of w w7 w8 b7 g8
    have hrz := app_size huz hr
    clear g8 u7 code7 b7
    go_wp2
    go_ret2
    exact ⟨⟨_, _, by omega, rfl⟩, b8⟩
  · by_cases h1 : y = 1
    · subst h1
      go_wp2_with fail
      refine (pickInt_any w.heap.size w.heap.size w5.heap.size 4 _ a len cap [-1, (T.size : Int), (T.size : Int) + 1, 9223372036854775807] _ (Nat.le_refl _) (by simp; omega) (code5.below ((Below.refl _ _).alloc (by omega) _)) (u5.below ((Below.refl _ _).alloc (by omega) _)) (by simp) (by omega) rfl (by omega) (by omega) (fun j hj => ?_)).mono ?_
      · rw [cell_of_row _ w5.heap.size j _ 3 (0, 0) (heap_alloc_new w5 _)]
        rw [List.getElem?_toArray]
        rfl
      rintro e w6 ⟨⟨v, hv, rfl⟩, u6, g6⟩
      obtain ⟨z, rfl⟩ : ∃ x, v = .int .i64 x := by
        obtain ⟨x, _, hx⟩ := List.mem_map.1 hv
        exact ⟨x, hx.symm⟩
      have g6' := grown_trans (World.grownBy_alloc w5 _ (some w.heap.size)) g6
      have b6 := below_of w w5 w6 b5 g6'
      clear hv g6 g6' u5 code5 b5
      go_wp2
      go_ret2
      exact ⟨⟨_, _, by omega, rfl⟩, b6⟩
    · have n0 : (y == 0) = false := by rw [beq_eq_false_iff_ne]; exact h0
      have n1 : (y == 1) = false := by rw [beq_eq_false_iff_ne]; exact h1
      go_wp2_with fail
      refine (below_any w.heap.size w.heap.size a len cap 3 w5 (Nat.le_refl _) (by omega) code5 u5 (by omega) (by omega)).mono ?_
      rintro e w7 ⟨⟨q, l7, m7, rfl⟩, u7, g7⟩
      obtain ⟨n, rfl⟩ := Int.eq_ofNat_of_zero_le l7
      have b7 := below_of w w5 w7 b5 g7
      have code7 := code5.grown (Nat.le_refl _) (by omega) g7
      have hs7 := Nat.lt_of_lt_of_le hs5 g7.size
      clear g7 u5 code5 b5
      go_wp2_with fail
      refine (text_any w.heap.size w.heap.size a len cap n w7 (Nat.le_refl _) hs7 code7 u7 (by omega)).mono ?_
      rintro e w8 ⟨⟨r, hr, rfl⟩, u8, g8⟩
      have b8 := below_of w w7 w8 b7 g8
      have hrz := app_size hsz hr
      clear g8 u7 code7 b7
      go_wp2
      go_ret2
      exact ⟨⟨_, _, by omega, rfl⟩, b8⟩

set_option maxHeartbeats 400000 in
theorem long_any (n : Nat) (x : Int) (w : World) (hn : n ≤ 5000) :
    Calls Try.prog 45 #[.int .i64 n, .int .u8 x] w fun e w' => (∃ s : ByteArray, s.size = n ∧ e = .returned (.string s)) ∧ Below w.heap.size w w' := by
  obtain ⟨i0, hi, hz0, hz1, hz2⟩ := info_parts Try.infoU8
  go_enter Try.func45, Try.ntmps45
  go_wp2_with (refine wpList_make_full _ (by rfl) _ _ 22 (by rfl) w.heap.size 5 i0 (.int .u8 0) 1 Try.underlying22 hi hz0 hz1 .i64 .i64 _ _ n (by rfl) (by rfl) ?_ ?_ ?_ ?_ ?_ ?_; omega; omega; (rw [hz2]; omega); (unfold maxLen; omega); exact Nat.le_refl _; intro w1 hown1 hg1)
  have hb1 : Below w.heap.size w w1 := (Below.refl _ _).grown hg1 (Nat.le_refl _) (fun k hk => by cases hk)
  have hown2 : w1.ownsRow w.heap.size 5 1 (.slice (some ⟨w.heap.size, 0, none⟩) n n) n ((List.replicate n (0 : Int)).map (Value.int .u8)) := by
    rw [show (Value.int IntKind.u8 0).cells = #[.int .u8 0] from rfl, toList_madeCells_one] at hown1
    simpa using hown1
  clear hown1
  go_loopw [6] (fun i wr => ∃ (k : Nat) (ys : List Int), k ≤ n ∧ i = .int .i64 k ∧ ys.length = n ∧ wr.ownsRow w.heap.size 5 1 (.slice (some ⟨w.heap.size, 0, none⟩) n n) n (ys.map (Value.int .u8)) ∧ Below w.heap.size w wr) (fun i _ => n - (intOf i).toNat)
  case atStart => exact ⟨0, _, Nat.zero_le _, rfl, by simp, hown2, hb1⟩
  case round =>
    obtain ⟨k, ys, hk, rfl, hy, hown, hb⟩ := hrel
    have HY := Lib.hid hy
    clear hown2
    by_cases hlt : k < n
    · obtain ⟨u, hcell⟩ : ∃ u, wr.cell? ⟨w.heap.size, k, none⟩ = some u := by
        rw [hown.cellAt k (by omega)]
        exact ⟨_, List.getElem?_eq_getElem (by rw [List.length_map, hy]; exact hlt)⟩
      have hfrz := hown.frozenAt k
      clear hy
      go_wp2
      have hst := hown.stored k (.int .u8 x)
      go_roundw
      case rel =>
        refine ⟨k + 1, ys.set k x, by omega, by go_num, by rw [List.length_set]; exact HY.out, ?_, hb.setCell (Nat.le_refl _) _⟩
        rw [← List.map_set] at hst
        exact hst.1
      case measure => simp [intOf]; omega
    · obtain rfl : k = n := by omega
      have hcv := conv_own Try.underlying22 Try.underlying5 hown
      clear hy
      go_wp2
      go_ret
      exact ⟨⟨_, by rw [strOfNums_size]; exact HY.out, rfl⟩, hb⟩

/-- a text and two numbers -/
def PostSII (w : World) (e : Ending) (w' : World) : Prop := (∃ (s : ByteArray) (x y : Int), s.size ≤ 100 ∧ e = .returned (.tuple #[.string s, .int .i64 x, .int .i64 y])) ∧ Below w.heap.size w w'

set_option maxHeartbeats 1000000 in
theorem readFix_any (a : Option Addr) (len cap : Nat) (w : World) (hc : CodeAt w w.heap.size a len) :
    Calls Try.prog 20 #[.slice a len cap] w (PostSII w) := by
  go_enter Try.func20, Try.ntmps20
  go_wp2_with fail
  refine (new_any w.heap.size a len cap w (Nat.le_refl _) hc).mono ?_
  rintro e w1 ⟨rfl, u1, b1, sz1⟩
  have code1 := hc.below b1
  have hs1 : w.heap.size < w1.heap.size := by omega
  clear sz1 hc
  go_wp2_with fail
  refine (below_any w.heap.size w.heap.size a len cap 12 w1 (Nat.le_refl _) (by omega) code1 u1 (by omega) (by omega)).mono ?_
  rintro e w2 ⟨⟨q, l2, m2, rfl⟩, u2, g2⟩
  obtain ⟨n, rfl⟩ := Int.eq_ofNat_of_zero_le l2
  have b2 := below_of w w1 w2 b1 g2
  have code2 := code1.grown (Nat.le_refl _) (by omega) g2
  have hs2 := Nat.lt_of_lt_of_le hs1 g2.size
  clear g2 u1 code1 b1
  go_wp2_with fail
  refine (text_any w.heap.size w.heap.size a len cap n w2 (Nat.le_refl _) hs2 code2 u2 (by omega)).mono ?_
  rintro e w3 ⟨⟨s, hs, rfl⟩, u3, g3⟩
  have b3 := below_of w w2 w3 b2 g3
  have code3 := code2.grown (Nat.le_refl _) (by omega) g3
  have hs3 := Nat.lt_of_lt_of_le hs2 g3.size
  have hs11 : s.size ≤ 11 := by omega
  clear g3 u2 code2 b2 hs
  go_wp2_with fail
  refine (once_any w.heap.size w.heap.size a len cap 4 w3 (Nat.le_refl _) (by omega) code3 u3 (by omega) (by omega)).mono ?_
  rintro e w4 ⟨⟨b, rfl⟩, u4, g4⟩
  have b4 := below_of w w3 w4 b3 g4
  have code4 := code3.grown (Nat.le_refl _) (by omega) g4
  have hs4 := Nat.lt_of_lt_of_le hs3 g4.size
  clear g4 u3 code3 b3
  cases b
  · have b5 := b4
    have code5 := code4
    have u5 := u4
    have hs5 := hs4
    clear b4 code4 u4 hs4
    go_wp2_with fail
    refine (pickInt_any w.heap.size w.heap.size w4.heap.size 7 _ a len cap [0, 1, 4, (s.size : Int), -1, 9223372036854775807, (s.size : Int) - 8] _ (Nat.le_refl _) (by simp; omega) (code5.below ((Below.refl _ _).alloc (by omega) _)) (u5.below ((Below.refl _ _).alloc (by omega) _)) (by simp) (by omega) rfl (by omega) (by omega) (fun j hj => ?_)).mono ?_
    · rw [cell_of_row _ w4.heap.size j _ 3 (0, 0) (heap_alloc_new w4 _)]
      rw [List.getElem?_toArray]
      rfl
    rintro e w6 ⟨⟨v, hv, rfl⟩, u6, g6⟩
    obtain ⟨p, rfl⟩ : ∃ x, v = .int .i64 x := by
      obtain ⟨x, _, hx⟩ := List.mem_map.1 hv
      exact ⟨x, hx.symm⟩
    have g6' := grown_trans (World.grownBy_alloc w4 _ (some w.heap.size)) g6
    have b6 := below_of w w4 w6 b5 g6'
    have code6 := code5.grown (Nat.le_refl _) (by omega) g6'
    have hs6 := Nat.lt_of_lt_of_le hs5 g6'.size
    clear hv g6 g6' u5 code5 b5
    go_wp2_with fail
    refine (pickInt_any w.heap.size w.heap.size w6.heap.size 6 _ a len cap [1, 2, 4, 8, 0, 9] _ (Nat.le_refl _) (by simp; omega) (code6.below ((Below.refl _ _).alloc (by omega) _)) (u6.below ((Below.refl _ _).alloc (by omega) _)) (by simp) (by omega) rfl (by omega) (by omega) (fun j hj => ?_)).mono ?_
    · rw [cell_of_row _ w6.heap.size j _ 3 (0, 0) (heap_alloc_new w6 _)]
      rw [List.getElem?_toArray]
      rfl
    rintro e w7 ⟨⟨v, hv, rfl⟩, u7, g7⟩
    obtain ⟨o, rfl⟩ : ∃ x, v = .int .i64 x := by
      obtain ⟨x, _, hx⟩ := List.mem_map.1 hv
      exact ⟨x, hx.symm⟩
    have g7' := grown_trans (World.grownBy_alloc w6 _ (some w.heap.size)) g7
    have b7 := below_of w w6 w7 b6 g7'
    clear hv g7 g7' u6 code6 b6
    go_wp2
    go_ret3
    exact ⟨⟨_, _, _, by omega, rfl⟩, b7⟩
  · go_wp2_with fail
    refine (long_any 8 255 w4 (by omega)).mono ?_
    rintro e w5 ⟨⟨r, hr, rfl⟩, c5⟩
    have b5 := b4.trans (c5.mono (by omega))
    have code5 := code4.grown (Nat.le_refl _) (by omega) (grown_of c5 _)
    have u5 := u4.below (c5.mono (by omega))
    have hs5 := Nat.lt_of_lt_of_le hs4 c5.size
    have hT := app_size hs11 (Nat.le_of_eq hr)
    obtain ⟨T, hT2⟩ : ∃ T, s ++ r = T := ⟨_, rfl⟩
    rw [hT2] at hT
    clear c5 u4 code4 b4 hs4
    go_wp2_with fail
    refine (pickInt_any w.heap.size w.heap.size w5.heap.size 7 _ a len cap [0, 1, 4, (T.size : Int), -1, 9223372036854775807, (T.size : Int) - 8] _ (Nat.le_refl _) (by simp; omega) (code5.below ((Below.refl _ _).alloc (by omega) _)) (u5.below ((Below.refl _ _).alloc (by omega) _)) (by simp) (by omega) rfl (by omega) (by omega) (fun j hj => ?_)).mono ?_
    · rw [cell_of_row _ w5.heap.size j _ 3 (0, 0) (heap_alloc_new w5 _)]
      rw [List.getElem?_toArray]
      rfl
    rintro e w6 ⟨⟨v, hv, rfl⟩, u6, g6⟩
    obtain ⟨p, rfl⟩ : ∃ x, v = .int .i64 x := by
      obtain ⟨x, _, hx⟩ := List.mem_map.1 hv
      exact ⟨x, hx.symm⟩
    have g6' := grown_trans (World.grownBy_alloc w5 _ (some w.heap.size)) g6
    have b6 := below_of w w5 w6 b5 g6'
    have code6 := code5.grown (Nat.le_refl _) (by omega) g6'
    have hs6 := Nat.lt_of_lt_of_le hs5 g6'.size
    clear hv g6 g6' u5 code5 b5
    go_wp2_with fail
    refine (pickInt_any w.heap.size w.heap.size w6.heap.size 6 _ a len cap [1, 2, 4, 8, 0, 9] _ (Nat.le_refl _) (by simp; omega) (code6.below ((Below.refl _ _).alloc (by omega) _)) (u6.below ((Below.refl _ _).alloc (by omega) _)) (by simp) (by omega) rfl (by omega) (by omega) (fun j hj => ?_)).mono ?_
    · rw [cell_of_row _ w6.heap.size j _ 3 (0, 0) (heap_alloc_new w6 _)]
      rw [List.getElem?_toArray]
      rfl
    rintro e w7 ⟨⟨v, hv, rfl⟩, u7, g7⟩
    obtain ⟨o, rfl⟩ : ∃ x, v = .int .i64 x := by
      obtain ⟨x, _, hx⟩ := List.mem_map.1 hv
      exact ⟨x, hx.symm⟩
    have g7' := grown_trans (World.grownBy_alloc w6 _ (some w.heap.size)) g7
    have b7 := below_of w w6 w7 b6 g7'
    clear hv g7 g7' u6 code6 b6
    go_wp2
    go_ret3
    exact ⟨⟨_, _, _, by omega, rfl⟩, b7⟩

end Go.Proofs.Ytkndaeoobafbhaa.draw
