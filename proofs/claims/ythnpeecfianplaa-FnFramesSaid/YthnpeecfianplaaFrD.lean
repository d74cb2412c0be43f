/-
  Contracts of the draws of frames: what a text may hold, and which version and place come.
-/
import Derived.Test.YthnpeecfianplaaFrB
import Derived.Test.YthnpeecfianplaaHdF
import Derived.Test.YthnpeecfianplaaBent
namespace Go.Proofs.Ythnpeecfianplaa.draw
open Go.RowKit
open kit fr

theorem grown_ofB {w w' : World} (h : Below w.heap.size w w') (row : Option Nat) : w.grownBy w' row := ⟨h.os, h.tape, h.output, h.size, fun i hi _ => h.block i hi⟩

set_option maxHeartbeats 1000000 in
theorem long_any (n : Nat) (x : Int) (w : World) (hn : n ≤ 5000) :
    Calls Try.prog 50 #[.int .i64 (n : Int), .int .u8 x] w fun e w' => (∃ s : ByteArray, s.size = n ∧ e = .returned (.string s)) ∧ Below w.heap.size w w' := by
  obtain ⟨i0, hi, hz0, hz1, hz2⟩ := info_parts Try.infoU8
  go_enter Try.func50, Try.ntmps50
  go_wp2_with (refine wpList_make_full _ (by rfl) _ _ 22 (by rfl) w.heap.size 5 i0 (.int .u8 0) 1 Try.underlying22 hi hz0 hz1 .i64 .i64 _ _ n (by rfl) (by rfl) rfl rfl ?_ ?_ ?_ ?_; (rw [hz2]; omega); (unfold maxLen; omega); exact Nat.le_refl _; intro w1 hown1 hg1)
  have hown1 : w1.ownsRow w.heap.size 5 1 (.slice (some ⟨w.heap.size, 0, none⟩) n n) n ((List.replicate n (0 : Int)).map (Value.int .u8)) := by
    have e : (madeCells (Value.cells (.int .u8 0)) (n * 1)).toList = (List.replicate n (0 : Int)).map (Value.int .u8) := by
      rw [Nat.mul_one, List.map_replicate]
      exact toList_madeCells_one _ _
    rw [← e]
    exact hown1
  have hb1 : Below w.heap.size w w1 := (Below.refl _ _).grown hg1 (Nat.le_refl _) (fun k hk => by cases hk)
  go_wp2
  go_loopw [6] (fun i wr => ∃ (k : Nat) (xs : List Int), k ≤ n ∧ i = .int .i64 k ∧ wr.ownsRow w.heap.size 5 1 (.slice (some ⟨w.heap.size, 0, none⟩) n n) n (xs.map (Value.int .u8)) ∧ Below w.heap.size w wr) (fun i _ => n - (intOf i).toNat)
  case atStart => exact ⟨0, _, Nat.zero_le _, rfl, hown1, hb1⟩
  case round =>
    obtain ⟨k, xs, hk, rfl, hown, hb⟩ := hrel
    by_cases hlt : k < n
    · have hs := hown.stored k (.int .u8 x)
      have hfz := hown.frozenAt k
      have HO := Lib.hid (show (wr.setCell ⟨w.heap.size, k, none⟩ (.int .u8 x)).ownsRow w.heap.size 5 1 (.slice (some ⟨w.heap.size, 0, none⟩) n n) n ((xs.set k x).map (Value.int .u8)) by rw [List.map_set]; exact hs.1)
      have hl : (xs.map (Value.int .u8)).length = n := by have := hown.1; omega
      have hcell : wr.cell? ⟨w.heap.size, k, none⟩ = (xs.map (Value.int .u8))[k]? := hown.cellAt k (by omega)
      rw [List.getElem?_eq_getElem (by omega)] at hcell
      have HB := Lib.hid (hb.setCell (p := ⟨w.heap.size, k, none⟩) (Nat.le_refl _) (.int .u8 x))
      clear hs
      go_wp2
      go_roundw
      case rel => exact ⟨k + 1, xs.set k x, by omega, by go_num, HO.out, HB.out⟩
      case measure => simp [intOf]; omega
    · obtain rfl : k = n := by omega
      have hcv := conv_own Try.underlying22 Try.underlying5 hown
      have hl : (strOfNums xs).size = k := by rw [strOfNums_size]; have := hown.1; simpa using this
      have HL := Lib.hid hl
      clear hl
      go_wp2
      go_ret
      exact ⟨⟨_, HL.out, rfl⟩, hb⟩

set_option maxHeartbeats 1000000 in
theorem record9_any (B c : Nat) (a : Option Addr) (len cap : Nat) (w : World) (hBc : B ≤ c) (hcw : c < w.heap.size) (hc : CodeAt w B a len) (hu : Cur w c a len cap) :
    Calls Try.prog 42 #[.pointer (some ⟨c, 0, none⟩)] w (PostS c a len cap 61 w) := by
  go_enter Try.func42, Try.ntmps42
  go_wp2_with fail
  refine (once_any B c a len cap 12 w hBc (by omega) hc hu (by omega) (by omega)).mono ?_
  rintro e w1 ⟨⟨b, rfl⟩, u1, g1⟩
  have k1 := hc.grown hBc (by omega) g1
  have s1 := g1.size
  clear hc hu
  cases b with
  | true =>
    go_wp2_with fail
    refine (below_any B c a len cap 2 w1 hBc (by omega) k1 u1 (by omega) (by omega)).mono ?_
    rintro e w2 ⟨⟨y, l2, m2, rfl⟩, u2, g2⟩
    have s2 := g2.size
    have G2 := Lib.hid (grown_trans g1 g2)
    obtain ⟨n, rfl⟩ := Int.eq_ofNat_of_zero_le l2
    clear k1 u1 g1 g2
    go_wp2_with fail
    rw [show (60 : Int) + (n : Int) = ((60 + n : Nat) : Int) by omega]
    refine (long_any (60 + n) 5 w2 (by omega)).mono ?_
    rintro e w3 ⟨⟨s, hs, rfl⟩, b3⟩
    have U3 := Lib.hid (u2.below (b3.mono (show c + 1 ≤ w2.heap.size by omega)))
    clear u2
    go_wp2
    go_ret
    exact ⟨⟨s, by omega, rfl⟩, U3.out, grown_trans G2.out (grown_ofB b3 (some c))⟩
  | false =>
    go_wp2_with fail
    refine (record8_any B c a len cap w1 hBc (by omega) k1 u1).mono ?_
    rintro e w2 ⟨⟨s, hs, rfl⟩, u2, g2⟩
    clear k1 u1
    go_wp2
    go_ret
    exact ⟨⟨s, by omega, rfl⟩, u2, grown_trans g1 g2⟩

/-- a version; only the cursor is written -/
def PostN (c : Nat) (a : Option Addr) (len cap : Nat) (lo hi : Int) (w : World) (e : Ending) (w' : World) : Prop :=
  (∃ q : Int, lo ≤ q ∧ q ≤ hi ∧ e = .returned (.int .i64 q)) ∧ Cur w' c a len cap ∧ w.grownBy w' (some c)

set_option maxHeartbeats 1000000 in
theorem version9_any (B c : Nat) (a : Option Addr) (len cap : Nat) (w : World) (hBc : B ≤ c) (hcw : c < w.heap.size) (hc : CodeAt w B a len) (hu : Cur w c a len cap) :
    Calls Try.prog 27 #[.pointer (some ⟨c, 0, none⟩)] w (PostN c a len cap 0 3 w) := by
  obtain ⟨W, hW⟩ : ∃ W, W = w.alloc (.cells #[.int .i64 (1), .int .i64 (2), .int .i64 (1), .int .i64 (2), .int .i64 (1), .int .i64 (2), .int .i64 (0), .int .i64 (3)] 3) := ⟨_, rfl⟩
  have alW : Below w.heap.size w W := by rw [hW]; exact (Below.refl _ _).alloc (Nat.le_refl _) _
  have kW := hc.below (alW.mono (show B ≤ w.heap.size by omega))
  have uW := hu.below (alW.mono (show c + 1 ≤ w.heap.size by omega))
  have sW : w.heap.size < W.heap.size := by rw [hW]; simp
  have rW : W.heap[w.heap.size]? = some (.cells #[.int .i64 (1), .int .i64 (2), .int .i64 (1), .int .i64 (2), .int .i64 (1), .int .i64 (2), .int .i64 (0), .int .i64 (3)] 3 (0, 0)) := by rw [hW]; exact heap_alloc_new w _
  have HCW := Lib.hid (pickInt_any B c w.heap.size 8 8 a len cap [1, 2, 1, 2, 1, 2, 0, 3] W hBc (by omega) kW uW sW (by omega) rfl (by omega) (by omega) (fun j hj => by
    rw [cell_of_row W w.heap.size j _ 3 (0, 0) rW, List.getElem?_toArray]
    rfl))
  have HGW := Lib.hid (grown_ofB alW (some c))
  have HKW := Lib.hid kW
  have HWW := Lib.hid hW
  clear kW uW rW alW hW
  go_enter Try.func27, Try.ntmps27
  go_wp2_with fail
  rw [← HWW.out]
  refine HCW.out.mono ?_
  rintro e w2 ⟨⟨v, hv, rfl⟩, u2, g2⟩
  obtain ⟨q, hq, rfl⟩ := List.mem_map.1 hv
  have hq0 : 0 ≤ q ∧ q ≤ 3 := by
    simp only [List.mem_cons, List.not_mem_nil, or_false] at hq
    omega
  have G2 := Lib.hid (grown_trans HGW.out g2)
  clear hv hq
  go_wp2
  go_ret
  exact ⟨⟨q, hq0.1, hq0.2, rfl⟩, u2, G2.out⟩

/-- a version, a place and a record; nothing that was there turns -/
def PostFT (w : World) (e : Ending) (w' : World) : Prop := (∃ (v p : Int) (r : ByteArray), 0 ≤ v ∧ v ≤ 3 ∧ -1 ≤ p ∧ p ≤ 1000000001 ∧ r.size ≤ 61 ∧ e = .returned (.tuple #[.int .i64 v, .int .i64 p, .string r])) ∧ Below w.heap.size w w'

set_option maxHeartbeats 1000000 in
theorem drawFrameText_any (a : Option Addr) (len cap : Nat) (w : World) (hc : CodeAt w w.heap.size a len) :
    Calls Try.prog 15 #[.slice a len cap] w (PostFT w) := by
  obtain ⟨c, hcc⟩ : ∃ c, w.heap.size = c := ⟨_, rfl⟩
  have hBc : c ≤ c := Nat.le_refl _
  go_enter Try.func15, Try.ntmps15
  go_wp2_with fail
  refine (new_any w.heap.size a len cap w (Nat.le_refl _) hc).mono ?_
  rintro e w1 ⟨rfl, u1, b1, sz1⟩
  have k1 := hc.below b1
  rw [hcc] at u1 k1
  have hs1 : c < w1.heap.size := by omega
  have B1 := Lib.hid b1
  clear hc b1 sz1
  go_wp2_with fail
  refine (version9_any c c a len cap w1 hBc hs1 k1 u1).mono ?_
  rintro e w2 ⟨⟨v, v0, v3, rfl⟩, u2, g2⟩
  have k2 := k1.grown hBc (by omega) g2
  have hs2 : c < w2.heap.size := Nat.lt_of_lt_of_le hs1 g2.size
  have B2 := Lib.hid (B1.out.grown g2 B1.out.size (fun k hk => by injection hk with hk; omega))
  clear k1 u1 g2
  obtain ⟨W, hW⟩ : ∃ W, W = w2.alloc (.cells #[.int .i64 (0), .int .i64 (1), .int .i64 (7), .int .i64 (1000000000), .int .i64 (1000000001), .int .i64 (-1)] 3) := ⟨_, rfl⟩
  have alW : Below w2.heap.size w2 W := by rw [hW]; exact (Below.refl _ _).alloc (Nat.le_refl _) _
  have kW := k2.below (alW.mono (show c ≤ w2.heap.size by omega))
  have uW := u2.below (alW.mono (show c + 1 ≤ w2.heap.size by omega))
  have sW : w2.heap.size < W.heap.size := by rw [hW]; simp
  have rW : W.heap[w2.heap.size]? = some (.cells #[.int .i64 (0), .int .i64 (1), .int .i64 (7), .int .i64 (1000000000), .int .i64 (1000000001), .int .i64 (-1)] 3 (0, 0)) := by rw [hW]; exact heap_alloc_new w2 _
  have HCW := Lib.hid (pickInt_any c c w2.heap.size 6 6 a len cap [0, 1, 7, 1000000000, 1000000001, -1] W hBc (by omega) kW uW sW (by omega) rfl (by omega) (by omega) (fun j hj => by
    rw [cell_of_row W w2.heap.size j _ 3 (0, 0) rW, List.getElem?_toArray]
    rfl))
  have HGW := Lib.hid (grown_ofB alW (some c))
  have HKW := Lib.hid kW
  have HWW := Lib.hid hW
  clear kW uW rW alW hW
  go_wp2_with fail
  rw [← HWW.out]
  refine HCW.out.mono ?_
  rintro e w3 ⟨⟨x, hx, rfl⟩, u3, g3⟩
  obtain ⟨p, hp, rfl⟩ := List.mem_map.1 hx
  have hp0 : -1 ≤ p ∧ p ≤ 1000000001 := by
    simp only [List.mem_cons, List.not_mem_nil, or_false] at hp
    omega
  have k3 := HKW.out.grown hBc (by omega) g3
  have hs3 : c < w3.heap.size := Nat.lt_of_lt_of_le (by omega) g3.size
  have B3 := Lib.hid ((B2.out.grown HGW.out B2.out.size (fun k hk => by injection hk with hk; omega)).grown g3 (by have := B2.out.size; omega) (fun k hk => by injection hk with hk; omega))
  clear hx hp u2 k2 g3
  go_wp2_with fail
  refine (record9_any c c a len cap w3 hBc hs3 k3 u3).mono ?_
  rintro e w4 ⟨⟨r, hr, rfl⟩, u4, g4⟩
  have B4 := Lib.hid (B3.out.grown g4 B3.out.size (fun k hk => by injection hk with hk; omega))
  clear k3 u3 g4 u4
  go_wp2
  go_ret3
  exact ⟨⟨v, p, r, v0, v3, hp0.1, hp0.2, hr, rfl⟩, B4.out⟩

end Go.Proofs.Ythnpeecfianplaa.draw
