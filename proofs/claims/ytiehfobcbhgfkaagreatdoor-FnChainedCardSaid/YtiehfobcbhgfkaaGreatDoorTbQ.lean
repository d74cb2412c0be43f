/-
  Contract of spec.TurnBits.
-/
import Derived.Test.YtiehfobcbhgfkaaGreatDoorMathX
import Derived.Test.YtiehfobcbhgfkaaGreatDoorNumX
import Derived.Test.YtiehfobcbhgfkaaGreatDoorSumX
import Derived.Laws.IdiomStrings
import Derived.Lib.BufferMore
import Derived.Test.YtiehfobcbhgfkaaGreatDoorDrawX
import Derived.Test.YtiehfobcbhgfkaaGreatDoorStrQ
import Derived.Deep.RegionHeld3
namespace Go.Proofs.YtiehfobcbhgfkaaGreatDoor.burst
set_option maxRecDepth 20000
open Go.RowKit
open kit sum num

/-! ### plain facts -/
theorem pow_byte (t : Nat) (h : t < 8) : 2 ^ t < 256 := by
  have := Nat.pow_lt_pow_right (show 1 < 2 by omega) h
  have e : (2 : Nat) ^ 8 = 256 := by decide
  omega

/-- a row of bytes in block b, whatever is behind -/
def Rw (w : World) (b : Nat) (xs : List Nat) : Prop :=
  ∃ (C : Array Value) (k : Nat), w.heap[b]? = some (.cells C 5 (k, k + 1)) ∧ xs.length ≤ k ∧ xs.length ≤ C.size ∧ ∀ (j x : Nat), xs[j]? = some x → C[j]? = some (Value.int .u8 (x : Int))
theorem Rw.lt {w : World} {b : Nat} {xs : List Nat} (h : Rw w b xs) : b < w.heap.size := by
  obtain ⟨C, k, h1, _⟩ := h
  exact (Array.getElem?_eq_some_iff.1 h1).1
theorem Rw.cell {w : World} {b j x : Nat} {xs : List Nat} (h : Rw w b xs) (hx : xs[j]? = some x) : w.cell? ⟨b, j, none⟩ = some (.int .u8 (x : Int)) := by
  obtain ⟨C, k, h1, _, _, h4⟩ := h
  rw [cell_of_row w b j C 5 _ h1]
  exact h4 j x hx
theorem Rw.frozen {w : World} {b j : Nat} {xs : List Nat} (h : Rw w b xs) (hj : j < xs.length) : w.frozen? ⟨b, j, none⟩ = false := by
  obtain ⟨C, k, h1, h2, _⟩ := h
  unfold World.frozen?
  rw [h1]
  simp
  omega
theorem Rw.set {w : World} {b j x : Nat} {xs : List Nat} (h : Rw w b xs) (hj : j < xs.length) : Rw (w.setCell ⟨b, j, none⟩ (.int .u8 (x : Int))) b (xs.set j x) := by
  obtain ⟨C, k, h1, h2, h3, h4⟩ := h
  refine ⟨C.setIfInBounds j (.int .u8 (x : Int)), k, Go.Lib.heap_setCell_same h1 _, by rw [List.length_set]; exact h2, by rw [List.length_set, Array.size_setIfInBounds]; exact h3, fun i y hy => ?_⟩
  rw [Array.getElem?_setIfInBounds]
  rw [List.getElem?_set] at hy
  by_cases e : j = i
  · rw [if_pos e] at hy ⊢
    rw [if_pos hj] at hy
    rw [if_pos (by omega)]
    obtain rfl : x = y := by simpa using hy
    rfl
  · rw [if_neg e] at hy ⊢
    exact h4 i y hy
theorem Rw.new (w : World) (s : ByteArray) (cap : Nat) : Rw (w.drew.alloc (.cells (bytesRow s cap) 5 ((bytesRow s cap).size, (bytesRow s cap).size + 1))) w.heap.size (nats s 0) := by
  have hl : (nats s 0).length = s.size := by rw [nats_length]; omega
  have hs : s.size ≤ (bytesRow s cap).size := by
    unfold bytesRow
    rw [Array.size_append, Array.size_map]
    show s.data.size ≤ _
    omega
  refine ⟨_, _, ?_, by rw [hl]; exact hs, by rw [hl]; exact hs, fun j x hx => ?_⟩
  · show (w.heap.push _)[w.heap.size]? = _
    simp
  · have hj : j < s.size := by have := (List.getElem?_eq_some_iff.1 hx).1; omega
    have h2 := nats_get s 0 j (by omega)
    rw [h2] at hx
    unfold bytesRow
    rw [Array.getElem?_append_left (by rw [Array.size_map]; exact hj), Array.getElem?_map, Array.getElem?_eq_getElem (by exact hj)]
    simp only [Option.some.injEq] at hx
    rw [← hx]
    simp only [Nat.zero_add]
    rfl

end Go.Proofs.YtiehfobcbhgfkaaGreatDoor.burst

namespace Go.Proofs.YtiehfobcbhgfkaaGreatDoor.draw
set_option maxRecDepth 20000
open Go.RowKit
open kit

/-- a byte of which one bit is turned -/
theorem turned_byte (x z : Nat) (hx : x < 256) (hz : z < 8) : ∃ e r : Nat, (2 : Int) ^ z % 256 = (e : Int) ∧ IntKind.u8.wrap ((2 : Int) ^ z) = (e : Int) ∧ bits BinOp.xor IntKind.u8 (x : Int) (e : Int) = (r : Int) := by
  have h := burst.pow_byte z hz
  obtain ⟨q, hq⟩ : ∃ q, 2 ^ z = q := ⟨_, rfl⟩
  have e : (2 : Int) ^ z = (q : Int) := by rw [← hq]; push_cast; rfl
  rw [hq] at h
  refine ⟨q, x ^^^ q, by rw [e]; omega, by rw [e, IntKind.wrap_u8]; omega, sum.xor_u8 x q hx h⟩
theorem byte_of (t : ByteArray) (k : Nat) (h : k < t.size) : t[k].toNat < 256 := t[k].toNat_lt

set_option maxHeartbeats 2000000 in
set_option maxRecDepth 20000 in
theorem bent8_any (B c : Nat) (a : Option Addr) (len cap : Nat) (t : ByteArray) (w : World) (hBc : B ≤ c) (hcw : c < w.heap.size) (hc : CodeAt w B a len) (hu : Cur w c a len cap) (ht : t.size ≤ 100000) :
    Calls Tryz.prog 145 #[.pointer (some ⟨c, 0, none⟩), .string t] w (PostS c a len cap (t.size + 4) w) := by
  by_cases h0 : t.size = 0
  · have he : t.toList.isEmpty = true := by
      rw [ByteArray.toList_eq, List.isEmpty_iff]
      exact List.length_eq_zero_iff.1 h0
    clear hc
    go_enter Tryz.func145, Tryz.ntmps145
    go_wp2
    go_ret
    exact ⟨⟨_, by omega, rfl⟩, hu, grown_refl _ _⟩
  · have he : t.toList.isEmpty = false := num.str_full (by omega)
    go_enter Tryz.func145, Tryz.ntmps145
    go_wp2_with fail
    refine (once_any B c a len cap 2 w hBc (by omega) hc hu (by omega) (by omega)).mono ?_
    rintro e w1 ⟨⟨b, rfl⟩, u1, g1⟩
    have k1 := hc.grown hBc (by omega) g1
    have s1 := g1.size
    clear hc hu
    cases b with
    | true =>
      clear k1
      go_wp2
      go_ret
      exact ⟨⟨_, by omega, rfl⟩, u1, g1⟩
    | false =>
      go_wp2_with fail
      refine (below_any B c a len cap (t.size : Int) w1 hBc (by omega) k1 u1 (by omega) (by omega)).mono ?_
      rintro e w2 ⟨⟨x, l2, m2, rfl⟩, u2, g2⟩
      have k2 := k1.grown hBc (by omega) g2
      have s2 := g2.size
      have G2 := Lib.hid (grown_trans g1 g2)
      obtain ⟨k, rfl⟩ := Int.eq_ofNat_of_zero_le l2
      have hk : k < t.size := by omega
      clear k1 u1 g1 g2
      go_wp2_with fail
      refine (below_any B c a len cap 4 w2 hBc (by omega) k2 u2 (by omega) (by omega)).mono ?_
      rintro e w3 ⟨⟨y, l3, m3, rfl⟩, u3, g3⟩
      have k3 := k2.grown hBc (by omega) g3
      have s3 := g3.size
      have G3 := Lib.hid (grown_trans G2.out g3)
      clear k2 u2 g3 G2
      have e1 : (t.extract 0 k).size ≤ t.size := by rw [ByteArray.size_extract]; omega
      have e2 : (t.extract (k + 1) t.size).size ≤ t.size := by rw [ByteArray.size_extract]; omega
      have e3 : (t.extract 0 k).size + (t.extract (k + 1) t.size).size ≤ t.size := by rw [ByteArray.size_extract, ByteArray.size_extract]; omega
      have E1 := Lib.hid e1
      have E3 := Lib.hid e3
      rcases (show y = 0 ∨ y = 1 ∨ y = 2 ∨ y = 3 by omega) with rfl | rfl | rfl | rfl
      · clear k3
        go_wp2
        go_ret
        exact ⟨⟨_, by have := E1.out; omega, rfl⟩, u3, G3.out⟩
      · clear k3
        go_wp2
        go_region
        go_wp2
        go_ret
        exact ⟨⟨_, by have := E3.out; rw [ByteArray.size_append]; omega, rfl⟩, u3, grown_trans G3.out ⟨rfl, rfl, rfl, Nat.le_refl _, fun _ _ _ => rfl⟩⟩
      · go_wp2_with fail
        refine (below_any B c a len cap 4 w3 hBc (by omega) k3 u3 (by omega) (by omega)).mono ?_
        rintro e w4 ⟨⟨z, l4, m4, rfl⟩, u4, g4⟩
        have k4 := k3.grown hBc (by omega) g4
        have s4 := g4.size
        have G4 := Lib.hid (grown_trans G3.out g4)
        obtain ⟨n, rfl⟩ := Int.eq_ofNat_of_zero_le l4
        clear k3 u3 g4
        go_wp2_with fail
        rw [show (1 : Int) + (n : Int) = ((n + 1 : Nat) : Int) by omega]
        refine (text_any B c a len cap (n + 1) w4 hBc (by omega) k4 u4 (by omega)).mono ?_
        rintro e w5 ⟨⟨s, hs, rfl⟩, u5, g5⟩
        have G5 := Lib.hid (grown_trans G4.out g5)
        clear k4 u4 g5
        go_wp2
        go_ret
        exact ⟨⟨_, by rw [ByteArray.size_append]; omega, rfl⟩, u5, G5.out⟩
      · have hb256 := byte_of t k hk
        obtain ⟨b0, hb0⟩ : ∃ x, t[k].toNat = x := ⟨_, rfl⟩
        rw [hb0] at hb256
        have HB0 := Lib.hid hb256
        clear hb256
        have i0 : (0 : Int) ≤ (k : Int) := by omega
        have i1 : (k : Int) ≤ (t.size : Int) := by omega
        have i2 : (k : Int) < (t.size : Int) := by omega
        have i3 : (0 : Int) ≤ (k : Int) + 1 := by omega
        have i4 : (k : Int) + 1 ≤ (t.size : Int) := by omega
        have i5 : IntKind.i64.wrap ((k : Int) + 1) = (k : Int) + 1 := by rw [IntKind.wrap_i64]; omega
        have i6 : ((k : Int) + 1).toNat = k + 1 := by omega
        have i7 : min k t.size = k := by omega
        have i8 : ¬ 9223372036854775807 < k + 1 := by omega
        have i9 : ¬ 9223372036854775807 < k + 1 + (t.size - (k + 1)) := by omega
        go_wp2
        refine wp_region_noPanic ?_
        refine wp_region_held_drew (S := (fun _ => True)) (by kernel_rfl) ?hS0 (fun hHeld => ?rest0)
        case hS0 => trivial
        refine' wpAnyH_take (i := 0) (oi := _) (v := _) ?hi3x (by kernel_rfl) (by kernel_rfl) (by kernel_rfl) (fun _ _ _ h => h) (Or.inl ⟨?hw3x, ?hy3x⟩) (by assumption) ?rest3x
        case hi3x => (simp only [List.getElem?_toArray, List.getElem?_cons_zero]; rfl)
        case hw3x => rfl
        case hy3x => (intro w hSw; (try dsimp only at hSw); go_simp; first | done | with_reducible rfl)
        try simp only [Act.put, List.setIfInBounds_toArray, List.set_cons_zero, List.set_cons_succ]
        refine' wpAnyH_take (i := 1) (oi := _) (v := _) ?hi4x (by kernel_rfl) (by kernel_rfl) (by kernel_rfl) (fun _ _ _ h => h) (Or.inl ⟨?hw4x, ?hy4x⟩) (by assumption) ?rest4x
        case hi4x => (simp only [List.getElem?_toArray, List.getElem?_cons_zero, List.getElem?_cons_succ]; rfl)
        case hw4x => rfl
        case hy4x => (intro w hSw; (try dsimp only at hSw); go_simp; first | done | with_reducible rfl)
        try simp only [Act.put, List.setIfInBounds_toArray, List.set_cons_zero, List.set_cons_succ]
        refine' wpAnyH_take (i := 2) (oi := _) (v := _) ?hi5x (by kernel_rfl) (by kernel_rfl) (by kernel_rfl) (fun _ _ _ h => h) (Or.inl ⟨?hw5x, ?hy5x⟩) (by assumption) ?rest5x
        case hi5x => (simp only [List.getElem?_toArray, List.getElem?_cons_zero, List.getElem?_cons_succ]; rfl)
        case hw5x => rfl
        case hy5x => (intro w hSw; (try dsimp only at hSw); go_simp; first | done | with_reducible rfl)
        try simp only [Act.put, List.setIfInBounds_toArray, List.set_cons_zero, List.set_cons_succ]
        refine' wpAnyH_take (i := 3) (oi := _) (v := _) ?hi6x (by kernel_rfl) (by kernel_rfl) (by kernel_rfl) (fun _ _ _ h => h) (Or.inl ⟨?hw6x, ?hy6x⟩) (by assumption) ?rest6x
        case hi6x => (simp only [List.getElem?_toArray, List.getElem?_cons_zero, List.getElem?_cons_succ]; rfl)
        case hw6x => rfl
        case hy6x => (intro w hSw; (try dsimp only at hSw); go_simp; first | done | with_reducible rfl)
        try simp only [Act.put, List.setIfInBounds_toArray, List.set_cons_zero, List.set_cons_succ]
        refine' wpAnyH_take (i := 4) (oi := _) (v := _) ?hi7x (by kernel_rfl) (by kernel_rfl) (by kernel_rfl) (fun _ _ _ h => h) (Or.inl ⟨?hw7x, ?hy7x⟩) (by assumption) ?rest7x
        case hi7x => (simp only [List.getElem?_toArray, List.getElem?_cons_zero, List.getElem?_cons_succ]; rfl)
        case hw7x => rfl
        case hy7x => (intro w hSw; (try dsimp only at hSw); go_simp; first | done | with_reducible rfl)
        try simp only [Act.put, List.setIfInBounds_toArray, List.set_cons_zero, List.set_cons_succ]
        refine' wpAnyH_take (i := 5) (oi := _) (v := _) ?hi8x (by kernel_rfl) (by kernel_rfl) (by kernel_rfl) (fun _ _ _ h => h) (Or.inl ⟨?hw8x, ?hy8x⟩) (by assumption) ?rest8x
        case hi8x => (simp only [List.getElem?_toArray, List.getElem?_cons_zero, List.getElem?_cons_succ]; rfl)
        case hw8x => rfl
        case hy8x => (intro w hSw; (try dsimp only at hSw); go_simp; first | done | with_reducible rfl)
        try simp only [Act.put, List.setIfInBounds_toArray, List.set_cons_zero, List.set_cons_succ]
        refine' wpAnyH_take (i := 6) (oi := _) (v := _) ?hi9x (by kernel_rfl) (by kernel_rfl) (by kernel_rfl) (fun _ _ _ h => h) (Or.inl ⟨?hw9x, ?hy9x⟩) (by assumption) ?rest9x
        case hi9x => (simp only [List.getElem?_toArray, List.getElem?_cons_zero, List.getElem?_cons_succ]; rfl)
        case hw9x => rfl
        case hy9x => (intro w hSw; (try dsimp only at hSw); go_simp; first | done | with_reducible rfl)
        try simp only [Act.put, List.setIfInBounds_toArray, List.set_cons_zero, List.set_cons_succ]
        refine' wpAnyH_take (i := 14) (oi := _) (v := _) ?hi10x (by kernel_rfl) (by kernel_rfl) (by kernel_rfl) (fun _ _ _ h => h) (Or.inl ⟨?hw10x, ?hy10x⟩) (by assumption) ?rest10x
        case hi10x => (simp only [List.getElem?_toArray, List.getElem?_cons_zero, List.getElem?_cons_succ]; rfl)
        case hw10x => rfl
        case hy10x => (intro w hSw; (try dsimp only at hSw); go_simp; first | done | with_reducible rfl)
        try simp only [Act.put, List.setIfInBounds_toArray, List.set_cons_zero, List.set_cons_succ]
        refine' wpAnyH_take (i := 15) (oi := _) (v := _) ?hi11x (by kernel_rfl) (by kernel_rfl) (by kernel_rfl) (fun _ _ _ h => h) (Or.inl ⟨?hw11x, ?hy11x⟩) (by assumption) ?rest11x
        case hi11x => (simp only [List.getElem?_toArray, List.getElem?_cons_zero, List.getElem?_cons_succ]; rfl)
        case hw11x => rfl
        case hy11x => (intro w hSw; (try dsimp only at hSw); go_simp; first | done | with_reducible rfl)
        try simp only [Act.put, List.setIfInBounds_toArray, List.set_cons_zero, List.set_cons_succ]
        refine' wpAnyH_take (i := 16) (oi := _) (v := _) ?hi12x (by kernel_rfl) (by kernel_rfl) (by kernel_rfl) (fun _ _ _ h => h) (Or.inl ⟨?hw12x, ?hy12x⟩) (by assumption) ?rest12x
        case hi12x => (simp only [List.getElem?_toArray, List.getElem?_cons_zero, List.getElem?_cons_succ]; rfl)
        case hw12x => rfl
        case hy12x => (intro w hSw; (try dsimp only at hSw); go_simp; first | done | with_reducible rfl)
        try simp only [Act.put, List.setIfInBounds_toArray, List.set_cons_zero, List.set_cons_succ]
        refine' wpAnyH_take (i := 17) (oi := _) (v := _) ?hi13x (by kernel_rfl) (by kernel_rfl) (by kernel_rfl) (fun _ _ _ h => h) (Or.inl ⟨?hw13x, ?hy13x⟩) (by assumption) ?rest13x
        case hi13x => (simp only [List.getElem?_toArray, List.getElem?_cons_zero, List.getElem?_cons_succ]; rfl)
        case hw13x => rfl
        case hy13x => (intro w hSw; (try dsimp only at hSw); go_simp; first | done | with_reducible rfl)
        try simp only [Act.put, List.setIfInBounds_toArray, List.set_cons_zero, List.set_cons_succ]
        refine wpAnyH_ready (rs := [7]) (by kernel_rfl) (by simp) ?_
        refine' AllReadyH.cons (o := _) ?hi15x (fun K hK => ?step15x) AllReadyH.nil
        case hi15x => (simp only [List.getElem?_toArray, List.getElem?_cons_zero, List.getElem?_cons_succ]; rfl)
        go_simp
        (go_at_call 139; refine (below_any B c a len cap 8 w3.drew hBc (show B ≤ w3.heap.size by omega) (show CodeAt w3.drew B a len from k3) (show Cur w3.drew c a len cap from u3) (by omega) (by omega)).mono ?_; rintro e w4 ⟨⟨z, l4, m4, rfl⟩, u4, g4⟩; obtain ⟨zn, rfl⟩ := Int.eq_ofNat_of_zero_le l4; have hz8 : zn < 8 := (by omega); obtain ⟨e5, r5, h2t, h2w, hxr⟩ := turned_byte b0 zn HB0.out hz8; have hz64 : IntKind.u64.wrap (zn : Int) = (zn : Int) := (by rw [IntKind.wrap_u64]; omega); have kc := strs.conv_one w4 (r5 : Int); have ks : (strOfNums [(r5 : Int)]).size = 1 := strOfNums_size _; obtain ⟨S5, hS5⟩ : ∃ S5, strOfNums [(r5 : Int)] = S5 := ⟨_, rfl⟩; rw [hS5] at kc ks; clear hS5 l4 m4)
        try (go_wp2_with fail)
        refine hK.out _ _ ?hS16x (fun hHeld => ?rest16x)
        case hS16x => trivial
        clear hK K
        try simp only [Act.put, List.setIfInBounds_toArray, List.set_cons_zero, List.set_cons_succ]
        refine' wpAnyH_take (i := 8) (oi := _) (v := _) ?hi17x (by kernel_rfl) (by kernel_rfl) (by kernel_rfl) (fun _ _ _ h => h) (Or.inl ⟨?hw17x, ?hy17x⟩) (by assumption) ?rest17x
        case hi17x => (simp only [List.getElem?_toArray, List.getElem?_cons_zero, List.getElem?_cons_succ]; rfl)
        case hw17x => rfl
        case hy17x => (intro w hSw; (try dsimp only at hSw); go_simp; first | done | with_reducible rfl)
        try simp only [Act.put, List.setIfInBounds_toArray, List.set_cons_zero, List.set_cons_succ]
        refine' wpAnyH_take (i := 9) (oi := _) (v := _) ?hi18x (by kernel_rfl) (by kernel_rfl) (by kernel_rfl) (fun _ _ _ h => h) (Or.inl ⟨?hw18x, ?hy18x⟩) (by assumption) ?rest18x
        case hi18x => (simp only [List.getElem?_toArray, List.getElem?_cons_zero, List.getElem?_cons_succ]; rfl)
        case hw18x => rfl
        case hy18x => (intro w hSw; (try dsimp only at hSw); go_simp; first | done | with_reducible rfl)
        try simp only [Act.put, List.setIfInBounds_toArray, List.set_cons_zero, List.set_cons_succ]
        refine' wpAnyH_take (i := 10) (oi := _) (v := _) ?hi19x (by kernel_rfl) (by kernel_rfl) (by kernel_rfl) (fun _ _ _ h => h) (Or.inl ⟨?hw19x, ?hy19x⟩) (by assumption) ?rest19x
        case hi19x => (simp only [List.getElem?_toArray, List.getElem?_cons_zero, List.getElem?_cons_succ]; rfl)
        case hw19x => rfl
        case hy19x => (intro w hSw; (try dsimp only at hSw); go_simp; first | done | with_reducible rfl)
        try simp only [Act.put, List.setIfInBounds_toArray, List.set_cons_zero, List.set_cons_succ]
        refine wpAnyH_ready (rs := [11]) (by kernel_rfl) (by simp) ?_
        refine' AllReadyH.cons (o := _) ?hi21x (fun K hK => ?step21x) AllReadyH.nil
        case hi21x => (simp only [List.getElem?_toArray, List.getElem?_cons_zero, List.getElem?_cons_succ]; rfl)
        go_simp
        try (go_wp2_with fail)
        refine hK.out _ _ ?hS22x (fun hHeld => ?rest22x)
        case hS22x => trivial
        clear hK K
        try simp only [Act.put, List.setIfInBounds_toArray, List.set_cons_zero, List.set_cons_succ]
        refine wpAnyH_ready (rs := [12]) (by kernel_rfl) (by simp) ?_
        refine' AllReadyH.cons (o := _) ?hi24x (fun K hK => ?step24x) AllReadyH.nil
        case hi24x => (simp only [List.getElem?_toArray, List.getElem?_cons_zero, List.getElem?_cons_succ]; rfl)
        go_simp
        try (go_wp2_with fail)
        refine hK.out _ _ ?hS25x (fun hHeld => ?rest25x)
        case hS25x => trivial
        clear hK K
        try simp only [Act.put, List.setIfInBounds_toArray, List.set_cons_zero, List.set_cons_succ]
        refine' wpAnyH_take (i := 13) (oi := _) (v := _) ?hi26x (by kernel_rfl) (by kernel_rfl) (by kernel_rfl) (fun _ _ _ h => h) (Or.inl ⟨?hw26x, ?hy26x⟩) (by assumption) ?rest26x
        case hi26x => (simp only [List.getElem?_toArray, List.getElem?_cons_zero, List.getElem?_cons_succ]; rfl)
        case hw26x => rfl
        case hy26x => (intro w hSw; (try dsimp only at hSw); go_simp; first | done | with_reducible rfl)
        try simp only [Act.put, List.setIfInBounds_toArray, List.set_cons_zero, List.set_cons_succ]
        refine' wpAnyH_take (i := 18) (oi := _) (v := _) ?hi27x (by kernel_rfl) (by kernel_rfl) (by kernel_rfl) (fun _ _ _ h => h) (Or.inl ⟨?hw27x, ?hy27x⟩) (by assumption) ?rest27x
        case hi27x => (simp only [List.getElem?_toArray, List.getElem?_cons_zero, List.getElem?_cons_succ]; rfl)
        case hw27x => rfl
        case hy27x => (intro w hSw; (try dsimp only at hSw); go_simp; first | done | with_reducible rfl)
        try simp only [Act.put, List.setIfInBounds_toArray, List.set_cons_zero, List.set_cons_succ]
        refine' wpAnyH_take (i := 19) (oi := _) (v := _) ?hi28x (by kernel_rfl) (by kernel_rfl) (by kernel_rfl) (fun _ _ _ h => h) (Or.inl ⟨?hw28x, ?hy28x⟩) (by assumption) ?rest28x
        case hi28x => (simp only [List.getElem?_toArray, List.getElem?_cons_zero, List.getElem?_cons_succ]; rfl)
        case hw28x => rfl
        case hy28x => (intro w hSw; (try dsimp only at hSw); go_simp; first | done | with_reducible rfl)
        try simp only [Act.put, List.setIfInBounds_toArray, List.set_cons_zero, List.set_cons_succ]
        refine wpAnyH_done (by kernel_rfl) ?_ _
        refine NoPanic.normal ?_
        have gd : w3.grownBy w3.drew (some c) := ⟨rfl, rfl, rfl, Nat.le_refl _, fun _ _ _ => rfl⟩
        have G4 := Lib.hid (grown_trans G3.out (grown_trans gd g4))
        have s4 := G4.out.size
        have KS := Lib.hid ks
        clear kc ks h2t h2w hxr
        go_wp2
        go_ret
        exact ⟨⟨_, by have h1 := E3.out; have h2 := KS.out; rw [ByteArray.size_append, ByteArray.size_append]; omega, rfl⟩, u4.below ((Below.refl _ _).alloc (by omega) _), grown_trans G4.out (World.grownBy_alloc _ _ _)⟩

end Go.Proofs.YtiehfobcbhgfkaaGreatDoor.draw
