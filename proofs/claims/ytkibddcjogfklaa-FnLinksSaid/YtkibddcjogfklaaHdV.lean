/-
  The walk of FnLinks.
-/
import Derived.Test.YtkibddcjogfklaaHdX
import Derived.Test.YtkibddcjogfklaaHdF
import Derived.Test.YtkibddcjogfklaaCopyL
namespace Go.Proofs.Ytkibddcjogfklaa.hd
open Go.RowKit
open kit sum num burst

theorem take_cells {w : World} {a : Option Addr} {n h : Nat} {xs : List ByteArray} (k : strs.At w a n xs) (hh : h ≤ n) : recs.Cells w a h 1 ((xs.take h).map Value.string) := by
  refine ⟨by rw [List.length_map, List.length_take, k.1]; omega, ?_⟩
  by_cases h0 : h = 0
  · exact .inl h0
  · obtain ⟨b, off, rfl, hb, hc⟩ := k.2.resolve_left (by omega)
    refine .inr ⟨b, off, rfl, hb, fun j x hx => ?_⟩
    rw [List.getElem?_map] at hx
    have hj : j < h := by
      have h1 := Option.isSome_map (f := Value.string) (x := (xs.take h)[j]?)
      rw [hx] at h1
      have h2 : j < (xs.take h).length := by
        rcases Nat.lt_or_ge j (xs.take h).length with h3 | h3
        · exact h3
        · rw [List.getElem?_eq_none h3] at h1; cases h1
      rw [List.length_take] at h2
      omega
    rw [List.getElem?_take_of_lt hj] at hx
    cases hy : xs[j]? with
    | none => rw [hy] at hx; cases hx
    | some y =>
      rw [hy] at hx
      obtain rfl : Value.string y = x := by simpa using hx
      exact hc j y hy
theorem own_cap {w : World} {B : Nat} {e : TypeId} {a : Option Addr} {n c : Nat} {xs : List Value} (h : w.ownsRow B e 1 (.slice a n c) n xs) : n ≤ c := by
  rcases h.2 with ⟨_, h0⟩ | ⟨g, cap, cur, hv, _, _, hnc, _⟩
  · omega
  · injection hv with e1 e2 e3
    omega
theorem one_str (xs : List ByteArray) : ∀ u ∈ xs.map Value.string, u.oneCell' = true := by
  intro u hu
  obtain ⟨x, _, rfl⟩ := List.mem_map.1 hu
  rfl
theorem link_zero : lkM 0 { data := #[] } = sumT { data := #[0, 0, 0, 0] } := by
  show moreI 0 (fxI 0 4 ++ { data := #[] }) = _
  rw [show fxI 0 4 ++ ({ data := #[] } : ByteArray) = { data := #[0, 0, 0, 0] } from rfl, ← more_zero]
  rfl
theorem zero_size : ({ data := #[] } : ByteArray).size = 0 := rfl
theorem four_size : ({ data := #[0, 0, 0, 0] } : ByteArray).size = 4 := rfl
theorem zero_more (w : World) : Calls Try.prog 23 #[.int .i64 0, .string { data := #[] }] w fun e w' => e = .returned (.int .i64 ((lkM 0 { data := #[] } : Nat) : Int)) ∧ Below w.heap.size w w' :=
  implLinkMore 0 { data := #[] } w (by rw [zero_size]; omega)
theorem zero_sum (w : World) : Calls Try.prog 26 #[.string { data := #[0, 0, 0, 0] }] w fun e w' => e = .returned (.int .i64 ((lkM 0 { data := #[] } : Nat) : Int)) ∧ w = w' := by
  rw [link_zero, ← more_zero]
  exact specOf_any { data := #[0, 0, 0, 0] } w (by rw [four_size]; omega)
theorem zeros : ∃ r : Nat, (∀ w : World, Calls Try.prog 23 #[.int .i64 0, .string { data := #[] }] w fun e w' => e = .returned (.int .i64 (r : Int)) ∧ Below w.heap.size w w') ∧ ∀ w : World, Calls Try.prog 26 #[.string { data := #[0, 0, 0, 0] }] w fun e w' => e = .returned (.int .i64 (r : Int)) ∧ w = w' :=
  ⟨_, zero_more, zero_sum⟩
theorem links_big (a : Option Addr) (len cap : Nat) (w : World) (h : 1048576 < len) :
    Calls Try.prog 4 #[.slice a len cap] w fun e w' => e = .returned (.bool true) ∧ Below w.heap.size w w' := by
  go_enter Try.func4, Try.ntmps4
  go_wp2_with (go_at_call 10; refine (big_yes _ _ _ _ h).mono ?_; rintro e w' ⟨rfl, rfl⟩)
  go_ret
  exact ⟨rfl, Below.refl _ _⟩

set_option maxHeartbeats 4000000 in
set_option maxRecDepth 20000 in
theorem links_small (a : Option Addr) (len cap : Nat) (w : World) (hc : draw.CodeAt w w.heap.size a len) :
    Calls Try.prog 4 #[.slice a len cap] w fun e w' => e = .returned (.bool true) ∧ Below w.heap.size w w' := by
  obtain ⟨i0, hi, hz0, hz1, hz2⟩ := info_parts strs.Try.infoStr
  have HC := Lib.hid hc
  have hlen := hc.1
  clear hc
  go_enter Try.func4, Try.ntmps4
  go_wp2_with (fail)
  refine (big_no _ _ _ _ hlen).mono ?_
  rintro e w' ⟨rfl, rfl⟩
  clear hlen
  go_wp2_with (fail)
  refine (draw.drawLinkOf_any a len cap w HC.out).mono ?_
  rintro e w1 ⟨⟨v, n, xs, rfl, hn, hx, hown⟩, b1⟩
  have B1 := Lib.hid b1
  have HX := Lib.hid hx
  have O1 := Lib.hid hown
  obtain ⟨A, C, rfl, hl, _, _⟩ := own_form hown
  rw [List.length_map] at hl
  have hnC := own_cap hown
  clear b1 hx hown
  go_wp2_with (fail)
  refine (draw.drawLinkMore_any a len cap w1 ((HC.out.below B1.out).raise B1.out.size)).mono ?_
  rintro e w2 ⟨⟨x, s, hs, rfl⟩, b2⟩
  have B2 := Lib.hid (B1.out.trans (b2.mono B1.out.size))
  have HA := Lib.hid (strs.At.of_own (own_below O1.out b2))
  have HL := Lib.hid hl
  clear b2 O1 hl
  go_wp2
  go_loopw [6, 7] (fun z i wr => ∃ (k m : Nat), k ≤ n ∧ i = .int .i64 k ∧ z = .int .i64 m ∧ Hid (lkL 0 (xs.take k) = m) ∧ Hid (Below w2.heap.size w2 wr)) (fun _ i _ => n - (intOf i).toNat)
  case atStart => exact ⟨0, 0, Nat.zero_le _, rfl, rfl, Lib.hid rfl, Lib.hid (Below.refl _ _)⟩
  case round =>
    obtain ⟨k, m, hk, rfl, rfl, hz, hb⟩ := hrel
    by_cases hlt : k < n
    · obtain ⟨y, hyk⟩ : ∃ y, xs[k]? = some y := ⟨_, List.getElem?_eq_getElem (by rw [HL.out]; exact hlt)⟩
      obtain ⟨g, o, hA, hg, hcl⟩ := HA.out.2.resolve_left (by omega)
      subst hA
      have c1 : wr.cell? ⟨g, o + k, none⟩ = some (.string y) := (hb.out.cell (p := ⟨g, o + k, none⟩) hg).trans (hcl k y hyk)
      have HS := Lib.hid (show lkL 0 (xs.take (k + 1)) = lkM (m : Int) y by rw [lkL_next hyk, hz.out])
      have hy60 := HX.out y (List.mem_of_getElem? hyk)
      have CM := Lib.hid (implLinkMore (m : Int) y wr (by omega))
      have i0' : (0 : Int) ≤ (k : Int) := by omega
      have i1 : (k : Int) < (n : Int) := by omega
      clear hcl hyk hz hy60
      go_wp2_with (fail)
      refine CM.out.mono ?_
      rintro e w3 ⟨rfl, hb3⟩
      go_wp2
      go_roundw
      case rel => exact ⟨k + 1, _, by omega, by go_num, rfl, Lib.hid HS.out, Lib.hid (hb.out.trans (hb3.mono hb.out.size))⟩
      case measure => simp [intOf]; omega
    · obtain rfl : n = k := by omega
      have HE := Lib.hid (show lkL 0 xs = m by have h := hz.out; rw [List.take_of_length_le (by rw [HL.out]; exact Nat.le_refl _)] at h; exact h)
      clear hz hlt hk
      obtain ⟨h, hh⟩ : ∃ h, n / 2 = h := ⟨_, rfl⟩
      have hhi : (n : Int) / 2 = (h : Int) := by omega
      have hhn : h ≤ n := by omega
      have g0 : (0 : Int) ≤ (h : Int) := by omega
      have g1 : (h : Int) ≤ (n : Int) := by omega
      clear hh
      cases A with
      | none =>
        have hn0 : n = 0 := HA.out.2.elim (fun h => h) (fun ⟨_, _, h, _⟩ => by cases h)
        subst hn0
        obtain rfl : h = 0 := by omega
        have own0 : (wr.alloc (.cells #[] 9)).ownsRow wr.heap.size 9 1 (.slice (some ⟨wr.heap.size, 0, none⟩) 0 0) 0 [] := World.ownsRow_made wr #[] 0 (Nat.le_refl _) (by decide) rfl
        have bo0 : wr.heap.size ≤ (wr.alloc (.cells #[] 9)).heap.size := by simp
        have bn0 : 0 + 0 ≤ maxLen := by unfold maxLen; omega
        have bm0 : (0 + 0) * 16 ≤ 140737488355328 := by omega
        have CE0 : recs.Cells (wr.alloc (.cells #[] 9)) (none) 0 1 ((xs.take 0).map Value.string) := (take_cells HA.out hhn).below (hb.out.trans (((Below.refl wr.heap.size wr).alloc (Nat.le_refl _) _).mono hb.out.size))
        go_wp2_with (first | (at_builtin; refine recs.list_copy (by rfl) (.tmp 35) (.tmp 38) 35 (by rfl) wr.heap.size 9 i0 (.string { data := #[] }) 1 16 Try.underlying35 hi hz0 hz1 hz2 (by rfl) (by decide) _ 0 [] own0 bo0 (none) 0 C ((xs.take 0).map Value.string) CE0 (one_str _) bn0 bm0 (by rfl) (by rfl) ?_; intro v4 w4 hown4 hg4) | fail)
        have hb4 : Below wr.heap.size wr w4 := ((Below.refl wr.heap.size wr).alloc (Nat.le_refl _) _).grown hg4 bo0 (fun k hk => by simp [Value.ownBlock] at hk; omega)
        rw [List.nil_append, Nat.zero_add] at hown4
        obtain ⟨aU, cU, rfl, _, _, _⟩ := own_form hown4
        have B4 := Lib.hid (hb.out.trans (hb4.mono hb.out.size))
        have CL := Lib.hid (implLinkOf aU cU 0 (xs.take 0) w4 (by omega) (fun y hy => by have := HX.out y (List.mem_of_mem_take hy); omega) (strs.At.of_own hown4))
        clear own0 bo0 CE0 bn0 bm0 hown4 hg4 hb4
        go_wp2_with (fail)
        refine CL.out.mono ?_
        rintro e w5 ⟨rfl, b5⟩
        have B5 := Lib.hid (B4.out.trans (b5.mono B4.out.size))
        clear CL b5 B4
        go_wp2
        obtain ⟨wo, hwo⟩ : ∃ wo, wo = w5 := ⟨_, rfl⟩
        go_loopw [9, 10] (fun z i wr => ∃ (k q : Nat), 0 ≤ k ∧ k ≤ 0 ∧ i = .int .i64 k ∧ z = .int .i64 q ∧ Hid (lkL 0 (xs.take k) = q) ∧ Hid (Below w2.heap.size w2 wr)) (fun _ i _ => 0 - (intOf i).toNat)
        case atStart => exact ⟨0, _, Nat.le_refl _, hhn, rfl, rfl, Lib.hid rfl, B5⟩
        case round =>
          obtain ⟨k, q, hhk, hk, rfl, rfl, hz, hb⟩ := hrel
          obtain rfl : k = 0 := by omega
          have HQ := Lib.hid (show q = m by
            have h1 := hz.out
            rw [List.take_of_length_le (by rw [HL.out]; exact Nat.le_refl _), HE.out] at h1
            exact h1.symm)
          have hqm : (q : Int) = (m : Int) := by rw [HQ.out]
          have CL := Lib.hid (fun w hw => implLinkOf none C 0 xs w (by omega) (fun y hy => by have := HX.out y hy; omega) hw)
          rw [HE.out] at CL
          have CM := Lib.hid (fun w => implLinkMore x s w (by omega))
          have CS := Lib.hid (fun w => specLinkMore x s w (by omega))
          obtain ⟨r, hr⟩ : ∃ r, lkM x s = r := ⟨_, rfl⟩
          rw [hr] at CM CS
          obtain ⟨r2, cz, cw⟩ := zeros
          have CZ := Lib.hid cz
          have CW := Lib.hid cw
          clear hr hz cz cw
          go_wp2_with (fail)
          refine (CL.out _ (HA.out.below hb.out)).mono ?_
          rintro e w7 ⟨rfl, b7⟩
          have B7 := Lib.hid (hb.out.trans (b7.mono hb.out.size))
          clear b7
          go_wp2_with (fail)
          refine (CM.out _).mono ?_
          rintro e w8 ⟨rfl, b8⟩
          have B8 := Lib.hid (B7.out.trans (b8.mono B7.out.size))
          clear b8
          go_wp2_with (fail)
          refine (CS.out _).mono ?_
          rintro e w9 ⟨rfl, b9⟩
          have B9 := Lib.hid (B8.out.trans (b9.mono B8.out.size))
          clear b9
          go_wp2_with (fail)
          refine (CZ.out _).mono ?_
          rintro e w10 ⟨rfl, b10⟩
          have B10 := Lib.hid (B9.out.trans (b10.mono B9.out.size))
          clear b10
          go_wp2_with (fail)
          refine (CW.out _).mono ?_
          rintro e w' ⟨rfl, rfl⟩
          go_wp2
          go_ret
          exact ⟨rfl, B2.out.trans (B10.out.mono B2.out.size)⟩
      | some ad =>
        have g2 : (h : Int) ≤ (C : Int) := by omega
        have own0 : (wr.alloc (.cells #[] 9)).ownsRow wr.heap.size 9 1 (.slice (some ⟨wr.heap.size, 0, none⟩) 0 0) 0 [] := World.ownsRow_made wr #[] 0 (Nat.le_refl _) (by decide) rfl
        have bo0 : wr.heap.size ≤ (wr.alloc (.cells #[] 9)).heap.size := by simp
        have bn0 : 0 + h ≤ maxLen := by unfold maxLen; omega
        have bm0 : (0 + h) * 16 ≤ 140737488355328 := by omega
        have CE0 : recs.Cells (wr.alloc (.cells #[] 9)) (some ad) h 1 ((xs.take h).map Value.string) := (take_cells HA.out hhn).below (hb.out.trans (((Below.refl wr.heap.size wr).alloc (Nat.le_refl _) _).mono hb.out.size))
        go_wp2_with (first | (at_builtin; refine recs.list_copy (by rfl) (.tmp 35) (.tmp 38) 35 (by rfl) wr.heap.size 9 i0 (.string { data := #[] }) 1 16 Try.underlying35 hi hz0 hz1 hz2 (by rfl) (by decide) _ 0 [] own0 bo0 (some ad) h C ((xs.take h).map Value.string) CE0 (one_str _) bn0 bm0 (by rfl) (by rfl) ?_; intro v4 w4 hown4 hg4) | fail)
        have hb4 : Below wr.heap.size wr w4 := ((Below.refl wr.heap.size wr).alloc (Nat.le_refl _) _).grown hg4 bo0 (fun k hk => by simp [Value.ownBlock] at hk; omega)
        rw [List.nil_append, Nat.zero_add] at hown4
        obtain ⟨aU, cU, rfl, _, _, _⟩ := own_form hown4
        have B4 := Lib.hid (hb.out.trans (hb4.mono hb.out.size))
        have CL := Lib.hid (implLinkOf aU cU h (xs.take h) w4 (by omega) (fun y hy => by have := HX.out y (List.mem_of_mem_take hy); omega) (strs.At.of_own hown4))
        clear own0 bo0 CE0 bn0 bm0 hown4 hg4 hb4
        go_wp2_with (fail)
        refine CL.out.mono ?_
        rintro e w5 ⟨rfl, b5⟩
        have B5 := Lib.hid (B4.out.trans (b5.mono B4.out.size))
        clear CL b5 B4
        go_wp2
        obtain ⟨wo, hwo⟩ : ∃ wo, wo = w5 := ⟨_, rfl⟩
        go_loopw [9, 10] (fun z i wr => ∃ (k q : Nat), h ≤ k ∧ k ≤ n ∧ i = .int .i64 k ∧ z = .int .i64 q ∧ Hid (lkL 0 (xs.take k) = q) ∧ Hid (Below w2.heap.size w2 wr)) (fun _ i _ => n - (intOf i).toNat)
        case atStart => exact ⟨h, _, Nat.le_refl _, hhn, rfl, rfl, Lib.hid rfl, B5⟩
        case round =>
          obtain ⟨k, q, hhk, hk, rfl, rfl, hz, hb⟩ := hrel
          by_cases hlt : k < n
          · obtain ⟨y, hyk⟩ : ∃ y, xs[k]? = some y := ⟨_, List.getElem?_eq_getElem (by rw [HL.out]; exact hlt)⟩
            obtain ⟨g, o, hA, hg, hcl⟩ := HA.out.2.resolve_left (by omega)
            obtain rfl : ad = ⟨g, o, none⟩ := Option.some.inj hA
            have c1 : wr.cell? ⟨g, o + k, none⟩ = some (.string y) := (hb.out.cell (p := ⟨g, o + k, none⟩) hg).trans (hcl k y hyk)
            have HS := Lib.hid (show lkL 0 (xs.take (k + 1)) = lkM (q : Int) y by rw [lkL_next hyk, hz.out])
            have hy60 := HX.out y (List.mem_of_getElem? hyk)
            have CM := Lib.hid (implLinkMore (q : Int) y wr (by omega))
            have i0' : (0 : Int) ≤ (k : Int) := by omega
            have i1 : (k : Int) < (n : Int) := by omega
            clear hcl hyk hz hy60
            go_wp2_with (fail)
            refine CM.out.mono ?_
            rintro e w6 ⟨rfl, hb6⟩
            go_wp2
            go_roundw
            case rel => exact ⟨k + 1, _, by omega, by omega, by go_num, rfl, Lib.hid HS.out, Lib.hid (hb.out.trans (hb6.mono hb.out.size))⟩
            case measure => simp [intOf]; omega
          · obtain rfl : n = k := by omega
            have HQ := Lib.hid (show q = m by
              have h1 := hz.out
              rw [List.take_of_length_le (by rw [HL.out]; exact Nat.le_refl _), HE.out] at h1
              exact h1.symm)
            have hqm : (q : Int) = (m : Int) := by rw [HQ.out]
            have CL := Lib.hid (fun w hw => implLinkOf (some ad) C n xs w (by omega) (fun y hy => by have := HX.out y hy; omega) hw)
            rw [HE.out] at CL
            have CM := Lib.hid (fun w => implLinkMore x s w (by omega))
            have CS := Lib.hid (fun w => specLinkMore x s w (by omega))
            obtain ⟨r, hr⟩ : ∃ r, lkM x s = r := ⟨_, rfl⟩
            rw [hr] at CM CS
            obtain ⟨r2, cz, cw⟩ := zeros
            have CZ := Lib.hid cz
            have CW := Lib.hid cw
            clear hr hz hlt cz cw
            go_wp2_with (fail)
            refine (CL.out _ (HA.out.below hb.out)).mono ?_
            rintro e w7 ⟨rfl, b7⟩
            have B7 := Lib.hid (hb.out.trans (b7.mono hb.out.size))
            clear b7
            go_wp2_with (fail)
            refine (CM.out _).mono ?_
            rintro e w8 ⟨rfl, b8⟩
            have B8 := Lib.hid (B7.out.trans (b8.mono B7.out.size))
            clear b8
            go_wp2_with (fail)
            refine (CS.out _).mono ?_
            rintro e w9 ⟨rfl, b9⟩
            have B9 := Lib.hid (B8.out.trans (b9.mono B8.out.size))
            clear b9
            go_wp2_with (fail)
            refine (CZ.out _).mono ?_
            rintro e w10 ⟨rfl, b10⟩
            have B10 := Lib.hid (B9.out.trans (b10.mono B9.out.size))
            clear b10
            go_wp2_with (fail)
            refine (CW.out _).mono ?_
            rintro e w' ⟨rfl, rfl⟩
            go_wp2
            go_ret
            exact ⟨rfl, B2.out.trans (B10.out.mono B2.out.size)⟩

end Go.Proofs.Ytkibddcjogfklaa.hd
