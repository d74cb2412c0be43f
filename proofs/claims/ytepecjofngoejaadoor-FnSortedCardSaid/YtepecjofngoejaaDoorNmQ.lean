/-
  The draw of a list of names; laws.sameTexts at one list twice; the walk of laws.FnSorted, given what impl answers.
-/
import Derived.Test.YtepecjofngoejaaDoorNameS
import Derived.Test.YtepecjofngoejaaDoorNmU
import Derived.Test.YtepecjofngoejaaDoorNameLaws
import Derived.Test.YtepecjofngoejaaDoorLater
namespace Go.Proofs.YtepecjofngoejaaDoor.draw
open Go.RowKit
open kit

/-- a list of at most 6 texts of at most 21 bytes; nothing of what was there turns -/
def PostNL (w : World) (e : Ending) (w' : World) : Prop :=
  ∃ (ad : Option Addr) (c n : Nat) (xs : List ByteArray), n ≤ 6 ∧ e = .returned (.slice ad n c) ∧ (∀ s ∈ xs, s.size ≤ 21) ∧ w'.ownsRow w.heap.size 9 1 (.slice ad n c) n (xs.map Value.string) ∧ Below w.heap.size w w'
set_option maxHeartbeats 1000000 in
set_option maxRecDepth 20000 in
theorem drawSorted_any (a : Option Addr) (len cap : Nat) (w : World) (hc : CodeAt w w.heap.size a len) :
    Calls Tryd.prog 21 #[.slice a len cap] w (PostNL w) := by
  obtain ⟨i0, hi, hz0, hz1, hz2⟩ := info_parts strs.Tryd.infoStr
  go_enter Tryd.func21, Tryd.ntmps21
  go_wp2_with fail
  refine (new_any w.heap.size a len cap w (Nat.le_refl _) hc).mono ?_
  rintro e w1 ⟨rfl, u1, b1, sz1⟩
  have code1 := hc.below b1
  have hs1 : w.heap.size < w1.heap.size := by omega
  clear sz1 hc
  go_wp2
  go_loopw [4, 5] (fun v i wr => ∃ (k : Nat) (xs : List ByteArray), k ≤ 6 ∧ i = .int .i64 k ∧ Hid (∀ s ∈ xs, s.size ≤ 21) ∧ wr.ownsRow w1.heap.size 9 1 v k (xs.map Value.string) ∧ Cur wr w.heap.size a len cap ∧ CodeAt wr w.heap.size a len ∧ w1.grownBy wr (some w.heap.size)) (fun _ i _ => 6 - (intOf i).toNat)
  case atStart => exact ⟨0, [], Nat.zero_le _, rfl, Lib.hid (by simp), World.ownsRow_made _ _ _ (Nat.le_refl _) (by decide) rfl, u1.below ((Below.refl _ _).alloc (by omega) _), code1.below ((Below.refl _ _).alloc (by omega) _), World.grownBy_alloc _ _ _⟩
  case round =>
    obtain ⟨k, xs, hk, rfl, hxs, hown, hcur, hcode, hgr⟩ := hrel
    have hsz := hgr.size
    go_wp2_with fail
    refine (below_any w.heap.size w.heap.size a len cap 7 wr (Nat.le_refl _) (by omega) hcode hcur (by omega) (by omega)).mono ?_
    rintro e w2 ⟨⟨x1, l1, m1, rfl⟩, u2, g2⟩
    have own2 := hown.kept g2 (own_ne (own_base hown (by omega)))
    have code2 := hcode.grown (Nat.le_refl _) (by omega) g2
    have gr2 := grown_trans hgr g2
    have sz2 := gr2.size
    clear hown hcur hcode g2
    by_cases hlt : (k : Int) < x1
    · go_wp2_with (first | (go_at_call 37; refine (name4_any w.heap.size w.heap.size a len cap w2 (Nat.le_refl _) (by omega) code2 u2).mono ?_; rintro e w3 ⟨⟨s, hs, rfl⟩, u3, g3⟩; have own3 := own2.kept g3 (own_ne (own_base own2 (by omega))); have sz3 := Nat.le_trans sz2 g3.size; have code3 := code2.grown (Nat.le_refl _) (by omega) g3) | (at_builtin; refine list_app2 (by rfl) (.tmp 15) (.tmp 18) 31 (by rfl) w1.heap.size w3 9 i0 (.string { data := #[] }) 16 Tryd.underlying31 hi hz0 hz1 hz2 (by rfl) _ k _ own3 ?_ [.string s] 1 ?_ ?_ ?_ ?_ (by rfl) (by rfl) (by rfl) ?_ ?_; exact sz3; rfl; simp [Value.oneCell']; unfold maxLen; omega; omega; exact ⟨rfl, rfl, rfl⟩; intro v' w' hown' hb'))
      go_roundw
      case rel => exact ⟨k + 1, xs ++ [s], by omega, by go_num, Lib.hid (fun z hz => by
        rcases List.mem_append.1 hz with h | h
        · exact hxs.out z h
        · rw [List.mem_singleton.1 h]; exact hs), by simpa using hown', u3.below (hb'.mono (by omega)), code3.below (hb'.mono (by omega)), grown_below (grown_trans gr2 g3) hb'⟩
      case measure => simp [intOf]; omega
    · have b2 := below_of w w1 w2 b1 gr2
      obtain ⟨ad, cp, rfl⟩ := nam.own_slice own2
      go_wp2
      go_ret
      exact ⟨ad, cp, k, xs, by omega, rfl, hxs.out, own_base own2 (by omega), b2⟩

end Go.Proofs.YtepecjofngoejaaDoor.draw
namespace Go.Proofs.YtepecjofngoejaaDoor.nam
open Go.RowKit
open kit
open num

set_option maxHeartbeats 400000 in
theorem same_any (a b : Option Addr) (c d n : Nat) (xs : List ByteArray) (w : World) (hm : n ≤ 1048576) (ha : strs.At w a n xs) (hb : strs.At w b n xs) :
    Calls Tryd.prog 23 #[.slice a n c, .slice b n d] w fun e w' => e = .returned (.bool true) ∧ Below w.heap.size w w' := by
  have HL := Lib.hid ha.1
  have HA := Lib.hid ha
  have HB := Lib.hid hb
  clear ha hb
  go_enter Tryd.func23, Tryd.ntmps23
  go_wp2
  go_loopw [5] (fun i wr => ∃ k : Nat, k ≤ n ∧ i = .int .i64 k ∧ Below w.heap.size w wr) (fun i _ => n - (intOf i).toNat)
  case atStart => exact ⟨0, Nat.zero_le _, rfl, Below.refl _ _⟩
  case round =>
    obtain ⟨k, hk, rfl, hb⟩ := hrel
    by_cases hlt : k < n
    · obtain ⟨x, hxk⟩ : ∃ x, xs[k]? = some x := ⟨_, List.getElem?_eq_getElem (by rw [HL.out]; exact hlt)⟩
      obtain ⟨g, o, rfl, hg, hx⟩ := HA.out.2.resolve_left (by omega)
      obtain ⟨h, p, rfl, hh, hy⟩ := HB.out.2.resolve_left (by omega)
      have c1 : wr.cell? ⟨g, o + k, none⟩ = some (.string x) := (hb.cell (p := ⟨g, o + k, none⟩) hg).trans (hx k x hxk)
      have c2 : wr.cell? ⟨h, p + k, none⟩ = some (.string x) := (hb.cell (p := ⟨h, p + k, none⟩) hh).trans (hy k x hxk)
      have hne := str_yes (rfl : x = x)
      clear hxk hx hy HA HB
      have i0 : (0 : Int) ≤ (k : Int) := by omega
      have i1 : (k : Int) < (n : Int) := by omega
      go_wp2
      go_quiet (fail)
      go_wp2
      go_roundw
      case rel => exact ⟨k + 1, by omega, by go_num, below_drewN hb _⟩
      case measure => simp [intOf]; omega
    · go_wp2
      go_ret
      exact ⟨rfl, hb⟩

theorem tot_bound (xs : List ByteArray) (h : ∀ s ∈ xs, s.size ≤ 21) : strs.tot xs ≤ 21 * xs.length := by
  induction xs with
  | nil => simp [strs.tot]
  | cons x r ih =>
    have := ih fun s hs => h s (List.mem_cons_of_mem _ hs)
    have := h x (List.mem_cons_self ..)
    unfold strs.tot at *
    simp only [List.map_cons, List.sum_cons, List.length_cons]
    omega
theorem srt_ab : srt [{ data := #[98] }, { data := #[97] }, { data := #[98] }, { data := #[65] }] = [{ data := #[97] }, { data := #[98] }] := by decide +kernel
theorem row_new (W : World) (l : List Value) (e : TypeId) (h : l.length ≤ maxLen) : (W.alloc (.cells l.toArray e)).ownsRow W.heap.size e 1 (.slice (some ⟨W.heap.size, 0, none⟩) l.length l.length) l.length l :=
  ⟨by simp, .inr ⟨_, _, l.toArray, rfl, Nat.le_refl _, heap_alloc_new W _, Nat.le_refl _, h, by simp, by simp⟩⟩
theorem row4 (W : World) (x y z u : ByteArray) (e : TypeId) : (W.alloc (.cells #[.string x, .string y, .string z, .string u] e)).ownsRow W.heap.size e 1 (.slice (some ⟨W.heap.size, 0, none⟩) 4 4) 4 ([x, y, z, u].map Value.string) :=
  row_new W [.string x, .string y, .string z, .string u] e (by show 4 ≤ maxLen; decide)
theorem row2 (W : World) (x y : ByteArray) (e : TypeId) : (W.alloc (.cells #[.string x, .string y] e)).ownsRow W.heap.size e 1 (.slice (some ⟨W.heap.size, 0, none⟩) 2 2) 2 ([x, y].map Value.string) :=
  row_new W [.string x, .string y] e (by show 2 ≤ maxLen; decide)

theorem okSame (b : ByteArray) (w : World) (hm : b.size ≤ 9223372036854775807) (h : nok b = true) : Calls Tryd.prog 19 #[.string b] w fun e w' => e = .returned (.bool true) ∧ w = w' := by
  have := specOk_any b w hm
  rw [h] at this
  exact this
set_option maxHeartbeats 4000000 in
set_option maxRecDepth 20000 in
theorem sorted_small (G : World → Prop) (I : ImplS G) (a : Option Addr) (len cap : Nat) (w : World) (hc : draw.CodeAt w w.heap.size a len) (hG : G w) :
    Calls Tryd.prog 4 #[.slice a len cap] w fun e w' => e = .returned (.bool true) ∧ Below w.heap.size w w' := by
  have HC := Lib.hid hc
  have HG := Lib.hid hG
  have HI := Lib.hid I
  have hlen := hc.1
  clear hc hG I
  go_enter Tryd.func4, Tryd.ntmps4
  go_wp2_with fail
  refine (big_no a len cap w hlen).mono ?_
  rintro e w' ⟨rfl, rfl⟩
  go_wp2_with fail
  refine (draw.drawSorted_any a len cap w HC.out).mono ?_
  rintro e w1 ⟨ad, c1, n, xs, hn, rfl, hxs, own1, b1⟩
  have hxl : xs.length = n := by simpa using own1.1
  have htot : n + strs.tot xs ≤ 1048576 := by have := tot_bound xs hxs; omega
  have A1 := strs.At.of_own own1
  go_wp2_with fail
  refine (HI.out.sorted ad c1 n xs w1 htot A1 (HI.out.keep _ _ HG.out b1)).mono ?_
  rintro e w2 ⟨v2, rfl, own2, c2⟩
  obtain ⟨a2, k2, rfl⟩ := own_slice own2
  have b2 := chain b1 c2
  have A2 := strs.At.of_own own2
  have HA1 := Lib.hid (A1.below c2)
  have hml := srt_length xs
  obtain ⟨h1, h2⟩ := srt_asc xs
  have HXS := Lib.hid (fun s hs => Nat.le_trans (hxs s hs) (by decide : 21 ≤ 9223372036854775807))
  obtain ⟨l, hl⟩ : ∃ l, srt xs = l := ⟨_, rfl⟩
  rw [hl] at A2 hml h1 h2 ⊢
  obtain ⟨m, hm⟩ : ∃ m, l.length = m := ⟨_, rfl⟩
  rw [hm] at A2 hml ⊢
  have HL := Lib.hid hl
  have HM := Lib.hid hm
  have HA2 := Lib.hid A2
  have HASC := Lib.hid h1
  have HNOK := Lib.hid (fun y hy => ((h2 y).1 hy).2)
  have HSZ := Lib.hid (fun y (hy : y ∈ l) => Nat.le_trans (hxs y ((h2 y).1 hy).1) (by decide : 21 ≤ 9223372036854775807))
  clear own1 own2 A1 A2 hl hm h1 h2 hxs b1 c2
  go_wp2
  go_loopw [5] (fun i wr => ∃ k : Nat, k ≤ m ∧ i = .int .i64 k ∧ Below w2.heap.size w2 wr) (fun i _ => m - (intOf i).toNat)
  case atStart => exact ⟨0, Nat.zero_le _, rfl, Below.refl _ _⟩
  case round =>
    obtain ⟨k, hk, rfl, hb⟩ := hrel
    by_cases hlt : k < m
    · obtain ⟨y, hy⟩ : ∃ y, l[k]? = some y := ⟨_, List.getElem?_eq_getElem (by rw [HM.out]; exact hlt)⟩
      obtain ⟨g, o, rfl, hg, hx⟩ := HA2.out.2.resolve_left (by omega)
      have hgr : g < wr.heap.size := Nat.lt_of_lt_of_le hg hb.size
      have z1 := Later.cell ((hb.cell (p := ⟨g, o + k, none⟩) hg).trans (hx k y hy)) hgr
      have hym := List.mem_of_getElem? hy
      have CQ := Lib.hid (fun W => okSame y W (HSZ.out y hym) (HNOK.out y hym))
      have i0 : (0 : Int) ≤ (k : Int) := by omega
      have i1 : (k : Int) < (m : Int) := by omega
      by_cases hk0 : k = 0
      · have g0 : decide (0 < k) = false := by rw [decide_eq_false_iff_not]; omega
        clear hx hym hy hk0
        go_wp2
        refine wp_region_later (by kernel_rfl) (by kernel_rfl) ?_
        repeat (first | go_big_quiet_skip | (go_big_quiet_want; go_big_quiet_op; first | go_big_quiet_on | (apply Exists.intro; refine ⟨fun x => ?_, ?_⟩; (first | (go_at_call 19; exact Calls.later_same (CQ.out _))); go_big_quiet_on)))
        refine wpQuiet_nil ?_
        rintro w3 ⟨x2, hx2⟩
        have hb2 : Below wr.heap.size wr w3 := hx2 ▸ x2.2
        clear hx2 x2
        go_wp2
        go_roundw
        case rel => exact ⟨k + 1, by omega, by go_num, chain hb hb2⟩
        case measure => simp [intOf]; omega
      · obtain ⟨j, rfl⟩ : ∃ j, k = j + 1 := ⟨k - 1, by omega⟩
        obtain ⟨p, hp⟩ : ∃ p, l[j]? = some p := ⟨_, List.getElem?_eq_getElem (by rw [HM.out]; omega)⟩
        have z2 := Later.cell ((hb.cell (p := ⟨g, o + j, none⟩) hg).trans (hx j p hp)) hgr
        have hbl : Op.bytesLess p.toList y.toList = true := by
          have := List.pairwise_iff_getElem.1 HASC.out j (j + 1) (by rw [HM.out]; omega) (by rw [HM.out]; omega) (by omega)
          rw [List.getElem?_eq_getElem (by rw [HM.out]; omega)] at hp hy
          rw [Option.some.inj hp, Option.some.inj hy] at this
          exact this
        have g0 : decide (0 < j + 1) = true := by rw [decide_eq_true_eq]; omega
        have hw : IntKind.i64.wrap (((j + 1 : Nat) : Int) - 1) = (j : Int) := by rw [IntKind.wrap_i64]; omega
        have i2 : (0 : Int) ≤ (j : Int) := by omega
        have i3 : (j : Int) < (m : Int) := by omega
        clear hx hym hy hp
        go_wp2
        refine wp_region_later (by kernel_rfl) (by kernel_rfl) ?_
        repeat (first | go_big_quiet_skip | (go_big_quiet_want; go_big_quiet_op; first | go_big_quiet_on | (apply Exists.intro; refine ⟨fun x => ?_, ?_⟩; (first | (go_at_call 19; exact Calls.later_same (CQ.out _))); go_big_quiet_on)))
        refine wpQuiet_nil ?_
        rintro w3 ⟨x2, hx2⟩
        have hb2 : Below wr.heap.size wr w3 := hx2 ▸ x2.2
        clear hx2 x2
        go_wp2
        go_roundw
        case rel => exact ⟨j + 1 + 1, by omega, by go_num, chain hb hb2⟩
        case measure => simp [intOf]; omega
    · have b3 := chain b2 hb
      have A3 := HA1.out.below hb
      have AO := HA2.out.below hb
      clear HA1 HA2
      go_wp2_with fail
      refine (specSorted_any ad c1 n xs wr (by omega) A3 HXS.out).mono ?_
      rw [HL.out, HM.out]
      rintro e w3 ⟨v3, rfl, own3, c3⟩
      obtain ⟨a3, k3, rfl⟩ := own_slice own3
      have S3 := Lib.hid (strs.At.of_own own3)
      have SO := Lib.hid (AO.below c3)
      have b4 := chain b3 c3
      clear A3 AO own3 b3 c3
      go_wp2_with fail
      refine (same_any _ _ _ _ m l w3 (by omega) SO.out S3.out).mono ?_
      rintro e w4 ⟨rfl, c4⟩
      have b5 := chain b4 c4
      clear b4 c4
      have A4 := Lib.hid (strs.At.of_own (row4 w4 { data := #[98] } { data := #[97] } { data := #[98] } { data := #[65] } 9))
      have d4 := chain b5 ((Below.refl _ w4).alloc (Nat.le_refl _) (.cells #[.string { data := #[98] }, .string { data := #[97] }, .string { data := #[98] }, .string { data := #[65] }] 9))
      have HK := Lib.hid (HI.out.keep _ _ HG.out d4)
      go_wp2_with fail
      refine (HI.out.sorted _ 4 4 _ _ (by decide) A4.out HK.out).mono ?_
      rw [srt_ab]
      rintro e w5 ⟨v5, rfl, own5, c5⟩
      obtain ⟨a5, k5, rfl⟩ := own_slice own5
      have A5 := strs.At.of_own own5
      have b6 := chain d4 c5
      have d6 := (Below.refl _ w5).alloc (Nat.le_refl _) (.cells #[.string { data := #[97] }, .string { data := #[98] }] 9)
      have A6 := Lib.hid (A5.below d6)
      have A7 := Lib.hid (strs.At.of_own (row2 w5 { data := #[97] } { data := #[98] } 9))
      have b7 := chain b6 d6
      clear own5 A5 c5 d6 b6
      go_wp2_with fail
      refine (same_any _ _ _ _ 2 _ _ (by decide) A6.out A7.out).mono ?_
      rintro e w6 ⟨rfl, c6⟩
      go_wp2
      go_ret
      exact ⟨rfl, chain b7 c6⟩

set_option maxRecDepth 20000 in
theorem sorted_big (a : Option Addr) (len cap : Nat) (w : World) (h1 : 1048576 < len) :
    Calls Tryd.prog 4 #[.slice a len cap] w fun e w' => e = .returned (.bool true) ∧ Below w.heap.size w w' := by
  go_enter Tryd.func4, Tryd.ntmps4
  go_wp2_with fail
  refine (big_yes a len cap w h1).mono ?_
  rintro e w' ⟨rfl, rfl⟩
  go_wp2
  go_ret
  exact ⟨rfl, Below.refl _ _⟩

end Go.Proofs.YtepecjofngoejaaDoor.nam
