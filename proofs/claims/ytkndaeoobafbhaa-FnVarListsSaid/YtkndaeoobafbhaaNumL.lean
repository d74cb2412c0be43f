/-
  Contracts of impl.VarList and impl.ReadVars (the landed code's).
-/
import Derived.Test.YtkndaeoobafbhaaNumK
import Derived.Test.YtkndaeoobafbhaaNumE
import Derived.Test.YtkndaeoobafbhaaBld
namespace Go.Proofs.Ytkndaeoobafbhaa.num
open Go.RowKit
open kit

set_option maxHeartbeats 1000000 in
theorem implList_any (a : Option Addr) (c n : Nat) (xs : List Int) (w : World) (hm : n ≤ 1048576) (ha : ints.At w a n xs) :
    Calls Try.prog 24 #[.slice a n c] w (PostT (vl xs) w) := by
  have HL := Lib.hid ha.1
  have HA := Lib.hid ha
  have hemp := str_full (vtI_pos (n : Int) (by unfold okI; simp; omega))
  have h5 := vtI_size n
  have HV := Lib.hid (implVar_any n w)
  obtain ⟨S, hS⟩ : ∃ S, vtI (n : Int) = S := ⟨_, rfl⟩
  rw [hS] at h5 hemp HV
  have HS := Lib.hid hS
  clear ha hS
  go_enter Try.func24, Try.ntmps24
  go_wp2_with fail
  refine (HV.out).mono ?_
  rintro e w1 ⟨rfl, b1⟩
  clear HV
  go_wp2_with fail
  refine (bld.write_first w1 S (by omega)).mono ?_
  rintro e w2 ⟨rfl, h2, b2⟩
  have HB := Lib.hid (chain b1 b2)
  have hsz := b2.size
  have hbs := b1.size
  obtain ⟨B, hB⟩ : ∃ B, w1.heap.size = B := ⟨_, rfl⟩
  rw [hB] at h2 hsz hbs
  have HSZ := Lib.hid hbs
  rw [hB]
  clear b1 b2 hB hbs
  go_wp2_with fail
  go_loopw [17] (fun i wr => ∃ (k : Nat) (T : ByteArray), k ≤ n ∧ i = .int .i64 k ∧ bld.At B B T wr ∧ B ≤ wr.heap.size ∧ T.size ≤ 5 + 5 * k ∧ vls S (xs.take k) = T ∧ (xs.take k).all okI = true ∧ Below w.heap.size w wr) (fun i _ => n - (intOf i).toNat)
  case atStart => exact ⟨0, S, Nat.zero_le _, rfl, h2, hsz, by omega, rfl, rfl, HB.out⟩
  case round =>
    obtain ⟨k, T, hk, rfl, hat, hBw, hT, hv, hall, hb⟩ := hrel
    have HVS := Lib.hid hv
    have HO := Lib.hid hall
    clear hv hall HB h2 hsz
    by_cases hlt : k < n
    · obtain ⟨x, hxk⟩ : ∃ x, xs[k]? = some x := ⟨_, List.getElem?_eq_getElem (by rw [HL.out]; exact hlt)⟩
      obtain ⟨g, o, rfl, hg, hx⟩ := HA.out.2.resolve_left (by omega)
      have c1 : wr.cell? ⟨g, o + k, none⟩ = some (.int .i64 x) := (hb.cell (p := ⟨g, o + k, none⟩) hg).trans (hx k x hxk)
      have HX := Lib.hid hxk
      have i0 : (0 : Int) ≤ (k : Int) := by omega
      have i1 : (k : Int) < (n : Int) := by omega
      clear hx hxk
      by_cases ho : okI x = true
      · have hemp2 := str_full (vtI_pos x ho)
        have hxs := vtI_size x
        have HOK := Lib.hid ho
        clear ho
        obtain ⟨U, hU⟩ : ∃ U, vtI x = U := ⟨_, rfl⟩
        rw [hU] at hemp2 hxs
        have HU := Lib.hid hU
        clear hU
        go_wp2_with fail
        refine (implVar_any x _).mono ?_
        rw [HU.out]
        rintro e w3 ⟨rfl, b3⟩
        have hat3 := bld.at_below hat b3
        have hs3 : B ≤ w3.heap.size := Nat.le_trans hBw b3.size
        go_wp2_with fail
        refine (bld.write_more B B T U w3 hat3 (by omega) hs3).mono ?_
        rintro e w4 ⟨rfl, h4, b4⟩
        have hs4 : B ≤ w4.heap.size := Nat.le_trans hs3 b4.size
        have hb4 := (chain hb b3).trans (b4.mono HSZ.out)
        go_wp2
        go_roundw
        case rel => exact ⟨k + 1, T ++ U, by omega, by go_num, h4, hs4, by rw [ByteArray.size_append]; omega, by rw [vls_snoc _ _ _ _ HX.out, HVS.out, HU.out], all_snoc _ _ _ HX.out HO.out HOK.out, hb4⟩
        case measure => simp [intOf]; omega
      · have HE := Lib.hid (vl_no xs k x HX.out (by simpa using ho))
        have HU := Lib.hid (vtI_empty x (by simpa using ho))
        clear ho
        go_wp2_with fail
        refine (implVar_any x _).mono ?_
        rw [HU.out]
        rintro e w3 ⟨rfl, b3⟩
        have hb3 := chain hb b3
        go_wp2
        go_ret
        exact ⟨by rw [HE.out]; rfl, hb3⟩
    · obtain rfl : k = n := by omega
      have htake : xs.take k = xs := List.take_of_length_le (by rw [HL.out]; exact Nat.le_refl _)
      have HE := Lib.hid (show vl xs = T by
        unfold vl
        rw [if_pos (by rw [← htake]; exact HO.out), HL.out, HS.out, ← HVS.out, htake])
      clear htake
      go_wp2_with fail
      refine (bld.string_any B B T wr hat hBw).mono ?_
      rintro e w3 ⟨rfl, b3⟩
      have hb3 := hb.trans (b3.mono HSZ.out)
      go_wp2
      go_ret
      exact ⟨by rw [HE.out]; rfl, hb3⟩

theorem take_put (ys : List Int) (k : Nat) (x : Int) (h : k < ys.length) : (ys.set k x).take (k + 1) = ys.take k ++ [x] := by
  rw [List.take_add_one, List.getElem?_set_self h, List.take_set_of_le (Nat.le_refl k)]
  rfl

set_option maxHeartbeats 1000000 in
theorem implVars_any (b : ByteArray) (a : Int) (w : World) (hm : b.size ≤ 1048576) :
    Calls Try.prog 26 #[.string b, .int .i64 a] w (PostL (rvs b a) w) := by
  obtain ⟨i0, hi, hz0, hz1, hz2⟩ := info_parts ints.Try.infoInt
  have hnil : w.ownsRow w.heap.size 3 1 (.slice none 0 0) 0 (([] : List Int).map (Value.int .i64)) := World.ownsRow_nil _ _ _ _
  have HR0 := Lib.hid (implRead_any b a w hm)
  go_enter Try.func26, Try.ntmps26
  rcases rvAt_cases b a with ⟨h, hE, _⟩ | ⟨p, n, m, rfl, hr, h, hpm, hn⟩
  · have HE := Lib.hid hE
    rw [h] at HR0
    unfold no2 at HR0
    clear h hE
    go_wp2_with fail
    refine (HR0.out).mono ?_
    rintro e w' ⟨rfl, rfl⟩
    go_wp2
    go_ret3
    exact ⟨_, by rw [HE.out]; rfl, by rw [HE.out]; exact hnil, Below.refl _ _⟩
  · rw [h] at HR0
    have HR := Lib.hid hr
    clear h hr
    by_cases hmany : 1000 < n
    · have HE := Lib.hid (rvs_many b p n m HR.out hmany)
      go_wp2_with fail
      refine (HR0.out).mono ?_
      rintro e w' ⟨rfl, rfl⟩
      go_wp2
      go_ret3
      exact ⟨_, by rw [HE.out]; rfl, by rw [HE.out]; exact hnil, Below.refl _ _⟩
    · have HN := Lib.hid (fun h3 => rvs_fail b p n m HR.out (by omega) h3)
      have HS := Lib.hid (fun vs k h3 => rvs_some b p n m k vs HR.out (by omega) h3)
      obtain ⟨p1, hp1⟩ : ∃ p1, p + m = p1 := ⟨_, rfl⟩
      rw [hp1] at HN HS hpm HR0
      have HP := Lib.hid hp1
      clear hp1 HR
      go_wp2_with fail
      refine (HR0.out).mono ?_
      rintro e w' ⟨rfl, rfl⟩
      go_wp2_with (refine wpList_make_full _ (by rfl) _ _ 29 (by rfl) w.heap.size 3 i0 (.int .i64 0) 1 Try.underlying29 hi hz0 hz1 .i64 .i64 _ _ n (by rfl) (by rfl) ?_ ?_ ?_ ?_ ?_ ?_; omega; omega; (rw [hz2]; omega); (unfold maxLen; omega); exact Nat.le_refl _; intro w1 hown1 hg1)
      have hb1 : Below w.heap.size w w1 := (Below.refl _ _).grown hg1 (Nat.le_refl _) (fun k hk => by cases hk)
      have hown2 : w1.ownsRow w.heap.size 3 1 (.slice (some ⟨w.heap.size, 0, none⟩) n n) n ((List.replicate n (0 : Int)).map (Value.int .i64)) := by
        rw [show (Value.int IntKind.i64 0).cells = #[.int .i64 0] from rfl, toList_madeCells_one] at hown1
        simpa using hown1
      clear hown1 HR0
      go_loopw [8, 9, 29] (fun nx o i wr => ∃ (k q : Nat) (vs : List Nat) (ys : List Int), k ≤ n ∧ i = .int .i64 k ∧ nx = .int .i64 q ∧ o = .bool true ∧ GoneK b p1 n k vs q ∧ ys.length = n ∧ ys.take k = intsOf vs ∧ wr.ownsRow w.heap.size 3 1 (.slice (some ⟨w.heap.size, 0, none⟩) n n) n (ys.map (Value.int .i64)) ∧ Below w.heap.size w wr) (fun _ _ i _ => n - (intOf i).toNat)
      case atStart => exact ⟨0, p1, [], _, Nat.zero_le _, rfl, rfl, rfl, goneK_zero b p1 n hpm, by simp, rfl, hown2, hb1⟩
      case round =>
        obtain ⟨k, q, vs, ys, hk, rfl, rfl, rfl, hg, hy, ht, hown, hb⟩ := hrel
        have HG := Lib.hid hg
        have HY := Lib.hid hy
        have HT := Lib.hid ht
        clear hg ht hown2
        by_cases hlt : k < n
        · have HRR := Lib.hid (implRead_any b (q : Int) wr hm)
          rcases rvAt_cases b (q : Int) with ⟨h, _, h2⟩ | ⟨p', v, m', hpp, hr, h, hpm', hv⟩
          · have HE := Lib.hid (HN.out (goneK_fail HG.out hlt (h2 q rfl)))
            rw [h] at HRR
            unfold no2 at HRR
            have hnil2 := own_base (own_below hnil hb) (Nat.le_refl _)
            obtain ⟨u, hcell⟩ : ∃ u, wr.cell? ⟨w.heap.size, k, none⟩ = some u := by
              rw [hown.cellAt k (by omega)]
              exact ⟨_, List.getElem?_eq_getElem (by rw [List.length_map, hy]; exact hlt)⟩
            have hfrz := hown.frozenAt k
            have hb' := hb.setCell (p := ⟨w.heap.size, k, none⟩) (Nat.le_refl _) (.int .i64 0)
            clear h h2 hy
            go_wp2_with fail
            refine (HRR.out).mono ?_
            rintro e w' ⟨rfl, rfl⟩
            go_wp2
            go_ret3
            exact ⟨_, by rw [HE.out]; rfl, by rw [HE.out]; exact World.ownsRow_nil _ _ _ _, hb'⟩
          · obtain rfl : q = p' := by omega
            have HG2 := Lib.hid (goneK_next HG.out hlt hr hpm')
            rw [h] at HRR
            obtain ⟨u, hcell⟩ : ∃ u, wr.cell? ⟨w.heap.size, k, none⟩ = some u := by
              rw [hown.cellAt k (by omega)]
              exact ⟨_, List.getElem?_eq_getElem (by rw [List.length_map, hy]; exact hlt)⟩
            have hfrz := hown.frozenAt k
            have HTT := Lib.hid (take_put ys k (v : Int) (by omega))
            have hst := (hown.stored k (.int .i64 (v : Int))).1
            rw [← List.map_set] at hst
            clear h hr hpp hy
            go_wp2_with fail
            refine (HRR.out).mono ?_
            rintro e w' ⟨rfl, rfl⟩
            go_wp2
            go_roundw
            case rel => exact ⟨k + 1, q + m', vs ++ [v], ys.set k (v : Int), by omega, by go_num, by go_num, rfl, HG2.out, by rw [List.length_set]; exact HY.out, by rw [HTT.out, intsOf_snoc, HT.out], hst, hb.setCell (Nat.le_refl _) _⟩
            case measure => simp [intOf]; omega
        · obtain rfl : k = n := by omega
          have HE := Lib.hid (HS.out vs _ (goneK_end HG.out))
          have HQ := Lib.hid (show ((p1 + (q - p1) : Nat) : Int) = (q : Int) by have := HG.out.2.1; omega)
          have HF := Lib.hid (show ys = intsOf vs by rw [← HT.out, List.take_of_length_le (by rw [HY.out]; exact Nat.le_refl _)])
          have HLL := Lib.hid (show (intsOf vs).length = k by rw [intsOf_length]; exact HG.out.1)
          clear hy
          go_wp2
          go_ret3
          refine ⟨_, by rw [HE.out, HQ.out]; rfl, ?_, hb⟩
          rw [HE.out, HLL.out, ← HF.out]
          exact hown

end Go.Proofs.Ytkndaeoobafbhaa.num
