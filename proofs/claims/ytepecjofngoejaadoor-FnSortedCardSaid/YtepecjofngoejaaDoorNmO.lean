/-
  impl.SortedNames: its contract, given the library's contracts of slices.Sort and slices.Compact.
-/
import Derived.Test.YtepecjofngoejaaDoorNmN
import Derived.Test.YtepecjofngoejaaDoorNmU
import Derived.Test.YtepecjofngoejaaDoorNameS
import Derived.Sort.OwnSorted
namespace Go.Proofs.YtepecjofngoejaaDoor.nam
open Go.RowKit Go.Sort
open kit
open num

set_option maxRecDepth 1000000
/-- what is asked of the library: slices.Sort, slices.Compact at strings -/
structure Libs : Prop where
  sort : ∀ (g cap : Nat) (ss : List (List UInt8)) (w : World), Holds encStr w g 0 ss.toArray → g < w.heap.size → ss.length < 4611686018427387904 →
    Calls Tryd.prog 43 #[.slice (some ⟨g, 0, none⟩) ss.length cap] w fun e w' => e = .returned (.tuple #[]) ∧ ∃ n os, w' = grow (putRow encStr (Sort.ahead w n) g 0 (ss.mergeSort fun x y => decide (x ≤ y)).toArray) os
  sort0 : ∀ (w : World), Calls Tryd.prog 43 #[.slice none 0 0] w fun e w' => e = .returned (.tuple #[]) ∧ w' = w
  comp : ∀ (g cap : Nat) (zs : List (List UInt8)) (w : World), Holds encStr w g 0 zs.toArray → zs.length ≤ 9223372036854775807 → zs.length ≤ cap →
    Calls Tryd.prog 44 #[.slice (some ⟨g, 0, none⟩) zs.length cap] w fun e w' => e = .returned (.slice (some ⟨g, 0, none⟩) (Lib.compact zs).length cap) ∧ ∃ q, w' = putRow encStr (Sort.ahead w q) g 0 (Lib.compact zs ++ List.replicate (zs.length - (Lib.compact zs).length) []).toArray
  comp0 : ∀ (w : World), Calls Tryd.prog 44 #[.slice none 0 0] w fun e w' => e = .returned (.slice none 0 0) ∧ w' = w

/-- what the two leave -/
theorem left_of {w w1 : World} {g cap n nn q : Nat} {os : Array Obj} {ss ts us : List (List UInt8)} {B : Nat} {T : TypeId} (hown : w1.ownsRow B T 1 (.slice (some ⟨g, 0, none⟩) n cap) n (ss.map encStr)) (hbel : Below B w w1) (hB : B ≤ w1.heap.size) (hbg : B ≤ g) (hlen : ss.length = n)
    (ht : ss.mergeSort (fun x y => decide (x ≤ y)) = ts) (hu : Lib.compact ts = us) :
    (putRow encStr (Sort.ahead (grow (putRow encStr (Sort.ahead w1 nn) g 0 ts.toArray) os) q) g 0 (us ++ List.replicate (ts.length - us.length) []).toArray).ownsRow B T 1 (.slice (some ⟨g, 0, none⟩) us.length cap) us.length (us.map encStr) ∧
    Below B w (putRow encStr (Sort.ahead (grow (putRow encStr (Sort.ahead w1 nn) g 0 ts.toArray) os) q) g 0 (us ++ List.replicate (ts.length - us.length) []).toArray) := by
  have hl2 : ts.length = ss.length := by rw [← ht]; exact List.length_mergeSort ss
  have hle : us.length ≤ ts.length := by rw [← hu]; exact Lib.compact_length_le ts
  subst hlen
  rcases hown.2 with ⟨h0, _⟩ | ⟨g', cap', cur, hv, hbase, hb, h1, h2, h3, h4⟩
  · cases h0
  cases hv
  have hs := ownsRow_sorted (n := nn) (os := os) (ts := ts) hl2 hbase hb h1 h2 h3
  rw [hl2] at *
  have hc := Lib.ownsRow_putRow (q := q) (k := us.length) (ys := us ++ List.replicate (ss.length - us.length) []) (by rw [hl2] at hs; exact hs) (by simp; omega) (by omega)
  rw [List.take_left] at hc
  exact ⟨hc, Lib.below_putRow (hbel.grown (grownBy_sorted _) hB (fun j hj => by cases hj; exact hbase)) hbg⟩

set_option maxHeartbeats 4000000 in
theorem implSorted_given (L : Libs) (a : Option Addr) (c n : Nat) (xs : List ByteArray) (w : World) (ht : n + strs.tot xs ≤ 1048576) (ha : strs.At w a n xs) (hH : Hand w) :
    Calls Tryd.prog 22 #[.slice a n c] w (PostL (srt xs) w) := by
  obtain ⟨ti, hi, hz0, hz1, hz2⟩ := info_parts strs.Tryd.infoStr
  have HL := Lib.hid ha.1
  have HA := Lib.hid ha
  have HH := Lib.hid hH
  have HS := Lib.hid (fun s hs => Nat.le_trans (strs.tot_each xs s hs) (by omega : strs.tot xs ≤ 1048576))
  have hn : n ≤ 1048576 := by omega
  have LL := Lib.hid L
  have HX := Lib.hid (sort_compact xs)
  clear ha hH ht L
  go_enter Tryd.func22, Tryd.ntmps22
  go_wp2
  go_loopw [3, 8] (fun o i wr => ∃ (k m : Nat) (l : List ByteArray), k ≤ n ∧ i = .int .i64 k ∧ Hid ((xs.take k).filter nok = l) ∧ l.length = m ∧ m ≤ k ∧ Hid (wr.ownsRow w.heap.size 9 1 o m (l.map Value.string)) ∧ Below w.heap.size w wr) (fun _ i _ => n - (intOf i).toNat)
  case atStart => exact ⟨0, 0, [], Nat.zero_le _, rfl, Lib.hid rfl, rfl, Nat.le_refl _, Lib.hid (World.ownsRow_nil _ _ _ _), Below.refl _ _⟩
  case round =>
    obtain ⟨k, m, l, hk, rfl, HF, hlm, hmk, HO, hb⟩ := hrel
    have HLM := Lib.hid hlm
    clear hlm
    by_cases hlt : k < n
    · obtain ⟨x, hxk⟩ : ∃ x, xs[k]? = some x := ⟨_, List.getElem?_eq_getElem (by rw [HL.out]; exact hlt)⟩
      obtain ⟨gl, ol, rfl, hgl, hx⟩ := HA.out.2.resolve_left (by omega)
      have cx : wr.cell? ⟨gl, ol + k, none⟩ = some (.string x) := (hb.cell (p := ⟨gl, ol + k, none⟩) hgl).trans (hx k x hxk)
      have hxs := HS.out x (List.mem_of_getElem? hxk)
      have HK := Lib.hid (show (xs.take (k + 1)).filter nok = l ++ [x].filter nok by rw [List.take_add_one, hxk, List.filter_append, HF.out]; rfl)
      have i0 : (0 : Int) ≤ (k : Int) := by omega
      have i1 : (k : Int) < (n : Int) := by omega
      have hbs := hb.size
      have HQ := Lib.hid (implOk_any x wr hxs (hand_below HH.out hb))
      clear hx hxk
      go_wp2_with fail
      refine HQ.out.mono ?_
      rintro e w1 ⟨rfl, b1⟩
      have c1 := chain hb b1
      have HO1 := Lib.hid (own_below HO.out b1)
      clear cx b1 HQ
      cases hok : nok x with
      | true =>
        have HKT := Lib.hid (show (xs.take (k + 1)).filter nok = l ++ [x] by rw [HK.out, List.filter_cons, if_pos hok]; rfl)
        have hown := HO1.out
        clear hok HK
        go_wp2_with (at_builtin; refine list_app (by rfl) (.tmp 14) (.tmp 16) 31 (by rfl) w w1 9 ti (.string { data := #[] }) 16 Tryd.underlying31 hi hz0 hz1 hz2 (by rfl) _ m _ hown c1 [.string _] 1 ?_ ?_ ?_ ?_ (by rfl) (by rfl) (by rfl) ?_ ?_; rfl; simp [Value.oneCell']; unfold maxLen; omega; omega; exact ⟨rfl, rfl, rfl⟩; intro v' w' hown' hb')
        go_roundw
        case rel => exact ⟨k + 1, m + 1, l ++ [x], by omega, by go_num, HKT, by rw [List.length_append, HLM.out]; rfl, by omega, Lib.hid (by simpa using hown'), hb'⟩
        case measure => simp [intOf]; omega
      | false =>
        have HKF := Lib.hid (show (xs.take (k + 1)).filter nok = l by rw [HK.out, List.filter_cons, if_neg (by rw [hok]; decide)]; simp)
        clear hok HK
        go_wp2
        go_roundw
        case rel => exact ⟨k + 1, m, l, by omega, by go_num, HKF, HLM.out, by omega, HO1, c1⟩
        case measure => simp [intOf]; omega
    · obtain rfl : k = n := by omega
      have HF2 := Lib.hid (show xs.filter nok = l by rw [← HF.out, List.take_of_length_le (by rw [HL.out]; exact Nat.le_refl _)])
      rw [HF2.out] at HX
      have hbs := hb.size
      rcases HO.out.2 with ⟨h0, h1⟩ | ⟨g, cap, cur, hv, hbase, hg, h1, h2, h3, h4⟩
      · subst h0
        have hl0 : l = [] := by
          exact List.eq_nil_of_length_eq_zero (by rw [HLM.out]; exact h1)
        subst hl0
        have HE := Lib.hid (show srt xs = [] by
          have := HX.out
          have e := congrArg List.length this
          rw [keys_length] at e
          exact List.eq_nil_of_length_eq_zero (by rw [← e]; simp [keys, Lib.compact, Lib.compactUpTo]))
        clear HO HX h1
        go_wp2_with (first | (go_at_call 43; refine (LL.out.sort0 _).mono ?_; rintro e w1 ⟨rfl, rfl⟩) | (go_at_call 44; refine (LL.out.comp0 _).mono ?_; rintro e w1 ⟨rfl, rfl⟩))
        go_ret
        rw [HE.out]
        exact ⟨_, rfl, World.ownsRow_nil _ _ _ _, hb⟩
      · subst hv
        have hown : wr.ownsRow w.heap.size 9 1 (.slice (some ⟨g, 0, none⟩) m cap) m ((keys l).map encStr) := by rw [keys_enc]; exact HO.out
        obtain ⟨g', cap', hv, hbg, hgl, hncap, hcm, hlen, hH⟩ := Lib.holds_of_ownsRow hown (by intro e; cases e)
        cases hv
        obtain ⟨ss, hss⟩ : ∃ ss, keys l = ss := ⟨_, rfl⟩
        rw [hss] at hown hlen hH HX
        obtain ⟨ts, hts⟩ : ∃ ts, ss.mergeSort (fun x y => decide (x ≤ y)) = ts := ⟨_, rfl⟩
        have hl2 : ts.length = m := by rw [← hts, List.length_mergeSort]; exact hlen
        rw [hts] at HX
        have HSORT := LL.out.sort g cap ss wr hH hgl (by omega)
        rw [hts, hlen] at HSORT
        have HSO := Lib.hid HSORT
        have HOWN := Lib.hid hown
        have HTS := Lib.hid hts
        have HLEN := Lib.hid hlen
        have HHO := Lib.hid hH
        clear HSORT hown hts hlen hH h4 h3 hg hss HO cur
        go_wp2_with fail
        refine HSO.out.mono ?_
        rintro e w2 ⟨rfl, nn, os, rfl⟩
        have hH2 : Holds encStr (grow (putRow encStr (Sort.ahead wr nn) g 0 ts.toArray) os) g 0 ts.toArray :=
          holds_grow encStr _ os g 0 _ (by simpa [putRow, mapBlock, Sort.ahead] using hgl) (holds_putRow encStr _ g 0 _ _ (holds_ahead encStr wr nn g 0 _ HHO.out) (by simp [HLEN.out, hl2]))
        have HCOMP := LL.out.comp g cap ts _ hH2 (by omega) (by omega)
        rw [hl2] at HCOMP
        have HC := Lib.hid HCOMP
        clear HCOMP hH2
        go_wp2_with fail
        refine HC.out.mono ?_
        rintro e w3 ⟨rfl, q, rfl⟩
        have hfin := left_of (nn := nn) (q := q) (os := os) HOWN.out hb hbs hbg HLEN.out HTS.out HX.out
        rw [keys_enc, keys_length] at hfin
        rw [HX.out, keys_length]
        have HFIN := Lib.hid hfin
        clear hfin
        go_wp2
        go_ret
        have h := HFIN.out
        rw [hl2] at h
        exact ⟨_, rfl, h.1, h.2⟩

end Go.Proofs.YtepecjofngoejaaDoor.nam
