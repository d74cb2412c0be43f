/-
  Contracts of impl's parts laid together, of their sum, and of the trailer.
-/
import Derived.Test.YtpibemlganeacaaGreatDoorMathX
import Derived.Test.YtpibemlganeacaaGreatDoorShelf
import Derived.Test.YtpibemlganeacaaGreatDoorPlV
import Derived.Test.YtpibemlganeacaaGreatDoorPlC
import Derived.Test.YtpibemlganeacaaGreatDoorFrQ
import Derived.BigQuiet
import Derived.Test.YtpibemlganeacaaGreatDoorAppB
import Derived.Deep.RegionLaw
import Derived.Deep.CutRange
import Derived.Deep.RegionHeld3
import Derived.Test.YtpibemlganeacaaGreatDoorPlH
import Derived.Test.YtpibemlganeacaaGreatDoorNumY
namespace Go.Proofs.YtpibemlganeacaaGreatDoor.pl
set_option maxRecDepth 20000
open Go.RowKit
open kit sum num burst hd fr recs sc

theorem more_cat (a b : ByteArray) : more ((more 0 a : Nat) : Int) b = more 0 (a ++ b) := by
  have e : (a ++ b).data.toList = a.data.toList ++ b.data.toList := by rw [ByteArray.data_append, Array.toList_append]
  unfold more
  rw [low_of _ (sumMore_lt (low_lt 0) _), e, sumMore_append]
theorem more_nul : more 0 nul = 0 := by decide
theorem cat_snoc (x : ByteArray) : ∀ L : List ByteArray, cat (L ++ [x]) = cat L ++ x
  | [] => by
    show x ++ nul = nul ++ x
    rw [show x ++ nul = x from ByteArray.append_empty, show nul ++ x = x from ByteArray.empty_append]
  | y :: ys => by
    show y ++ cat (ys ++ [x]) = y ++ cat ys ++ x
    rw [cat_snoc x ys, app_assoc]
theorem cat_take {L : List ByteArray} {k : Nat} {x : ByteArray} (h : L[k]? = some x) : cat (L.take (k + 1)) = cat (L.take k) ++ x := by
  rw [List.take_add_one, h, Option.toList_some, cat_snoc]
theorem has_nul (L : List ByteArray) : Lib.containsS (L.take L.length) { data := #[] } = decide (nul ∈ L) := by
  rw [List.take_length, Bool.eq_iff_iff, Lib.containsS_iff, decide_eq_true_iff]
  rfl

theorem joined (g o c n : Nat) (L : List ByteArray) (w : World) (hl : L.length = n) (hc : n ≤ c) (hg : g < w.heap.size) (hx : ∀ (j : Nat) x, L[j]? = some x → w.cell? ⟨g, o + j, none⟩ = some (.string x)) (hn : n ≤ 4194304) (hm : ∀ x ∈ L, x.size ≤ 16777216) :
    Calls Tryz.prog 100 #[.slice (some ⟨g, o, none⟩) n c] w fun e w' => e = .returned (.string (jn L)) ∧ Below w.heap.size w w' := by
  subst hl
  have hlen := cat_le L hm
  have CC := Tryz.slices_Contains_string g o L.length c L { data := #[] } w (Nat.le_refl _) (by omega) (fun j hj => by
    rw [hx j _ (List.getElem?_eq_getElem hj), List.getD_eq_getElem?_getD, List.getElem?_eq_getElem hj]
    rfl)
  rw [has_nul] at CC
  have CC := Lib.hid CC
  have hlen2 : (cat L).data.toList.length ≤ 140737488355328 := by
    have e : (cat L).data.toList.length = (cat L).size := rfl
    rw [e]
    have h3 := Nat.mul_le_mul_right 16777216 hn
    omega
  have CJ := Tryz.strings_Join g o c L { data := #[] } w hx hg (by omega) hc (by rw [show ({ data := #[] } : ByteArray) = nul from rfl, cat_join]; exact hlen2)
  rw [show ({ data := #[] } : ByteArray) = nul from rfl, cat_join, show (⟨(cat L).data.toList.toArray⟩ : ByteArray) = cat L from rfl, show nul = ({ data := #[] } : ByteArray) from rfl] at CJ
  have CJ := Lib.hid CJ
  have HB := Lib.hid (fun h => jn_bad (L := L) h)
  have HG := Lib.hid (fun h => jn_good (L := L) h)
  clear hlen hlen2 hx hm hg
  by_cases h : nul ∈ L
  · rw [decide_eq_true h] at CC
    have HE := Lib.hid (HB.out h)
    clear h HB HG
    go_enter Tryz.func100, Tryz.ntmps100
    go_wp2_with (fail)
    refine CC.out.mono ?_
    rintro e w' ⟨rfl, rfl⟩
    go_wp2
    go_ret
    exact ⟨by rw [HE.out]; rfl, Below.refl _ _⟩
  · rw [decide_eq_false h] at CC
    have HE := Lib.hid (HG.out h)
    clear h HB HG
    go_enter Tryz.func100, Tryz.ntmps100
    go_wp2_with (fail)
    refine CC.out.mono ?_
    rintro e w' ⟨rfl, rfl⟩
    go_wp2_with (fail)
    refine CJ.out.mono ?_
    rintro e w2 ⟨rfl, b2⟩
    go_wp2
    go_ret
    exact ⟨by rw [HE.out]; rfl, b2⟩
theorem cells3 (x y z : ByteArray) (W : World) : ∀ (j : Nat) u, [x, y, z][j]? = some u → (W.alloc (.cells #[.string x, .string y, .string z] 9)).cell? ⟨W.heap.size, 0 + j, none⟩ = some (.string u) := fun j u hu => by
  rw [Nat.zero_add]
  refine (Box.new W #[.string x, .string y, .string z] 9).at j _ ?_
  show ([x, y, z].map Value.string)[j]? = _
  rw [List.getElem?_map, hu]
  rfl
theorem joined3 (x y z : ByteArray) (W : World) (hx : x.size ≤ 16777216) (hy : y.size ≤ 16777216) (hz : z.size ≤ 16777216) :
    Calls Tryz.prog 100 #[.slice (some ⟨W.heap.size, 0, none⟩) 3 3] (W.alloc (.cells #[.string x, .string y, .string z] 9)) fun e w' => e = .returned (.string (jn [x, y, z])) ∧ Below W.heap.size W w' := by
  refine (joined W.heap.size 0 3 3 [x, y, z] _ rfl (Nat.le_refl _) (by simp) (cells3 x y z W) (by decide) ?_).mono ?_
  · intro u hu
    rcases mem3.1 hu with rfl | rfl | rfl <;> assumption
  · rintro e w' ⟨rfl, b⟩
    exact ⟨rfl, ((Below.refl _ _).alloc (Nat.le_refl _) _).trans (b.mono (by simp))⟩

theorem implMoreL (s : Int) (t : ByteArray) (w : World) (hm : t.size ≤ 9223372036854775807) :
    Calls Tryz.prog 94 #[.int .i64 s, .string t] w fun e w' => e = .returned (.int .i64 ((more s t : Nat) : Int)) ∧ w = w' := implMore_any s t w hm
theorem summed (g o c n : Nat) (L : List ByteArray) (w : World) (hl : L.length = n) (hx : ∀ (j : Nat) x, L[j]? = some x → w.cell? ⟨g, o + j, none⟩ = some (.string x)) (hn : n ≤ 4194304) (hm : ∀ x ∈ L, x.size ≤ 16777216) :
    Calls Tryz.prog 106 #[.slice (some ⟨g, o, none⟩) n c] w fun e w' => e = .returned (.int .i64 ((more 0 (cat L) : Nat) : Int)) ∧ w = w' := by
  have HX := Lib.hid hx
  have HM := Lib.hid hm
  have HL := Lib.hid hl
  clear hx hm
  go_enter Tryz.func106, Tryz.ntmps106
  go_wp2
  go_loopw [3, 8] (fun x i wr => ∃ (k : Nat), k ≤ n ∧ i = .int .i64 k ∧ x = .int .i64 ((more 0 (cat (L.take k)) : Nat) : Int) ∧ w = wr) (fun _ i _ => n - (intOf i).toNat)
  case atStart => exact ⟨0, Nat.zero_le _, rfl, by rw [List.take_zero]; exact congrArg (fun q : Nat => Value.int .i64 (q : Int)) more_nul.symm, rfl⟩
  case round =>
    obtain ⟨k, hk, rfl, rfl, rfl⟩ := hrel
    by_cases hlt : k < n
    · obtain ⟨x, hxk⟩ : ∃ x, L[k]? = some x := ⟨_, List.getElem?_eq_getElem (by rw [HL.out]; exact hlt)⟩
      have c1 := HX.out k x hxk
      have hs := HM.out x (List.mem_of_getElem? hxk)
      have HE := Lib.hid ((more_cat (cat (L.take k)) x).trans (congrArg (more 0) (cat_take hxk).symm))
      have i0 : (0 : Int) ≤ (k : Int) := by omega
      have i1 : (k : Int) < (n : Int) := by omega
      obtain ⟨q, hq⟩ : ∃ q, more 0 (cat (L.take k)) = q := ⟨_, rfl⟩
      rw [hq] at HE ⊢
      have CM := Lib.hid (fun w => implMoreL (q : Int) x w (by omega))
      clear hxk hq
      go_wp2_with (fail)
      refine (CM.out _).mono ?_
      rintro e w' ⟨rfl, rfl⟩
      go_wp2
      go_roundw
      case rel => exact ⟨k + 1, by omega, by go_num, by rw [HE.out], trivial⟩
      case measure => simp [intOf]; omega
    · obtain rfl : k = n := by omega
      have HE := Lib.hid (show L.take k = L by rw [← HL.out, List.take_length])
      rw [HE.out]
      go_wp2
      go_ret
      exact ⟨rfl, rfl⟩
theorem summed3 (x y z : ByteArray) (W : World) (hx : x.size ≤ 16777216) (hy : y.size ≤ 16777216) (hz : z.size ≤ 16777216) :
    Calls Tryz.prog 106 #[.slice (some ⟨W.heap.size, 0, none⟩) 3 3] (W.alloc (.cells #[.string x, .string y, .string z] 9)) fun e w' => e = .returned (.int .i64 ((sumT (x ++ y ++ z) : Nat) : Int)) ∧ Below W.heap.size W w' := by
  refine (summed W.heap.size 0 3 3 [x, y, z] _ rfl (cells3 x y z W) (by decide) ?_).mono ?_
  · intro u hu
    rcases mem3.1 hu with rfl | rfl | rfl <;> assumption
  · rintro e w' ⟨rfl, rfl⟩
    exact ⟨by rw [cat3, sum_zero], (Below.refl _ _).alloc (Nat.le_refl _) _⟩

theorem implAhead (a b c : Int) (w : World) :
    Calls Tryz.prog 107 #[.int .i64 a, .int .i64 b, .int .i64 c] w fun e w' => e = .returned (.string (ahT a b c)) ∧ Below w.heap.size w w' := by
  have HE := Lib.hid (show ahT a b c = jn [fxI a 4, fxI b 4, fxI c 4] from rfl)
  have CA := Lib.hid (fun w => implFixL a 4 w)
  have CB := Lib.hid (fun w => implFixL b 4 w)
  have CC := Lib.hid (fun w => implFixL c 4 w)
  have na := fxI_size a 4
  have nb := fxI_size b 4
  have nc := fxI_size c 4
  obtain ⟨x, hx⟩ : ∃ x, fxI a 4 = x := ⟨_, rfl⟩
  obtain ⟨y, hy⟩ : ∃ y, fxI b 4 = y := ⟨_, rfl⟩
  obtain ⟨z, hz⟩ : ∃ z, fxI c 4 = z := ⟨_, rfl⟩
  rw [hx] at HE CA na
  rw [hy] at HE CB nb
  rw [hz] at HE CC nc
  have CJ := Lib.hid (fun W => joined3 x y z W (by omega) (by omega) (by omega))
  clear hx hy hz
  go_enter Tryz.func107, Tryz.ntmps107
  go_wp2_with (fail)
  refine (CA.out _).mono ?_
  rintro e w1 ⟨rfl, b1⟩
  go_wp2_with (fail)
  refine (CB.out _).mono ?_
  rintro e w2 ⟨rfl, b2⟩
  go_wp2_with (fail)
  refine (CC.out _).mono ?_
  rintro e w3 ⟨rfl, b3⟩
  go_wp2_with (fail)
  refine (CJ.out _).mono ?_
  rintro e w4 ⟨rfl, b4⟩
  have b12 := b1.trans (b2.mono b1.size)
  have b13 := b12.trans (b3.mono b12.size)
  have b14 := Lib.hid (b13.trans (b4.mono b13.size))
  clear b1 b2 b3 b4 b12 b13
  go_wp2
  go_ret
  exact ⟨by rw [HE.out]; rfl, b14.out⟩
theorem implTrailer (a b c d : Int) (w : World) :
    Calls Tryz.prog 108 #[.int .i64 a, .int .i64 b, .int .i64 c, .int .i64 d] w fun e w' => e = .returned (.string (trT a b c d)) ∧ Below w.heap.size w w' := by
  have HE := Lib.hid (trT_jn a b c d)
  have CA := Lib.hid (fun w => implAhead a b c w)
  have CB := Lib.hid (fun w => implFixL d 4 w)
  have na := ahT_le a b c
  have nb := fxI_size d 4
  obtain ⟨x, hx⟩ : ∃ x, ahT a b c = x := ⟨_, rfl⟩
  obtain ⟨y, hy⟩ : ∃ y, fxI d 4 = y := ⟨_, rfl⟩
  rw [hx] at HE CA na
  rw [hy] at HE CB nb
  have CJ := Lib.hid (fun W => joined3 x y idx W (by omega) (by omega) (by decide))
  rw [show idx = ({ data := #[73, 68, 88, 33] } : ByteArray) from rfl] at CJ HE
  clear hx hy
  go_enter Tryz.func108, Tryz.ntmps108
  go_wp2_with (fail)
  refine (CA.out _).mono ?_
  rintro e w1 ⟨rfl, b1⟩
  go_wp2_with (fail)
  refine (CB.out _).mono ?_
  rintro e w2 ⟨rfl, b2⟩
  go_wp2_with (fail)
  refine (CJ.out _).mono ?_
  rintro e w4 ⟨rfl, b4⟩
  have b12 := b1.trans (b2.mono b1.size)
  have b14 := Lib.hid (b12.trans (b4.mono b12.size))
  clear b1 b2 b4 b12
  go_wp2
  go_ret
  exact ⟨by rw [HE.out]; rfl, b14.out⟩

end Go.Proofs.YtpibemlganeacaaGreatDoor.pl

namespace Go.Proofs.YtpibemlganeacaaGreatDoor.pl
set_option maxRecDepth 20000
open Go.RowKit
open kit sum num burst hd fr recs sc

theorem plN_skip {s : Int} {os : List Int} {k : Nat} (hs : 1 ≤ s) (hk : k % s.toNat = 0) : ∀ d : Nat, (d : Int) < s → plN s (os.take (k + 1 + d)) = plN s (os.take (k + 1))
  | 0, _ => rfl
  | d + 1, h => by
    have ih := plN_skip hs hk d (by omega) (os := os)
    by_cases hl : k + 1 + d < os.length
    · have hm : (k + 1 + d) % s.toNat ≠ 0 := by
        obtain ⟨t, ht⟩ : ∃ t, s.toNat = t := ⟨_, rfl⟩
        rw [ht] at hk ⊢
        have h1 : d + 1 < t := by omega
        rw [show k + 1 + d = k + (1 + d) by omega, Nat.add_mod, hk, Nat.zero_add, Nat.mod_mod, Nat.mod_eq_of_lt (by omega)]
        omega
      rw [show k + 1 + (d + 1) = k + 1 + d + 1 by omega, plN_take hs (List.getElem?_eq_getElem hl), if_neg hm, List.append_nil, ih]
    · rw [List.take_of_length_le (by omega), ← ih, List.take_of_length_le (by omega)]

set_option maxHeartbeats 1000000 in
theorem implPlaces (s : Int) (a : Option Addr) (c n : Nat) (os : List Int) (w : World) (hm : n ≤ 1048576) (hs : i64 s) (ha : ints.At w a n os) :
    Calls Tryz.prog 105 #[.int .i64 s, .slice a n c] w (PlR (plN s os) w) := by
  obtain ⟨i0, hi, hz0, hz1, hz2⟩ := info_parts Tryz.infoPlace
  have HL := Lib.hid ha.1
  have HA := Lib.hid ha
  have HS := Lib.hid hs
  clear ha hs
  by_cases h1 : 1 ≤ s
  · have g1 : ¬ s < 1 := by omega
    go_enter Tryz.func105, Tryz.ntmps105
    go_wp2
    go_loopw [5, 6] (fun o i wr => ∃ k : Nat, i = .int .i64 k ∧ k % s.toNat = 0 ∧ Hid (OwnP w.heap.size wr o (plN s (os.take k))) ∧ Hid (Below w.heap.size w wr)) (fun _ i _ => n - (intOf i).toNat)
    case atStart => exact ⟨0, rfl, Nat.zero_mod _, Lib.hid (by rw [List.take_zero, plN_nil]; exact World.ownsRow_nil _ _ _ _), Lib.hid (Below.refl _ _)⟩
    case round =>
      obtain ⟨k, rfl, hk, hown, hb⟩ := hrel
      by_cases hlt : k < n
      · obtain ⟨x, hxk⟩ : ∃ x, os[k]? = some x := ⟨_, List.getElem?_eq_getElem (by rw [HL.out]; exact hlt)⟩
        obtain ⟨g, o, rfl, hg, hx⟩ := HA.out.2.resolve_left (by omega)
        have c1 : wr.cell? ⟨g, o + k, none⟩ = some (.int .i64 x) := (hb.out.cell (p := ⟨g, o + k, none⟩) hg).trans (hx k x hxk)
        have HT := Lib.hid ((plN_take h1 hxk).trans (by rw [if_pos hk]))
        obtain ⟨t, ht⟩ := Int.eq_ofNat_of_zero_le (show 0 ≤ s by omega)
        have HK := Lib.hid (plN_skip (os := os) h1 hk (t - 1) (by omega))
        have i0' : (0 : Int) ≤ (k : Int) := by omega
        have i1 : (k : Int) < (n : Int) := by omega
        have hks : (k : Int) + s ≤ 9223372036854775807 := by
          have h64 := HS.out
          unfold i64 at h64
          by_cases hz : k = 0
          · omega
          · have hle : s.toNat ≤ k := by
              by_cases hc : s.toNat ≤ k
              · exact hc
              · rw [Nat.mod_eq_of_lt (by omega)] at hk; omega
            omega
        have hlen := plN_le s (os.take k)
        rw [List.length_take] at hlen
        have hcnt : (plN s (os.take k)).length ≤ k := by omega
        have hk2 : (k + t) % s.toNat = 0 := by rw [ht, Int.toNat_natCast, Nat.add_mod_right]; rw [ht, Int.toNat_natCast] at hk; exact hk
        clear hlen hx
        obtain ⟨q, hq⟩ : ∃ q, (plN s (os.take k)).length = q := ⟨_, rfl⟩
        have HQ := Lib.hid hq
        unfold OwnP at hown
        rw [hq] at hown hcnt
        clear hq hxk
        have HK2 := Lib.hid hk2
        have HTT := Lib.hid ht
        clear hk2 hk ht
        go_wp2_with (at_builtin; refine list_appN (by rfl) (.tmp 16) (.tmp 23) 29 (by rfl) w wr 36 i0 (.agg #[.int .i64 0, .int .i64 0]) 2 16 Tryz.underlying29 hi hz0 hz1 hz2 (by rfl) (by decide) _ q _ hown.out hb.out [.int .i64 (k : Int), .int .i64 x] 1 ?_ ?_ ?_ ?_ (by rfl) (by rfl) (by rfl) ?_ ?_; rfl; exact two_ints k x; unfold maxLen; omega; omega; exact ⟨rfl, rfl, rfl⟩; intro v' w' hown' hb')
        go_roundw
        case rel =>
          refine ⟨k + t, ?_, HK2.out, Lib.hid ?_, Lib.hid hb'⟩
          · have ht := HTT.out
            subst ht
            first
              | rfl
              | (congr 1; push_cast; rfl)
              | (show Value.int .i64 _ = Value.int .i64 _; congr 1)
          · unfold OwnP
            have ht := HTT.out
            rw [show k + t = k + 1 + (t - 1) by omega, HK.out, HT.out, cellsP_app, List.length_append, HQ.out]
            exact hown'
        case measure =>
          have ht := HTT.out
          simp [intOf]; omega
      · have HE := Lib.hid (show os.take k = os from List.take_of_length_le (by rw [HL.out]; omega))
        rw [HE.out] at hown
        have i1 : ¬ (k : Int) < (n : Int) := by omega
        clear hk
        go_wp2
        go_ret
        exact ⟨⟨_, rfl, hown.out⟩, hb.out⟩
  · have g1 : s < 1 := by omega
    have HN := Lib.hid (plN_no (os := os) h1)
    go_enter Tryz.func105, Tryz.ntmps105
    go_wp2
    go_ret
    exact ⟨⟨_, rfl, by rw [HN.out]; exact World.ownsRow_nil _ _ _ _⟩, Below.refl _ _⟩

end Go.Proofs.YtpibemlganeacaaGreatDoor.pl

namespace Go.Proofs.YtpibemlganeacaaGreatDoor.pl
set_option maxRecDepth 20000
open Go.RowKit
open kit sum num burst hd fr recs sc

theorem step_appN3 {P : Program} {ops : Array Oper} {o : Oper} {a : Act} {K : Act → World → Prop} {Q : Exit → Act → World → Prop} {E : Prop} {w : World} (hgd : o.guard = none) (s x : Operand) (t : TypeId)
    (ho : o.op = .call { callee := .builtin .append, args := #[s, x], argTypes := #[t, t] })
    (B : Nat) (wr : World) (e : TypeId) (i : TypeInfo) (z : Value) (size bytes : Nat) (ht : P.underlying t = some (.slice e)) (hi : P.info? e = some i) (hz : i.zero = some z)
    (hsize : i.size = size) (hby : i.bytes = bytes) (hzs : z.cells.size = size) (hsz : 0 < size)
    (v : Value) (n : Nat) (xs : List Value) (hown : wr.ownsRow B e size v n xs) (hB : B ≤ wr.heap.size)
    (news : List Value) (m : Nat) (hm : 0 < m) (hlen : news.length = m * size) (hone : ∀ u ∈ news, u.oneCell' = true) (h63 : n + m ≤ maxLen) (hbytes : (n + m) * bytes ≤ 140737488355328)
    (hs : a.eval s = v) (hx : a.eval x = .slice (some ⟨wr.heap.size, 0, none⟩) m m)
    (hw : w = wr.alloc (.cells news.toArray e))
    (h : ∀ v' w', w'.ownsRow B e size v' (n + m) (xs ++ news) → wr.grownBy w' v.ownBlock → (∀ b, v'.ownBlock = some b → v.ownBlock = some b ∨ wr.heap.size ≤ b) → K (a.put o.dst v') w') :
    if Region.wanted o (yielded ops a.tmps) = true then Oper.wp P o a w K Q else E := by
  have hwd : Region.wanted o (yielded ops a.tmps) = true := by simp [Region.wanted, hgd]
  rw [if_pos hwd]
  exact wp_appN3 s x t ho B wr e i z size bytes ht hi hz hsize hby hzs hsz v n xs hown hB news m hm hlen hone h63 hbytes hs hx hw h
theorem two_strs (s t : ByteArray) : ∀ u ∈ ([.string s, .string t] : List Value), u.oneCell' = true := by simp [Value.oneCell']
theorem map_two (P : List ByteArray) (s t : ByteArray) : P.map Value.string ++ [.string s, .string t] = (P ++ [s, t]).map Value.string := by simp
theorem own_cells_at {w : World} {B : Nat} {v : Value} {n : Nat} {L : List ByteArray} (h : w.ownsRow B 9 1 v n (L.map Value.string)) (hn : 0 < n) : ∃ g c, v = .slice (some ⟨g, 0, none⟩) n c ∧ L.length = n ∧ n ≤ c ∧ g < w.heap.size ∧ ∀ (j : Nat) x, L[j]? = some x → w.cell? ⟨g, 0 + j, none⟩ = some (.string x) := by
  have hl : L.length = n := by have := h.1; simpa using this
  rcases h.2 with ⟨rfl, rfl⟩ | ⟨g, cap, cur, rfl, hB, hg, hnc, hcm, _⟩
  · omega
  · refine ⟨g, cap, rfl, hl, hnc, (Array.getElem?_eq_some_iff.1 hg).1, fun j x hx => ?_⟩
    have hj : j < n := by rw [← hl]; exact (List.getElem?_eq_some_iff.1 hx).1
    rw [Nat.zero_add, h.cellAt j (by omega), List.getElem?_map, hx]
    rfl
theorem implVarT (n : Int) (w : World) : Calls Tryz.prog 113 #[.int .i64 n] w fun e w' => e = .returned (.string (vtI n)) ∧ Below w.heap.size w w' := implVar_any n w

set_option maxHeartbeats 4000000 in
theorem implPlacesText (a : Option Addr) (c n : Nat) (xs : List Plc) (w : World) (hm : n ≤ 1048576) (hw : wfP xs) (ha : AtP w a n xs) :
    Calls Tryz.prog 104 #[.slice a n c] w fun e w' => e = .returned (.string (plT xs)) ∧ Below w.heap.size w w' := by
  obtain ⟨i1, gi, gz0, gz1, gz2⟩ := info_parts strs.Tryz.infoStr
  have HA := Lib.hid ha
  have HL := Lib.hid ha.len
  have HE := Lib.hid (plT_jn (by rw [ha.len]; exact hm) hw)
  have HPL := Lib.hid (pd_len xs (0, 0))
  have HPS := Lib.hid (pd_size xs (0, 0))
  rw [ha.len] at HE HPL
  have CV := Lib.hid (fun w => implVarT (n : Int) w)
  have nV := vtI_size (n : Int)
  obtain ⟨V, hV⟩ : ∃ V, vtI (n : Int) = V := ⟨_, rfl⟩
  rw [hV] at CV nV HE
  have NV := Lib.hid nV
  have HM := Lib.hid hm
  clear hV ha hw nV
  go_enter Tryz.func104, Tryz.ntmps104
  go_wp2_with (fail)
  refine (CV.out _).mono ?_
  rintro e w1 ⟨rfl, b1⟩
  have b2 := (Below.refl w1.heap.size w1).alloc (Nat.le_refl _) (.cells #[.string V] 9)
  obtain ⟨W1, hW1⟩ : ∃ W1, W1 = w1.alloc (.cells #[.string V] 9) := ⟨_, rfl⟩
  have o1 : W1.ownsRow w1.heap.size 9 1 (.slice (some ⟨w1.heap.size, 0, none⟩) 1 1) 1 ([V].map Value.string) := by
    rw [hW1]
    exact ⟨rfl, .inr ⟨w1.heap.size, 1, #[.string V], rfl, Nat.le_refl _, heap_alloc_new w1 _, Nat.le_refl _, by decide, rfl, rfl⟩⟩
  rw [← hW1] at b2
  have z1 : W1.heap.size = w1.heap.size + 1 := by rw [hW1]; simp
  have b3 := (Below.refl W1.heap.size W1).alloc (Nat.le_refl _) (.cells #[.int .i64 0, .int .i64 0] 36)
  have bx := Box.new W1 #[.int .i64 0, .int .i64 0] 36
  obtain ⟨W2, hW2⟩ : ∃ W2, W2 = W1.alloc (.cells #[.int .i64 0, .int .i64 0] 36) := ⟨_, rfl⟩
  rw [← hW2] at b3 bx
  rw [z1] at bx
  have gW : w.heap.size ≤ w1.heap.size := b1.size
  have O2 := Lib.hid (own_below o1 b3)
  have B1 := Lib.hid (b2.trans (b3.mono b2.size))
  have BQ := Lib.hid b1
  have BX := Lib.hid bx
  have HW1 := Lib.hid hW1
  have HW2 := Lib.hid hW2
  clear b1 b2 b3 bx o1 hW1 hW2 CV
  go_wp2
  rw [← HW1.out, ← HW2.out]
  clear HW1 HW2
  go_loopw [3, 13] (fun s i wr => ∃ (k : Nat) (P : List ByteArray) (l0 l1 : Int), k ≤ n ∧ i = .int .i64 k ∧ Hid (P.length = 1 + 2 * k) ∧ Hid (P ++ pd (l0, l1) (xs.drop k) = V :: pd (0, 0) xs) ∧ Hid (wr.ownsRow w1.heap.size 9 1 s (1 + 2 * k) (P.map Value.string)) ∧ Hid (∀ q, s.ownBlock = some q → q ≠ w1.heap.size + 1) ∧ Hid (Box wr (w1.heap.size + 1) [.int .i64 l0, .int .i64 l1]) ∧ Hid (Below w1.heap.size w1 wr)) (fun _ i _ => n - (intOf i).toNat)
  case atStart => exact ⟨0, [V], 0, 0, Nat.zero_le _, rfl, Lib.hid rfl, Lib.hid rfl, O2, Lib.hid (fun q hq => by simp only [Value.ownBlock, Option.some.injEq] at hq; omega), BX, B1⟩
  case round =>
    obtain ⟨k, P, l0, l1, hk, rfl, HP, HD, OO, HQ, HB, hb⟩ := hrel
    have BW := Lib.hid (BQ.out.trans (hb.out.mono BQ.out.size))
    by_cases hlt : k < n
    · obtain ⟨x0, x1, g, o, hx, rfl, hg, c0, c1⟩ := (HA.out.below BW.out).get hlt
      have HDD := Lib.hid (pd_drop (l := (l0, l1)) hx)
      have i0 : (0 : Int) ≤ (k : Int) := by omega
      have i1' : (k : Int) < (n : Int) := by omega
      have e0 : wl x0 l0 = IntKind.i64.wrap (x0 - l0) := (IntKind.wrap_i64 _).symm
      have e1 : wl x1 l1 = IntKind.i64.wrap (x1 - l1) := (IntKind.wrap_i64 _).symm
      have V0 := Lib.hid (fun w => implVarT (IntKind.i64.wrap (x0 - l0)) w)
      have V1 := Lib.hid (fun w => implVarT (IntKind.i64.wrap (x1 - l1)) w)
      have HDN := Lib.hid (HD.out.symm.trans (congrArg (P ++ ·) (HDD.out.trans (show _ = vtI (IntKind.i64.wrap (x0 - l0)) :: vtI (IntKind.i64.wrap (x1 - l1)) :: pd (x0, x1) (xs.drop (k + 1)) by rw [← e0, ← e1]))))
      obtain ⟨t0, ht0⟩ : ∃ t, vtI (IntKind.i64.wrap (x0 - l0)) = t := ⟨_, rfl⟩
      obtain ⟨t1, ht1⟩ : ∃ t, vtI (IntKind.i64.wrap (x1 - l1)) = t := ⟨_, rfl⟩
      rw [ht0] at V0 HDN
      rw [ht1] at V1 HDN
      have al := (Below.refl wr.heap.size wr).alloc (Nat.le_refl _) (.cells #[.int .i64 x0, .int .i64 x1] 36)
      have bx := Box.new wr #[.int .i64 x0, .int .i64 x1] 36
      obtain ⟨W3, hW3⟩ : ∃ W3, W3 = wr.alloc (.cells #[.int .i64 x0, .int .i64 x1] 36) := ⟨_, rfl⟩
      have z3 : W3.heap.size = wr.heap.size + 1 := by rw [hW3]; simp
      rw [← hW3] at al bx
      have B3 := Lib.hid (hb.out.trans (al.mono hb.out.size))
      have OO' := OO
      have OO := Lib.hid (own_below OO'.out al)
      have HX := Lib.hid bx
      have HB' := HB
      have HB := Lib.hid (HB'.out.below al)
      have HW3 := Lib.hid hW3
      have HZ := Lib.hid z3
      have hlt2 := Lib.hid HB'.out.lt
      have HO1 := Lib.hid (show u3.ownBlock ≠ some wr.heap.size from fun e => by have := (own_block_ge OO'.out _ e).2; omega)
      have HO2 := Lib.hid (show u3.ownBlock ≠ some (w1.heap.size + 1) from fun e => HQ.out _ e rfl)
      clear al bx hW3 z3 hb e0 e1 ht0 ht1 hx HD HDD OO' HB'
      go_upto_region 6 with fail
      rw [← HW3.out]
      clear HW3 c0 c1
      go_cut [3] from 14 to 33 (fun v wx => Hid (wx.ownsRow w1.heap.size 9 1 v (1 + 2 * k + 2) (P.map Value.string ++ [.string t0, .string t1])) ∧ Hid (∀ q, v.ownBlock = some q → q ≠ w1.heap.size + 1) ∧ Hid (Box wx wr.heap.size [.int .i64 x0, .int .i64 x1]) ∧ Hid (Box wx (w1.heap.size + 1) [.int .i64 l0, .int .i64 l1]) ∧ Hid (Below w1.heap.size w1 wx))
      case first =>
        have bd := (Below.refl W3.heap.size W3).drew
        have XD := HX.out.below bd
        have YD := HB.out.below bd
        have X0 : W3.drew.cell? ⟨wr.heap.size, 0, none⟩ = some (.int .i64 x0) := XD.at 0 _ rfl
        have X1 : W3.drew.cell? ⟨wr.heap.size, 1, none⟩ = some (.int .i64 x1) := XD.at 1 _ rfl
        have X2 : W3.drew.cell? ⟨w1.heap.size + 1, 0, none⟩ = some (.int .i64 l0) := YD.at 0 _ rfl
        have X3 : W3.drew.cell? ⟨w1.heap.size + 1, 1, none⟩ = some (.int .i64 l1) := YD.at 1 _ rfl
        have BD := Lib.hid (B3.out.trans (bd.mono B3.out.size))
        have OD := Lib.hid (own_below OO.out bd)
        have XD := Lib.hid XD
        have YD := Lib.hid YD
        clear bd
        go_region_held3 (fun w' => w'.cell? ⟨wr.heap.size, 0, none⟩ = some (.int .i64 x0) ∧ w'.cell? ⟨wr.heap.size, 1, none⟩ = some (.int .i64 x1) ∧ w'.cell? ⟨w1.heap.size + 1, 0, none⟩ = some (.int .i64 l0) ∧ w'.cell? ⟨w1.heap.size + 1, 1, none⟩ = some (.int .i64 l1)) (first | with_reducible exact ⟨X0, X1, X2, X3⟩ | with_reducible exact ⟨d0, d1, d2, d3⟩ | with_reducible exact ⟨e0, e1, e2, e3⟩ | with_reducible exact ⟨h0, h1, h2, h3⟩ | with_reducible exact ⟨k0, k1, k2, k3⟩) (first | (go_at_call 113; with_reducible refine (V0.out _).mono ?_; rintro e w4 ⟨rfl, b4⟩; have B4 := Lib.hid (BD.out.trans (b4.mono BD.out.size)); have O4 := Lib.hid (own_below OD.out b4); have X4 := XD.out.below b4; have Y4 := YD.out.below b4; have d0 : w4.cell? ⟨wr.heap.size, 0, none⟩ = some (.int .i64 x0) := X4.at 0 _ rfl; have d1 : w4.cell? ⟨wr.heap.size, 1, none⟩ = some (.int .i64 x1) := X4.at 1 _ rfl; have d2 : w4.cell? ⟨w1.heap.size + 1, 0, none⟩ = some (.int .i64 l0) := Y4.at 0 _ rfl; have d3 : w4.cell? ⟨w1.heap.size + 1, 1, none⟩ = some (.int .i64 l1) := Y4.at 1 _ rfl; have X4 := Lib.hid X4; have Y4 := Lib.hid Y4; clear b4 V0) | (go_at_call 113; with_reducible refine (V1.out _).mono ?_; rintro e w5 ⟨rfl, b5⟩; have B5 := Lib.hid (B4.out.trans (b5.mono B4.out.size)); have O5 := Lib.hid (own_below O4.out b5); have X5 := X4.out.below b5; have Y5 := Y4.out.below b5; have e0 : w5.cell? ⟨wr.heap.size, 0, none⟩ = some (.int .i64 x0) := X5.at 0 _ rfl; have e1 : w5.cell? ⟨wr.heap.size, 1, none⟩ = some (.int .i64 x1) := X5.at 1 _ rfl; have e2 : w5.cell? ⟨w1.heap.size + 1, 0, none⟩ = some (.int .i64 l0) := Y5.at 0 _ rfl; have e3 : w5.cell? ⟨w1.heap.size + 1, 1, none⟩ = some (.int .i64 l1) := Y5.at 1 _ rfl; have bA := (Below.refl w5.heap.size w5).alloc (Nat.le_refl _) (.cells #[.string t0, .string t1] 9); have XA := X5.below bA; have YA := Y5.below bA; have h0 : (w5.alloc (.cells #[.string t0, .string t1] 9)).cell? ⟨wr.heap.size, 0, none⟩ = some (.int .i64 x0) := XA.at 0 _ rfl; have h1 : (w5.alloc (.cells #[.string t0, .string t1] 9)).cell? ⟨wr.heap.size, 1, none⟩ = some (.int .i64 x1) := XA.at 1 _ rfl; have h2 : (w5.alloc (.cells #[.string t0, .string t1] 9)).cell? ⟨w1.heap.size + 1, 0, none⟩ = some (.int .i64 l0) := YA.at 0 _ rfl; have h3 : (w5.alloc (.cells #[.string t0, .string t1] 9)).cell? ⟨w1.heap.size + 1, 1, none⟩ = some (.int .i64 l1) := YA.at 1 _ rfl; have X5 := Lib.hid X5; have Y5 := Lib.hid Y5; clear b5 V1 bA XA YA) | (refine step_appN3 (by rfl) (.tmp 17) (.tmp 30) 42 (by rfl) w1.heap.size w5 9 i1 (.string { data := #[] }) 1 16 Tryz.underlying42 gi gz0 gz1 gz2 (by rfl) (by decide) _ (1 + 2 * k) _ O5.out B5.out.size [.string t0, .string t1] 2 (by decide) rfl (two_strs t0 t1) ?_ ?_ (by rfl) (by rfl) (by rfl) ?_; (unfold maxLen; omega); omega; intro v6 w6 o6 g6 q6; have B6 := Lib.hid (B5.out.grown g6 B5.out.size (fun k hk => (own_block_ge O5.out k hk).1)); have X6 := X5.out.grown g6 HO1.out; have Y6 := Y5.out.grown g6 HO2.out; have k0 : w6.cell? ⟨wr.heap.size, 0, none⟩ = some (.int .i64 x0) := X6.at 0 _ rfl; have k1 : w6.cell? ⟨wr.heap.size, 1, none⟩ = some (.int .i64 x1) := X6.at 1 _ rfl; have k2 : w6.cell? ⟨w1.heap.size + 1, 0, none⟩ = some (.int .i64 l0) := Y6.at 0 _ rfl; have k3 : w6.cell? ⟨w1.heap.size + 1, 1, none⟩ = some (.int .i64 l1) := Y6.at 1 _ rfl; have X6 := Lib.hid X6; have Y6 := Lib.hid Y6; have O6 := Lib.hid o6; have Q6 := Lib.hid (fun q (hq : v6.ownBlock = some q) => (q6 q hq).elim (fun e => HQ.out q e) (fun (e : w5.heap.size ≤ q) => by have := Y5.out.lt; omega)); clear o6 g6 q6))
        all_goals
          go_wp2_with (fail)
          go_meet
          exact ⟨O6, Q6, X6, Y6, B6⟩
      case rest =>
        obtain ⟨O6, Q6, X6, Y6, B6⟩ := hcut
        clear OO HX HB B3
        have X0 := X6.out.at 0 _ rfl
        have X1 := X6.out.at 1 _ rfl
        have Y0 := Y6.out.at 0 _ rfl
        have Y1 := Y6.out.at 1 _ rfl
        have f0 := Y6.out.2 0
        have f1 := Y6.out.2 1
        go_wp2
        go_roundw
        case rel =>
          refine ⟨k + 1, P ++ [t0, t1], x0, x1, by omega, by go_num, Lib.hid (by rw [List.length_append, HP.out]; show 1 + 2 * k + 2 = _; omega), Lib.hid (by rw [List.append_assoc]; exact HDN.out.symm), Lib.hid ?_, Lib.hid Q6.out, Lib.hid ((Y6.out.set 0 (.int .i64 x0) (by simp)).set 1 (.int .i64 x1) (by simp)), Lib.hid ((B6.out.setCell (p := ⟨w1.heap.size + 1, 0, none⟩) (Nat.le_succ _) _).setCell (p := ⟨w1.heap.size + 1, 1, none⟩) (Nat.le_succ _) _)⟩
          rw [← map_two]
          have hq6 := fun e => Q6.out (w1.heap.size + 1) e rfl
          exact own_setOther (own_setOther O6.out _ 0 _ hq6) _ 1 _ hq6
        case measure => simp [intOf]; omega
    · obtain rfl : k = n := by omega
      have HF := Lib.hid (show P = V :: pd (0, 0) xs by
        have h := HD.out
        rw [List.drop_eq_nil_of_le (by rw [HL.out]; exact Nat.le_refl _)] at h
        simpa [pd] using h)
      obtain ⟨g, c', rfl, hlen, hcap, hg, hcells⟩ := own_cells_at OO.out (by omega)
      rw [HF.out] at hlen hcells
      have CJ := Lib.hid (joined g 0 c' (1 + 2 * k) (V :: pd (0, 0) xs) wr hlen hcap hg hcells (by omega) (fun x hx => by
        rcases List.mem_cons.1 hx with rfl | hx
        · have := NV.out; omega
        · have := HPS.out x hx; omega))
      clear HD hlen hcap hg hcells hb
      go_wp2_with (fail)
      refine CJ.out.mono ?_
      rintro e w2 ⟨rfl, b2⟩
      go_wp2
      go_ret
      exact ⟨by rw [HE.out]; rfl, BW.out.trans (b2.mono BW.out.size)⟩

end Go.Proofs.YtpibemlganeacaaGreatDoor.pl

namespace Go.Proofs.YtpibemlganeacaaGreatDoor.pl
set_option maxRecDepth 20000
open Go.RowKit
open kit sum num burst hd fr recs sc

theorem implReadL (b : ByteArray) (a : Int) (w : World) (hm : b.size ≤ 1048576) : Calls Tryz.prog 77 #[.string b, .int .i64 a] w fun e w' => e = .returned (rvAt b a) ∧ w = w' := implRead_any b a w hm
theorem place_no (l0 l1 : Int) (b : ByteArray) (p : Nat) (w : World) (hm : b.size ≤ 1048576) (h : rv (nats b p) = none ∨ ∃ x, rv (nats b p) = some x ∧ rv (nats b (p + x.2)) = none) :
    Calls Tryz.prog 78 #[.agg #[.int .i64 l0, .int .i64 l1], .string b, .int .i64 (p : Int)] w fun e w' => e = .returned (.tuple #[.agg #[.int .i64 0, .int .i64 0], .int .i64 0, .bool false]) ∧ Below w.heap.size w w' := by
  have CR := Lib.hid (fun (q : Nat) w => implReadL b (q : Int) w hm)
  have HB := Lib.hid (((Below.refl w.heap.size w).alloc (Nat.le_refl _) (.cells #[.int .i64 l0, .int .i64 l1] 36)).alloc (by simp) (.cells #[.int .i64 0, .int .i64 0] 36))
  rcases h with h | ⟨⟨n, m⟩, h1, h2⟩
  · have C1 := Lib.hid (fun w => by have h' := CR.out p w; rw [rvAt_none b p h, show no2 = .tuple #[.int .i64 0, .int .i64 0, .bool false] from rfl] at h'; exact h')
    clear h CR
    go_enter Tryz.func78, Tryz.ntmps78
    go_wp2_with (fail)
    refine (C1.out _).mono ?_
    rintro e w' ⟨rfl, rfl⟩
    go_wp2
    try simp only [Exit.inBlock, Exit.then]
    refine bodyPost_ret (v := .tuple #[.agg #[.int .i64 0, .int .i64 0], .int .i64 0, .bool false]) (by simp [results, Tryz.results78, go_sem]) rfl ⟨rfl, HB.out⟩
  · have C1 := Lib.hid (fun w => by have h' := CR.out p w; rw [rvAt_some b p n m h1] at h'; exact h')
    have C2 := Lib.hid (fun w => by have h' := CR.out (p + m) w; rw [rvAt_none b _ h2, show no2 = .tuple #[.int .i64 0, .int .i64 0, .bool false] from rfl] at h'; exact h')
    obtain ⟨q, hq⟩ : ∃ q, p + m = q := ⟨_, rfl⟩
    rw [hq] at C1 C2
    clear h1 h2 CR hq
    go_enter Tryz.func78, Tryz.ntmps78
    go_wp2_with (fail)
    refine (C1.out _).mono ?_
    rintro e w' ⟨rfl, rfl⟩
    go_wp2_with (fail)
    refine (C2.out _).mono ?_
    rintro e w' ⟨rfl, rfl⟩
    go_wp2
    try simp only [Exit.inBlock, Exit.then]
    refine bodyPost_ret (v := .tuple #[.agg #[.int .i64 0, .int .i64 0], .int .i64 0, .bool false]) (by simp [results, Tryz.results78, go_sem]) rfl ⟨rfl, HB.out⟩
theorem place_yes (l0 l1 : Nat) (b : ByteArray) (p : Nat) (w : World) (hm : b.size ≤ 1048576) (x y : Nat × Nat) (h1 : rv (nats b p) = some x) (h2 : rv (nats b (p + x.2)) = some y) (b0 : l0 ≤ 4611686018427387904) (b1 : l1 ≤ 4611686018427387904) :
    Calls Tryz.prog 78 #[.agg #[.int .i64 (l0 : Int), .int .i64 (l1 : Int)], .string b, .int .i64 (p : Int)] w fun e w' => e = .returned (.tuple #[.agg #[.int .i64 ((l0 + x.1 : Nat) : Int), .int .i64 ((l1 + y.1 : Nat) : Int)], .int .i64 ((p + x.2 + y.2 : Nat) : Int), .bool true]) ∧ Below w.heap.size w w' := by
  have CR := Lib.hid (fun (q : Nat) w => implReadL b (q : Int) w hm)
  obtain ⟨n, m⟩ := x
  obtain ⟨n', m'⟩ := y
  have k1 := rv_in h1
  have k2 := rv_in h2
  have HB := Lib.hid (((Below.refl w.heap.size w).alloc (Nat.le_refl _) (.cells #[.int .i64 (l0 : Int), .int .i64 (l1 : Int)] 36)).alloc (by simp) (.cells #[.int .i64 ((l0 + n : Nat) : Int), .int .i64 ((l1 + n' : Nat) : Int)] 36))
  have C1 := Lib.hid (fun w => by have h' := CR.out p w; rw [rvAt_some b p n m h1] at h'; exact h')
  have C2 := Lib.hid (fun w => by have h' := CR.out (p + m) w; rw [rvAt_some b _ n' m' h2] at h'; exact h')
  show Calls _ _ _ _ fun e w' => e = .returned (.tuple #[.agg #[.int .i64 ((l0 + n : Nat) : Int), .int .i64 ((l1 + n' : Nat) : Int)], .int .i64 ((p + m + m' : Nat) : Int), .bool true]) ∧ _
  obtain ⟨r, hr⟩ : ∃ r, p + m + m' = r := ⟨_, rfl⟩
  rw [hr] at C2 ⊢
  obtain ⟨q, hq⟩ : ∃ q, p + m = q := ⟨_, rfl⟩
  simp only [hq] at C1 C2 k2
  have e1 : (l0 : Int) + (n : Int) = ((l0 + n : Nat) : Int) := by omega
  have e2 : (l1 : Int) + (n' : Int) = ((l1 + n' : Nat) : Int) := by omega
  obtain ⟨s, hs⟩ : ∃ s, l0 + n = s := ⟨_, rfl⟩
  obtain ⟨t, ht⟩ : ∃ t, l1 + n' = t := ⟨_, rfl⟩
  rw [hs] at HB e1 ⊢
  rw [ht] at HB e2 ⊢
  have s63 : s ≤ 9223372036854775807 := by omega
  have t63 : t ≤ 9223372036854775807 := by omega
  clear h1 h2 CR hq hr hs ht k1 k2
  go_enter Tryz.func78, Tryz.ntmps78
  go_wp2_with (fail)
  refine (C1.out _).mono ?_
  rintro e w' ⟨rfl, rfl⟩
  go_wp2_with (fail)
  refine (C2.out _).mono ?_
  rintro e w' ⟨rfl, rfl⟩
  go_wp2
  try simp only [Exit.inBlock, Exit.then]
  refine bodyPost_ret (v := .tuple #[.agg #[.int .i64 (s : Int), .int .i64 (t : Int)], .int .i64 (r : Int), .bool true]) (by simp [results, Tryz.results78, go_sem]) rfl ⟨rfl, HB.out⟩
theorem fill_acc {α : Type} (acc : List α) (z x : α) (n k : Nat) (hl : acc.length = k) (h : k < n) : (acc ++ List.replicate (n - k) z).set k x = acc ++ [x] ++ List.replicate (n - (k + 1)) z := by
  obtain ⟨m, hm⟩ : ∃ m, n - k = m + 1 := ⟨n - k - 1, by omega⟩
  rw [List.set_append_right _ _ (by omega), hl, Nat.sub_self, hm, show n - (k + 1) = m by omega, List.replicate_succ, List.set_cons_zero]
  simp

theorem place_load {w : World} {B g n c k : Nat} {xs : List Plc} {e : TypeId} {x : Plc} (h : w.ownsRow B e 2 (.slice (some ⟨g, 0, none⟩) n c) n (cellsP xs)) (hx : xs[k]? = some x) : w.cell? ⟨g, k * 2, none⟩ = some (.int .i64 x.1) ∧ w.cell? ⟨g, k * 2 + 1, none⟩ = some (.int .i64 x.2) := by
  have hc := cellsP_at xs k x.1 x.2 hx
  have hl : xs.length * 2 = n * 2 := by rw [← cellsP_len]; exact h.1
  have hk : k < xs.length := (List.getElem?_eq_some_iff.1 hx).1
  exact ⟨(h.cellAt (k * 2) (by omega)).trans hc.1, (h.cellAt (k * 2 + 1) (by omega)).trans hc.2⟩

set_option maxHeartbeats 2000000 in
theorem implReadPlaces (b : ByteArray) (a : Int) (w : World) (hm : b.size ≤ 1048576) :
    Calls Tryz.prog 51 #[.string b, .int .i64 a] w (RdP (rdP b a) w) := by
  have CR := Lib.hid (fun w => implReadL b a w hm)
  by_cases ha : a < 0
  · rw [rvAt_neg b a ha, show no2 = .tuple #[.int .i64 0, .int .i64 0, .bool false] from rfl] at CR
    have HE := Lib.hid (rdP_neg (b := b) ha)
    clear ha
    go_enter Tryz.func51, Tryz.ntmps51
    go_wp2_with (fail)
    refine (CR.out _).mono ?_
    rintro e w2 ⟨rfl, rfl⟩
    go_wp2
    go_ret3
    exact RdP.no HE.out (World.ownsRow_nil _ _ _ _) (Below.refl _ _)
  · obtain ⟨p, rfl⟩ := Int.eq_ofNat_of_zero_le (show 0 ≤ a by omega)
    cases hr : rv (nats b p) with
    | none =>
      rw [rvAt_none b p hr, show no2 = .tuple #[.int .i64 0, .int .i64 0, .bool false] from rfl] at CR
      have HE := Lib.hid (rdP_none hr)
      clear ha hr
      go_enter Tryz.func51, Tryz.ntmps51
      go_wp2_with (fail)
      refine (CR.out _).mono ?_
      rintro e w2 ⟨rfl, rfl⟩
      go_wp2
      go_ret3
      exact RdP.no HE.out (World.ownsRow_nil _ _ _ _) (Below.refl _ _)
    | some x =>
      obtain ⟨n, m⟩ := x
      rw [rvAt_some b p n m hr] at CR
      have hin := rv_in hr
      by_cases h1000 : n ≤ 1000
      · have HE := Lib.hid (rdP_in hr h1000)
        have k1 : ¬ (1000 : Int) < (n : Int) := by omega
        obtain ⟨p0, hp0⟩ : ∃ p0, p + m = p0 := ⟨_, rfl⟩
        rw [hp0] at CR hin
        simp only [hp0] at HE
        obtain ⟨j0, hi, hz0, hz1, hz2⟩ := info_parts Tryz.infoPlace
        clear ha hr hp0
        go_enter Tryz.func51, Tryz.ntmps51
        go_wp2_with (fail)
        refine (CR.out _).mono ?_
        rintro e w2 ⟨rfl, rfl⟩
        go_wp2_with (refine wpList_make_full _ (by rfl) _ _ 29 (by rfl) w.heap.size 36 j0 (.agg #[.int .i64 0, .int .i64 0]) 2 Tryz.underlying29 hi hz0 hz1 .i64 .i64 _ _ n (by rfl) (by rfl) ?_ ?_ ?_ ?_ ?_ ?_; omega; omega; (rw [hz2]; omega); (unfold maxLen; omega); exact Nat.le_refl _; intro w1 hown1 hg1)
        have hb1 : Below w.heap.size w w1 := (Below.refl _ _).grown hg1 (Nat.le_refl _) (fun k hk => by cases hk)
        have hown2 : w1.ownsRow w.heap.size 36 2 (.slice (some ⟨w.heap.size, 0, none⟩) n n) n (cellsP ([] ++ List.replicate (n - 0) ((0 : Int), (0 : Int)))) := by
          rw [show (Value.agg #[.int .i64 0, .int .i64 0]).cells = #[.int .i64 0, .int .i64 0] from rfl, made2p, flatP_zero] at hown1
          simpa using hown1
        have hg := (own_block_ge hown2 w.heap.size rfl).2
        have b2 := (Below.refl w1.heap.size w1).alloc (Nat.le_refl _) (.cells #[.int .i64 0, .int .i64 0] 36)
        have bx := Box.new w1 #[.int .i64 0, .int .i64 0] 36
        obtain ⟨W, hW⟩ : ∃ W, W = w1.alloc (.cells #[.int .i64 0, .int .i64 0] 36) := ⟨_, rfl⟩
        rw [← hW] at b2 bx
        have O2 := Lib.hid (own_below hown2 b2)
        have B2 := Lib.hid (hb1.trans (b2.mono hb1.size))
        have BX := Lib.hid bx
        rw [← hW]
        have gB : w.heap.size ≤ w1.heap.size := Nat.le_of_lt hg
        clear hown1 hown2 hg1 hb1 b2 bx hW CR k1
        go_loopw [8, 30] (fun nx i wr => ∃ (k pos l0 l1 : Nat) (acc : List Plc), k ≤ n ∧ i = .int .i64 k ∧ nx = .int .i64 pos ∧ pos ≤ b.size ∧ l0 ≤ k * 1000000000 ∧ l1 ≤ k * 1000000000 ∧ acc.length = k ∧ Hid (rpGo b (n - k) pos ((l0 : Int), (l1 : Int)) acc = rdP b (p : Int)) ∧ Hid (wr.ownsRow w.heap.size 36 2 (.slice (some ⟨w.heap.size, 0, none⟩) n n) n (cellsP (acc ++ List.replicate (n - k) ((0 : Int), (0 : Int))))) ∧ Hid (Box wr w1.heap.size [.int .i64 (l0 : Int), .int .i64 (l1 : Int)]) ∧ Hid (Below w.heap.size w wr)) (fun _ i _ => n - (intOf i).toNat)
        case atStart => exact ⟨0, p0, 0, 0, [], Nat.zero_le _, rfl, rfl, by omega, Nat.zero_le _, Nat.zero_le _, rfl, Lib.hid HE.out.symm, O2, BX, B2⟩
        case round =>
          obtain ⟨k, pos, l0, l1, acc, hk, rfl, rfl, hpos, hl0, hl1, hacc, HG, OO, HB, hb⟩ := hrel
          by_cases hlt : k < n
          · have j0' : (0 : Int) ≤ (k : Int) := by omega
            have j1 : (k : Int) < (n : Int) := by omega
            have en : n - k = (n - (k + 1)) + 1 := by omega
            rw [en] at HG
            clear en
            have y0 := HB.out.at 0 _ rfl
            have y1 := HB.out.at 1 _ rfl
            have hlen : (acc ++ List.replicate (n - k) ((0 : Int), (0 : Int))).length = n := by simp; omega
            have hkl : k < (acc ++ List.replicate (n - k) ((0 : Int), (0 : Int))).length := by omega
            cases r1 : rv (nats b pos) with
            | none =>
              have HN := Lib.hid (HG.out.symm.trans (rpGo_first r1))
              have CP := Lib.hid (fun w => place_no (l0 : Int) (l1 : Int) b pos w hm (.inl r1))
              clear r1
              have hz := HG
              clear HG hz
              go_wp2_with (fail)
              refine (CP.out _).mono ?_
              rintro e w3 ⟨rfl, b3⟩
              have O3 := Lib.hid (own_below OO.out b3)
              have B3 := Lib.hid (hb.out.trans (b3.mono hb.out.size))
              obtain ⟨u0, c0⟩ : ∃ u, w3.cell? ⟨w.heap.size, k * 2, none⟩ = some u := ⟨_, (O3.out.cellAt (k * 2) (by omega)).trans (List.getElem?_eq_getElem (by rw [cellsP_len]; omega))⟩
              obtain ⟨u1, c1⟩ : ∃ u, w3.cell? ⟨w.heap.size, k * 2 + 1, none⟩ = some u := ⟨_, (O3.out.cellAt (k * 2 + 1) (by omega)).trans (List.getElem?_eq_getElem (by rw [cellsP_len]; omega))⟩
              have f0 := O3.out.frozenAt (k * 2)
              have f1 := O3.out.frozenAt (k * 2 + 1)
              clear b3 OO HB hb CP y0 y1
              go_wp2
              go_ret3
              exact RdP.no HN.out (World.ownsRow_nil _ _ _ _) ((B3.out.setCell (p := ⟨w.heap.size, k * 2, none⟩) (Nat.le_refl _) _).setCell (p := ⟨w.heap.size, k * 2 + 1, none⟩) (Nat.le_refl _) _)
            | some x =>
              cases r2 : rv (nats b (pos + x.2)) with
              | none =>
                have HN := Lib.hid (HG.out.symm.trans (rpGo_second r1 r2))
                have CP := Lib.hid (fun w => place_no (l0 : Int) (l1 : Int) b pos w hm (.inr ⟨x, r1, r2⟩))
                clear r1 r2
                have hz := HG
                clear HG hz
                go_wp2_with (fail)
                refine (CP.out _).mono ?_
                rintro e w3 ⟨rfl, b3⟩
                have O3 := Lib.hid (own_below OO.out b3)
                have B3 := Lib.hid (hb.out.trans (b3.mono hb.out.size))
                obtain ⟨u0, c0⟩ : ∃ u, w3.cell? ⟨w.heap.size, k * 2, none⟩ = some u := ⟨_, (O3.out.cellAt (k * 2) (by omega)).trans (List.getElem?_eq_getElem (by rw [cellsP_len]; omega))⟩
                obtain ⟨u1, c1⟩ : ∃ u, w3.cell? ⟨w.heap.size, k * 2 + 1, none⟩ = some u := ⟨_, (O3.out.cellAt (k * 2 + 1) (by omega)).trans (List.getElem?_eq_getElem (by rw [cellsP_len]; omega))⟩
                have f0 := O3.out.frozenAt (k * 2)
                have f1 := O3.out.frozenAt (k * 2 + 1)
                clear b3 OO HB hb CP y0 y1
                go_wp2
                go_ret3
                exact RdP.no HN.out (World.ownsRow_nil _ _ _ _) ((B3.out.setCell (p := ⟨w.heap.size, k * 2, none⟩) (Nat.le_refl _) _).setCell (p := ⟨w.heap.size, k * 2 + 1, none⟩) (Nat.le_refl _) _)
              | some y =>
                have HN := Lib.hid ((rpGo_next (n := n - (k + 1)) (l := ((l0 : Int), (l1 : Int))) (acc := acc) r1 r2).symm.trans HG.out)
                have CP := Lib.hid (fun w => place_yes l0 l1 b pos w hm x y r1 r2 (by omega) (by omega))
                have i1 := rv_in r1
                have i2 := rv_in r2
                have HS := Lib.hid (fill_acc acc ((0 : Int), (0 : Int)) (((l0 + x.1 : Nat) : Int), ((l1 + y.1 : Nat) : Int)) n k hacc hlt)
                rw [show (l0 : Int) + (x.1 : Int) = ((l0 + x.1 : Nat) : Int) by omega, show (l1 : Int) + (y.1 : Int) = ((l1 + y.1 : Nat) : Int) by omega] at HN
                obtain ⟨s, hs⟩ : ∃ s, l0 + x.1 = s := ⟨_, rfl⟩
                obtain ⟨t, ht⟩ : ∃ t, l1 + y.1 = t := ⟨_, rfl⟩
                obtain ⟨q, hq⟩ : ∃ q, pos + x.2 + y.2 = q := ⟨_, rfl⟩
                have hq' : q ≤ b.size := by omega
                have hs' : s ≤ (k + 1) * 1000000000 := by omega
                have ht' : t ≤ (k + 1) * 1000000000 := by omega
                rw [hs, ht, hq] at CP HN
                rw [hs, ht] at HS
                clear hs ht hq r1 r2 i1 i2 HG
                go_wp2_with (fail)
                refine (CP.out _).mono ?_
                rintro e w3 ⟨rfl, b3⟩
                have O3 := Lib.hid (own_below OO.out b3)
                have X3 := Lib.hid (HB.out.below b3)
                have B3 := Lib.hid (hb.out.trans (b3.mono hb.out.size))
                obtain ⟨u0, c0⟩ : ∃ u, w3.cell? ⟨w.heap.size, k * 2, none⟩ = some u := ⟨_, (O3.out.cellAt (k * 2) (by omega)).trans (List.getElem?_eq_getElem (by rw [cellsP_len]; omega))⟩
                obtain ⟨u1, c1⟩ : ∃ u, w3.cell? ⟨w.heap.size, k * 2 + 1, none⟩ = some u := ⟨_, (O3.out.cellAt (k * 2 + 1) (by omega)).trans (List.getElem?_eq_getElem (by rw [cellsP_len]; omega))⟩
                have f0 := O3.out.frozenAt (k * 2)
                have f1 := O3.out.frozenAt (k * 2 + 1)
                clear y0 y1
                have y0 := X3.out.at 0 _ rfl
                have y1 := X3.out.at 1 _ rfl
                have z0 := X3.out.2 0
                have z1 := X3.out.2 1
                have hne : ¬ w.heap.size = w1.heap.size := by omega
                have hne' : ¬ w1.heap.size = w.heap.size := by omega
                clear b3 OO HB hb CP
                go_wp2
                go_roundw
                case rel =>
                  refine ⟨k + 1, q, s, t, acc ++ [((s : Int), (t : Int))], by omega, by go_num, rfl, hq', hs', ht', by rw [List.length_append, hacc]; rfl, HN, Lib.hid ?_, Lib.hid ((((X3.out.far (k * 2) (.int .i64 (s : Int)) hne).far (k * 2 + 1) (.int .i64 (t : Int)) hne).set 0 (.int .i64 (s : Int)) (by simp)).set 1 (.int .i64 (t : Int)) (by simp)), Lib.hid ((((B3.out.setCell (p := ⟨w.heap.size, k * 2, none⟩) (Nat.le_refl _) _).setCell (p := ⟨w.heap.size, k * 2 + 1, none⟩) (Nat.le_refl _) _).setCell (p := ⟨w1.heap.size, 0, none⟩) gB _).setCell (p := ⟨w1.heap.size, 1, none⟩) gB _)⟩
                  rw [← HS.out]
                  have hov : (Value.slice (some ⟨w.heap.size, 0, none⟩) n n).ownBlock ≠ some w1.heap.size := fun e => by
                    simp only [Value.ownBlock, Option.some.injEq] at e
                    exact hne e
                  exact own_setOther (own_setOther (own_setP O3.out hkl (s : Int) (t : Int)) _ 0 _ hov) _ 1 _ hov
                case measure => simp [intOf]; omega
          · obtain rfl : k = n := by omega
            have HN := Lib.hid (show rdP b (p : Int) = some (acc, pos) by
              rw [← HG.out, Nat.sub_self]
              rfl)
            have HL := Lib.hid hacc
            rw [Nat.sub_self, show List.replicate 0 ((0 : Int), (0 : Int)) = [] from rfl, List.append_nil] at OO
            clear HG hacc
            go_wp2
            go_ret3
            refine RdP.yes HN.out ?_ hb.out
            unfold OwnP
            rw [HL.out]
            exact OO.out
      · have HE := Lib.hid (rdP_many hr h1000)
        have k1 : (1000 : Int) < (n : Int) := by omega
        clear ha hr
        go_enter Tryz.func51, Tryz.ntmps51
        go_wp2_with (fail)
        refine (CR.out _).mono ?_
        rintro e w2 ⟨rfl, rfl⟩
        go_wp2
        go_ret3
        exact RdP.no HE.out (World.ownsRow_nil _ _ _ _) (Below.refl _ _)

end Go.Proofs.YtpibemlganeacaaGreatDoor.pl
