/-
  Slices of places, cell by cell; contracts of spec.PlacesOf, l11Less and PlacesText.
-/
import Derived.Test.YtiehfobcbhgfkaaGreatDoorMathX
import Derived.Test.YtiehfobcbhgfkaaGreatDoorRecX
import Derived.Test.YtiehfobcbhgfkaaGreatDoorIntX
import Derived.Test.YtiehfobcbhgfkaaGreatDoorAppX
import Derived.Test.YtiehfobcbhgfkaaGreatDoorNumX
import Derived.Test.YtiehfobcbhgfkaaGreatDoorLater
import Derived.BigQuiet
import Derived.Test.YtiehfobcbhgfkaaGreatDoorFrP
import Derived.Test.YtiehfobcbhgfkaaGreatDoorHdQ
namespace Go.Proofs.YtiehfobcbhgfkaaGreatDoor.pl
set_option maxRecDepth 20000
open Go.RowKit
open kit sum num burst hd fr recs

abbrev Plc := Int × Int
def cellsP (xs : List Plc) : List Value := xs.flatMap fun e => [.int .i64 e.1, .int .i64 e.2]
theorem cellsP_cons (e : Plc) (xs : List Plc) : cellsP (e :: xs) = .int .i64 e.1 :: .int .i64 e.2 :: cellsP xs := rfl
theorem cellsP_app (xs ys : List Plc) : cellsP (xs ++ ys) = cellsP xs ++ cellsP ys := List.flatMap_append
theorem cellsP_len (xs : List Plc) : (cellsP xs).length = xs.length * 2 := by
  induction xs with
  | nil => rfl
  | cons e r ih => rw [cellsP_cons]; simp only [List.length_cons, ih]; omega
theorem cellsP_at : ∀ (xs : List Plc) (k : Nat) (s i : Int), xs[k]? = some (s, i) → (cellsP xs)[k * 2]? = some (.int .i64 s) ∧ (cellsP xs)[k * 2 + 1]? = some (.int .i64 i)
  | [], k, s, i, h => by simp at h
  | e :: r, 0, s, i, h => by simp at h; subst h; exact ⟨rfl, rfl⟩
  | e :: r, k + 1, s, i, h => by
    have := cellsP_at r k s i (by simpa using h)
    rw [cellsP_cons, show (k + 1) * 2 = k * 2 + 1 + 1 by omega]
    simpa using this
/-- a slice of places -/
def AtP (w : World) (a : Option Addr) (n : Nat) (xs : List Plc) : Prop := Cells w a n 2 (cellsP xs)
theorem AtP.len {w : World} {a : Option Addr} {n : Nat} {xs : List Plc} (h : AtP w a n xs) : xs.length = n := by have := h.1; rw [cellsP_len] at this; omega
theorem AtP.below {w w' : World} {a : Option Addr} {n : Nat} {xs : List Plc} (h : AtP w a n xs) (hb : Below w.heap.size w w') : AtP w' a n xs := Cells.below h hb
theorem AtP.get {w : World} {a : Option Addr} {n k : Nat} {xs : List Plc} (h : AtP w a n xs) (hk : k < n) :
    ∃ s i b off, xs[k]? = some (s, i) ∧ a = some ⟨b, off, none⟩ ∧ b < w.heap.size ∧ w.cell? ⟨b, off + k * 2, none⟩ = some (.int .i64 s) ∧ w.cell? ⟨b, off + k * 2 + 1, none⟩ = some (.int .i64 i) := by
  have hl := h.len
  have hx : xs[k]? = some (xs[k]'(by omega)) := List.getElem?_eq_getElem (by omega)
  obtain ⟨b, off, h1, h2, h3⟩ := h.2.resolve_left (by omega)
  have hc := cellsP_at xs k _ _ hx
  exact ⟨_, _, b, off, hx, h1, h2, h3 _ _ hc.1, by rw [Nat.add_assoc]; exact h3 _ _ hc.2⟩
theorem AtP.of_own {w : World} {B : Nat} {a : Option Addr} {n c : Nat} {xs : List Plc} (h : w.ownsRow B 186 2 (.slice a n c) n (cellsP xs)) : AtP w a n xs := own_cells h
theorem two_ints (s i : Int) : ∀ u ∈ ([.int .i64 s, .int .i64 i] : List Value), u.oneCell' = true := by simp [Value.oneCell']
theorem Tryz.infoPlace : (Tryz.prog.info? 186).map (fun i => (i.zero, i.size, i.bytes)) = some (some (.agg #[.int .i64 0, .int .i64 0]), 2, 16) := by kernel_rfl
/-- places that a call hands back, in memory of its own -/
def OwnP (B : Nat) (w : World) (v : Value) (xs : List Plc) : Prop := w.ownsRow B 186 2 v xs.length (cellsP xs)
theorem OwnP.below {B : Nat} {w w' : World} {v : Value} {xs : List Plc} (h : OwnP B w v xs) (hb : Below w.heap.size w w') : OwnP B w' v xs := own_below h hb
def PlR (xs : List Plc) (w : World) (e : Ending) (w' : World) : Prop := (∃ v, e = .returned v ∧ OwnP w.heap.size w' v xs) ∧ Below w.heap.size w w'

set_option maxHeartbeats 1000000 in
theorem specPlaces (s : Int) (a : Option Addr) (c n : Nat) (os : List Int) (w : World) (hm : n ≤ 1048576) (hs : i64 s) (ha : ints.At w a n os) :
    Calls Tryz.prog 128 #[.int .i64 s, .slice a n c] w (PlR (plN s os) w) := by
  obtain ⟨i0, hi, hz0, hz1, hz2⟩ := info_parts Tryz.infoPlace
  have HL := Lib.hid ha.1
  have HA := Lib.hid ha
  have HS := Lib.hid hs
  clear ha hs
  go_enter Tryz.func128, Tryz.ntmps128
  go_wp2
  go_loopw [5, 6] (fun o i wr => ∃ k : Nat, k ≤ n ∧ i = .int .i64 k ∧ Hid (OwnP w.heap.size wr o (plN s (os.take k))) ∧ Hid (Below w.heap.size w wr)) (fun _ i _ => n - (intOf i).toNat)
  case atStart => exact ⟨0, Nat.zero_le _, rfl, Lib.hid (by rw [List.take_zero, plN_nil]; exact World.ownsRow_made _ _ _ (Nat.le_refl _) (by decide) rfl), Lib.hid ((Below.refl _ _).alloc (Nat.le_refl _) _)⟩
  case round =>
    obtain ⟨k, hk, rfl, hown, hb⟩ := hrel
    by_cases hlt : k < n
    · by_cases h1 : 1 ≤ s
      · obtain ⟨x, hxk⟩ : ∃ x, os[k]? = some x := ⟨_, List.getElem?_eq_getElem (by rw [HL.out]; exact hlt)⟩
        obtain ⟨g, o, rfl, hg, hx⟩ := HA.out.2.resolve_left (by omega)
        have c1 : wr.cell? ⟨g, o + k, none⟩ = some (.int .i64 x) := (hb.out.cell (p := ⟨g, o + k, none⟩) hg).trans (hx k x hxk)
        have HT := Lib.hid (plN_take h1 hxk)
        have i0' : (0 : Int) ≤ (k : Int) := by omega
        have i1 : (k : Int) < (n : Int) := by omega
        have hs0 : ¬ s = 0 := by omega
        have em : (k : Int).tmod s = ((k % s.toNat : Nat) : Int) := by
          obtain ⟨t, rfl⟩ := Int.eq_ofNat_of_zero_le (show 0 ≤ s by omega)
          rw [Int.tmod_eq_emod_of_nonneg (by omega), Int.toNat_natCast]
          rfl
        obtain ⟨m, hmm⟩ : ∃ m, k % s.toNat = m := ⟨_, rfl⟩
        rw [hmm] at em HT
        have hlen := plN_le s (os.take k)
        rw [List.length_take] at hlen
        have hcnt : (plN s (os.take k)).length ≤ k := by omega
        clear hlen hmm hx
        by_cases h0 : m = 0
        · rw [if_pos h0] at HT
          subst h0
          have ed : decide (((0 : Nat) : Int) = 0) = true := rfl
          obtain ⟨q, hq⟩ : ∃ q, (plN s (os.take k)).length = q := ⟨_, rfl⟩
          have HQ := Lib.hid hq
          unfold OwnP at hown
          rw [hq] at hown hcnt
          clear hq hxk
          go_wp2_with (at_builtin; refine list_appN (by rfl) (.tmp 22) (.tmp 29) 129 (by rfl) w wr 186 i0 (.agg #[.int .i64 0, .int .i64 0]) 2 16 Tryz.underlying129 hi hz0 hz1 hz2 (by rfl) (by decide) _ q _ hown.out hb.out [.int .i64 (k : Int), .int .i64 x] 1 ?_ ?_ ?_ ?_ (by rfl) (by rfl) (by rfl) ?_ ?_; rfl; exact two_ints k x; unfold maxLen; omega; omega; exact ⟨rfl, rfl, rfl⟩; intro v' w' hown' hb')
          go_roundw
          case rel => exact ⟨k + 1, by omega, by go_num, Lib.hid (by unfold OwnP; rw [HT.out, cellsP_app, List.length_append, HQ.out]; exact hown'), Lib.hid hb'⟩
          case measure => simp [intOf]; omega
        · rw [if_neg h0, List.append_nil] at HT
          have ed : decide ((m : Int) = 0) = false := decide_eq_false (by omega)
          clear hxk
          go_wp2
          go_roundw
          case rel => exact ⟨k + 1, by omega, by go_num, by rw [HT.out]; exact hown, hb⟩
          case measure => simp [intOf]; omega
      · have HN := Lib.hid (plN_no (os := os) h1)
        rw [plN_no h1] at hown
        have i1 : (k : Int) < (n : Int) := by omega
        go_wp2
        go_ret
        exact ⟨⟨_, rfl, by rw [HN.out]; exact hown.out⟩, hb.out⟩
    · obtain rfl : k = n := by omega
      have hend : os.take k = os := List.take_of_length_le (by rw [HL.out]; exact Nat.le_refl _)
      rw [hend] at hown
      clear hend
      go_wp2
      go_ret
      exact ⟨⟨_, rfl, hown.out⟩, hb.out⟩

theorem specLess (a b : Int) (w : World) (ha : i64 a) (hb : i64 b) :
    Calls Tryz.prog 178 #[.int .i64 a, .int .i64 b] w fun e w' => e = .returned (.int .i64 (less a b)) ∧ w = w' := by
  unfold i64 at ha hb
  by_cases h1 : a < b
  · have HE := Lib.hid (show less a b = -1 from if_pos (.inl h1))
    go_enter Tryz.func178, Tryz.ntmps178
    go_wp2
    go_ret
    exact ⟨by rw [HE.out]; rfl, rfl⟩
  · by_cases h2 : 9223372036854775807 < a - b
    · have HE := Lib.hid (show less a b = -1 from if_pos (.inr h2))
      obtain ⟨d, hd⟩ : ∃ d, RowKit.wrap64 (a - b) = d := ⟨_, rfl⟩
      have h3 : d < 0 := by rw [← hd]; unfold RowKit.wrap64; omega
      go_enter Tryz.func178, Tryz.ntmps178
      go_wp2
      go_ret
      exact ⟨by rw [HE.out]; rfl, rfl⟩
    · have HE := Lib.hid (show less a b = a - b from if_neg (by omega))
      have h3 : ¬ a - b < 0 := by omega
      have h4 : RowKit.wrap64 (a - b) = a - b := by unfold RowKit.wrap64; omega
      go_enter Tryz.func178, Tryz.ntmps178
      go_wp2
      go_ret
      exact ⟨by rw [HE.out]; rfl, rfl⟩

end Go.Proofs.YtiehfobcbhgfkaaGreatDoor.pl

namespace Go.Proofs.YtiehfobcbhgfkaaGreatDoor.pl
set_option maxRecDepth 20000
open Go.RowKit
open kit sum num burst hd fr recs sc

def wfP (xs : List Plc) : Prop := ∀ e ∈ xs, i64 e.1 ∧ i64 e.2
theorem plGo_drop {xs : List Plc} {k : Nat} {x l : Plc} {T : ByteArray} (h : xs[k]? = some x) : plGo T l (xs.drop k) = plGo T l (x :: xs.drop (k + 1)) := by
  have hl : k < xs.length := (List.getElem?_eq_some_iff.1 h).1
  rw [List.drop_eq_getElem_cons hl]
  have e : xs[k] = x := (List.getElem?_eq_some_iff.1 h).2
  rw [e]
theorem emp_yes {t : ByteArray} (h : t = nul) : t.toList.isEmpty = true := by rw [h, ByteArray.toList_eq]; rfl
theorem emp_no {t : ByteArray} (h : t ≠ nul) : t.toList.isEmpty = false := str_full (Nat.pos_of_ne_zero fun e => h (ByteArray.size_eq_zero_iff.1 e))
theorem specVarL (n : Int) (w : World) : Calls Tryz.prog 125 #[.int .i64 n] w fun e w' => e = .returned (.string (vtI n)) ∧ Below w.heap.size w w' := specVar_any n w

set_option maxHeartbeats 2000000 in
theorem specPlacesText (a : Option Addr) (c n : Nat) (xs : List Plc) (w : World) (hm : n ≤ 1048576) (hw : wfP xs) (ha : AtP w a n xs) :
    Calls Tryz.prog 127 #[.slice a n c] w fun e w' => e = .returned (.string (plT xs)) ∧ Below w.heap.size w w' := by
  have HA := Lib.hid ha
  have HW := Lib.hid hw
  have HL := Lib.hid ha.len
  have CV := Lib.hid (fun w => specVarL (n : Int) w)
  have nV := vtI_size (n : Int)
  have HT := Lib.hid (show plGo (vtI (n : Int)) (0, 0) (xs.drop 0) = plT xs by unfold plT; rw [ha.len]; rfl)
  obtain ⟨V, hV⟩ : ∃ V, vtI (n : Int) = V := ⟨_, rfl⟩
  rw [hV] at CV nV HT
  clear hV ha hw
  go_enter Tryz.func127, Tryz.ntmps127
  go_wp2_with (fail)
  refine (CV.out _).mono ?_
  rintro e w1 ⟨rfl, b1⟩
  have b2 := (Below.refl w1.heap.size w1).alloc (Nat.le_refl _) (.cells #[.int .i64 0, .int .i64 0] 186)
  have bx := Box.new w1 #[.int .i64 0, .int .i64 0] 186
  obtain ⟨W, hW⟩ : ∃ W, W = w1.alloc (.cells #[.int .i64 0, .int .i64 0] 186) := ⟨_, rfl⟩
  have gW : w.heap.size ≤ w1.heap.size := b1.size
  rw [← hW] at b2 bx
  have B1 := Lib.hid (b1.trans (b2.mono b1.size))
  have BX := Lib.hid bx
  clear b1 b2 bx
  go_wp2
  rw [← hW]
  clear hW
  go_loopw [3, 5] (fun s i wr => ∃ (k : Nat) (T : ByteArray) (l0 l1 : Int), k ≤ n ∧ i = .int .i64 k ∧ s = .string T ∧ T.size ≤ 5 + 10 * k ∧ Hid (plGo T (l0, l1) (xs.drop k) = plT xs) ∧ Hid (Box wr w1.heap.size [.int .i64 l0, .int .i64 l1]) ∧ Hid (i64 l0 ∧ i64 l1) ∧ Hid (Below w.heap.size w wr)) (fun _ i _ => n - (intOf i).toNat)
  case atStart => exact ⟨0, V, 0, 0, Nat.zero_le _, rfl, rfl, by omega, HT, BX, Lib.hid (by unfold i64; omega), B1⟩
  case round =>
    obtain ⟨k, T, l0, l1, hk, rfl, rfl, hT, HG, HB, HI, hb⟩ := hrel
    by_cases hlt : k < n
    · obtain ⟨x0, x1, g, o, hx, rfl, hg, c0, c1⟩ := (HA.out.below hb.out).get hlt
      have hi := HW.out _ (List.mem_of_getElem? hx)
      have HXI : Hid (i64 x0 ∧ i64 x1) := Lib.hid hi
      have HXI : Hid (i64 x0 ∧ i64 x1) := Lib.hid hi
      have HD := Lib.hid (plGo_drop (T := T) (l := (l0, l1)) hx)
      have i0 : (0 : Int) ≤ (k : Int) := by omega
      have i1 : (k : Int) < (n : Int) := by omega
      have C0 := Lib.hid (fun w => specLess x0 l0 w hi.1 HI.out.1)
      have C1 := Lib.hid (fun w => specLess x1 l1 w hi.2 HI.out.2)
      have N0 := vtI_size (less x0 l0)
      have N1 := vtI_size (less x1 l1)
      have V0 := Lib.hid (fun w => specVarL (less x0 l0) w)
      have V1 := Lib.hid (fun w => specVarL (less x1 l1) w)
      have l0' := HB.out.at 0 _ rfl
      have l1' := HB.out.at 1 _ rfl
      have lt1 := HB.out.lt
      have HGG := Lib.hid (fun h => HG.out.symm.trans (HD.out.trans (plGo_bad (s := T) (l := (l0, l1)) (x := (x0, x1)) (xs := xs.drop (k + 1)) h)))
      have HGN := Lib.hid (fun h => HG.out.symm.trans (HD.out.trans (plGo_next (s := T) (l := (l0, l1)) (x := (x0, x1)) (xs := xs.drop (k + 1)) h)))
      obtain ⟨d0, hd0⟩ : ∃ d, less x0 l0 = d := ⟨_, rfl⟩
      obtain ⟨d1, hd1⟩ : ∃ d, less x1 l1 = d := ⟨_, rfl⟩
      simp only [hd0, hd1] at HGG HGN
      rw [hd0] at C0 V0 N0
      rw [hd1] at C1 V1 N1
      obtain ⟨t0, ht0⟩ : ∃ t, vtI d0 = t := ⟨_, rfl⟩
      obtain ⟨t1, ht1⟩ : ∃ t, vtI d1 = t := ⟨_, rfl⟩
      simp only [ht0, ht1] at HGG HGN
      rw [ht0] at V0 N0
      rw [ht1] at V1 N1
      clear hd0 hd1 ht0 ht1 hx hi HG HD
      have al := (Below.refl wr.heap.size wr).alloc (Nat.le_refl _) (.cells #[.int .i64 x0, .int .i64 x1] 186)
      have bx := Box.new wr #[.int .i64 x0, .int .i64 x1] 186
      obtain ⟨W2, hW2⟩ : ∃ W2, W2 = wr.alloc (.cells #[.int .i64 x0, .int .i64 x1] 186) := ⟨_, rfl⟩
      rw [← hW2] at al bx
      have B2 := Lib.hid (hb.out.trans (al.mono hb.out.size))
      have HX := Lib.hid bx
      have HB := Lib.hid (HB.out.below al)
      have HW2 := Lib.hid hW2
      clear al bx hW2 hb
      go_wp2_with (fail)
      rw [← HW2.out]
      clear HW2 c0 c1 l0' l1' lt1
      refine (C0.out _).mono ?_
      rintro e w' ⟨rfl, rfl⟩
      go_wp2_with (fail)
      refine (V0.out _).mono ?_
      rintro e w3 ⟨rfl, b3⟩
      have B3 := Lib.hid (B2.out.trans (b3.mono B2.out.size))
      have HX := Lib.hid (HX.out.below b3)
      have HB := Lib.hid (HB.out.below b3)
      clear b3 B2
      have c0 := HX.out.at 0 _ rfl
      have c1 := HX.out.at 1 _ rfl
      have l0' := HB.out.at 0 _ rfl
      have l1' := HB.out.at 1 _ rfl
      go_wp2_with (fail)
      refine (C1.out _).mono ?_
      rintro e w' ⟨rfl, rfl⟩
      go_wp2_with (fail)
      refine (V1.out _).mono ?_
      rintro e w4 ⟨rfl, b4⟩
      have B4 := Lib.hid (B3.out.trans (b4.mono B3.out.size))
      have HX := Lib.hid (HX.out.below b4)
      have HB := Lib.hid (HB.out.below b4)
      clear b4 B3 c0 c1 l0' l1'
      have c0 := HX.out.at 0 _ rfl
      have c1 := HX.out.at 1 _ rfl
      have l0' := HB.out.at 0 _ rfl
      have l1' := HB.out.at 1 _ rfl
      have f0 := HB.out.2 0
      have f1 := HB.out.2 1
      by_cases e0 : t0 = nul
      · have HE := Lib.hid (HGG.out (.inl e0))
        have k0 : t0.toList.isEmpty = true := emp_yes e0
        clear HGG HGN e0
        go_wp2
        go_ret
        exact ⟨by rw [HE.out]; rfl, B4.out⟩
      · by_cases e1 : t1 = nul
        · have HE := Lib.hid (HGG.out (.inr e1))
          have k0 : t0.toList.isEmpty = false := emp_no e0
          have k1 : t1.toList.isEmpty = true := emp_yes e1
          clear HGG HGN e0 e1
          go_wp2
          go_ret
          exact ⟨by rw [HE.out]; rfl, B4.out⟩
        · have HE := Lib.hid (HGN.out fun h => h.elim e0 e1)
          have k0 : t0.toList.isEmpty = false := emp_no e0
          have k1 : t1.toList.isEmpty = false := emp_no e1
          clear HGG HGN e0 e1
          go_wp2
          go_roundw
          case rel => exact ⟨k + 1, T ++ t0 ++ t1, x0, x1, by omega, by go_num, rfl, by rw [ByteArray.size_append, ByteArray.size_append]; omega, Lib.hid HE.out.symm, Lib.hid ((HB.out.set 0 (.int .i64 x0) (by simp)).set 1 (.int .i64 x1) (by simp)), HXI, Lib.hid ((B4.out.setCell (p := ⟨w1.heap.size, 0, none⟩) gW _).setCell (p := ⟨w1.heap.size, 1, none⟩) gW _)⟩
          case measure => simp [intOf]; omega
    · obtain rfl : k = n := by omega
      have HE := Lib.hid (show T = plT xs by
        have h := HG.out
        rw [List.drop_eq_nil_of_le (by rw [HL.out]; exact Nat.le_refl _)] at h
        exact h)
      clear HG
      go_wp2
      go_ret
      exact ⟨by rw [← HE.out]; rfl, hb.out⟩

end Go.Proofs.YtiehfobcbhgfkaaGreatDoor.pl

namespace Go.Proofs.YtiehfobcbhgfkaaGreatDoor.pl
set_option maxRecDepth 20000
open Go.RowKit
open kit sum num burst hd fr recs sc

def trGo (s : ByteArray) : List Int → ByteArray
  | [] => s ++ idx
  | x :: xs => if fxI x 4 = nul then nul else trGo (s ++ fxI x 4) xs
theorem trGo_bad {s : ByteArray} {x : Int} {xs : List Int} (h : fxI x 4 = nul) : trGo s (x :: xs) = nul := if_pos h
theorem trGo_next {s : ByteArray} {x : Int} {xs : List Int} (h : ¬ fxI x 4 = nul) : trGo s (x :: xs) = trGo (s ++ fxI x 4) xs := if_neg h
theorem trGo_all (a b c d : Int) : trGo nul [a, b, c, d] = trT a b c d := by
  by_cases h1 : fxI a 4 = nul
  · rw [trGo_bad h1, trT_no (.inl h1)]
  · by_cases h2 : fxI b 4 = nul
    · rw [trGo_next h1, trGo_bad h2, trT_no (.inr (.inl h2))]
    · by_cases h3 : fxI c 4 = nul
      · rw [trGo_next h1, trGo_next h2, trGo_bad h3, trT_no (.inr (.inr (.inl h3)))]
      · by_cases h4 : fxI d 4 = nul
        · rw [trGo_next h1, trGo_next h2, trGo_next h3, trGo_bad h4, trT_no (.inr (.inr (.inr h4)))]
        · rw [trGo_next h1, trGo_next h2, trGo_next h3, trGo_next h4, trT_yes (fun h => h.elim h1 fun h => h.elim h2 fun h => h.elim h3 h4)]
          show nul ++ _ ++ _ ++ _ ++ _ ++ idx = _
          rw [show nul ++ fxI a 4 = fxI a 4 from ByteArray.empty_append]
theorem drop_at {xs : List Int} {k : Nat} {x : Int} (h : xs[k]? = some x) : xs.drop k = x :: xs.drop (k + 1) := by
  rw [List.drop_eq_getElem_cons (List.getElem?_eq_some_iff.1 h).1, (List.getElem?_eq_some_iff.1 h).2]
theorem specFixL (n : Int) (w : World) : Calls Tryz.prog 117 #[.int .i64 n, .int .i64 4] w fun e w' => e = .returned (.string (fxI n 4)) ∧ Below w.heap.size w w' := specFix_any n 4 w

set_option maxHeartbeats 1000000 in
theorem specTrailer (a b c d : Int) (w : World) :
    Calls Tryz.prog 129 #[.int .i64 a, .int .i64 b, .int .i64 c, .int .i64 d] w fun e w' => e = .returned (.string (trT a b c d)) ∧ Below w.heap.size w w' := by
  have HT := Lib.hid (trGo_all a b c d)
  have B1 := (Below.refl w.heap.size w).alloc (Nat.le_refl _) (.cells #[.int .i64 a, .int .i64 b, .int .i64 c, .int .i64 d] 3)
  have bx := Box.new w #[.int .i64 a, .int .i64 b, .int .i64 c, .int .i64 d] 3
  obtain ⟨W, hW⟩ : ∃ W, W = w.alloc (.cells #[.int .i64 a, .int .i64 b, .int .i64 c, .int .i64 d] 3) := ⟨_, rfl⟩
  rw [← hW] at B1 bx
  obtain ⟨L, hL⟩ : ∃ L : List Int, [a, b, c, d] = L := ⟨_, rfl⟩
  have hl : L.length = 4 := by rw [← hL]; rfl
  have BX : Hid (Box W w.heap.size (L.map (Value.int .i64))) := Lib.hid (by rw [← hL]; exact bx)
  rw [hL] at HT
  have B1 := Lib.hid B1
  have HW := Lib.hid hW
  clear hW bx hL
  go_enter Tryz.func129, Tryz.ntmps129
  go_wp2
  rw [← HW.out]
  clear HW
  go_loopw [9, 11] (fun s i wr => ∃ (k : Nat) (T : ByteArray), k ≤ 4 ∧ i = .int .i64 k ∧ s = .string T ∧ T.size ≤ 8 * k ∧ Hid (trGo T (L.drop k) = trT a b c d) ∧ Hid (Box wr w.heap.size (L.map (Value.int .i64))) ∧ Hid (Below w.heap.size w wr)) (fun _ i _ => 4 - (intOf i).toNat)
  case atStart => exact ⟨0, nul, Nat.zero_le _, rfl, rfl, Nat.zero_le _, HT, BX, B1⟩
  case round =>
    obtain ⟨k, T, hk, rfl, rfl, hT, HG, HB, hb⟩ := hrel
    by_cases hlt : k < 4
    · obtain ⟨x, hx⟩ : ∃ x, L[k]? = some x := ⟨_, List.getElem?_eq_getElem (by omega)⟩
      have c0 := HB.out.at k (.int .i64 x) (by rw [List.getElem?_map, hx]; rfl)
      have CF := Lib.hid (fun w => specFixL x w)
      have nF := fxI_size x 4
      have H0 := Lib.hid (fun h => HG.out.symm.trans ((congrArg (trGo T) (drop_at hx)).trans (trGo_bad (s := T) (x := x) (xs := L.drop (k + 1)) h)))
      have H1 := Lib.hid (fun h => HG.out.symm.trans ((congrArg (trGo T) (drop_at hx)).trans (trGo_next (s := T) (x := x) (xs := L.drop (k + 1)) h)))
      obtain ⟨t, ht⟩ : ∃ t, fxI x 4 = t := ⟨_, rfl⟩
      simp only [ht] at H0 H1
      rw [ht] at CF nF
      have j0 : (0 : Int) ≤ (k : Int) := by omega
      have j1 : (k : Int) < 4 := by omega
      clear ht hx HG
      go_wp2_with (fail)
      refine (CF.out _).mono ?_
      rintro e w2 ⟨rfl, b2⟩
      have hb := Lib.hid (hb.out.trans (b2.mono hb.out.size))
      have HB := Lib.hid (HB.out.below b2)
      clear b2 c0
      by_cases e0 : t = nul
      · have HE := Lib.hid (H0.out e0)
        have k0 : t.toList.isEmpty = true := emp_yes e0
        clear H0 H1 e0
        go_wp2
        go_ret
        exact ⟨by rw [HE.out]; rfl, hb.out⟩
      · have HE := Lib.hid (H1.out e0)
        have k0 : t.toList.isEmpty = false := emp_no e0
        clear H0 H1 e0
        go_wp2
        go_roundw
        case rel => exact ⟨k + 1, T ++ t, by omega, by go_num, rfl, by rw [ByteArray.size_append]; omega, Lib.hid HE.out.symm, HB, hb⟩
        case measure => simp [intOf]; omega
    · obtain rfl : k = 4 := by omega
      have HE := Lib.hid (show T ++ idx = trT a b c d by
        have h := HG.out
        rw [List.drop_eq_nil_of_le (by omega)] at h
        exact h)
      clear HG
      go_wp2
      go_ret
      exact ⟨by rw [← HE.out]; rfl, hb.out⟩

end Go.Proofs.YtiehfobcbhgfkaaGreatDoor.pl

namespace Go.Proofs.YtiehfobcbhgfkaaGreatDoor.pl
set_option maxRecDepth 20000
open Go.RowKit
open kit sum num burst hd fr recs sc

theorem plFrom_wf (s : Nat) (os : List Int) : ∀ i, i + os.length ≤ 1000000000 → (∀ o ∈ os, i64 o) → wfP (plFrom s i os) := by
  induction os with
  | nil => intro i _ _ e he; cases he
  | cons o os ih =>
    intro i hi hw
    rw [List.length_cons] at hi
    have h2 := ih (i + 1) (by omega) fun x hx => hw x (List.mem_cons_of_mem _ hx)
    by_cases hm : i % s = 0
    · rw [show plFrom s i (o :: os) = ((i : Int), o) :: plFrom s (i + 1) os from if_pos hm]
      intro e he
      rcases List.mem_cons.1 he with rfl | he
      · exact ⟨by unfold i64; show -9223372036854775808 ≤ (i : Int) ∧ (i : Int) ≤ 9223372036854775807; omega, hw o (List.mem_cons_self ..)⟩
      · exact h2 e he
    · rw [show plFrom s i (o :: os) = plFrom s (i + 1) os from if_neg hm]
      exact h2
theorem plN_wf {s : Int} {os : List Int} (hl : os.length ≤ 1000000000) (hw : ∀ o ∈ os, i64 o) : wfP (plN s os) := by
  unfold plN
  split
  · exact plFrom_wf _ _ 0 (by omega) hw
  · intro e he; cases he
theorem OwnP.form {B : Nat} {w : World} {v : Value} {xs : List Plc} (h : OwnP B w v xs) : ∃ a c, v = .slice a xs.length c ∧ AtP w a xs.length xs := by
  obtain ⟨a, c, rfl, _, _⟩ := own_shape h
  exact ⟨a, c, rfl, AtP.of_own h⟩

set_option maxHeartbeats 2000000 in
theorem specFoot (v s p l e : Int) (a : Option Addr) (c n : Nat) (os : List Int) (w : World) (hm : n ≤ 1048576) (hw : ∀ o ∈ os, i64 o) (ha : ints.At w a n os) :
    Calls Tryz.prog 80 #[.agg #[.int .i64 v, .int .i64 s, .int .i64 p, .int .i64 l], .slice a n c, .int .i64 e] w fun en w' => en = .returned (.string (ftT ⟨v, s, p, l⟩ os e)) ∧ Below w.heap.size w w' := by
  have hlen := ha.1
  have B1 := (Below.refl w.heap.size w).alloc (Nat.le_refl _) (.cells #[.int .i64 v, .int .i64 s, .int .i64 p, .int .i64 l] 45)
  have bx := Box.new w #[.int .i64 v, .int .i64 s, .int .i64 p, .int .i64 l] 45
  obtain ⟨W, hW⟩ : ∃ W, W = w.alloc (.cells #[.int .i64 v, .int .i64 s, .int .i64 p, .int .i64 l] 45) := ⟨_, rfl⟩
  rw [← hW] at B1 bx
  have HA := Lib.hid (ha.below B1)
  have B1 := Lib.hid B1
  have BX := Lib.hid bx
  have HW := Lib.hid hW
  have x0 := bx.at 0 _ rfl
  have x1 := bx.at 1 _ rfl
  have x2 := bx.at 2 _ rfl
  have x3 := bx.at 3 _ rfl
  rw [hW] at x0 x1 x2 x3
  have CK := Lib.hid (specHeadOk v s p l W)
  clear bx hW ha
  cases hk : okH ⟨v, s, p, l⟩ with
  | false =>
    have HE := Lib.hid (ftT_no (os := os) (e := e) hk)
    rw [hk] at CK
    clear hk
    go_enter Tryz.func80, Tryz.ntmps80
    go_wp2_with (fail)
    rw [← HW.out]
    refine CK.out.mono ?_
    rintro en w2 ⟨rfl, b2⟩
    go_wp2
    go_ret
    exact ⟨by rw [HE.out]; rfl, B1.out.trans (b2.mono B1.out.size)⟩
  | true =>
    have hs : 1 ≤ s ∧ s ≤ 20 ∧ 0 ≤ p ∧ p ≤ 1000000000 := by
      have h := okH_is.1 hk
      exact ⟨h.2.2.1, h.2.2.2.1, h.2.2.2.2.1, h.2.2.2.2.2.1⟩
    obtain ⟨s0, s1, p0, p1⟩ := hs
    have HB := Lib.hid (fun h => ftT_bad (h := ⟨v, s, p, l⟩) (os := os) (e := e) h)
    have HF := Lib.hid (show noFt ⟨v, s, p, l⟩ os e ↔ (emT v (p + (n : Int)) = nul ∨ plT (plN s os) = nul ∨ trT e (n : Int) s 0 = nul) by unfold noFt; rw [hlen])
    have HD := Lib.hid (show fbody ⟨v, s, p, l⟩ os e = emT v (p + (n : Int)) ++ plT (plN s os) ++ (trT e (n : Int) s 0).extract 0 12 by unfold fbody; rw [hlen])
    have HG := Lib.hid (fun h => (ftT_yes (h := ⟨v, s, p, l⟩) (os := os) (e := e) hk h).trans (show emT v (p + (os.length : Int)) ++ plT (plN s os) ++ trT e (os.length : Int) s (sumT (fbody ⟨v, s, p, l⟩ os e) : Nat) = emT v (p + (n : Int)) ++ plT (plN s os) ++ trT e (n : Int) s (sumT (emT v (p + (n : Int)) ++ plT (plN s os) ++ (trT e (n : Int) s 0).extract 0 12) : Nat) by rw [HD.out, hlen]))
    rw [hk] at CK
    have hpl := plT_size (plN s os)
    have hple := plN_le s os
    have hwp := Lib.hid (plN_wf (s := s) (os := os) (by omega) hw)
    rw [hlen] at hple
    have C1 := Lib.hid (fun w => specMark_any v (p + (n : Int)) w)
    have n1 := emT_le v (p + (n : Int))
    have C2 := Lib.hid (fun w (h : ints.At w a n os) => specPlaces s a c n os w hm (by unfold i64; omega) h)
    have C3 := Lib.hid (fun w a' c' (h : AtP w a' (plN s os).length (plN s os)) => specPlacesText a' c' (plN s os).length (plN s os) w (by omega) hwp.out h)
    have C4 := Lib.hid (fun w => specTrailer e (n : Int) s 0 w)
    have n4 := trT_le e (n : Int) s 0
    have n4' : trT e (n : Int) s 0 ≠ nul → (trT e (n : Int) s 0).size = 20 := fun h => trT_size h
    have C6 := Lib.hid (fun q w => specTrailer e (n : Int) s q w)
    have n6 := fun q => trT_le e (n : Int) s q
    obtain ⟨M, hM⟩ : ∃ M, emT v (p + (n : Int)) = M := ⟨_, rfl⟩
    obtain ⟨L, hL⟩ : ∃ L, plT (plN s os) = L := ⟨_, rfl⟩
    obtain ⟨T, hT⟩ : ∃ T, trT e (n : Int) s 0 = T := ⟨_, rfl⟩
    obtain ⟨K, hK⟩ : ∃ K, (plN s os).length = K := ⟨_, rfl⟩
    rw [hM] at HF HG C1 n1
    rw [hL] at HF HG C3 hpl
    rw [hT] at HF HG C4 n4 n4'
    rw [hK] at hpl hple C3
    have HK := Lib.hid hK
    have n1' : M.size ≤ 1048576 := by omega
    have n2' : L.size ≤ 16777216 := by omega
    have C5 := Lib.hid (fun (X : ByteArray) w (h : X.size ≤ 9223372036854775807) => specSum X w h)
    clear hM hL hT hk hw hK hpl hple n1
    go_enter Tryz.func80, Tryz.ntmps80
    go_wp2_with (fail)
    rw [← HW.out]
    refine CK.out.mono ?_
    rintro en w2 ⟨rfl, b2⟩
    have HA := Lib.hid (HA.out.below b2)
    clear x3
    have B2 := Lib.hid (B1.out.trans (b2.mono B1.out.size))
    have BX := Lib.hid (BX.out.below b2)
    clear b2 x0 x1 x2
    have x0 := BX.out.at 0 _ rfl
    have x1 := BX.out.at 1 _ rfl
    have x2 := BX.out.at 2 _ rfl
    go_wp2_with (fail)
    refine (C1.out _).mono ?_
    rintro en w3 ⟨rfl, b3⟩
    have HA := Lib.hid (HA.out.below b3)
    have B3 := Lib.hid (B2.out.trans (b3.mono B2.out.size))
    have BX := Lib.hid (BX.out.below b3)
    clear b3 x0 x1 x2
    have x0 := BX.out.at 0 _ rfl
    have x1 := BX.out.at 1 _ rfl
    have x2 := BX.out.at 2 _ rfl
    go_wp2_with (fail)
    refine (C2.out _ HA.out).mono ?_
    rintro en w4 ⟨⟨v4, rfl, o4⟩, b4⟩
    obtain ⟨a4, c4, rfl, A4⟩ := o4.form
    rw [HK.out] at A4
    have B4 := Lib.hid (B3.out.trans (b4.mono B3.out.size))
    have BX := Lib.hid (BX.out.below b4)
    clear b4 x0 x1 x2
    have x0 := BX.out.at 0 _ rfl
    have x1 := BX.out.at 1 _ rfl
    have x2 := BX.out.at 2 _ rfl
    rw [HK.out]
    clear o4
    go_wp2_with (fail)
    refine (C3.out _ _ _ A4).mono ?_
    rintro en w5 ⟨rfl, b5⟩
    have B5 := Lib.hid (B4.out.trans (b5.mono B4.out.size))
    have BX := Lib.hid (BX.out.below b5)
    clear b5 x0 x1 x2
    have x0 := BX.out.at 0 _ rfl
    have x1 := BX.out.at 1 _ rfl
    have x2 := BX.out.at 2 _ rfl
    clear A4
    go_wp2_with (fail)
    refine (C4.out _).mono ?_
    rintro en w6 ⟨rfl, b6⟩
    have B6 := Lib.hid (B5.out.trans (b6.mono B5.out.size))
    have BX := Lib.hid (BX.out.below b6)
    clear b6 x0 x1 x2
    have x0 := BX.out.at 0 _ rfl
    have x1 := BX.out.at 1 _ rfl
    have x2 := BX.out.at 2 _ rfl
    by_cases e1 : M = nul
    · have HE := Lib.hid (HB.out (HF.out.2 (.inl e1)))
      have k1 : M.toList.isEmpty = true := emp_yes e1
      clear HB HF HG HD e1 n4'
      go_wp2
      go_ret
      exact ⟨by rw [HE.out]; rfl, B6.out⟩
    · by_cases e2 : L = nul
      · have HE := Lib.hid (HB.out (HF.out.2 (.inr (.inl e2))))
        have k1 : M.toList.isEmpty = false := emp_no e1
        have k2 : L.toList.isEmpty = true := emp_yes e2
        clear HB HF HG HD e1 e2 n4'
        go_wp2
        go_ret
        exact ⟨by rw [HE.out]; rfl, B6.out⟩
      · by_cases e3 : T = nul
        · have HE := Lib.hid (HB.out (HF.out.2 (.inr (.inr e3))))
          have k1 : M.toList.isEmpty = false := emp_no e1
          have k2 : L.toList.isEmpty = false := emp_no e2
          have k3 : T.toList.isEmpty = true := emp_yes e3
          clear HB HF HG HD e1 e2 e3 n4'
          go_wp2
          go_ret
          exact ⟨by rw [HE.out]; rfl, B6.out⟩
        · have HE := Lib.hid (HG.out fun h => (HF.out.1 h).elim e1 fun h => h.elim e2 e3)
          have k1 : M.toList.isEmpty = false := emp_no e1
          have k2 : L.toList.isEmpty = false := emp_no e2
          have k3 : T.toList.isEmpty = false := emp_no e3
          have hT20 := n4' e3
          have h12 : (T.extract 0 12).size = 12 := by rw [ByteArray.size_extract]; omega
          have i12 : (12 : Int) ≤ (T.size : Int) := by omega
          clear HB HF HG HD e1 e2 e3 n4'
          go_wp2_with (fail)
          refine (C5.out (M ++ L ++ T.extract 0 12) _ (by rw [ByteArray.size_append, ByteArray.size_append]; omega)).mono ?_
          rintro en w' ⟨rfl, rfl⟩
          obtain ⟨q, hq⟩ : ∃ q, sumT (M ++ L ++ T.extract 0 12) = q := ⟨_, rfl⟩
          have HQ := Lib.hid hq
          rw [hq]
          clear hq
          have n6 := n6 (q : Int)
          go_wp2_with (fail)
          refine (C6.out (q : Int) _).mono ?_
          rintro en w7 ⟨rfl, b7⟩
          have HR := Lib.hid (HE.out.trans (by rw [HQ.out]))
          go_wp2
          go_ret
          exact ⟨by rw [HR.out]; rfl, B6.out.trans (b7.mono B6.out.size)⟩

end Go.Proofs.YtiehfobcbhgfkaaGreatDoor.pl
