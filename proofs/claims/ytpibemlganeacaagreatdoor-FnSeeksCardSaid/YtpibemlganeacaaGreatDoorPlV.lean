/-
  Contracts of spec.TrailerText and ReadTrailer.
-/
import Derived.Test.YtpibemlganeacaaGreatDoorPlP
import Derived.Test.YtpibemlganeacaaGreatDoorFrP
import Derived.Test.YtpibemlganeacaaGreatDoorHdA
namespace Go.Proofs.YtpibemlganeacaaGreatDoor.pl
set_option maxRecDepth 20000
open Go.RowKit
open kit sum num burst hd fr recs sc

def trGo (s : ByteArray) : List Int → ByteArray
  | [] => s ++ idx
  | x :: xs => if fxI x 4 = nul then nul else trGo (s ++ fxI x 4) xs
theorem trGo_bad {s : ByteArray} {x : Int} {xs : List Int} (h : fxI x 4 = nul) : trGo s (x :: xs) = nul := if_pos h
theorem trGo_next {s : ByteArray} {x : Int} {xs : List Int} (h : ¬ fxI x 4 = nul) : trGo s (x :: xs) = trGo (s ++ fxI x 4) xs := if_neg h
theorem trGo_all (a b c d : Int) : trGo nul [a, b, c, d] = trT a b c d := by
  by_cases h1 : fxI a 4 = nul
  · rw [trGo_bad h1, trT_no (.inl h1)]
  · by_cases h2 : fxI b 4 = nul
    · rw [trGo_next h1, trGo_bad h2, trT_no (.inr (.inl h2))]
    · by_cases h3 : fxI c 4 = nul
      · rw [trGo_next h1, trGo_next h2, trGo_bad h3, trT_no (.inr (.inr (.inl h3)))]
      · by_cases h4 : fxI d 4 = nul
        · rw [trGo_next h1, trGo_next h2, trGo_next h3, trGo_bad h4, trT_no (.inr (.inr (.inr h4)))]
        · rw [trGo_next h1, trGo_next h2, trGo_next h3, trGo_next h4, trT_yes (fun h => h.elim h1 fun h => h.elim h2 fun h => h.elim h3 h4)]
          show nul ++ _ ++ _ ++ _ ++ _ ++ idx = _
          rw [show nul ++ fxI a 4 = fxI a 4 from ByteArray.empty_append]
theorem drop_at {xs : List Int} {k : Nat} {x : Int} (h : xs[k]? = some x) : xs.drop k = x :: xs.drop (k + 1) := by
  rw [List.drop_eq_getElem_cons (List.getElem?_eq_some_iff.1 h).1, (List.getElem?_eq_some_iff.1 h).2]
theorem specFixL (n : Int) (w : World) : Calls Tryz.prog 57 #[.int .i64 n, .int .i64 4] w fun e w' => e = .returned (.string (fxI n 4)) ∧ Below w.heap.size w w' := specFix_any n 4 w

set_option maxHeartbeats 1000000 in
theorem specTrailer (a b c d : Int) (w : World) :
    Calls Tryz.prog 62 #[.int .i64 a, .int .i64 b, .int .i64 c, .int .i64 d] w fun e w' => e = .returned (.string (trT a b c d)) ∧ Below w.heap.size w w' := by
  have HT := Lib.hid (trGo_all a b c d)
  have B1 := (Below.refl w.heap.size w).alloc (Nat.le_refl _) (.cells #[.int .i64 a, .int .i64 b, .int .i64 c, .int .i64 d] 3)
  have bx := Box.new w #[.int .i64 a, .int .i64 b, .int .i64 c, .int .i64 d] 3
  obtain ⟨W, hW⟩ : ∃ W, W = w.alloc (.cells #[.int .i64 a, .int .i64 b, .int .i64 c, .int .i64 d] 3) := ⟨_, rfl⟩
  rw [← hW] at B1 bx
  obtain ⟨L, hL⟩ : ∃ L : List Int, [a, b, c, d] = L := ⟨_, rfl⟩
  have hl : L.length = 4 := by rw [← hL]; rfl
  have BX : Hid (Box W w.heap.size (L.map (Value.int .i64))) := Lib.hid (by rw [← hL]; exact bx)
  rw [hL] at HT
  have B1 := Lib.hid B1
  have HW := Lib.hid hW
  clear hW bx hL
  go_enter Tryz.func62, Tryz.ntmps62
  go_wp2
  rw [← HW.out]
  clear HW
  go_loopw [9, 11] (fun s i wr => ∃ (k : Nat) (T : ByteArray), k ≤ 4 ∧ i = .int .i64 k ∧ s = .string T ∧ T.size ≤ 8 * k ∧ Hid (trGo T (L.drop k) = trT a b c d) ∧ Hid (Box wr w.heap.size (L.map (Value.int .i64))) ∧ Hid (Below w.heap.size w wr)) (fun _ i _ => 4 - (intOf i).toNat)
  case atStart => exact ⟨0, nul, Nat.zero_le _, rfl, rfl, Nat.zero_le _, HT, BX, B1⟩
  case round =>
    obtain ⟨k, T, hk, rfl, rfl, hT, HG, HB, hb⟩ := hrel
    by_cases hlt : k < 4
    · obtain ⟨x, hx⟩ : ∃ x, L[k]? = some x := ⟨_, List.getElem?_eq_getElem (by omega)⟩
      have c0 := HB.out.at k (.int .i64 x) (by rw [List.getElem?_map, hx]; rfl)
      have CF := Lib.hid (fun w => specFixL x w)
      have nF := fxI_size x 4
      have H0 := Lib.hid (fun h => HG.out.symm.trans ((congrArg (trGo T) (drop_at hx)).trans (trGo_bad (s := T) (x := x) (xs := L.drop (k + 1)) h)))
      have H1 := Lib.hid (fun h => HG.out.symm.trans ((congrArg (trGo T) (drop_at hx)).trans (trGo_next (s := T) (x := x) (xs := L.drop (k + 1)) h)))
      obtain ⟨t, ht⟩ : ∃ t, fxI x 4 = t := ⟨_, rfl⟩
      simp only [ht] at H0 H1
      rw [ht] at CF nF
      have j0 : (0 : Int) ≤ (k : Int) := by omega
      have j1 : (k : Int) < 4 := by omega
      clear ht hx HG
      go_wp2_with (fail)
      refine (CF.out _).mono ?_
      rintro e w2 ⟨rfl, b2⟩
      have hb := Lib.hid (hb.out.trans (b2.mono hb.out.size))
      have HB := Lib.hid (HB.out.below b2)
      clear b2 c0
      by_cases e0 : t = nul
      · have HE := Lib.hid (H0.out e0)
        have k0 : t.toList.isEmpty = true := emp_yes e0
        clear H0 H1 e0
        go_wp2
        go_ret
        exact ⟨by rw [HE.out]; rfl, hb.out⟩
      · have HE := Lib.hid (H1.out e0)
        have k0 : t.toList.isEmpty = false := emp_no e0
        clear H0 H1 e0
        go_wp2
        go_roundw
        case rel => exact ⟨k + 1, T ++ t, by omega, by go_num, rfl, by rw [ByteArray.size_append]; omega, Lib.hid HE.out.symm, HB, hb⟩
        case measure => simp [intOf]; omega
    · obtain rfl : k = 4 := by omega
      have HE := Lib.hid (show T ++ idx = trT a b c d by
        have h := HG.out
        rw [List.drop_eq_nil_of_le (by omega)] at h
        exact h)
      clear HG
      go_wp2
      go_ret
      exact ⟨by rw [← HE.out]; rfl, hb.out⟩

/-- what is answered of a trailer -/
def rtR : Option (Nat × Nat × Nat × Nat) → Value
  | none => .tuple #[.int .i64 0, .int .i64 0, .int .i64 0, .int .i64 0, .bool false]
  | some x => .tuple #[.int .i64 (x.1 : Int), .int .i64 (x.2.1 : Int), .int .i64 (x.2.2.1 : Int), .int .i64 (x.2.2.2 : Int), .bool true]
theorem rf4 (b : ByteArray) (a : Nat) (h : a + 4 ≤ b.size) : rfAt b (a : Int) 4 = .tuple #[.int .i64 ((valF b a 4 : Nat) : Int), .bool true] := rfAt_in b a 4 (by omega) (by omega) h (below8 b a 4 (by omega))

theorem results_tmp5 {fn : Func} {t u v x y : Tmp} (h : fn.results = #[.tmp t, .tmp u, .tmp v, .tmp x, .tmp y]) (tmps : Array Value) (P : Program) (w : World) :
    (results fn tmps).run P w = .ok (.tuple #[tmps.getD t undef, tmps.getD u undef, tmps.getD v undef, tmps.getD x undef, tmps.getD y undef]) w := by
  simp [results, h]
theorem idx_list : idx.toList = [73, 68, 88, 33] := by rw [ByteArray.toList_eq]; rfl

end Go.Proofs.YtpibemlganeacaaGreatDoor.pl

namespace Go.Proofs.YtpibemlganeacaaGreatDoor.pl
set_option maxRecDepth 20000
open Go.RowKit
open kit sum num burst hd fr recs sc

theorem plFrom_wf (s : Nat) (os : List Int) : ∀ i, i + os.length ≤ 1000000000 → (∀ o ∈ os, i64 o) → wfP (plFrom s i os) := by
  induction os with
  | nil => intro i _ _ e he; cases he
  | cons o os ih =>
    intro i hi hw
    rw [List.length_cons] at hi
    have h2 := ih (i + 1) (by omega) fun x hx => hw x (List.mem_cons_of_mem _ hx)
    by_cases hm : i % s = 0
    · rw [show plFrom s i (o :: os) = ((i : Int), o) :: plFrom s (i + 1) os from if_pos hm]
      intro e he
      rcases List.mem_cons.1 he with rfl | he
      · exact ⟨by unfold i64; show -9223372036854775808 ≤ (i : Int) ∧ (i : Int) ≤ 9223372036854775807; omega, hw o (List.mem_cons_self ..)⟩
      · exact h2 e he
    · rw [show plFrom s i (o :: os) = plFrom s (i + 1) os from if_neg hm]
      exact h2
theorem plN_wf {s : Int} {os : List Int} (hl : os.length ≤ 1000000000) (hw : ∀ o ∈ os, i64 o) : wfP (plN s os) := by
  unfold plN
  split
  · exact plFrom_wf _ _ 0 (by omega) hw
  · intro e he; cases he
theorem OwnP.form {B : Nat} {w : World} {v : Value} {xs : List Plc} (h : OwnP B w v xs) : ∃ a c, v = .slice a xs.length c ∧ AtP w a xs.length xs := by
  obtain ⟨a, c, rfl, _, _⟩ := own_shape h
  exact ⟨a, c, rfl, AtP.of_own h⟩

set_option maxHeartbeats 2000000 in
theorem specFoot (v s p l e : Int) (a : Option Addr) (c n : Nat) (os : List Int) (w : World) (hm : n ≤ 1048576) (hw : ∀ o ∈ os, i64 o) (ha : ints.At w a n os) :
    Calls Tryz.prog 40 #[.agg #[.int .i64 v, .int .i64 s, .int .i64 p, .int .i64 l], .slice a n c, .int .i64 e] w fun en w' => en = .returned (.string (ftT ⟨v, s, p, l⟩ os e)) ∧ Below w.heap.size w w' := by
  have hlen := ha.1
  have B1 := (Below.refl w.heap.size w).alloc (Nat.le_refl _) (.cells #[.int .i64 v, .int .i64 s, .int .i64 p, .int .i64 l] 41)
  have bx := Box.new w #[.int .i64 v, .int .i64 s, .int .i64 p, .int .i64 l] 41
  obtain ⟨W, hW⟩ : ∃ W, W = w.alloc (.cells #[.int .i64 v, .int .i64 s, .int .i64 p, .int .i64 l] 41) := ⟨_, rfl⟩
  rw [← hW] at B1 bx
  have HA := Lib.hid (ha.below B1)
  have B1 := Lib.hid B1
  have BX := Lib.hid bx
  have HW := Lib.hid hW
  have x0 := bx.at 0 _ rfl
  have x1 := bx.at 1 _ rfl
  have x2 := bx.at 2 _ rfl
  have x3 := bx.at 3 _ rfl
  rw [hW] at x0 x1 x2 x3
  have CK := Lib.hid (specHeadOk v s p l W)
  clear bx hW ha
  cases hk : okH ⟨v, s, p, l⟩ with
  | false =>
    have HE := Lib.hid (ftT_no (os := os) (e := e) hk)
    rw [hk] at CK
    clear hk
    go_enter Tryz.func40, Tryz.ntmps40
    go_wp2_with (fail)
    rw [← HW.out]
    refine CK.out.mono ?_
    rintro en w2 ⟨rfl, b2⟩
    go_wp2
    go_ret
    exact ⟨by rw [HE.out]; rfl, B1.out.trans (b2.mono B1.out.size)⟩
  | true =>
    have hs : 1 ≤ s ∧ s ≤ 20 ∧ 0 ≤ p ∧ p ≤ 1000000000 := by
      have h := okH_is.1 hk
      exact ⟨h.2.2.1, h.2.2.2.1, h.2.2.2.2.1, h.2.2.2.2.2.1⟩
    obtain ⟨s0, s1, p0, p1⟩ := hs
    have HB := Lib.hid (fun h => ftT_bad (h := ⟨v, s, p, l⟩) (os := os) (e := e) h)
    have HF := Lib.hid (show noFt ⟨v, s, p, l⟩ os e ↔ (emT v (p + (n : Int)) = nul ∨ plT (plN s os) = nul ∨ trT e (n : Int) s 0 = nul) by unfold noFt; rw [hlen])
    have HD := Lib.hid (show fbody ⟨v, s, p, l⟩ os e = emT v (p + (n : Int)) ++ plT (plN s os) ++ (trT e (n : Int) s 0).extract 0 12 by unfold fbody; rw [hlen])
    have HG := Lib.hid (fun h => (ftT_yes (h := ⟨v, s, p, l⟩) (os := os) (e := e) hk h).trans (show emT v (p + (os.length : Int)) ++ plT (plN s os) ++ trT e (os.length : Int) s (sumT (fbody ⟨v, s, p, l⟩ os e) : Nat) = emT v (p + (n : Int)) ++ plT (plN s os) ++ trT e (n : Int) s (sumT (emT v (p + (n : Int)) ++ plT (plN s os) ++ (trT e (n : Int) s 0).extract 0 12) : Nat) by rw [HD.out, hlen]))
    rw [hk] at CK
    have hpl := plT_size (plN s os)
    have hple := plN_le s os
    have hwp := Lib.hid (plN_wf (s := s) (os := os) (by omega) hw)
    rw [hlen] at hple
    have C1 := Lib.hid (fun w => specMark_any v (p + (n : Int)) w)
    have n1 := emT_le v (p + (n : Int))
    have C2 := Lib.hid (fun w (h : ints.At w a n os) => specPlaces s a c n os w hm (by unfold i64; omega) h)
    have C3 := Lib.hid (fun w a' c' (h : AtP w a' (plN s os).length (plN s os)) => specPlacesText a' c' (plN s os).length (plN s os) w (by omega) hwp.out h)
    have C4 := Lib.hid (fun w => specTrailer e (n : Int) s 0 w)
    have n4 := trT_le e (n : Int) s 0
    have n4' : trT e (n : Int) s 0 ≠ nul → (trT e (n : Int) s 0).size = 20 := fun h => trT_size h
    have C6 := Lib.hid (fun q w => specTrailer e (n : Int) s q w)
    have n6 := fun q => trT_le e (n : Int) s q
    obtain ⟨M, hM⟩ : ∃ M, emT v (p + (n : Int)) = M := ⟨_, rfl⟩
    obtain ⟨L, hL⟩ : ∃ L, plT (plN s os) = L := ⟨_, rfl⟩
    obtain ⟨T, hT⟩ : ∃ T, trT e (n : Int) s 0 = T := ⟨_, rfl⟩
    obtain ⟨K, hK⟩ : ∃ K, (plN s os).length = K := ⟨_, rfl⟩
    rw [hM] at HF HG C1 n1
    rw [hL] at HF HG C3 hpl
    rw [hT] at HF HG C4 n4 n4'
    rw [hK] at hpl hple C3
    have HK := Lib.hid hK
    have n1' : M.size ≤ 1048576 := by omega
    have n2' : L.size ≤ 16777216 := by omega
    have C5 := Lib.hid (fun (X : ByteArray) w (h : X.size ≤ 9223372036854775807) => specSum X w h)
    clear hM hL hT hk hw hK hpl hple n1
    go_enter Tryz.func40, Tryz.ntmps40
    go_wp2_with (fail)
    rw [← HW.out]
    refine CK.out.mono ?_
    rintro en w2 ⟨rfl, b2⟩
    have HA := Lib.hid (HA.out.below b2)
    clear x3
    have B2 := Lib.hid (B1.out.trans (b2.mono B1.out.size))
    have BX := Lib.hid (BX.out.below b2)
    clear b2 x0 x1 x2
    have x0 := BX.out.at 0 _ rfl
    have x1 := BX.out.at 1 _ rfl
    have x2 := BX.out.at 2 _ rfl
    go_wp2_with (fail)
    refine (C1.out _).mono ?_
    rintro en w3 ⟨rfl, b3⟩
    have HA := Lib.hid (HA.out.below b3)
    have B3 := Lib.hid (B2.out.trans (b3.mono B2.out.size))
    have BX := Lib.hid (BX.out.below b3)
    clear b3 x0 x1 x2
    have x0 := BX.out.at 0 _ rfl
    have x1 := BX.out.at 1 _ rfl
    have x2 := BX.out.at 2 _ rfl
    go_wp2_with (fail)
    refine (C2.out _ HA.out).mono ?_
    rintro en w4 ⟨⟨v4, rfl, o4⟩, b4⟩
    obtain ⟨a4, c4, rfl, A4⟩ := o4.form
    rw [HK.out] at A4
    have B4 := Lib.hid (B3.out.trans (b4.mono B3.out.size))
    have BX := Lib.hid (BX.out.below b4)
    clear b4 x0 x1 x2
    have x0 := BX.out.at 0 _ rfl
    have x1 := BX.out.at 1 _ rfl
    have x2 := BX.out.at 2 _ rfl
    rw [HK.out]
    clear o4
    go_wp2_with (fail)
    refine (C3.out _ _ _ A4).mono ?_
    rintro en w5 ⟨rfl, b5⟩
    have B5 := Lib.hid (B4.out.trans (b5.mono B4.out.size))
    have BX := Lib.hid (BX.out.below b5)
    clear b5 x0 x1 x2
    have x0 := BX.out.at 0 _ rfl
    have x1 := BX.out.at 1 _ rfl
    have x2 := BX.out.at 2 _ rfl
    clear A4
    go_wp2_with (fail)
    refine (C4.out _).mono ?_
    rintro en w6 ⟨rfl, b6⟩
    have B6 := Lib.hid (B5.out.trans (b6.mono B5.out.size))
    have BX := Lib.hid (BX.out.below b6)
    clear b6 x0 x1 x2
    have x0 := BX.out.at 0 _ rfl
    have x1 := BX.out.at 1 _ rfl
    have x2 := BX.out.at 2 _ rfl
    by_cases e1 : M = nul
    · have HE := Lib.hid (HB.out (HF.out.2 (.inl e1)))
      have k1 : M.toList.isEmpty = true := emp_yes e1
      clear HB HF HG HD e1 n4'
      go_wp2
      go_ret
      exact ⟨by rw [HE.out]; rfl, B6.out⟩
    · by_cases e2 : L = nul
      · have HE := Lib.hid (HB.out (HF.out.2 (.inr (.inl e2))))
        have k1 : M.toList.isEmpty = false := emp_no e1
        have k2 : L.toList.isEmpty = true := emp_yes e2
        clear HB HF HG HD e1 e2 n4'
        go_wp2
        go_ret
        exact ⟨by rw [HE.out]; rfl, B6.out⟩
      · by_cases e3 : T = nul
        · have HE := Lib.hid (HB.out (HF.out.2 (.inr (.inr e3))))
          have k1 : M.toList.isEmpty = false := emp_no e1
          have k2 : L.toList.isEmpty = false := emp_no e2
          have k3 : T.toList.isEmpty = true := emp_yes e3
          clear HB HF HG HD e1 e2 e3 n4'
          go_wp2
          go_ret
          exact ⟨by rw [HE.out]; rfl, B6.out⟩
        · have HE := Lib.hid (HG.out fun h => (HF.out.1 h).elim e1 fun h => h.elim e2 e3)
          have k1 : M.toList.isEmpty = false := emp_no e1
          have k2 : L.toList.isEmpty = false := emp_no e2
          have k3 : T.toList.isEmpty = false := emp_no e3
          have hT20 := n4' e3
          have h12 : (T.extract 0 12).size = 12 := by rw [ByteArray.size_extract]; omega
          have i12 : (12 : Int) ≤ (T.size : Int) := by omega
          clear HB HF HG HD e1 e2 e3 n4'
          go_wp2_with (fail)
          refine (C5.out (M ++ L ++ T.extract 0 12) _ (by rw [ByteArray.size_append, ByteArray.size_append]; omega)).mono ?_
          rintro en w' ⟨rfl, rfl⟩
          obtain ⟨q, hq⟩ : ∃ q, sumT (M ++ L ++ T.extract 0 12) = q := ⟨_, rfl⟩
          have HQ := Lib.hid hq
          rw [hq]
          clear hq
          have n6 := n6 (q : Int)
          go_wp2_with (fail)
          refine (C6.out (q : Int) _).mono ?_
          rintro en w7 ⟨rfl, b7⟩
          have HR := Lib.hid (HE.out.trans (by rw [HQ.out]))
          go_wp2
          go_ret
          exact ⟨by rw [HR.out]; rfl, B6.out.trans (b7.mono B6.out.size)⟩

end Go.Proofs.YtpibemlganeacaaGreatDoor.pl
