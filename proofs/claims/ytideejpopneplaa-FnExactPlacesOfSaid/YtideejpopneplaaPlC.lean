/-
  Contract of spec.ReadPlaces.
-/
import Derived.Test.YtideejpopneplaaPlP
import Derived.Test.YtideejpopneplaaAppB
namespace Go.Proofs.Ytideejpopneplaa.pl
set_option maxRecDepth 20000
open Go.RowKit
open kit sum num burst hd fr recs sc

/-- what is answered of a reading of places -/
def RdP (o : Option (List Plc × Nat)) (w : World) (e : Ending) (w' : World) : Prop :=
  (∃ v, e = .returned (.tuple #[v, .int .i64 ((match o with | none => 0 | some x => x.2 : Nat) : Int), .bool o.isSome]) ∧ OwnP w.heap.size w' v (match o with | none => [] | some x => x.1)) ∧ Below w.heap.size w w'
theorem RdP.no {o : Option (List Plc × Nat)} {w w' : World} {v : Value} (h : o = none) (hv : OwnP w.heap.size w' v []) (hb : Below w.heap.size w w') : RdP o w (.returned (.tuple #[v, .int .i64 0, .bool false])) w' := by
  subst h
  exact ⟨⟨v, rfl, hv⟩, hb⟩
theorem RdP.yes {o : Option (List Plc × Nat)} {w w' : World} {v : Value} {xs : List Plc} {q : Nat} (h : o = some (xs, q)) (hv : OwnP w.heap.size w' v xs) (hb : Below w.heap.size w w') : RdP o w (.returned (.tuple #[v, .int .i64 (q : Int), .bool true])) w' := by
  subst h
  exact ⟨⟨v, rfl, hv⟩, hb⟩
theorem rv_in {b : ByteArray} {a n m : Nat} (h : rv (nats b a) = some (n, m)) : a + m ≤ b.size ∧ n ≤ 1000000000 ∧ m ≤ 5 := by
  obtain ⟨h1, h2, h3⟩ := rv_some h
  have h4 := (rd_len 5 _ _ _ h1).1
  have h5 := (rd_len 5 _ _ _ h1).2
  rw [nats_length] at h4
  exact ⟨by omega, h2, by omega⟩

theorem own_setBox {w : World} {B size g j : Nat} {e : TypeId} {v : Value} {n : Nat} {xs : List Value} {u : Value} (h : w.ownsRow B e size v n xs) (hg : ∀ q, v.ownBlock = some q → q ≠ g) : (w.setCell ⟨g, j, none⟩ u).ownsRow B e size v n xs := own_setOther h g j u fun e => hg g e rfl

set_option maxHeartbeats 4000000 in
theorem specReadPlaces (b : ByteArray) (a : Int) (w : World) (hm : b.size ≤ 1048576) :
    Calls Try.prog 20 #[.string b, .int .i64 a] w (RdP (rdP b a) w) := by
  have CR := Lib.hid (fun w => specRead_any b a w hm)
  have o0 : ∀ w : World, OwnP w.heap.size (w.alloc (.cells #[] 36)) (.slice (some ⟨w.heap.size, 0, none⟩) 0 0) [] := fun w => World.ownsRow_made _ _ _ (Nat.le_refl _) (by decide) rfl
  by_cases ha : a < 0
  · rw [rvAt_neg b a ha, show no2 = .tuple #[.int .i64 0, .int .i64 0, .bool false] from rfl] at CR
    have HE := Lib.hid (rdP_neg (b := b) ha)
    clear ha
    go_enter Try.func20, Try.ntmps20
    go_wp2_with (fail)
    refine (CR.out _).mono ?_
    rintro e w2 ⟨rfl, b2⟩
    go_wp2
    go_ret3
    exact RdP.no HE.out (OwnP.below (o0 w) b2) (((Below.refl _ _).alloc (Nat.le_refl _) _).trans (b2.mono (by simp)))
  · obtain ⟨p, rfl⟩ := Int.eq_ofNat_of_zero_le (show 0 ≤ a by omega)
    cases hr : rv (nats b p) with
    | none =>
      rw [rvAt_none b p hr, show no2 = .tuple #[.int .i64 0, .int .i64 0, .bool false] from rfl] at CR
      have HE := Lib.hid (rdP_none hr)
      clear ha hr
      go_enter Try.func20, Try.ntmps20
      go_wp2_with (fail)
      refine (CR.out _).mono ?_
      rintro e w2 ⟨rfl, b2⟩
      go_wp2
      go_ret3
      exact RdP.no HE.out (OwnP.below (o0 w) b2) (((Below.refl _ _).alloc (Nat.le_refl _) _).trans (b2.mono (by simp)))
    | some x =>
      obtain ⟨n, m⟩ := x
      rw [rvAt_some b p n m hr] at CR
      have hin := rv_in hr
      by_cases h1000 : n ≤ 1000
      · have HE := Lib.hid (rdP_in hr h1000)
        have HR := Lib.hid (fun (q : Nat) w => specRead_any b (q : Int) w hm)
        have k1 : ¬ (1000 : Int) < (n : Int) := by omega
        obtain ⟨p0, hp0⟩ : ∃ p0, p + m = p0 := ⟨_, rfl⟩
        rw [hp0] at CR hin
        simp only [hp0] at HE
        have O1 := Lib.hid (o0 w)
        have B1 := Lib.hid ((Below.refl w.heap.size w).alloc (Nat.le_refl _) (.cells #[] 36))
        obtain ⟨W1, hW1⟩ : ∃ W1, W1 = w.alloc (.cells #[] 36) := ⟨_, rfl⟩
        have s1 : w.heap.size < W1.heap.size := by rw [hW1]; simp
        rw [← hW1] at O1 B1
        have HW1 := Lib.hid hW1
        clear ha hr hp0 hW1
        obtain ⟨i0, hi, hz0, hz1, hz2⟩ := info_parts Try.infoPlace
        go_enter Try.func20, Try.ntmps20
        go_wp2_with (fail)
        rw [← HW1.out]
        refine (CR.out _).mono ?_
        rintro e w2 ⟨rfl, b2⟩
        clear HW1
        have O1 := Lib.hid (OwnP.below O1.out b2)
        have B2 := Lib.hid (B1.out.trans (b2.mono B1.out.size))
        have s2 : w.heap.size < w2.heap.size := Nat.lt_of_lt_of_le s1 b2.size
        clear b2 B1 s1
        have O2 := o0 w2
        have B3 := (Below.refl w2.heap.size w2).alloc (Nat.le_refl _) (.cells #[] 36)
        obtain ⟨W3, hW3⟩ : ∃ W3, W3 = w2.alloc (.cells #[] 36) := ⟨_, rfl⟩
        rw [← hW3] at O2 B3
        have O1 := Lib.hid (OwnP.below O1.out B3)
        have B3 := Lib.hid (B2.out.trans (B3.mono B2.out.size))
        have z3 : W3.heap.size = w2.heap.size + 1 := by rw [hW3]; simp
        have B4 := (Below.refl W3.heap.size W3).alloc (Nat.le_refl _) (.cells #[.int .i64 0, .int .i64 0] 36)
        have bx := Box.new W3 #[.int .i64 0, .int .i64 0] 36
        obtain ⟨W4, hW4⟩ : ∃ W4, W4 = W3.alloc (.cells #[.int .i64 0, .int .i64 0] 36) := ⟨_, rfl⟩
        rw [← hW4] at B4 bx
        rw [z3] at bx
        have O2 := Lib.hid (OwnP.below O2 B4)
        have O1 := Lib.hid (OwnP.below O1.out B4)
        have BX := Lib.hid bx
        have B4 := Lib.hid (B3.out.trans (B4.mono B3.out.size))
        have HW3 := Lib.hid hW3
        have HW4 := Lib.hid hW4
        clear bx hW3 hW4 B3 B2 CR
        go_wp2
        rw [← HW3.out, ← HW4.out]
        clear HW3 HW4
        have s4 : w2.heap.size + 1 < W4.heap.size := BX.out.lt
        go_loopw [9, 11, 13] (fun nx o i wr => ∃ (k pos l0 l1 : Nat) (acc : List Plc), k ≤ n ∧ i = .int .i64 k ∧ nx = .int .i64 pos ∧ pos ≤ b.size ∧ l0 ≤ k * 1000000000 ∧ l1 ≤ k * 1000000000 ∧ acc.length = k ∧ Hid (rpGo b (n - k) pos ((l0 : Int), (l1 : Int)) acc = rdP b (p : Int)) ∧ Hid (OwnP w2.heap.size wr o acc) ∧ Hid (∀ q, o.ownBlock = some q → q ≠ w2.heap.size + 1) ∧ Hid (Box wr (w2.heap.size + 1) [.int .i64 (l0 : Int), .int .i64 (l1 : Int)]) ∧ Hid (OwnP w.heap.size wr (.slice (some ⟨w.heap.size, 0, none⟩) 0 0) []) ∧ Hid (Below w.heap.size w wr)) (fun _ _ i _ => n - (intOf i).toNat)
        case atStart => exact ⟨0, p0, 0, 0, [], Nat.zero_le _, rfl, rfl, by omega, Nat.zero_le _, Nat.zero_le _, rfl, Lib.hid HE.out.symm, O2, Lib.hid (fun q hq => by simp only [Value.ownBlock, Option.some.injEq] at hq; omega), BX, O1, B4⟩
        case round =>
          obtain ⟨k, pos, l0, l1, acc, hk, rfl, rfl, hpos, hl0, hl1, hacc, HG, HO, HQ, HB, O1, hb⟩ := hrel
          by_cases hlt : k < n
          · have j0 : (0 : Int) ≤ (k : Int) := by omega
            have j1 : (k : Int) < (n : Int) := by omega
            have CR := Lib.hid (HR.out pos)
            have en : n - k = (n - (k + 1)) + 1 := by omega
            rw [en] at HG
            clear en
            cases r1 : rv (nats b pos) with
            | none =>
              rw [rvAt_none b pos r1, show no2 = .tuple #[.int .i64 0, .int .i64 0, .bool false] from rfl] at CR
              have HN := Lib.hid (HG.out.symm.trans (rpGo_first r1))
              clear r1 HG
              go_wp2_with (fail)
              refine (CR.out _).mono ?_
              rintro e w3 ⟨rfl, b3⟩
              go_wp2
              go_ret3
              exact RdP.no HN.out (OwnP.below O1.out b3) (hb.out.trans (b3.mono hb.out.size))
            | some x =>
              obtain ⟨x, m1⟩ := x
              rw [rvAt_some b pos x m1 r1] at CR
              have hin1 := rv_in r1
              have CS := Lib.hid (HR.out (pos + m1))
              cases r2 : rv (nats b (pos + m1)) with
              | none =>
                rw [rvAt_none b (pos + m1) r2, show no2 = .tuple #[.int .i64 0, .int .i64 0, .bool false] from rfl] at CS
                have HN := Lib.hid (HG.out.symm.trans (rpGo_second r1 r2))
                clear r1 r2 HG
                obtain ⟨p1, hp1⟩ : ∃ p1, pos + m1 = p1 := ⟨_, rfl⟩
                rw [hp1] at CR CS hin1
                clear hp1
                go_wp2_with (fail)
                refine (CR.out _).mono ?_
                rintro e w3 ⟨rfl, b3⟩
                have O1 := Lib.hid (OwnP.below O1.out b3)
                have hb3 := Lib.hid (hb.out.trans (b3.mono hb.out.size))
                clear b3
                go_wp2_with (fail)
                refine (CS.out _).mono ?_
                rintro e w4 ⟨rfl, b4⟩
                go_wp2
                go_ret3
                exact RdP.no HN.out (OwnP.below O1.out b4) (hb3.out.trans (b4.mono hb3.out.size))
              | some y =>
                obtain ⟨y, m2⟩ := y
                rw [rvAt_some b (pos + m1) y m2 r2] at CS
                have hin2 := rv_in r2
                have HN := Lib.hid (HG.out.symm.trans (rpGo_next r1 r2))
                clear r1 r2 HG
                obtain ⟨p1, hp1⟩ : ∃ p1, pos + m1 = p1 := ⟨_, rfl⟩
                simp only [hp1] at HN
                rw [hp1] at CR CS hin1 hin2
                obtain ⟨p2, hp2⟩ : ∃ p2, p1 + m2 = p2 := ⟨_, rfl⟩
                simp only [hp2] at HN
                rw [hp2] at CS hin2
                clear hp1 hp2
                obtain ⟨n0, hn0⟩ : ∃ n0, l0 + x = n0 := ⟨_, rfl⟩
                obtain ⟨n1, hn1⟩ : ∃ n1, l1 + y = n1 := ⟨_, rfl⟩
                have e0 : (l0 : Int) + (x : Int) = (n0 : Int) := by omega
                have e1 : (l1 : Int) + (y : Int) = (n1 : Int) := by omega
                simp only [e0, e1] at HN
                have q0 : l0 ≤ 1000000000000 := by omega
                have q1 : l1 ≤ 1000000000000 := by omega
                have q2 : n0 ≤ (k + 1) * 1000000000 := by omega
                have q3 : n1 ≤ (k + 1) * 1000000000 := by omega
                have qx : x ≤ 1000000000 := by omega
                have qy : y ≤ 1000000000 := by omega
                have HK := Lib.hid hacc
                clear hn0 hn1 hacc
                go_wp2_with (fail)
                refine (CR.out _).mono ?_
                rintro e w3 ⟨rfl, b3⟩
                have O1 := Lib.hid (OwnP.below O1.out b3)
                have HO := Lib.hid (OwnP.below HO.out b3)
                have HB := Lib.hid (HB.out.below b3)
                have hb := Lib.hid (hb.out.trans (b3.mono hb.out.size))
                clear b3
                go_wp2_with (fail)
                refine (CS.out _).mono ?_
                rintro e w4 ⟨rfl, b4⟩
                have O1 := Lib.hid (OwnP.below O1.out b4)
                have HO := Lib.hid (OwnP.below HO.out b4)
                have HB := Lib.hid (HB.out.below b4)
                have hb := Lib.hid (hb.out.trans (b4.mono hb.out.size))
                clear b4
                have c0 := HB.out.at 0 _ rfl
                have c1 := HB.out.at 1 _ rfl
                have f0 := HB.out.2 0
                have f1 := HB.out.2 1
                have HB5 := Lib.hid ((HB.out.set 0 (.int .i64 (n0 : Int)) (by simp)).set 1 (.int .i64 (n1 : Int)) (by simp))
                have z0 := HB5.out.at 0 _ rfl
                have z1 := HB5.out.at 1 _ rfl
                have HO5 := Lib.hid (own_setBox (g := w2.heap.size + 1) (j := 1) (u := .int .i64 (n1 : Int)) (own_setBox (g := w2.heap.size + 1) (j := 0) (u := .int .i64 (n0 : Int)) HO.out (fun q => HQ.out q)) (fun q => HQ.out q))
                have O15 : Hid (OwnP w.heap.size ((w4.setCell ⟨w2.heap.size + 1, 0, none⟩ (.int .i64 (n0 : Int))).setCell ⟨w2.heap.size + 1, 1, none⟩ (.int .i64 (n1 : Int))) (.slice (some ⟨w.heap.size, 0, none⟩) 0 0) []) := Lib.hid (own_setBox (own_setBox O1.out (fun q hq => by simp only [Value.ownBlock, Option.some.injEq] at hq; omega)) (fun q hq => by simp only [Value.ownBlock, Option.some.injEq] at hq; omega))
                have hb5 : Hid (Below w.heap.size w ((w4.setCell ⟨w2.heap.size + 1, 0, none⟩ (.int .i64 (n0 : Int))).setCell ⟨w2.heap.size + 1, 1, none⟩ (.int .i64 (n1 : Int)))) := Lib.hid ((hb.out.setCell (p := ⟨w2.heap.size + 1, 0, none⟩) (show w.heap.size ≤ w2.heap.size + 1 by omega) _).setCell (p := ⟨w2.heap.size + 1, 1, none⟩) (show w.heap.size ≤ w2.heap.size + 1 by omega) _)
                have sz5 : Hid (w2.heap.size ≤ ((w4.setCell ⟨w2.heap.size + 1, 0, none⟩ (.int .i64 (n0 : Int))).setCell ⟨w2.heap.size + 1, 1, none⟩ (.int .i64 (n1 : Int))).heap.size) := Lib.hid (by have := HB.out.lt; simp; omega)
                clear HO O1 hb
                rw [HK.out] at HO5
                go_wp2_with (at_builtin; refine list_appN4 (by rfl) (.tmp 71) (.tmp 73) 27 (by rfl) w2.heap.size ((w4.setCell ⟨w2.heap.size + 1, 0, none⟩ (.int .i64 (n0 : Int))).setCell ⟨w2.heap.size + 1, 1, none⟩ (.int .i64 (n1 : Int))) 36 i0 (.agg #[.int .i64 0, .int .i64 0]) 2 16 Try.underlying27 hi hz0 hz1 hz2 (by rfl) (by decide) _ k _ HO5.out sz5.out w4.heap.size (by simp) [.int .i64 (n0 : Int), .int .i64 (n1 : Int)] 1 (by decide) ?_ ?_ ?_ ?_ (by rfl) (by rfl) ?_ ?_; rfl; exact two_ints n0 n1; unfold maxLen; omega; omega; rfl; intro v6 w6 o6 g6 b6)
                go_roundw
                case rel => exact ⟨k + 1, p2, n0, n1, acc ++ [((n0 : Int), (n1 : Int))], by omega, by go_num, rfl, by omega, q2, q3, by rw [List.length_append, HK.out]; rfl, Lib.hid HN.out.symm, Lib.hid (by unfold OwnP; rw [cellsP_app, List.length_append, HK.out]; exact o6), Lib.hid (fun q hq => (b6 q hq).elim (HQ.out q) fun h => by have := HB5.out.lt; omega), Lib.hid (HB5.out.grown g6 fun e => (HQ.out _ e) rfl), Lib.hid (own_grown O15.out g6 fun g hg e => by have := (own_block_ge HO5.out g e).1; simp only [Value.ownBlock, Option.some.injEq] at hg; omega), Lib.hid (hb5.out.grown g6 hb5.out.size fun q hq => by have := (own_block_ge HO5.out q hq).1; omega)⟩
                case measure => simp [intOf]; omega
          · obtain rfl : k = n := by omega
            have HN := Lib.hid (show rdP b (p : Int) = some (acc, pos) by rw [← HG.out, Nat.sub_self]; rfl)
            clear HG
            go_wp2
            go_ret3
            exact RdP.yes HN.out (own_base HO.out (by omega)) hb.out
      · have HE := Lib.hid (rdP_many hr h1000)
        have k1 : (1000 : Int) < (n : Int) := by omega
        clear ha hr
        go_enter Try.func20, Try.ntmps20
        go_wp2_with (fail)
        refine (CR.out _).mono ?_
        rintro e w2 ⟨rfl, b2⟩
        go_wp2
        go_ret3
        exact RdP.no HE.out (OwnP.below (o0 w) b2) (((Below.refl _ _).alloc (Nat.le_refl _) _).trans (b2.mono (by simp)))

end Go.Proofs.Ytideejpopneplaa.pl
