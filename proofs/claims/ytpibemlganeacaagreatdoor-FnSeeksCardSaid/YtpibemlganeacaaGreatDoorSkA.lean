/-
  Contracts of the spec's functions that seek.
-/
import Derived.Test.YtpibemlganeacaaGreatDoorMathX
import Derived.Test.YtpibemlganeacaaGreatDoorPlP
import Derived.Test.YtpibemlganeacaaGreatDoorPlK
import Derived.Test.YtpibemlganeacaaGreatDoorLater
import Derived.Test.YtpibemlganeacaaGreatDoorSlP
import Derived.Test.YtpibemlganeacaaGreatDoorScC
namespace Go.Proofs.YtpibemlganeacaaGreatDoor.sk
set_option maxRecDepth 20000
open Go.RowKit
open kit sum num burst hd fr recs sc pl sl

/-- a place and whether there is one -/
def pfR : Option Plc → Value
  | none => .tuple #[.agg #[.int .i64 0, .int .i64 0], .bool false]
  | some c => .tuple #[.agg #[.int .i64 c.1, .int .i64 c.2], .bool true]
/-- a record and whether there is one -/
def skR : Option ByteArray → Value
  | none => .tuple #[.string { data := #[] }, .bool false]
  | some r => .tuple #[.string r, .bool true]

set_option maxHeartbeats 1000000 in
theorem specPlaceFor (a : Option Addr) (c n : Nat) (xs : List Plc) (i : Int) (w : World) (hm : n ≤ 1048576) (ha : AtP w a n xs) :
    Calls Tryz.prog 17 #[.slice a n c, .int .i64 i] w fun e w' => e = .returned (pfR (plcFor xs i)) ∧ Below w.heap.size w w' := by
  have HL := Lib.hid ha.len
  have bw := (Below.refl w.heap.size w).alloc (Nat.le_refl _) (.cells #[.int .i64 0, .int .i64 0] 36)
  have bx := Box.new w #[.int .i64 0, .int .i64 0] 36
  have HA := Lib.hid (ha.below bw)
  obtain ⟨W, hW⟩ : ∃ W, W = w.alloc (.cells #[.int .i64 0, .int .i64 0] 36) := ⟨_, rfl⟩
  rw [← hW] at bw bx HA
  have HB := Lib.hid bw
  have HX := Lib.hid bx
  clear ha bw bx
  go_enter Tryz.func17, Tryz.ntmps17
  go_wp2
  rw [← hW]
  clear hW
  go_loopw [6] (fun j wr => ∃ k : Nat, k ≤ n ∧ j = .int .i64 ((k : Int) - 1) ∧ Hid (plcFor xs i = upTo xs i k) ∧ W = wr) (fun j _ => (intOf j + 1).toNat)
  case atStart => exact ⟨n, Nat.le_refl _, rfl, Lib.hid (by unfold plcFor; rw [HL.out]), rfl⟩
  case round =>
    obtain ⟨k, hk, rfl, hp, rfl⟩ := hrel
    have p0 := HX.out.at 0 _ rfl
    have p1 := HX.out.at 1 _ rfl
    have f0 := HX.out.2 0
    have f1 := HX.out.2 1
    cases k with
    | zero =>
      have HE := Lib.hid (show plcFor xs i = none from hp.out)
      have B2 := Lib.hid ((HB.out.setCell (p := ⟨w.heap.size, 0, none⟩) (Nat.le_refl _) (.int .i64 0)).setCell (p := ⟨w.heap.size, 1, none⟩) (Nat.le_refl _) (.int .i64 0))
      clear hp
      go_wp2
      refine bodyPost_ret (v := .tuple #[.agg #[.int .i64 0, .int .i64 0], .bool false]) (by simp [results, Tryz.results17, go_sem, p0, p1]) rfl ⟨?_, B2.out⟩
      rw [HE.out]
      rfl
    | succ m =>
      obtain ⟨s, o, g, p, hx, rfl, hg, c0, c1⟩ := HA.out.get (show m < n by omega)
      have i0 : (0 : Int) ≤ (m : Int) := by omega
      have i1 : (m : Int) < (n : Int) := by omega
      have ek : ((m + 1 : Nat) : Int) - 1 = (m : Int) := by omega
      rw [ek]
      by_cases hc : s ≤ i
      · have HE := Lib.hid (show plcFor xs i = some (s, o) by rw [hp.out]; exact upTo_hit hx hc)
        have B2 := Lib.hid ((HB.out.setCell (p := ⟨w.heap.size, 0, none⟩) (Nat.le_refl _) (.int .i64 s)).setCell (p := ⟨w.heap.size, 1, none⟩) (Nat.le_refl _) (.int .i64 o))
        clear hp hx
        go_wp2
        refine bodyPost_ret (v := .tuple #[.agg #[.int .i64 s, .int .i64 o], .bool true]) (by simp [results, Tryz.results17, go_sem, p0, p1]) rfl ⟨?_, B2.out⟩
        rw [HE.out]
        rfl
      · have HE := Lib.hid (show plcFor xs i = upTo xs i m by rw [hp.out]; exact upTo_miss hx hc)
        clear hp hx
        go_wp2
        go_roundw
        case rel => exact ⟨m, by omega, by go_num, HE, trivial⟩
        case measure => simp [intOf]

theorem liN_le (b : ByteArray) : (liN b).length ≤ b.size := by
  unfold liN
  split
  · have h1 := plN_le (hdOf b).s (offI b)
    have h2 := recs_le b
    rw [offI_length] at h1
    omega
  · exact Nat.zero_le _
theorem hdOf_stride (b : ByteArray) : i64 (hdOf b).s := by
  cases e : rdH b with
  | none => rw [hdOf_none e]; exact ⟨by decide, by decide⟩
  | some h =>
    have := okH_is.1 (rdH_some e).2.1
    rw [hdOf_some e]
    exact ⟨by omega, by omega⟩
theorem offI_vals (b : ByteArray) : ((offs b).map fun (o : Nat) => Value.int .i64 (o : Int)) = (offI b).map (Value.int .i64) := by unfold offI; rw [List.map_map]; rfl
/-- the places of a sealed file, in memory of one's own -/
def LiR (b : ByteArray) (w : World) (e : Ending) (w' : World) : Prop := (∃ v, e = .returned (.tuple #[v, .bool (isS b)]) ∧ OwnP w.heap.size w' v (liN b)) ∧ Below w.heap.size w w'

set_option maxHeartbeats 1000000 in
theorem specListIn (b : ByteArray) (w : World) (hm : b.size ≤ 1048576) :
    Calls Tryz.prog 13 #[.string b] w (LiR b w) := by
  have CO := Lib.hid (fun w => specSealedOk b w hm)
  have CS := Lib.hid (fun w => specScan b w hm)
  have hn := recs_le b
  unfold LiR
  cases hs : isS b with
  | false =>
    rw [hs] at CO
    have HE := Lib.hid (show liN b = [] by unfold liN; rw [hs]; rfl)
    go_enter Tryz.func13, Tryz.ntmps13
    go_wp2_with (fail)
    refine (CO.out _).mono ?_
    rintro e w1 ⟨rfl, b1⟩
    have B1 := Lib.hid b1
    clear b1
    go_wp2
    go_ret2
    refine ⟨⟨_, rfl, ?_⟩, B1.out.alloc B1.out.size _⟩
    rw [HE.out]
    exact World.ownsRow_made _ _ _ B1.out.size (by decide) rfl
  | true =>
    rw [hs] at CO
    have HE := Lib.hid (show liN b = plN (hdOf b).s (offI b) by unfold liN; rw [hs]; rfl)
    go_enter Tryz.func13, Tryz.ntmps13
    go_wp2_with (fail)
    refine (CO.out _).mono ?_
    rintro e w1 ⟨rfl, b1⟩
    have B1 := Lib.hid b1
    clear b1
    go_wp2_with (fail)
    refine (CS.out _).mono ?_
    rintro e w2 ⟨⟨v2, rfl, R, O, rfl, rR, rO⟩, b2⟩
    obtain ⟨aR, cR, rfl, _, _, _⟩ := own_form rR
    obtain ⟨aO, cO, rfl, _, _, _⟩ := own_form rO
    rw [offI_vals] at rO
    have sx := Box.new w2 #[.bool (rdH b).isSome, .int .i64 (hdOf b).v, .int .i64 (hdOf b).s, .int .i64 (hdOf b).b, .int .i64 (hdOf b).l, .slice aR (sc.recs b).length cR, .slice aO (sc.recs b).length cO, .int .i64 (endN b : Int), .bool (marked b)] 51
    have al := (Below.refl w2.heap.size w2).alloc (Nat.le_refl _) (.cells #[.bool (rdH b).isSome, .int .i64 (hdOf b).v, .int .i64 (hdOf b).s, .int .i64 (hdOf b).b, .int .i64 (hdOf b).l, .slice aR (sc.recs b).length cR, .slice aO (sc.recs b).length cO, .int .i64 (endN b : Int), .bool (marked b)] 51)
    have AO := Lib.hid ((ints.At.of_own rO).below al)
    have B2 := Lib.hid ((B1.out.trans (b2.mono B1.out.size)).trans (al.mono (Nat.le_trans B1.out.size b2.size)))
    have x2 := sx.at 2 _ rfl
    have x6 := sx.at 6 _ rfl
    have CP := Lib.hid (specPlaces (hdOf b).s aO cO (sc.recs b).length (offI b) _ (by omega) (hdOf_stride b) AO.out)
    clear rR rO b2 al sx
    go_wp2_with (fail)
    refine CP.out.mono ?_
    rintro e w3 ⟨⟨v3, rfl, o3⟩, b3⟩
    have B3 := Lib.hid (B2.out.trans (b3.mono B2.out.size))
    have O3 := Lib.hid o3
    clear o3 b3 x2 x6
    go_wp2
    go_ret2
    refine ⟨⟨_, rfl, ?_⟩, B3.out⟩
    rw [HE.out]
    unfold OwnP at O3 ⊢
    exact own_base O3.out B2.out.size

set_option maxHeartbeats 1000000 in
theorem specSeek (b : ByteArray) (i : Int) (w : World) (hm : b.size ≤ 1048576) (hi : i64 i) :
    Calls Tryz.prog 7 #[.string b, .int .i64 i] w fun e w' => e = .returned (skR (skN b i)) ∧ Below w.heap.size w w' := by
  have CR := Lib.hid (fun w => specReadSealed b w hm)
  have hn := recs_le b
  have hb := hdOf_base b
  obtain ⟨hi0, hi1⟩ := hi
  go_enter Tryz.func7, Tryz.ntmps7
  go_wp2_with (fail)
  refine (CR.out _).mono ?_
  rintro e w1 ⟨⟨u, rfl, hu⟩, b1⟩
  obtain ⟨a, c, rfl, ho⟩ := hu.form
  have al := (Below.refl w1.heap.size w1).alloc (Nat.le_refl _) (.cells #[.int .i64 (sH b).v, .int .i64 (sH b).s, .int .i64 (sH b).b, .int .i64 (sH b).l] 41)
  have sx := Box.new w1 #[.int .i64 (sH b).v, .int .i64 (sH b).s, .int .i64 (sH b).b, .int .i64 (sH b).l] 41
  have AR := Lib.hid ((strs.At.of_own ho).below al)
  have B1 := Lib.hid (b1.trans (al.mono b1.size))
  have x2 := sx.at 2 _ rfl
  clear b1 al sx ho hu CR
  cases hs : isS b with
  | false =>
    have HE := Lib.hid (skN_other (i := i) hs)
    rw [sH_no hs] at x2 B1 ⊢
    go_wp2
    go_ret2
    rw [HE.out]
    exact ⟨rfl, B1.out⟩
  | true =>
    have e1 : sH b = hdOf b := by unfold sH; rw [hs]; rfl
    have e2 : sR b = sc.recs b := by unfold sR; rw [hs]; rfl
    rw [e1, e2] at AR
    rw [e1] at x2 B1
    rw [e1, e2]
    clear e1 e2
    by_cases hlo : i < (hdOf b).b
    · have HE := Lib.hid (skN_low hlo)
      go_wp2
      go_ret2
      rw [HE.out]
      exact ⟨rfl, B1.out⟩
    · obtain ⟨j, hj⟩ := Int.eq_ofNat_of_zero_le (show 0 ≤ i - (hdOf b).b by omega)
      have ei : i = (hdOf b).b + (j : Int) := by omega
      have HE := Lib.hid (skN_in (j := j) hs)
      rw [← ei] at HE
      have ew : i - (hdOf b).b = (j : Int) := by omega
      by_cases hlt : j < (sc.recs b).length
      · have hr := List.getElem?_eq_getElem hlt
        obtain ⟨r, hr'⟩ : ∃ r, (sc.recs b)[j]'hlt = r := ⟨_, rfl⟩
        rw [hr'] at hr
        obtain ⟨g, p, rfl, hg, hc⟩ := AR.out.2.resolve_left (by omega)
        have d1 := hc j r hr
        have HR := Lib.hid hr
        have g1 : ¬ ((sc.recs b).length : Int) ≤ (j : Int) := by omega
        have g2 : (j : Int) < ((sc.recs b).length : Int) := by omega
        clear hc hr hr' ei
        go_wp2
        go_ret2
        rw [HE.out, HR.out]
        exact ⟨rfl, B1.out⟩
      · have HN := Lib.hid (List.getElem?_eq_none_iff.2 (show (sc.recs b).length ≤ j by omega))
        have g1 : ((sc.recs b).length : Int) ≤ (j : Int) := by omega
        clear ei
        go_wp2
        go_ret2
        rw [HE.out, HN.out]
        exact ⟨rfl, B1.out⟩

set_option maxHeartbeats 1000000 in
theorem specReads (b : ByteArray) (i : Int) (w : World) (hm : b.size ≤ 1048576) (hi : i64 i) :
    Calls Tryz.prog 11 #[.string b, .int .i64 i] w fun e w' => e = .returned (.int .i64 (rfN b i)) ∧ Below w.heap.size w w' := by
  have CK := Lib.hid (fun w => specSeek b i w hm hi)
  have CS := Lib.hid (fun w => specScan b w hm)
  have CL := Lib.hid (fun w => specListIn b w hm)
  have hn := recs_le b
  have hb := hdOf_base b
  cases hk : skN b i with
  | none =>
    have HE := Lib.hid (rfN_none hk)
    rw [hk, show skR none = .tuple #[.string { data := #[] }, .bool false] from rfl] at CK
    clear hk
    go_enter Tryz.func11, Tryz.ntmps11
    go_wp2_with (fail)
    refine (CK.out _).mono ?_
    rintro e w1 ⟨rfl, b1⟩
    go_wp2
    go_ret
    rw [HE.out]
    exact ⟨rfl, b1⟩
  | some r =>
    obtain ⟨hs, j, hij, hr⟩ := skN_some hk
    have hj := (List.getElem?_eq_some_iff.1 hr).1
    obtain ⟨o, ho⟩ := liN_at hs hj
    have hle : j / (hdOf b).s.toNat * (hdOf b).s.toNat ≤ j := Nat.div_mul_le_self _ _
    have HE := Lib.hid (show rfN b i = (j : Int) - ((j / (hdOf b).s.toNat * (hdOf b).s.toNat : Nat) : Int) + 1 by
      have h1 := rfN_some hs hr
      rw [← hij] at h1
      have hd := Nat.div_add_mod j (hdOf b).s.toNat
      rw [Nat.mul_comm] at hd
      omega)
    obtain ⟨q, hq⟩ : ∃ q, j / (hdOf b).s.toNat * (hdOf b).s.toNat = q := ⟨_, rfl⟩
    rw [hq] at ho hle HE
    have HP := Lib.hid ho
    have hll := liN_le b
    rw [hk, show skR (some r) = .tuple #[.string r, .bool true] from rfl] at CK
    have ew : i - (hdOf b).b = (j : Int) := by omega
    clear hk hr ho hq hij
    go_enter Tryz.func11, Tryz.ntmps11
    go_wp2_with (fail)
    refine (CK.out _).mono ?_
    rintro e w1 ⟨rfl, b1⟩
    have B1 := Lib.hid b1
    clear b1
    go_wp2_with (fail)
    refine (CS.out _).mono ?_
    rintro e w2 ⟨⟨v2, rfl, R, O, rfl, rR, rO⟩, b2⟩
    obtain ⟨aR, cR, rfl, _, _, _⟩ := own_form rR
    obtain ⟨aO, cO, rfl, _, _, _⟩ := own_form rO
    have sx := Box.new w2 #[.bool (rdH b).isSome, .int .i64 (hdOf b).v, .int .i64 (hdOf b).s, .int .i64 (hdOf b).b, .int .i64 (hdOf b).l, .slice aR (sc.recs b).length cR, .slice aO (sc.recs b).length cO, .int .i64 (endN b : Int), .bool (marked b)] 51
    have al := (Below.refl w2.heap.size w2).alloc (Nat.le_refl _) (.cells #[.bool (rdH b).isSome, .int .i64 (hdOf b).v, .int .i64 (hdOf b).s, .int .i64 (hdOf b).b, .int .i64 (hdOf b).l, .slice aR (sc.recs b).length cR, .slice aO (sc.recs b).length cO, .int .i64 (endN b : Int), .bool (marked b)] 51)
    have B2 := Lib.hid ((B1.out.trans (b2.mono B1.out.size)).trans (al.mono (Nat.le_trans B1.out.size b2.size)))
    have SX := Lib.hid sx
    clear rR rO b2 al sx
    go_wp2_with (fail)
    refine (CL.out _).mono ?_
    rintro e w3 ⟨⟨v3, rfl, o3⟩, b3⟩
    obtain ⟨a3, c3, rfl, _, A3, _⟩ := o3.formP
    have B3 := Lib.hid (B2.out.trans (b3.mono B2.out.size))
    have S3 := Lib.hid (SX.out.below b3)
    have AP := Lib.hid A3
    clear o3 A3 b3
    have x3 := S3.out.at 3 _ rfl
    have CP := Lib.hid (specPlaceFor a3 c3 (liN b).length (liN b) (j : Int) w3 (by omega) AP.out)
    rw [HP.out, show pfR (some ((q : Int), o)) = .tuple #[.agg #[.int .i64 (q : Int), .int .i64 o], .bool true] from rfl] at CP
    rw [hs]
    go_wp2_with (fail)
    refine CP.out.mono ?_
    rintro e w4 ⟨rfl, b4⟩
    have B4 := Lib.hid (B3.out.trans (b4.mono B3.out.size))
    have s4 := (S3.out.below b4).lt
    have x3' := Later.cell ((S3.out.below b4).at 3 _ rfl) s4
    have px := Box.new w4 #[.int .i64 (q : Int), .int .i64 o] 36
    have p0 := px.at 0 _ rfl
    have al := (Below.refl w4.heap.size w4).alloc (Nat.le_refl _) (.cells #[.int .i64 (q : Int), .int .i64 o] 36)
    have y3 := ((S3.out.below b4).below al).at 3 _ rfl
    have B5 := Lib.hid (B4.out.trans (al.mono B4.out.size))
    clear b4 x3 px al x3'
    go_wp2
    go_ret
    rw [HE.out]
    exact ⟨rfl, B5.out⟩

set_option maxHeartbeats 1000000 in
theorem specOffset (b : ByteArray) (i : Int) (w : World) (hm : b.size ≤ 1048576) (hi : i64 i) :
    Calls Tryz.prog 9 #[.string b, .int .i64 i] w fun e w' => e = .returned (.int .i64 (ofN b i)) ∧ Below w.heap.size w w' := by
  have CS := Lib.hid (fun w => specScan b w hm)
  have hn := recs_le b
  have hb := hdOf_base b
  have hol := offI_length b
  obtain ⟨hi0, hi1⟩ := hi
  go_enter Tryz.func9, Tryz.ntmps9
  go_wp2_with (fail)
  refine (CS.out _).mono ?_
  rintro e w2 ⟨⟨v2, rfl, R, O, rfl, rR, rO⟩, b2⟩
  obtain ⟨aR, cR, rfl, _, _, _⟩ := own_form rR
  obtain ⟨aO, cO, rfl, _, _, _⟩ := own_form rO
  rw [offI_vals] at rO
  have sx := Box.new w2 #[.bool (rdH b).isSome, .int .i64 (hdOf b).v, .int .i64 (hdOf b).s, .int .i64 (hdOf b).b, .int .i64 (hdOf b).l, .slice aR (sc.recs b).length cR, .slice aO (sc.recs b).length cO, .int .i64 (endN b : Int), .bool (marked b)] 51
  have al := (Below.refl w2.heap.size w2).alloc (Nat.le_refl _) (.cells #[.bool (rdH b).isSome, .int .i64 (hdOf b).v, .int .i64 (hdOf b).s, .int .i64 (hdOf b).b, .int .i64 (hdOf b).l, .slice aR (sc.recs b).length cR, .slice aO (sc.recs b).length cO, .int .i64 (endN b : Int), .bool (marked b)] 51)
  have AO := Lib.hid ((ints.At.of_own rO).below al)
  have B2 := Lib.hid (b2.trans (al.mono b2.size))
  have x0 := sx.at 0 _ rfl
  have x3 := sx.at 3 _ rfl
  have x6 := sx.at 6 _ rfl
  clear rR rO b2 al sx CS
  cases h0 : (rdH b).isSome with
  | false =>
    rw [h0] at x0 x3 x6 B2
    have HE := Lib.hid (ofN_none (i := i) h0)
    go_wp2
    go_ret
    rw [HE.out]
    exact ⟨rfl, B2.out⟩
  | true =>
    rw [h0] at x0 x3 x6 B2 AO
    by_cases hlo : i < (hdOf b).b
    · have HE := Lib.hid (ofN_low hlo)
      go_wp2
      go_ret
      rw [HE.out]
      exact ⟨rfl, B2.out⟩
    · obtain ⟨j, hj⟩ := Int.eq_ofNat_of_zero_le (show 0 ≤ i - (hdOf b).b by omega)
      have ei : i = (hdOf b).b + (j : Int) := by omega
      have HE := Lib.hid (ofN_in (j := j) h0)
      rw [← ei] at HE
      have ew : i - (hdOf b).b = (j : Int) := by omega
      by_cases hlt : j < (sc.recs b).length
      · have hr := List.getElem?_eq_getElem (show j < (offI b).length by omega)
        obtain ⟨o, ho⟩ : ∃ o, (offI b)[j]'(by omega) = o := ⟨_, rfl⟩
        rw [ho] at hr
        obtain ⟨g, p, rfl, hg, hc⟩ := AO.out.2.resolve_left (by omega)
        have d1 := hc j o hr
        have HR := Lib.hid hr
        have g1 : ¬ ((sc.recs b).length : Int) ≤ (j : Int) := by omega
        have g2 : (j : Int) < ((sc.recs b).length : Int) := by omega
        clear hc hr ho ei hol
        go_wp2
        go_ret
        rw [HE.out, HR.out]
        exact ⟨rfl, B2.out⟩
      · have HN := Lib.hid (List.getElem?_eq_none_iff.2 (show (offI b).length ≤ j by omega))
        have g1 : ((sc.recs b).length : Int) ≤ (j : Int) := by omega
        clear ei hol
        go_wp2
        go_ret
        rw [HE.out, HN.out]
        exact ⟨rfl, B2.out⟩

end Go.Proofs.YtpibemlganeacaaGreatDoor.sk
