/-
  Contracts of the spec's functions that seek.
-/
import Derived.Test.YtpibemlganeacaaMathX
import Derived.Test.YtpibemlganeacaaPlP
import Derived.Test.YtpibemlganeacaaPlK
import Derived.Test.YtpibemlganeacaaLater
import Derived.Test.YtpibemlganeacaaSlP
import Derived.Test.YtpibemlganeacaaScC
namespace Go.Proofs.Ytpibemlganeacaa.sk
set_option maxRecDepth 20000
open Go.RowKit
open kit sum num burst hd fr recs sc pl sl

/-- a place and whether there is one -/
def pfR : Option Plc → Value
  | none => .tuple #[.agg #[.int .i64 0, .int .i64 0], .bool false]
  | some c => .tuple #[.agg #[.int .i64 c.1, .int .i64 c.2], .bool true]
/-- a record and whether there is one -/
def skR : Option ByteArray → Value
  | none => .tuple #[.string { data := #[] }, .bool false]
  | some r => .tuple #[.string r, .bool true]

set_option maxHeartbeats 1000000 in
theorem specPlaceFor (a : Option Addr) (c n : Nat) (xs : List Plc) (i : Int) (w : World) (hm : n ≤ 1048576) (ha : AtP w a n xs) :
    Calls Try.prog 6 #[.slice a n c, .int .i64 i] w fun e w' => e = .returned (pfR (plcFor xs i)) ∧ Below w.heap.size w w' := by
  have HL := Lib.hid ha.len
  have bw := (Below.refl w.heap.size w).alloc (Nat.le_refl _) (.cells #[.int .i64 0, .int .i64 0] 25)
  have bx := Box.new w #[.int .i64 0, .int .i64 0] 25
  have HA := Lib.hid (ha.below bw)
  obtain ⟨W, hW⟩ : ∃ W, W = w.alloc (.cells #[.int .i64 0, .int .i64 0] 25) := ⟨_, rfl⟩
  rw [← hW] at bw bx HA
  have HB := Lib.hid bw
  have HX := Lib.hid bx
  clear ha bw bx
  go_enter Try.func6, Try.ntmps6
  go_wp2
  rw [← hW]
  clear hW
  go_loopw [6] (fun j wr => ∃ k : Nat, k ≤ n ∧ j = .int .i64 ((k : Int) - 1) ∧ Hid (plcFor xs i = upTo xs i k) ∧ W = wr) (fun j _ => (intOf j + 1).toNat)
  case atStart => exact ⟨n, Nat.le_refl _, rfl, Lib.hid (by unfold plcFor; rw [HL.out]), rfl⟩
  case round =>
    obtain ⟨k, hk, rfl, hp, rfl⟩ := hrel
    have p0 := HX.out.at 0 _ rfl
    have p1 := HX.out.at 1 _ rfl
    have f0 := HX.out.2 0
    have f1 := HX.out.2 1
    cases k with
    | zero =>
      have HE := Lib.hid (show plcFor xs i = none from hp.out)
      have B2 := Lib.hid ((HB.out.setCell (p := ⟨w.heap.size, 0, none⟩) (Nat.le_refl _) (.int .i64 0)).setCell (p := ⟨w.heap.size, 1, none⟩) (Nat.le_refl _) (.int .i64 0))
      clear hp
      go_wp2
      refine bodyPost_ret (v := .tuple #[.agg #[.int .i64 0, .int .i64 0], .bool false]) (by simp [results, Try.results6, go_sem, p0, p1]) rfl ⟨?_, B2.out⟩
      rw [HE.out]
      rfl
    | succ m =>
      obtain ⟨s, o, g, p, hx, rfl, hg, c0, c1⟩ := HA.out.get (show m < n by omega)
      have i0 : (0 : Int) ≤ (m : Int) := by omega
      have i1 : (m : Int) < (n : Int) := by omega
      have ek : ((m + 1 : Nat) : Int) - 1 = (m : Int) := by omega
      rw [ek]
      by_cases hc : s ≤ i
      · have HE := Lib.hid (show plcFor xs i = some (s, o) by rw [hp.out]; exact upTo_hit hx hc)
        have B2 := Lib.hid ((HB.out.setCell (p := ⟨w.heap.size, 0, none⟩) (Nat.le_refl _) (.int .i64 s)).setCell (p := ⟨w.heap.size, 1, none⟩) (Nat.le_refl _) (.int .i64 o))
        clear hp hx
        go_wp2
        refine bodyPost_ret (v := .tuple #[.agg #[.int .i64 s, .int .i64 o], .bool true]) (by simp [results, Try.results6, go_sem, p0, p1]) rfl ⟨?_, B2.out⟩
        rw [HE.out]
        rfl
      · have HE := Lib.hid (show plcFor xs i = upTo xs i m by rw [hp.out]; exact upTo_miss hx hc)
        clear hp hx
        go_wp2
        go_roundw
        case rel => exact ⟨m, by omega, by go_num, HE, trivial⟩
        case measure => simp [intOf]

theorem liN_le (b : ByteArray) : (liN b).length ≤ b.size := by
  unfold liN
  split
  · have h1 := plN_le (hdOf b).s (offI b)
    have h2 := recs_le b
    rw [offI_length] at h1
    omega
  · exact Nat.zero_le _
theorem hdOf_stride (b : ByteArray) : i64 (hdOf b).s := by
  cases e : rdH b with
  | none => rw [hdOf_none e]; exact ⟨by decide, by decide⟩
  | some h =>
    have := okH_is.1 (rdH_some e).2.1
    rw [hdOf_some e]
    exact ⟨by omega, by omega⟩
theorem offI_vals (b : ByteArray) : ((offs b).map fun (o : Nat) => Value.int .i64 (o : Int)) = (offI b).map (Value.int .i64) := by unfold offI; rw [List.map_map]; rfl
/-- the places of a sealed file, in memory of one's own -/
def LiR (b : ByteArray) (w : World) (e : Ending) (w' : World) : Prop := (∃ v, e = .returned (.tuple #[v, .bool (isS b)]) ∧ OwnP w.heap.size w' v (liN b)) ∧ Below w.heap.size w w'

set_option maxHeartbeats 1000000 in
theorem specOffset (b : ByteArray) (i : Int) (w : World) (hm : b.size ≤ 1048576) (hi : i64 i) :
    Calls Try.prog 11 #[.string b, .int .i64 i] w fun e w' => e = .returned (.int .i64 (ofN b i)) ∧ Below w.heap.size w w' := by
  have CS := Lib.hid (fun w => specScan b w hm)
  have hn := recs_le b
  have hb := hdOf_base b
  have hol := offI_length b
  obtain ⟨hi0, hi1⟩ := hi
  go_enter Try.func11, Try.ntmps11
  go_wp2_with (fail)
  refine (CS.out _).mono ?_
  rintro e w2 ⟨⟨v2, rfl, R, O, rfl, rR, rO⟩, b2⟩
  obtain ⟨aR, cR, rfl, _, _, _⟩ := own_form rR
  obtain ⟨aO, cO, rfl, _, _, _⟩ := own_form rO
  rw [offI_vals] at rO
  have sx := Box.new w2 #[.bool (rdH b).isSome, .int .i64 (hdOf b).v, .int .i64 (hdOf b).s, .int .i64 (hdOf b).b, .int .i64 (hdOf b).l, .slice aR (sc.recs b).length cR, .slice aO (sc.recs b).length cO, .int .i64 (endN b : Int), .bool (marked b)] 46
  have al := (Below.refl w2.heap.size w2).alloc (Nat.le_refl _) (.cells #[.bool (rdH b).isSome, .int .i64 (hdOf b).v, .int .i64 (hdOf b).s, .int .i64 (hdOf b).b, .int .i64 (hdOf b).l, .slice aR (sc.recs b).length cR, .slice aO (sc.recs b).length cO, .int .i64 (endN b : Int), .bool (marked b)] 46)
  have AO := Lib.hid ((ints.At.of_own rO).below al)
  have B2 := Lib.hid (b2.trans (al.mono b2.size))
  have x0 := sx.at 0 _ rfl
  have x3 := sx.at 3 _ rfl
  have x6 := sx.at 6 _ rfl
  clear rR rO b2 al sx CS
  cases h0 : (rdH b).isSome with
  | false =>
    rw [h0] at x0 x3 x6 B2
    have HE := Lib.hid (ofN_none (i := i) h0)
    go_wp2
    go_ret
    rw [HE.out]
    exact ⟨rfl, B2.out⟩
  | true =>
    rw [h0] at x0 x3 x6 B2 AO
    by_cases hlo : i < (hdOf b).b
    · have HE := Lib.hid (ofN_low hlo)
      go_wp2
      go_ret
      rw [HE.out]
      exact ⟨rfl, B2.out⟩
    · obtain ⟨j, hj⟩ := Int.eq_ofNat_of_zero_le (show 0 ≤ i - (hdOf b).b by omega)
      have ei : i = (hdOf b).b + (j : Int) := by omega
      have HE := Lib.hid (ofN_in (j := j) h0)
      rw [← ei] at HE
      have ew : i - (hdOf b).b = (j : Int) := by omega
      by_cases hlt : j < (sc.recs b).length
      · have hr := List.getElem?_eq_getElem (show j < (offI b).length by omega)
        obtain ⟨o, ho⟩ : ∃ o, (offI b)[j]'(by omega) = o := ⟨_, rfl⟩
        rw [ho] at hr
        obtain ⟨g, p, rfl, hg, hc⟩ := AO.out.2.resolve_left (by omega)
        have d1 := hc j o hr
        have HR := Lib.hid hr
        have g1 : ¬ ((sc.recs b).length : Int) ≤ (j : Int) := by omega
        have g2 : (j : Int) < ((sc.recs b).length : Int) := by omega
        clear hc hr ho ei hol
        go_wp2
        go_ret
        rw [HE.out, HR.out]
        exact ⟨rfl, B2.out⟩
      · have HN := Lib.hid (List.getElem?_eq_none_iff.2 (show (offI b).length ≤ j by omega))
        have g1 : ((sc.recs b).length : Int) ≤ (j : Int) := by omega
        clear ei hol
        go_wp2
        go_ret
        rw [HE.out, HN.out]
        exact ⟨rfl, B2.out⟩

end Go.Proofs.Ytpibemlganeacaa.sk
