/-
  The contracts of impl.Decimal and impl.ReadDecimal, in worlds that hold the table of powers of ten and the two sentinels.
-/
import Derived.Test.YtkibddcjogfklaaGreatDoorRdS
import Derived.Test.YtkibddcjogfklaaGreatDoorShelf
import Derived.Test.YtkibddcjogfklaaGreatDoorHold
import Derived.Lib.SmallJoins
namespace Go.Proofs.YtkibddcjogfklaaGreatDoor.rd
open Go.RowKit

/-- the table of powers of ten -/
def Pow (w : World) : Prop := Lib.TabIs Tryz.prog w "internal/strconv.uint64pow10" .u64 Lib.pow10Tab
theorem powList_eq : hold.list_internal_strconv_uint64pow10 = Lib.pow10Tab := by decide +kernel
theorem pow_of {w : World} (h : hold.F_internal_strconv_uint64pow10 w) : Pow w := by
  unfold Pow
  rw [← powList_eq]
  exact h
theorem pow_below {W W' : World} (h : Pow W) (hb : Below W.heap.size W W') : Pow W' := by
  have h1 : hold.F_internal_strconv_uint64pow10 W := by
    unfold hold.F_internal_strconv_uint64pow10
    rw [powList_eq]
    exact h
  exact pow_of (hold.below_internal_strconv_uint64pow10 h1 hb)
theorem below_grow (w : World) (k : Nat) (os : Array Obj) : Below w.heap.size w (Go.Sort.grow (w.drewN k) os) :=
  ⟨rfl, rfl, rfl, by simp [Go.Sort.grow], fun i hi => by
    show ((w.drewN k).heap ++ os)[i]? = w.heap[i]?
    rw [Array.getElem?_append_left (by exact hi)]
    rfl⟩
theorem implDec_any (n : Int) (w : World) (h : (Lit.int .i64 n).wf = true) (ht : Pow w) :
    Calls Tryz.prog 90 #[.int .i64 n] w fun e w' => e = .returned (.string ⟨(Lib.itoa n).toArray⟩) ∧ Below w.heap.size w w' := by
  have e1 : IntKind.i64.min = -9223372036854775808 := rfl
  have e2 : IntKind.i64.max = 9223372036854775807 := rfl
  have hb : -9223372036854775808 ≤ n ∧ n ≤ 9223372036854775807 := by simpa [Lit.wf, e1, e2] using h
  have HC : Calls Tryz.prog 104 #[.int .i64 n] w fun e w' => e = .returned (.string ⟨(Lib.itoa n).toArray⟩) ∧ Below w.heap.size w w' :=
    (Any.strconv_Itoa Tryz.laysM171 n hb.1 hb.2 w ht).mono fun e w' ⟨h1, k, os, h2⟩ => ⟨h1, by rw [h2]; exact below_grow w k os⟩
  have H := Lib.hid HC
  clear HC h ht hb e1 e2
  go_enter Tryz.func90, Tryz.ntmps90
  go_wp2_with (go_at_call 104; refine H.out.mono ?_; rintro e w' ⟨rfl, hb⟩)
  go_ret
  exact ⟨rfl, hb⟩

set_option maxHeartbeats 400000 in
theorem implRead_any (s : ByteArray) (w : World) (hm : s.size ≤ 1048576) (ht : Pow w)
    (hs : hold.F_strconv_ErrSyntax w) (hr : hold.F_strconv_ErrRange w) :
    Calls Tryz.prog 77 #[.string s] w fun e w' => e = .returned (rdV s) ∧ Below w.heap.size w w' := by
  have no_of : (∀ n : Nat, n ≤ 1000000000 → Lib.atoiAll s.data.toList ≠ .ok (n : Int)) → RD s.data.toList = none := by
    intro hno
    cases hrd : RD s.data.toList with
    | none => rfl
    | some n =>
      obtain ⟨h1, h2⟩ := rd_some.1 hrd
      exact absurd (by rw [← h2]; exact atoi_digits n h1) (hno n h1)
  rcases ha : Lib.atoiAll s.data.toList with v | _ | _
  · have HC := (Any.strconv_Atoi_ok Tryz.laysC172 s (by omega) v ha w)
    have HC2 : Calls Tryz.prog 89 #[.string s] w fun e w' => e = .returned (.tuple #[.int .i64 v, .nilIface]) ∧ Below w.heap.size w w' :=
      HC.mono fun e w' ⟨h1, h2⟩ => ⟨h1, h2.elim (fun h => by rw [h]; exact Below.refl _ _) (fun ⟨t, h⟩ => by rw [h]; exact Joins.below_bytesWorld _ _ _ _ (Nat.le_refl _))⟩
    have H := Lib.hid HC2
    have HT := Lib.hid ht
    clear HC HC2 ht hs hr
    by_cases c1 : v < 0
    · have HV := Lib.hid (rdV_no (s := s) (no_of fun n _ hn => by rw [ha] at hn; injection hn with hn; omega))
      clear no_of ha
      go_enter Tryz.func77, Tryz.ntmps77
      go_wp2_with (go_at_call 89; refine H.out.mono ?_; rintro e w1 ⟨rfl, b1⟩)
      go_ret2
      exact ⟨by rw [HV.out]; rfl, b1⟩
    · by_cases c2 : 1000000000 < v
      · have HV := Lib.hid (rdV_no (s := s) (no_of fun n _ hn => by rw [ha] at hn; injection hn with hn; omega))
        clear no_of ha
        go_enter Tryz.func77, Tryz.ntmps77
        go_wp2_with (go_at_call 89; refine H.out.mono ?_; rintro e w1 ⟨rfl, b1⟩)
        go_ret2
        exact ⟨by rw [HV.out]; rfl, b1⟩
      · obtain ⟨n, rfl⟩ := Int.eq_ofNat_of_zero_le (show 0 ≤ v by omega)
        have hwf := Lib.hid (wf_small n (by omega))
        by_cases he : Lib.decDigits n = s.data.toList
        · have HV := Lib.hid (rdV_yes (s := s) (rd_some.2 ⟨by omega, he⟩))
          have HS := Lib.hid (show (⟨(Lib.itoa (n : Int)).toArray⟩ : ByteArray) = s by rw [itoa_nat, he])
          clear no_of ha he
          go_enter Tryz.func77, Tryz.ntmps77
          go_wp2_with (first | (go_at_call 89; refine H.out.mono ?_; rintro e w1 ⟨rfl, b1⟩) | (go_at_call 90; refine (implDec_any _ _ hwf.out (pow_below HT.out b1)).mono ?_; rintro e w2 ⟨rfl, b2⟩; rw [HS.out]))
          go_ret2
          exact ⟨by rw [HV.out]; rfl, b1.trans (b2.mono b1.size)⟩
        · have HV := Lib.hid (rdV_no (s := s) (by
            cases hrd : RD s.data.toList with
            | none => rfl
            | some m =>
              obtain ⟨h1, h2⟩ := rd_some.1 hrd
              have h3 := atoi_digits m h1
              rw [h2, ha] at h3
              injection h3 with h3
              obtain rfl : n = m := by omega
              exact absurd h2 he))
          have hst : ¬ (⟨(Lib.itoa (n : Int)).toArray⟩ : ByteArray) = s := fun hh => he (by rw [← itoa_nat, ← hh])
          obtain ⟨t, ht'⟩ : ∃ t : ByteArray, t = ⟨(Lib.itoa (n : Int)).toArray⟩ := ⟨_, rfl⟩
          rw [← ht'] at hst
          have HT' := Lib.hid ht'
          have hne := str_ne hst
          clear no_of ha he ht' hst
          go_enter Tryz.func77, Tryz.ntmps77
          go_wp2_with (first | (go_at_call 89; refine H.out.mono ?_; rintro e w1 ⟨rfl, b1⟩) | (go_at_call 90; refine (implDec_any _ _ hwf.out (pow_below HT.out b1)).mono ?_; rintro e w2 ⟨rfl, b2⟩; rw [← HT'.out]))
          go_ret2
          exact ⟨by rw [HV.out]; rfl, b1.trans (b2.mono b1.size)⟩
  · obtain ⟨tp, p, hv⟩ := hs
    have HC := (Any.strconv_Atoi_syntax Tryz.laysC172 s (by omega) ha (.iface tp p) w hv (.inr ⟨tp, p, rfl⟩))
    have HC2 : Calls Tryz.prog 89 #[.string s] w fun e w' => (∃ N, e = .returned (.tuple #[.int .i64 0, .iface 171 (.pointer (some ⟨N, 0, none⟩))])) ∧ Below w.heap.size w w' :=
      HC.mono fun e w' ⟨N, h1, _, _, h2⟩ => ⟨⟨N, h1⟩, h2⟩
    have H := Lib.hid HC2
    have HV := Lib.hid (rdV_no (s := s) (no_of fun n _ hn => by rw [ha] at hn; cases hn))
    clear HC HC2 ht hr hv no_of ha
    go_enter Tryz.func77, Tryz.ntmps77
    go_wp2_with (go_at_call 89; refine H.out.mono ?_; rintro e w1 ⟨⟨N, rfl⟩, b1⟩)
    go_ret2
    exact ⟨by rw [HV.out]; rfl, b1⟩
  · obtain ⟨tp, p, hv⟩ := hr
    have HC := (Any.strconv_Atoi_range Tryz.laysC172 s (by omega) ha (.iface tp p) w hv (.inr ⟨tp, p, rfl⟩))
    have HC2 : Calls Tryz.prog 89 #[.string s] w fun e w' => (∃ N, e = .returned (.tuple #[.int .i64 (Lib.atoiSat s.data.toList), .iface 171 (.pointer (some ⟨N, 0, none⟩))])) ∧ Below w.heap.size w w' :=
      HC.mono fun e w' ⟨N, h1, _, _, h2⟩ => ⟨⟨N, h1⟩, h2⟩
    have H := Lib.hid HC2
    have HV := Lib.hid (rdV_no (s := s) (no_of fun n _ hn => by rw [ha] at hn; cases hn))
    clear HC HC2 ht hs hv no_of ha
    go_enter Tryz.func77, Tryz.ntmps77
    go_wp2_with (go_at_call 89; refine H.out.mono ?_; rintro e w1 ⟨⟨N, rfl⟩, b1⟩)
    go_ret2
    exact ⟨by rw [HV.out]; rfl, b1⟩

end Go.Proofs.YtkibddcjogfklaaGreatDoor.rd
