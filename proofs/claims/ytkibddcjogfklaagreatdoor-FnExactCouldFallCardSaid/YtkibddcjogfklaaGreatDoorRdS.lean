/-
  The contract of spec.ReadDecimal.
-/
import Derived.Test.YtkibddcjogfklaaGreatDoorRdA
import Derived.Test.YtkibddcjogfklaaGreatDoorDecA
import Derived.Lib.SmallJoins
namespace Go.Proofs.YtkibddcjogfklaaGreatDoor.rd
open Go.RowKit

def rdV (s : ByteArray) : Value := match RD s.data.toList with
  | some n => .tuple #[.int .i64 (n : Int), .bool true]
  | none => .tuple #[.int .i64 0, .bool false]
theorem rdV_yes {s : ByteArray} {n : Nat} (h : RD s.data.toList = some n) : rdV s = .tuple #[.int .i64 (n : Int), .bool true] := by unfold rdV; rw [h]
theorem rdV_no {s : ByteArray} (h : RD s.data.toList = none) : rdV s = .tuple #[.int .i64 0, .bool false] := by unfold rdV; rw [h]

theorem specRead_long (s : ByteArray) (w : World) (hm : s.size ≤ 9223372036854775807) (h : 10 < s.size) :
    Calls Tryz.prog 71 #[.string s] w fun e w' => e = .returned (rdV s) ∧ Below w.heap.size w w' := by
  have H := Lib.hid (rdV_no (s := s) (rd_long (by simpa using h)))
  go_enter Tryz.func71, Tryz.ntmps71
  go_wp2
  go_ret2
  exact ⟨by rw [H.out]; rfl, Below.refl _ _⟩

theorem str_ne {t s : ByteArray} (h : ¬ t = s) : (t.toList == s.toList) = false := by
  rw [beq_eq_false_iff_ne, ByteArray.toList_eq, ByteArray.toList_eq]
  intro e
  exact h (ByteArray.ext (Array.toList_inj.1 e))
theorem itoa_nat (n : Nat) : Lib.itoa (n : Int) = Lib.decDigits n := by unfold Lib.itoa; rw [if_neg (by omega)]; rfl
theorem wf_small (n : Nat) (h : n < 10000000000) : (Lit.int .i64 (n : Int)).wf = true := WalkArith.wf_i64 (by omega)

set_option maxHeartbeats 400000 in
theorem specRead_short (s : ByteArray) (w : World) (h : s.size ≤ 10) :
    Calls Tryz.prog 71 #[.string s] w fun e w' => e = .returned (rdV s) ∧ Below w.heap.size w w' := by
  go_enter Tryz.func71, Tryz.ntmps71
  go_wp2
  go_loopw [4, 5] (fun x i wr => ∃ k n : Nat, k ≤ s.size ∧ i = .int .i64 k ∧ x = .int .i64 n ∧ Lib.decFrom 0 (s.data.toList.take k) = some n ∧ Below w.heap.size w wr) (fun _ i _ => s.size - (intOf i).toNat)
  case atStart => exact ⟨0, 0, Nat.zero_le _, rfl, rfl, rfl, Below.refl _ _⟩
  case round =>
    obtain ⟨k, n, hk, rfl, rfl, hd, hbw⟩ := hrel
    have HD := Lib.hid hd
    have hb : n < 10 ^ (0 + (s.data.toList.take k).length) := decFrom_lt _ 0 n 0 (by decide) hd
    have hkl : (s.data.toList.take k).length = k := by rw [List.length_take]; have : s.data.toList.length = s.size := rfl; omega
    rw [hkl, Nat.zero_add] at hb
    clear hd hkl
    by_cases hlt : k < s.size
    · have hb1 : n < 1000000000 := Nat.lt_of_lt_of_le hb (Nat.le_trans (Nat.pow_le_pow_right (by omega) (show k ≤ 9 by omega)) (by decide))
      clear hb
      have hc : s[k].toNat < 256 := s[k].toNat_lt
      have hat : s.data.toList[k]? = some s[k] := by
        rw [List.getElem?_eq_getElem (show k < s.data.toList.length from hlt)]
        rfl
      have HAT := Lib.hid hat
      clear hat
      by_cases c1 : (s[k].toNat : Int) < 48
      · have H := Lib.hid (rdV_no (s := s) (rd_bad HAT.out (by unfold Lib.digitVal; rw [if_neg (by omega)])))
        go_wp2
        go_ret2
        exact ⟨by rw [H.out]; rfl, hbw⟩
      · by_cases c2 : 57 < (s[k].toNat : Int)
        · have H := Lib.hid (rdV_no (s := s) (rd_bad HAT.out (by unfold Lib.digitVal; rw [if_neg (by omega)])))
          go_wp2
          go_ret2
          exact ⟨by rw [H.out]; rfl, hbw⟩
        · have HN := Lib.hid (Lib.decFrom_take s.data.toList k 0 n s[k] (s[k].toNat - 48) HD.out HAT.out (by unfold Lib.digitVal; rw [if_pos (by omega)]))
          go_wp2
          go_roundw
          case rel => exact ⟨k + 1, n * 10 + (s[k].toNat - 48), by omega, by go_num, by congr 1; omega, HN.out, hbw⟩
          case measure => simp [intOf]; omega
    · obtain rfl : k = s.size := by omega
      have hall : Lib.decFrom 0 s.data.toList = some n := by
        have := HD.out
        rwa [List.take_of_length_le (by exact Nat.le_refl _)] at this
      have hb1 : n < 10000000000 := Nat.lt_of_lt_of_le hb (Nat.le_trans (Nat.pow_le_pow_right (by omega) h) (by decide))
      have hrd := rd_of hall
      clear hb hall
      by_cases hmax : 1000000000 < n
      · have H := Lib.hid (rdV_no (s := s) (by rw [hrd, if_neg (by omega)]))
        clear hrd
        go_wp2
        go_ret2
        exact ⟨by rw [H.out]; rfl, hbw⟩
      · by_cases he : Lib.decDigits n = s.data.toList
        · have H := Lib.hid (rdV_yes (s := s) (by rw [hrd, if_pos ⟨by omega, he⟩]))
          have hst : (⟨(Lib.itoa (n : Int)).toArray⟩ : ByteArray) = s := by rw [itoa_nat, he]
          have HS := Lib.hid hst
          clear hrd he hst
          go_wp2_with (go_at_call 82; refine (dec.specDec_any _ _ (wf_small n hb1)).mono ?_; rintro e w1 ⟨rfl, b1⟩; rw [HS.out])
          go_ret2
          exact ⟨by rw [H.out]; rfl, hbw.trans (b1.mono hbw.size)⟩
        · have H := Lib.hid (rdV_no (s := s) (by rw [hrd, if_neg (fun hh => he hh.2)]))
          have hst : ¬ (⟨(Lib.itoa (n : Int)).toArray⟩ : ByteArray) = s := fun hh => he (by rw [← itoa_nat, ← hh])
          obtain ⟨t, ht⟩ : ∃ t : ByteArray, t = ⟨(Lib.itoa (n : Int)).toArray⟩ := ⟨_, rfl⟩
          rw [← ht] at hst
          have HT := Lib.hid ht
          have hne := str_ne hst
          clear hrd he ht hst
          go_wp2_with (go_at_call 82; refine (dec.specDec_any _ _ (wf_small n hb1)).mono ?_; rintro e w1 ⟨rfl, b1⟩; rw [← HT.out])
          go_ret2
          exact ⟨by rw [H.out]; rfl, hbw.trans (b1.mono hbw.size)⟩

theorem specRead_any (s : ByteArray) (w : World) (hm : s.size ≤ 9223372036854775807) :
    Calls Tryz.prog 71 #[.string s] w fun e w' => e = .returned (rdV s) ∧ Below w.heap.size w w' := by
  by_cases h : s.size ≤ 10
  · exact specRead_short s w h
  · exact specRead_long s w hm (by omega)

end Go.Proofs.YtkibddcjogfklaaGreatDoor.rd
