/-
  Contracts of spec.SegmentName, TempName, NextName.
-/
import Derived.Test.YtkibddcjogfklaaGreatDoorIn
import Derived.Test.YtkibddcjogfklaaGreatDoorNameMath
import Derived.Test.YtkibddcjogfklaaGreatDoorNumX
namespace Go.Proofs.YtkibddcjogfklaaGreatDoor.nam
open Go.RowKit
open kit
open num

theorem shr4 (n i : Nat) (hi : i ≤ 7) : Op.shift .shr .i64 (n : Int) .u64 ((4 * i : Nat) : Int) = pure (.int .i64 ((n / 16 ^ i : Nat) : Int)) := by
  rw [shift_shr .i64 .u64 (n : Int) ((4 * i : Nat) : Int) (by omega) (by show _ ≤ (64 : Int); omega), Int.toNat_natCast]
  have e : (2 : Int) ^ (4 * i) = ((16 ^ i : Nat) : Int) := by
    rw [Int.pow_mul]
    push_cast
    rfl
  rw [e]
  rfl
theorem and15 (x : Nat) (h : x < 9223372036854775808) : bits BinOp.and IntKind.i64 (x : Int) 15 = ((x % 16 : Nat) : Int) := by
  unfold bits
  simp only [BitVec.toNat_and, BitVec.toNat_ofInt]
  rw [show ((x : Int) % ((2 ^ IntKind.i64.bits : Nat) : Int)).toNat = x by show ((x : Int) % 18446744073709551616).toNat = x; omega, show ((15 : Int) % ((2 ^ IntKind.i64.bits : Nat) : Int)).toNat = 2 ^ 4 - 1 by decide, Nat.and_two_pow_sub_one_eq_mod, IntKind.wrap_i64]
  omega
def figs : ByteArray := { data := #[48, 49, 50, 51, 52, 53, 54, 55, 56, 57, 97, 98, 99, 100, 101, 102] }
theorem figs_at' : ∀ q : Fin 16, (figs[q.val]'(by have := q.isLt; exact this)).toNat = figN q.val := by decide +kernel
theorem figs_at (q : Nat) (h : q < figs.size) : (figs[q]'h).toNat = figN q := figs_at' ⟨q, h⟩

def nxI (b m : Int) : ByteArray := if b < 0 ∨ m < 0 ∨ 1000000000 < b + m then { data := #[] } else segI (b + m)
end Go.Proofs.YtkibddcjogfklaaGreatDoor.nam

namespace Go.Proofs.YtkibddcjogfklaaGreatDoor.nam
open Go.RowKit
open kit
open num

def rnV (b : ByteArray) : Value := .tuple #[.int .i64 (rn b).1, .int .i64 (rn b).2]
theorem pow16 {j : Nat} (h : j ≤ 8) : (16 : Nat) ^ j ≤ 4294967296 := by
  have := Nat.pow_le_pow_right (show 0 < 16 by omega) h
  have e : (16 : Nat) ^ 8 = 4294967296 := by decide
  omega
theorem take_snoc (l : List Nat) (j c : Nat) (h : l[j]? = some c) : l.take (j + 1) = l.take j ++ [c] := by
  rw [List.take_add_one, h]
  rfl
theorem hval_step (l : List Nat) (j c d z : Nat) (h : l[j]? = some c) (hz : hval (l.take j) = some z) (hd : hdig c = some d) : hval (l.take (j + 1)) = some (16 * z + d) := by
  rw [take_snoc l j c h, hval_snoc, hz]
  unfold hstep
  rw [Option.bind_some, hd]
  rfl

/-! ### NameOk -/
theorem okc_low (c : Nat) (h : 97 ≤ c ∧ c ≤ 122) : okc c = true := by unfold okc; simp [h]
theorem okc_dig (c : Nat) (h : 48 ≤ c ∧ c ≤ 57) : okc c = true := by unfold okc; simp [h]
theorem okc_no (c : Nat) (h1 : ¬ (97 ≤ c ∧ c ≤ 122)) (h2 : ¬ (48 ≤ c ∧ c ≤ 57)) (h3 : ¬ c = 46) (h4 : ¬ c = 45) : okc c = false := by
  unfold okc
  simp [h1, h2, h3, h4]
theorem all_next (l : List Nat) (j c : Nat) (h : l[j]? = some c) (ha : (l.take j).all okc = true) (hc : okc c = true) : (l.take (j + 1)).all okc = true := by
  rw [take_snoc l j c h, List.all_append, ha]
  simp [hc]

set_option maxHeartbeats 1000000 in
set_option maxRecDepth 20000 in
theorem specOk_any (b : ByteArray) (w : World) (hm : b.size ≤ 9223372036854775807) :
    Calls Tryz.prog 55 #[.string b] w fun e w' => e = .returned (.bool (nok b)) ∧ w = w' := by
  go_enter Tryz.func55, Tryz.ntmps55
  go_wp2
  go_loopw [3] (fun i wr => ∃ j : Nat, j ≤ b.size ∧ i = .int .i64 j ∧ ((nats b 0).take j).all okc = true ∧ wr = w) (fun i _ => b.size - (intOf i).toNat)
  case atStart => exact ⟨0, Nat.zero_le _, rfl, rfl, rfl⟩
  case round =>
    obtain ⟨j, hj, rfl, ha, rfl⟩ := hrel
    by_cases hlt : j < b.size
    · have hc : b[j].toNat < 256 := b[j].toNat_lt
      have hget : (nats b 0)[j]? = some (b[j].toNat) := by rw [nats_get b 0 j (by omega)]; congr 2; congr 1; omega
      obtain ⟨c, hcc⟩ : ∃ c, b[j].toNat = c := ⟨_, rfl⟩
      rw [hcc] at hc hget
      have HN := Lib.hid (fun h => all_next _ j c hget ha h)
      have HZ := Lib.hid (fun h => nok_bad b j c hget h)
      clear hget ha
      go_wp2_with fail
      by_cases c1 : 97 ≤ c ∧ c ≤ 122
      · have HV := Lib.hid (HN.out (okc_low c c1))
        have e1 : (97 : Int) ≤ c := by omega
        have e2 : (c : Int) ≤ 122 := by omega
        refine (in_yes _ _ _ _ e1 e2).mono ?_
        rintro e w' ⟨rfl, rfl⟩
        go_wp2
        go_roundw
        case rel => exact ⟨j + 1, by omega, by go_num, HV.out, trivial⟩
        case measure => simp [intOf]; omega
      · refine (in_no _ _ _ _ (by omega)).mono ?_
        rintro e w' ⟨rfl, rfl⟩
        go_wp2_with fail
        by_cases c2 : 48 ≤ c ∧ c ≤ 57
        · have HV := Lib.hid (HN.out (okc_dig c c2))
          have e1 : (48 : Int) ≤ c := by omega
          have e2 : (c : Int) ≤ 57 := by omega
          refine (in_yes _ _ _ _ e1 e2).mono ?_
          rintro e w' ⟨rfl, rfl⟩
          go_wp2
          go_roundw
          case rel => exact ⟨j + 1, by omega, by go_num, HV.out, trivial⟩
          case measure => simp [intOf]; omega
        · refine (in_no _ _ _ _ (by omega)).mono ?_
          rintro e w' ⟨rfl, rfl⟩
          by_cases c3 : c = 46
          · subst c3
            have HV := Lib.hid (HN.out (by decide))
            go_wp2
            go_roundw
            case rel => exact ⟨j + 1, by omega, by go_num, HV.out, trivial⟩
            case measure => simp [intOf]; omega
          · by_cases c4 : c = 45
            · subst c4
              have HV := Lib.hid (HN.out (by decide))
              go_wp2
              go_roundw
              case rel => exact ⟨j + 1, by omega, by go_num, HV.out, trivial⟩
              case measure => simp [intOf]; omega
            · have HE := Lib.hid (HZ.out (okc_no c c1 c2 c3 c4))
              have n3 : ((c : Int) != 46) = true := by rw [bne_iff_ne]; omega
              have n4 : ((c : Int) != 45) = true := by rw [bne_iff_ne]; omega
              clear c1 c2 c3 c4
              go_wp2
              go_ret
              exact ⟨by rw [HE.out]; rfl, rfl⟩
    · obtain rfl : j = b.size := by omega
      have hall : (nats b 0).all okc = true := by
        rw [List.take_of_length_le (by rw [nats_length]; omega)] at ha
        exact ha
      clear ha
      by_cases hz : 1 ≤ b.size ∧ b.size ≤ 20
      · have HE := Lib.hid (nok_all b hall hz)
        have e1 : (1 : Int) ≤ b.size := by omega
        have e2 : (b.size : Int) ≤ 20 := by omega
        clear hall hz
        go_wp2_with fail
        refine (in_yes _ _ _ _ e1 e2).mono ?_
        rintro e w' ⟨rfl, rfl⟩
        go_wp2
        go_ret
        exact ⟨by rw [HE.out]; rfl, rfl⟩
      · have HE := Lib.hid (nok_size b hz)
        have e1 : (b.size : Int) < 1 ∨ (20 : Int) < b.size := by omega
        clear hall hz
        go_wp2_with fail
        refine (in_no _ _ _ _ e1).mono ?_
        rintro e w' ⟨rfl, rfl⟩
        go_wp2
        go_ret
        exact ⟨by rw [HE.out]; rfl, rfl⟩

end Go.Proofs.YtkibddcjogfklaaGreatDoor.nam
