/-
  Contracts of spec.SegmentName, TempName, NextName.
-/
import Derived.Test.YtiehfobcbhgfkaaDoorStrQ
import Derived.Test.YtiehfobcbhgfkaaDoorMathX
import Derived.Test.YtiehfobcbhgfkaaDoorNumX
namespace Go.Proofs.YtiehfobcbhgfkaaDoor.nam
set_option maxRecDepth 20000
open Go.RowKit
open kit
open num

theorem shr4 (n i : Nat) (hi : i ≤ 7) : Op.shift .shr .i64 (n : Int) .u64 ((4 * i : Nat) : Int) = pure (.int .i64 ((n / 16 ^ i : Nat) : Int)) := by
  rw [shift_shr .i64 .u64 (n : Int) ((4 * i : Nat) : Int) (by omega) (by show _ ≤ (64 : Int); omega), Int.toNat_natCast]
  have e : (2 : Int) ^ (4 * i) = ((16 ^ i : Nat) : Int) := by
    rw [Int.pow_mul]
    push_cast
    rfl
  rw [e]
  rfl
theorem and15 (x : Nat) (h : x < 9223372036854775808) : bits BinOp.and IntKind.i64 (x : Int) 15 = ((x % 16 : Nat) : Int) := by
  unfold bits
  simp only [BitVec.toNat_and, BitVec.toNat_ofInt]
  rw [show ((x : Int) % ((2 ^ IntKind.i64.bits : Nat) : Int)).toNat = x by show ((x : Int) % 18446744073709551616).toNat = x; omega, show ((15 : Int) % ((2 ^ IntKind.i64.bits : Nat) : Int)).toNat = 2 ^ 4 - 1 by decide, Nat.and_two_pow_sub_one_eq_mod, IntKind.wrap_i64]
  omega
def figs : ByteArray := { data := #[48, 49, 50, 51, 52, 53, 54, 55, 56, 57, 97, 98, 99, 100, 101, 102] }
theorem figs_at' : ∀ q : Fin 16, (figs[q.val]'(by have := q.isLt; exact this)).toNat = figN q.val := by decide +kernel
theorem figs_at (q : Nat) (h : q < figs.size) : (figs[q]'h).toNat = figN q := figs_at' ⟨q, h⟩

set_option maxHeartbeats 400000 in
theorem specSeg_in (n : Nat) (w : World) (hn : n ≤ 1000000000) :
    Calls Tryd.prog 13 #[.int .i64 n] w (PostT (seg n) w) := by
  obtain ⟨i0, hi, hz0, hz1, hz2⟩ := info_parts num.Tryd.infoU8
  go_enter Tryd.func13, Tryd.ntmps13
  go_wp2_with (go_at_call 25; refine (in_yes _ _ _ _ (by omega) (by omega)).mono ?_; rintro e w' ⟨rfl, rfl⟩)
  go_loopw [3, 4] (fun v i wr => ∃ j : Nat, j ≤ 8 ∧ i = .int .i64 (7 - (j : Int)) ∧ wr.ownsRow w.heap.size 5 1 v j (((hexd j (n / 16 ^ (8 - j))).map fun (c : Nat) => (c : Int)).map (Value.int .u8)) ∧ Below w.heap.size w wr) (fun _ i _ => (intOf i + 1).toNat)
  case atStart => exact ⟨0, by omega, rfl, World.ownsRow_made _ _ _ (Nat.le_refl _) (by decide) rfl, (Below.refl _ _).alloc (Nat.le_refl _) _⟩
  case round =>
    obtain ⟨j, hj, rfl, hown, hb⟩ := hrel
    by_cases hlt : j < 8
    · obtain ⟨i, hi7⟩ : ∃ i, 7 - j = i := ⟨_, rfl⟩
      have hii : 7 - (j : Int) = (i : Int) := by omega
      have hsh := shr4 n i (by omega)
      have hxb : n / 16 ^ i ≤ 1000000000 := Nat.le_trans (Nat.div_le_self _ _) hn
      have h15 := and15 (n / 16 ^ i) (by omega)
      have HX := Lib.hid (show hexd (j + 1) (n / 16 ^ (8 - (j + 1))) = hexd j (n / 16 ^ (8 - j)) ++ [figN (n / 16 ^ i % 16)] by
        rw [hexd, Nat.div_div_eq_div_mul, ← Nat.pow_succ, show (8 - (j + 1)).succ = 8 - j by omega, show 8 - (j + 1) = i by omega])
      have h4 : IntKind.u64.wrap (4 * (i : Int)) = ((4 * i : Nat) : Int) := by rw [IntKind.wrap_u64]; omega
      obtain ⟨q, hq⟩ : ∃ q, 4 * i = q := ⟨_, rfl⟩
      obtain ⟨x, hx⟩ : ∃ x, n / 16 ^ i = x := ⟨_, rfl⟩
      rw [hx] at hsh h15 hxb HX
      obtain ⟨d, hd⟩ : ∃ d, x % 16 = d := ⟨_, rfl⟩
      have hd16 : d < 16 := by omega
      rw [hd] at h15 HX
      rw [hq] at hsh h4
      have HF := Lib.hid (figs_at d hd16)
      have hfi : (d : Int) < 16 := by omega
      rw [hii]
      have HI := Lib.hid hi7
      clear hx hd hq hi7
      go_wp2_with (at_builtin; refine list_app (by rfl) (.tmp 13) (.tmp 21) 58 (by rfl) w wr 5 i0 (.int .u8 0) 1 Tryd.underlying58 hi hz0 hz1 hz2 (by rfl) _ j _ hown hb [.int .u8 _] 1 ?_ ?_ ?_ ?_ (by rfl) (by rfl) (by rfl) ?_ ?_; rfl; simp [Value.oneCell']; unfold maxLen; omega; omega; exact ⟨rfl, rfl, rfl⟩; intro v' w' hown' hb')
      have hown2 : w'.ownsRow w.heap.size 5 1 v' (j + 1) (((hexd j (n / 16 ^ (8 - j))).map fun (c : Nat) => (c : Int)).map (Value.int .u8) ++ [.int .u8 ((figN d : Nat) : Int)]) := by
        rw [← HF.out]
        exact hown'
      clear hown'
      go_roundw
      case rel => exact ⟨j + 1, by omega, by have := HI.out; go_num, by rw [HX.out]; simpa using hown2, hb'⟩
      case measure => simp [intOf]
    · obtain rfl : j = 8 := by omega
      have hcv := conv_own Tryd.underlying58 Tryd.underlying5 hown
      rw [txt_nums, show n / 16 ^ (8 - 8) = n by simp] at hcv
      have hz : (txt (hexd 8 n)).size = 8 := by rw [txt_size, hexd_length]
      obtain ⟨T, hT⟩ : ∃ T, txt (hexd 8 n) = T := ⟨_, rfl⟩
      rw [hT] at hcv hz
      have z1 : (({ data := #[115] } : ByteArray)).size = 1 := rfl
      have z2 : (({ data := #[46, 115, 101, 103] } : ByteArray)).size = 4 := rfl
      have z3 : (({ data := #[115] } : ByteArray) ++ T).size = 9 := by rw [ByteArray.size_append, z1, hz]
      have HS := Lib.hid (show (({ data := #[115] } : ByteArray) ++ T) ++ { data := #[46, 115, 101, 103] } = seg n by rw [← hT]; unfold seg; rw [txt_append, txt_append]; rfl)
      clear hT
      go_wp2
      go_ret
      exact ⟨by rw [← HS.out]; rfl, hb⟩
theorem specSeg_any (n : Int) (w : World) : Calls Tryd.prog 13 #[.int .i64 n] w (PostT (segI n) w) := by
  by_cases h : 0 ≤ n ∧ n ≤ 1000000000
  · obtain ⟨m, rfl⟩ := Int.eq_ofNat_of_zero_le h.1
    rw [segI_in m (by omega)]
    exact specSeg_in m w (by omega)
  · rw [segI_out n h]
    have h1 : n < 0 ∨ 1000000000 < n := by omega
    clear h
    go_enter Tryd.func13, Tryd.ntmps13
    go_wp2_with (go_at_call 25; refine (in_no _ _ _ _ h1).mono ?_; rintro e w' ⟨rfl, rfl⟩)
    go_ret
    exact ⟨rfl, Below.refl _ _⟩
def nxI (b m : Int) : ByteArray := if b < 0 ∨ m < 0 ∨ 1000000000 < b + m then { data := #[] } else segI (b + m)
end Go.Proofs.YtiehfobcbhgfkaaDoor.nam

namespace Go.Proofs.YtiehfobcbhgfkaaDoor.nam
set_option maxRecDepth 20000
open Go.RowKit
open kit
open num

def rnV (b : ByteArray) : Value := .tuple #[.int .i64 (rn b).1, .int .i64 (rn b).2]
theorem pow16 {j : Nat} (h : j ≤ 8) : (16 : Nat) ^ j ≤ 4294967296 := by
  have := Nat.pow_le_pow_right (show 0 < 16 by omega) h
  have e : (16 : Nat) ^ 8 = 4294967296 := by decide
  omega
theorem take_snoc (l : List Nat) (j c : Nat) (h : l[j]? = some c) : l.take (j + 1) = l.take j ++ [c] := by
  rw [List.take_add_one, h]
  rfl
theorem hval_step (l : List Nat) (j c d z : Nat) (h : l[j]? = some c) (hz : hval (l.take j) = some z) (hd : hdig c = some d) : hval (l.take (j + 1)) = some (16 * z + d) := by
  rw [take_snoc l j c h, hval_snoc, hz]
  unfold hstep
  rw [Option.bind_some, hd]
  rfl

/-! ### NameOk -/
theorem okc_low (c : Nat) (h : 97 ≤ c ∧ c ≤ 122) : okc c = true := by unfold okc; simp [h]
theorem okc_dig (c : Nat) (h : 48 ≤ c ∧ c ≤ 57) : okc c = true := by unfold okc; simp [h]
theorem okc_no (c : Nat) (h1 : ¬ (97 ≤ c ∧ c ≤ 122)) (h2 : ¬ (48 ≤ c ∧ c ≤ 57)) (h3 : ¬ c = 46) (h4 : ¬ c = 45) : okc c = false := by
  unfold okc
  simp [h1, h2, h3, h4]
theorem all_next (l : List Nat) (j c : Nat) (h : l[j]? = some c) (ha : (l.take j).all okc = true) (hc : okc c = true) : (l.take (j + 1)).all okc = true := by
  rw [take_snoc l j c h, List.all_append, ha]
  simp [hc]

end Go.Proofs.YtiehfobcbhgfkaaDoor.nam
