/-
  Contracts of spec.SegmentName, TempName, NextName.
-/
import Derived.Test.YtiehfobcbhgfkaaGreatDoorStrQ
import Derived.Test.YtiehfobcbhgfkaaGreatDoorMathX
import Derived.Test.YtiehfobcbhgfkaaGreatDoorNumX
namespace Go.Proofs.YtiehfobcbhgfkaaGreatDoor.nam
set_option maxRecDepth 20000
open Go.RowKit
open kit
open num

theorem shr4 (n i : Nat) (hi : i ≤ 7) : Op.shift .shr .i64 (n : Int) .u64 ((4 * i : Nat) : Int) = pure (.int .i64 ((n / 16 ^ i : Nat) : Int)) := by
  rw [shift_shr .i64 .u64 (n : Int) ((4 * i : Nat) : Int) (by omega) (by show _ ≤ (64 : Int); omega), Int.toNat_natCast]
  have e : (2 : Int) ^ (4 * i) = ((16 ^ i : Nat) : Int) := by
    rw [Int.pow_mul]
    push_cast
    rfl
  rw [e]
  rfl
theorem and15 (x : Nat) (h : x < 9223372036854775808) : bits BinOp.and IntKind.i64 (x : Int) 15 = ((x % 16 : Nat) : Int) := by
  unfold bits
  simp only [BitVec.toNat_and, BitVec.toNat_ofInt]
  rw [show ((x : Int) % ((2 ^ IntKind.i64.bits : Nat) : Int)).toNat = x by show ((x : Int) % 18446744073709551616).toNat = x; omega, show ((15 : Int) % ((2 ^ IntKind.i64.bits : Nat) : Int)).toNat = 2 ^ 4 - 1 by decide, Nat.and_two_pow_sub_one_eq_mod, IntKind.wrap_i64]
  omega
def figs : ByteArray := { data := #[48, 49, 50, 51, 52, 53, 54, 55, 56, 57, 97, 98, 99, 100, 101, 102] }
theorem figs_at' : ∀ q : Fin 16, (figs[q.val]'(by have := q.isLt; exact this)).toNat = figN q.val := by decide +kernel
theorem figs_at (q : Nat) (h : q < figs.size) : (figs[q]'h).toNat = figN q := figs_at' ⟨q, h⟩

set_option maxHeartbeats 400000 in
theorem specSeg_in (n : Nat) (w : World) (hn : n ≤ 1000000000) :
    Calls Tryz.prog 104 #[.int .i64 n] w (PostT (seg n) w) := by
  obtain ⟨i0, hi, hz0, hz1, hz2⟩ := info_parts num.Tryz.infoU8
  go_enter Tryz.func104, Tryz.ntmps104
  go_wp2_with (go_at_call 109; refine (in_yes _ _ _ _ (by omega) (by omega)).mono ?_; rintro e w' ⟨rfl, rfl⟩)
  go_loopw [3, 4] (fun v i wr => ∃ j : Nat, j ≤ 8 ∧ i = .int .i64 (7 - (j : Int)) ∧ wr.ownsRow w.heap.size 5 1 v j (((hexd j (n / 16 ^ (8 - j))).map fun (c : Nat) => (c : Int)).map (Value.int .u8)) ∧ Below w.heap.size w wr) (fun _ i _ => (intOf i + 1).toNat)
  case atStart => exact ⟨0, by omega, rfl, World.ownsRow_made _ _ _ (Nat.le_refl _) (by decide) rfl, (Below.refl _ _).alloc (Nat.le_refl _) _⟩
  case round =>
    obtain ⟨j, hj, rfl, hown, hb⟩ := hrel
    by_cases hlt : j < 8
    · obtain ⟨i, hi7⟩ : ∃ i, 7 - j = i := ⟨_, rfl⟩
      have hii : 7 - (j : Int) = (i : Int) := by omega
      have hsh := shr4 n i (by omega)
      have hxb : n / 16 ^ i ≤ 1000000000 := Nat.le_trans (Nat.div_le_self _ _) hn
      have h15 := and15 (n / 16 ^ i) (by omega)
      have HX := Lib.hid (show hexd (j + 1) (n / 16 ^ (8 - (j + 1))) = hexd j (n / 16 ^ (8 - j)) ++ [figN (n / 16 ^ i % 16)] by
        rw [hexd, Nat.div_div_eq_div_mul, ← Nat.pow_succ, show (8 - (j + 1)).succ = 8 - j by omega, show 8 - (j + 1) = i by omega])
      have h4 : IntKind.u64.wrap (4 * (i : Int)) = ((4 * i : Nat) : Int) := by rw [IntKind.wrap_u64]; omega
      obtain ⟨q, hq⟩ : ∃ q, 4 * i = q := ⟨_, rfl⟩
      obtain ⟨x, hx⟩ : ∃ x, n / 16 ^ i = x := ⟨_, rfl⟩
      rw [hx] at hsh h15 hxb HX
      obtain ⟨d, hd⟩ : ∃ d, x % 16 = d := ⟨_, rfl⟩
      have hd16 : d < 16 := by omega
      rw [hd] at h15 HX
      rw [hq] at hsh h4
      have HF := Lib.hid (figs_at d hd16)
      have hfi : (d : Int) < 16 := by omega
      rw [hii]
      have HI := Lib.hid hi7
      clear hx hd hq hi7
      go_wp2_with (at_builtin; refine list_app (by rfl) (.tmp 13) (.tmp 21) 22 (by rfl) w wr 5 i0 (.int .u8 0) 1 Tryz.underlying22 hi hz0 hz1 hz2 (by rfl) _ j _ hown hb [.int .u8 _] 1 ?_ ?_ ?_ ?_ (by rfl) (by rfl) (by rfl) ?_ ?_; rfl; simp [Value.oneCell']; unfold maxLen; omega; omega; exact ⟨rfl, rfl, rfl⟩; intro v' w' hown' hb')
      have hown2 : w'.ownsRow w.heap.size 5 1 v' (j + 1) (((hexd j (n / 16 ^ (8 - j))).map fun (c : Nat) => (c : Int)).map (Value.int .u8) ++ [.int .u8 ((figN d : Nat) : Int)]) := by
        rw [← HF.out]
        exact hown'
      clear hown'
      go_roundw
      case rel => exact ⟨j + 1, by omega, by have := HI.out; go_num, by rw [HX.out]; simpa using hown2, hb'⟩
      case measure => simp [intOf]
    · obtain rfl : j = 8 := by omega
      have hcv := conv_own Tryz.underlying22 Tryz.underlying5 hown
      rw [txt_nums, show n / 16 ^ (8 - 8) = n by simp] at hcv
      have hz : (txt (hexd 8 n)).size = 8 := by rw [txt_size, hexd_length]
      obtain ⟨T, hT⟩ : ∃ T, txt (hexd 8 n) = T := ⟨_, rfl⟩
      rw [hT] at hcv hz
      have z1 : (({ data := #[115] } : ByteArray)).size = 1 := rfl
      have z2 : (({ data := #[46, 115, 101, 103] } : ByteArray)).size = 4 := rfl
      have z3 : (({ data := #[115] } : ByteArray) ++ T).size = 9 := by rw [ByteArray.size_append, z1, hz]
      have HS := Lib.hid (show (({ data := #[115] } : ByteArray) ++ T) ++ { data := #[46, 115, 101, 103] } = seg n by rw [← hT]; unfold seg; rw [txt_append, txt_append]; rfl)
      clear hT
      go_wp2
      go_ret
      exact ⟨by rw [← HS.out]; rfl, hb⟩
theorem specSeg_any (n : Int) (w : World) : Calls Tryz.prog 104 #[.int .i64 n] w (PostT (segI n) w) := by
  by_cases h : 0 ≤ n ∧ n ≤ 1000000000
  · obtain ⟨m, rfl⟩ := Int.eq_ofNat_of_zero_le h.1
    rw [segI_in m (by omega)]
    exact specSeg_in m w (by omega)
  · rw [segI_out n h]
    have h1 : n < 0 ∨ 1000000000 < n := by omega
    clear h
    go_enter Tryz.func104, Tryz.ntmps104
    go_wp2_with (go_at_call 109; refine (in_no _ _ _ _ h1).mono ?_; rintro e w' ⟨rfl, rfl⟩)
    go_ret
    exact ⟨rfl, Below.refl _ _⟩
theorem specTemp_any (n : Int) (w : World) : Calls Tryz.prog 110 #[.int .i64 n] w (PostT (tmpI n) w) := by
  by_cases h : 0 ≤ n ∧ n ≤ 1000000000
  · obtain ⟨m, rfl⟩ := Int.eq_ofNat_of_zero_le h.1
    have hz := seg_size m
    have HS := Lib.hid (segI_in m (by omega))
    have HT := Lib.hid (tmpI_in m (by omega))
    obtain ⟨T, hT⟩ : ∃ T, seg m = T := ⟨_, rfl⟩
    rw [hT] at hz HS HT
    have hemp := str_full (by omega : 0 < T.size)
    have z2 : (({ data := #[46, 116, 109, 112] } : ByteArray)).size = 4 := rfl
    clear hT h
    go_enter Tryz.func110, Tryz.ntmps110
    go_wp2_with fail
    refine (specSeg_any _ _).mono ?_
    rw [HS.out]
    rintro e w1 ⟨rfl, b1⟩
    go_wp2
    go_ret
    exact ⟨by rw [HT.out]; rfl, b1⟩
  · have HS := Lib.hid (segI_out n h)
    have HT := Lib.hid (tmpI_out n h)
    clear h
    go_enter Tryz.func110, Tryz.ntmps110
    go_wp2_with fail
    refine (specSeg_any _ _).mono ?_
    rw [HS.out]
    rintro e w1 ⟨rfl, b1⟩
    go_wp2
    go_ret
    exact ⟨by rw [HT.out]; rfl, b1⟩
end Go.Proofs.YtiehfobcbhgfkaaGreatDoor.nam

namespace Go.Proofs.YtiehfobcbhgfkaaGreatDoor.nam
set_option maxRecDepth 20000
open Go.RowKit
open kit
open num

def rnV (b : ByteArray) : Value := .tuple #[.int .i64 (rn b).1, .int .i64 (rn b).2]
theorem pow16 {j : Nat} (h : j ≤ 8) : (16 : Nat) ^ j ≤ 4294967296 := by
  have := Nat.pow_le_pow_right (show 0 < 16 by omega) h
  have e : (16 : Nat) ^ 8 = 4294967296 := by decide
  omega
theorem take_snoc (l : List Nat) (j c : Nat) (h : l[j]? = some c) : l.take (j + 1) = l.take j ++ [c] := by
  rw [List.take_add_one, h]
  rfl
theorem hval_step (l : List Nat) (j c d z : Nat) (h : l[j]? = some c) (hz : hval (l.take j) = some z) (hd : hdig c = some d) : hval (l.take (j + 1)) = some (16 * z + d) := by
  rw [take_snoc l j c h, hval_snoc, hz]
  unfold hstep
  rw [Option.bind_some, hd]
  rfl

set_option maxHeartbeats 1000000 in
set_option maxRecDepth 20000 in
theorem specRn_in (b : ByteArray) (w : World) (h0 : ¬ (b.size < 13 ∨ 17 < b.size)) :
    Calls Tryz.prog 59 #[.string b] w (PostR (rnV b) w) := by
  have h1 : 13 ≤ b.size := by omega
  have h2 : b.size ≤ 17 := by omega
  have H0 := Lib.hid h0
  clear h0
  go_enter Tryz.func59, Tryz.ntmps59
  go_wp2_with fail
  refine (in_yes _ _ _ _ (by omega) (by omega)).mono ?_
  rintro e w' ⟨rfl, rfl⟩
  go_wp2_with fail
  go_loopw [4, 5] (fun x i wr => ∃ (j z : Nat), j ≤ 8 ∧ x = .int .i64 z ∧ i = .int .i64 ((j + 1 : Nat) : Int) ∧ hval ((nats b 1).take j) = some z ∧ wr = w) (fun _ i _ => 9 - (intOf i).toNat)
  case atStart => exact ⟨0, 0, by omega, rfl, rfl, rfl, rfl⟩
  case round =>
    obtain ⟨j, z, hj, rfl, rfl, hz, rfl⟩ := hrel
    have hzl := hval_lt _ _ hz
    rw [List.length_take, nats_length, Nat.min_eq_left (by omega)] at hzl
    have hp := pow16 hj
    by_cases hlt : j < 8
    · have hin : j + 1 < b.size := by omega
      have hin2 : 1 + j < b.size := by omega
      have hc : b[j + 1].toNat < 256 := b[j + 1].toNat_lt
      have hget := nats_get b 1 j hin2
      have hget2 : (nats b 1)[j]? = some (b[j + 1].toNat) := by rw [hget]; congr 2; congr 1; omega
      obtain ⟨c, hcc⟩ : ∃ c, b[j + 1].toNat = c := ⟨_, rfl⟩
      rw [hcc] at hc hget2
      have HN := Lib.hid (fun d => hval_step _ j c d z hget2 hz)
      have HZ := Lib.hid (fun h => rn_digits b (hval_none ((nats b 1).take 8) j c (by rw [List.getElem?_take_of_lt hlt]; exact hget2) h))
      have hz32 : z < 4294967296 := by omega
      clear hget hget2 hz hzl hp
      go_wp2_with fail
      by_cases c1 : 48 ≤ c ∧ c ≤ 57
      · have HV := Lib.hid (HN.out (c - 48) (if_pos c1))
        have e1 : (48 : Int) ≤ c := by omega
        have e2 : (c : Int) ≤ 57 := by omega
        refine (in_yes _ _ _ _ e1 e2).mono ?_
        rintro e w' ⟨rfl, rfl⟩
        go_wp2
        go_roundw
        case rel => exact ⟨j + 1, 16 * z + (c - 48), by omega, by go_num, by go_num, HV.out, trivial⟩
        case measure => simp [intOf]; omega
      · refine (in_no _ _ _ _ (by omega)).mono ?_
        rintro e w' ⟨rfl, rfl⟩
        go_wp2_with fail
        by_cases c2 : 97 ≤ c ∧ c ≤ 102
        · have HV := Lib.hid (HN.out (c - 87) (by unfold hdig; rw [if_neg c1, if_pos c2]))
          have e1 : (97 : Int) ≤ c := by omega
          have e2 : (c : Int) ≤ 102 := by omega
          refine (in_yes _ _ _ _ e1 e2).mono ?_
          rintro e w' ⟨rfl, rfl⟩
          go_wp2
          go_roundw
          case rel => exact ⟨j + 1, 16 * z + (c - 87), by omega, by go_num, by go_num, HV.out, trivial⟩
          case measure => simp [intOf]; omega
        · have HE := Lib.hid (HZ.out (by unfold hdig; rw [if_neg c1, if_neg c2]))
          refine (in_no _ _ _ _ (by omega)).mono ?_
          rintro e w' ⟨rfl, rfl⟩
          clear c1 c2
          go_wp2
          go_ret2
          exact ⟨by unfold rnV; rw [HE.out]; rfl, Below.refl _ _⟩
    · obtain rfl : j = 8 := by omega
      have HV := Lib.hid hz
      clear hz hzl hp
      go_wp2_with fail
      refine (specSeg_any _ _).mono ?_
      rintro e w1 ⟨rfl, c1⟩
      by_cases e1 : segI (z : Int) = b
      · have HE := Lib.hid (rn_seg b z H0.out HV.out e1)
        rw [e1]
        clear e1
        go_wp2
        go_ret2
        exact ⟨by unfold rnV; rw [HE.out]; rfl, c1⟩
      · have hne := str_ne e1
        obtain ⟨T, hT⟩ : ∃ T, segI (z : Int) = T := ⟨_, rfl⟩
        rw [hT] at hne ⊢
        have HE1 := Lib.hid e1
        clear hT e1
        go_wp2_with fail
        refine (specTemp_any _ _).mono ?_
        rintro e w2 ⟨rfl, c2⟩
        by_cases e2 : tmpI (z : Int) = b
        · have HE := Lib.hid (rn_tmp b z H0.out HV.out HE1.out e2)
          rw [e2]
          clear e2
          go_wp2
          go_ret2
          exact ⟨by unfold rnV; rw [HE.out]; rfl, c1.trans (c2.mono c1.size)⟩
        · have hne2 := str_ne e2
          have HE := Lib.hid (rn_other b z HV.out HE1.out e2)
          obtain ⟨U, hU⟩ : ∃ U, tmpI (z : Int) = U := ⟨_, rfl⟩
          rw [hU] at hne2 ⊢
          clear hU e2
          go_wp2
          go_ret2
          exact ⟨by unfold rnV; rw [HE.out]; rfl, c1.trans (c2.mono c1.size)⟩
theorem specRn_any (b : ByteArray) (w : World) (hm : b.size ≤ 9223372036854775807) :
    Calls Tryz.prog 59 #[.string b] w (PostR (rnV b) w) := by
  by_cases h0 : b.size < 13 ∨ 17 < b.size
  · have HE := Lib.hid (rn_size b h0)
    have h1 : (b.size : Int) < 13 ∨ (17 : Int) < b.size := by omega
    clear h0
    go_enter Tryz.func59, Tryz.ntmps59
    go_wp2_with fail
    refine (in_no _ _ _ _ h1).mono ?_
    rintro e w' ⟨rfl, rfl⟩
    go_wp2
    go_ret2
    exact ⟨by unfold rnV; rw [HE.out]; rfl, Below.refl _ _⟩
  · exact specRn_in b w h0

/-! ### NameOk -/
theorem okc_low (c : Nat) (h : 97 ≤ c ∧ c ≤ 122) : okc c = true := by unfold okc; simp [h]
theorem okc_dig (c : Nat) (h : 48 ≤ c ∧ c ≤ 57) : okc c = true := by unfold okc; simp [h]
theorem okc_no (c : Nat) (h1 : ¬ (97 ≤ c ∧ c ≤ 122)) (h2 : ¬ (48 ≤ c ∧ c ≤ 57)) (h3 : ¬ c = 46) (h4 : ¬ c = 45) : okc c = false := by
  unfold okc
  simp [h1, h2, h3, h4]
theorem all_next (l : List Nat) (j c : Nat) (h : l[j]? = some c) (ha : (l.take j).all okc = true) (hc : okc c = true) : (l.take (j + 1)).all okc = true := by
  rw [take_snoc l j c h, List.all_append, ha]
  simp [hc]

set_option maxHeartbeats 1000000 in
set_option maxRecDepth 20000 in
theorem specOk_any (b : ByteArray) (w : World) (hm : b.size ≤ 9223372036854775807) :
    Calls Tryz.prog 69 #[.string b] w fun e w' => e = .returned (.bool (nok b)) ∧ w = w' := by
  go_enter Tryz.func69, Tryz.ntmps69
  go_wp2
  go_loopw [3] (fun i wr => ∃ j : Nat, j ≤ b.size ∧ i = .int .i64 j ∧ ((nats b 0).take j).all okc = true ∧ wr = w) (fun i _ => b.size - (intOf i).toNat)
  case atStart => exact ⟨0, Nat.zero_le _, rfl, rfl, rfl⟩
  case round =>
    obtain ⟨j, hj, rfl, ha, rfl⟩ := hrel
    by_cases hlt : j < b.size
    · have hc : b[j].toNat < 256 := b[j].toNat_lt
      have hget : (nats b 0)[j]? = some (b[j].toNat) := by rw [nats_get b 0 j (by omega)]; congr 2; congr 1; omega
      obtain ⟨c, hcc⟩ : ∃ c, b[j].toNat = c := ⟨_, rfl⟩
      rw [hcc] at hc hget
      have HN := Lib.hid (fun h => all_next _ j c hget ha h)
      have HZ := Lib.hid (fun h => nok_bad b j c hget h)
      clear hget ha
      go_wp2_with fail
      by_cases c1 : 97 ≤ c ∧ c ≤ 122
      · have HV := Lib.hid (HN.out (okc_low c c1))
        have e1 : (97 : Int) ≤ c := by omega
        have e2 : (c : Int) ≤ 122 := by omega
        refine (in_yes _ _ _ _ e1 e2).mono ?_
        rintro e w' ⟨rfl, rfl⟩
        go_wp2
        go_roundw
        case rel => exact ⟨j + 1, by omega, by go_num, HV.out, trivial⟩
        case measure => simp [intOf]; omega
      · refine (in_no _ _ _ _ (by omega)).mono ?_
        rintro e w' ⟨rfl, rfl⟩
        go_wp2_with fail
        by_cases c2 : 48 ≤ c ∧ c ≤ 57
        · have HV := Lib.hid (HN.out (okc_dig c c2))
          have e1 : (48 : Int) ≤ c := by omega
          have e2 : (c : Int) ≤ 57 := by omega
          refine (in_yes _ _ _ _ e1 e2).mono ?_
          rintro e w' ⟨rfl, rfl⟩
          go_wp2
          go_roundw
          case rel => exact ⟨j + 1, by omega, by go_num, HV.out, trivial⟩
          case measure => simp [intOf]; omega
        · refine (in_no _ _ _ _ (by omega)).mono ?_
          rintro e w' ⟨rfl, rfl⟩
          by_cases c3 : c = 46
          · subst c3
            have HV := Lib.hid (HN.out (by decide))
            go_wp2
            go_roundw
            case rel => exact ⟨j + 1, by omega, by go_num, HV.out, trivial⟩
            case measure => simp [intOf]; omega
          · by_cases c4 : c = 45
            · subst c4
              have HV := Lib.hid (HN.out (by decide))
              go_wp2
              go_roundw
              case rel => exact ⟨j + 1, by omega, by go_num, HV.out, trivial⟩
              case measure => simp [intOf]; omega
            · have HE := Lib.hid (HZ.out (okc_no c c1 c2 c3 c4))
              have n3 : ((c : Int) != 46) = true := by rw [bne_iff_ne]; omega
              have n4 : ((c : Int) != 45) = true := by rw [bne_iff_ne]; omega
              clear c1 c2 c3 c4
              go_wp2
              go_ret
              exact ⟨by rw [HE.out]; rfl, rfl⟩
    · obtain rfl : j = b.size := by omega
      have hall : (nats b 0).all okc = true := by
        rw [List.take_of_length_le (by rw [nats_length]; omega)] at ha
        exact ha
      clear ha
      by_cases hz : 1 ≤ b.size ∧ b.size ≤ 20
      · have HE := Lib.hid (nok_all b hall hz)
        have e1 : (1 : Int) ≤ b.size := by omega
        have e2 : (b.size : Int) ≤ 20 := by omega
        clear hall hz
        go_wp2_with fail
        refine (in_yes _ _ _ _ e1 e2).mono ?_
        rintro e w' ⟨rfl, rfl⟩
        go_wp2
        go_ret
        exact ⟨by rw [HE.out]; rfl, rfl⟩
      · have HE := Lib.hid (nok_size b hz)
        have e1 : (b.size : Int) < 1 ∨ (20 : Int) < b.size := by omega
        clear hall hz
        go_wp2_with fail
        refine (in_no _ _ _ _ e1).mono ?_
        rintro e w' ⟨rfl, rfl⟩
        go_wp2
        go_ret
        exact ⟨by rw [HE.out]; rfl, rfl⟩

end Go.Proofs.YtiehfobcbhgfkaaGreatDoor.nam
