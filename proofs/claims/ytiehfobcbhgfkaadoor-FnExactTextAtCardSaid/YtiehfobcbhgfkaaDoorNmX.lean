/-
  strconv.FormatInt at base 16: the library's own text, walked.
-/
import Derived.Test.YtiehfobcbhgfkaaDoorNameX
import Derived.Deep.WholeRow
import Derived.Lib.LaidTab
import Derived.Test.YtiehfobcbhgfkaaDoorShelfX
import Derived.Test.YtiehfobcbhgfkaaDoorBig
namespace Go.Proofs.YtiehfobcbhgfkaaDoor.nam
open Go.RowKit
open kit
open num

set_option maxRecDepth 1000000
def tab64 : List Int := [0, 1, 56, 2, 57, 49, 28, 3, 61, 58, 42, 50, 38, 29, 17, 4, 62, 47, 59, 36, 45, 43, 51, 22, 53, 39, 33, 30, 24, 18, 12, 5, 63, 55, 48, 27, 60, 41, 37, 16, 46, 35, 44, 21, 52, 32, 23, 11, 54, 26, 40, 15, 34, 20, 31, 10, 25, 14, 19, 9, 13, 8, 7, 6]
theorem g64 : Tryd.prog.globalNamed "math/bits.deBruijn64tab" = some 3 := by kernel_rfl
def Tab64 (w : World) : Prop := Lib.TabIs Tryd.prog w "math/bits.deBruijn64tab" .u8 tab64

theorem tz16_any (w : World) (h : Tab64 w) :
    Calls Tryd.prog 59 #[.int .u64 16] w fun e w' => e = .returned (.int .i64 4) ∧ w = w' := by
  have hc : w.cell? ⟨3, 15, none⟩ = some (.int .u8 4) := h.cell g64 15 (by decide)
  have hq : IntKind.u64.wrap (bits BinOp.and IntKind.u64 16 (IntKind.u64.wrap (-16)) * 285870213051353865) / 288230376151711744 = 15 := by decide +kernel
  clear h
  go_enter Tryd.func59, Tryd.ntmps59
  go_wp2
  go_ret
  exact ⟨rfl, rfl⟩

theorem infoBuf : (Tryd.prog.info? 100).map (fun i => (i.zero, i.size)) = some (some (.agg (Array.replicate 65 (.int .u8 0))), 65) := by kernel_rfl
def dig (n p : Nat) : Nat := figN (n / 16 ^ (64 - p) % 16)
def bcell (n j p : Nat) : Value := .int .u8 (if 65 - j ≤ p then ((dig n p : Nat) : Int) else 0)
def bcells (n j : Nat) : Array Value := ((List.range 65).map (bcell n j)).toArray
theorem bcells_size (n j : Nat) : (bcells n j).size = 65 := by simp [bcells]
theorem bcells_at (n j p : Nat) (h : p < 65) : (bcells n j)[p]? = some (bcell n j p) := by simp [bcells, h]
theorem bcells_zero (n : Nat) : bcells n 0 = Array.replicate 65 (.int .u8 0) := by
  apply Array.ext_getElem?
  intro i
  by_cases h : i < 65
  · rw [bcells_at n 0 i h, Array.getElem?_replicate, if_pos h]
    unfold bcell
    rw [if_neg (by omega)]
  · rw [Array.getElem?_eq_none (by rw [bcells_size]; omega), Array.getElem?_eq_none (by simp; omega)]
theorem bcells_set (n j : Nat) (h : j < 65) (x : Int) (hx : x = ((figN (n / 16 ^ j % 16) : Nat) : Int)) : (bcells n j).setIfInBounds (64 - j) (.int .u8 x) = bcells n (j + 1) := by
  subst hx
  apply Array.ext_getElem?
  intro i
  by_cases hi : i < 65
  · rw [Array.getElem?_setIfInBounds, bcells_at _ _ i hi, bcells_at _ _ i hi, bcells_size]
    unfold bcell dig
    by_cases hn : 64 - j = i
    · subst hn
      rw [if_pos rfl, if_pos (by omega), if_pos (by omega), show 64 - (64 - j) = j by omega]
    · rw [if_neg hn]
      by_cases hl : 65 - j ≤ i
      · rw [if_pos hl, if_pos (by omega)]
      · rw [if_neg hl, if_neg (by omega)]
  · rw [Array.getElem?_eq_none (by rw [Array.size_setIfInBounds, bcells_size]; omega), Array.getElem?_eq_none (by rw [bcells_size]; omega)]
theorem hexd_get (k n i : Nat) (h : i < k) : (hexd k n)[i]? = some (figN (n / 16 ^ (k - 1 - i) % 16)) := by
  induction k generalizing n with
  | zero => omega
  | succ k ih =>
    rw [hexd]
    by_cases hi : i < k
    · rw [List.getElem?_append_left (by rw [hexd_length]; exact hi), ih _ hi, Nat.div_div_eq_div_mul, ← Nat.pow_succ', show (k - 1 - i).succ = k + 1 - 1 - i by omega]
    · obtain rfl : i = k := by omega
      rw [List.getElem?_append_right (by rw [hexd_length]; exact Nat.le_refl _), hexd_length]
      simp
theorem hexd_cons (k n : Nat) : hexd (k + 1) n = figN (n / 16 ^ k % 16) :: hexd k n := by
  apply List.ext_getElem?
  intro i
  by_cases hi : i < k + 1
  · rw [hexd_get _ _ _ hi]
    cases i with
    | zero => simp
    | succ i =>
      rw [List.getElem?_cons_succ, hexd_get _ _ _ (by omega), show k + 1 - 1 - (i + 1) = k - 1 - i by omega]
  · rw [List.getElem?_eq_none (by rw [hexd_length]; omega), List.getElem?_eq_none (by rw [List.length_cons, hexd_length]; omega)]
/-- the first digits of a small number are noughts -/
theorem hexd_pad (k n : Nat) (h : n < 16 ^ k) : ∀ m, hexd (m + k) n = List.replicate m 48 ++ hexd k n
  | 0 => by rw [Nat.zero_add]; rfl
  | m + 1 => by
    rw [show m + 1 + k = (m + k) + 1 by omega, hexd_cons, hexd_pad k n h m, Nat.div_eq_of_lt (Nat.lt_of_lt_of_le h (Nat.pow_le_pow_right (by decide) (by omega)))]
    rfl
theorem and15u (x : Nat) (h : x < 4294967296) : bits BinOp.and IntKind.u64 (x : Int) 15 = ((x % 16 : Nat) : Int) := by
  unfold bits
  simp only [BitVec.toNat_and, BitVec.toNat_ofInt]
  rw [show ((x : Int) % ((2 ^ IntKind.u64.bits : Nat) : Int)).toNat = x by show ((x : Int) % 18446744073709551616).toNat = x; omega, show ((15 : Int) % ((2 ^ IntKind.u64.bits : Nat) : Int)).toNat = 2 ^ 4 - 1 by decide, Nat.and_two_pow_sub_one_eq_mod, IntKind.wrap_u64]
  omega
def figs36 : ByteArray := { data := #[48, 49, 50, 51, 52, 53, 54, 55, 56, 57, 97, 98, 99, 100, 101, 102, 103, 104, 105, 106, 107, 108, 109, 110, 111, 112, 113, 114, 115, 116, 117, 118, 119, 120, 121, 122] }
theorem figs36_at' : ∀ q : Fin 16, (figs36[q.val]'(by have := q.isLt; have : figs36.size = 36 := rfl; omega)).toNat = figN q.val := by decide +kernel
theorem figs36_at (q : Nat) (hq : q < 16) (h : q < figs36.size) : (figs36[q]'h).toNat = figN q := figs36_at' ⟨q, hq⟩

theorem tab64_below {W W' : World} (h : Tab64 W) (hb : Below W.heap.size W W') : Tab64 W' := by
  have hc := Lib.TabIs.cell h g64 0 (by decide)
  exact var?_below hb g64 (World.block_lt_of_cell? W _ hc) h
theorem bufLen : Tryd.prog.arrayLen 100 = 65 := by kernel_rfl
theorem bufElem : Tryd.prog.underlying 100 = some (.array (Tryd.prog.arrayLen 100) (Tryd.prog.elem 100)) := by kernel_rfl
theorem bufSize (w : World) : (sizeOf (Tryd.prog.elem 100)).run Tryd.prog w = .ok 1 w := by kernel_rfl
theorem buf_slice (w : World) (g i j : Nat) (h : i + j = 64) :
    (Instr.sliceAt 100 (.pointer (some ⟨g, 0, none⟩)) (some (.int .i64 (i : Int))) none none).run Tryd.prog w = .ok (.slice (some ⟨g, i, none⟩) (j + 1) (j + 1)) w := by
  rw [run_sliceAt_array_l w 100 ⟨g, 0, none⟩ bufElem .i64 (i : Int) (by omega) (by rw [bufLen]; omega), bufSize, bufLen]
  unfold slicedAt
  show Result.ok _ w = _
  rw [Int.toNat_natCast, if_neg (by omega), show 65 - i = j + 1 by omega, Nat.mul_one, add_none]
theorem buf_conv (w : World) (n i j : Nat) (h : i + j = 64) (hj : j < 64) :
    ∀ dst, Tryd.prog.underlying dst = some .string → (convert 58 dst (.slice (some ⟨w.heap.size, i, none⟩) (j + 1) (j + 1))).run Tryd.prog (w.alloc (.cells (bcells n (j + 1)) 100)) = .ok (.string (txt (hexd (j + 1) n))) (w.alloc (.cells (bcells n (j + 1)) 100)) := by
  intro dst hd
  rw [← txt_nums]
  refine run_convert_bytes_arg _ 58 5 Tryd.underlying58 Tryd.underlying5 w.heap.size i (j + 1) (j + 1) _ (by simp [hexd_length]) (fun k hk => ?_) dst hd
  rw [cell_of_row _ w.heap.size (i + k) _ 100 (0, 0) (heap_alloc_new w _), bcells_at _ _ _ (by omega)]
  unfold bcell dig
  rw [if_pos (by omega), List.getD, List.getElem?_map, hexd_get _ _ _ hk, show 64 - (i + k) = j + 1 - 1 - k by omega]
  rfl
theorem shr4u (x : Nat) : Op.shift .shr .u64 (x : Int) .u64 4 = pure (.int .u64 ((x / 16 : Nat) : Int)) := by
  rw [shift_shr .u64 .u64 (x : Int) 4 (by omega) (by show _ ≤ (64 : Int); omega)]
  rfl

set_option maxHeartbeats 1000000 in
theorem bits16_any (n : Nat) (w : World) (hn : n < 16 ^ 8) (h : Tab64 w) :
    Calls Tryd.prog 49 #[.slice none 0 0, .int .u64 (n : Int), .int .i64 16, .bool false, .bool false] w fun e w' => (∃ j, j < 8 ∧ n < 16 ^ (j + 1) ∧ e = .returned (.tuple #[.slice none 0 0, .string (txt (hexd (j + 1) n))])) ∧ Below w.heap.size w w' := by
  have HT := Lib.hid h
  clear h
  have hz := (zero_of_info infoBuf).1
  have hp : bits BinOp.and IntKind.i64 16 15 = 0 := by decide +kernel
  rw [← bcells_zero n] at hz
  go_enter Tryd.func49, Tryd.ntmps49
  go_wp2_with (first | (go_at_call 58; go_in) | (go_at_call 59; refine (tz16_any _ (tab64_below HT.out ((Below.refl _ _).alloc (Nat.le_refl _) _))).mono ?_; rintro e w' ⟨rfl, rfl⟩))
  clear hz hp
  go_loopw [1, 13] (fun u i wr => ∃ j : Nat, j ≤ 7 ∧ u = .int .u64 ((n / 16 ^ j : Nat) : Int) ∧ i = .int .i64 ((65 - j : Nat) : Int) ∧ wr = w.alloc (.cells (bcells n j) 100)) (fun _ i _ => (intOf i).toNat)
  case atStart => exact ⟨0, by omega, by simp, rfl, rfl⟩
  case round =>
    obtain ⟨j, hj, rfl, rfl, rfl⟩ := hrel
    obtain ⟨i, hi⟩ : ∃ i, 64 - j = i := ⟨_, rfl⟩
    have hi1 : ((65 - j : Nat) : Int) = (i : Int) + 1 := by omega
    have hi65 : i < (bcells n j).size := by rw [bcells_size]; omega
    have hib : (i : Int) < 65 := by omega
    rw [hi1]
    obtain ⟨x, hx⟩ : ∃ x, n / 16 ^ j = x := ⟨_, rfl⟩
    have hx32 : x < 4294967296 := by have := Nat.div_le_self n (16 ^ j); have e : (16 : Nat) ^ 8 = 4294967296 := by decide
                                     omega
    have hb15 := and15u x hx32
    have hsh := shr4u x
    obtain ⟨d, hd⟩ : ∃ d, x % 16 = d := ⟨_, rfl⟩
    have hd16 : d < 16 := by omega
    have hd36 : (d : Int) < 36 := by omega
    have hdf : d < figs36.size := by show d < 36; omega
    rw [hd] at hb15
    rw [hx]
    by_cases hlt : 16 ≤ x
    · have HS := Lib.hid (bcells_set n j (by omega) ((figs36[d]'hdf).toNat : Int) (by rw [figs36_at d hd16, hx, hd]))
      have HJ : 16 ^ (j + 1) ≤ n := by
        have := (Nat.le_div_iff_mul_le (Nat.pow_pos (by decide))).1 (show 16 ≤ n / 16 ^ j by omega)
        rw [Nat.pow_succ, Nat.mul_comm]; exact this
      have HJ7 := Lib.hid (show j + 1 ≤ 7 by
        rcases Nat.lt_or_ge j 7 with h | h
        · omega
        · have := Nat.pow_le_pow_right (show 0 < 16 by decide) (show 8 ≤ j + 1 by omega)
          omega)
      have HX := Lib.hid (show n / 16 ^ (j + 1) = x / 16 by rw [Nat.pow_succ, ← Nat.div_div_eq_div_mul, hx])
      rw [hi] at HS
      have HI := Lib.hid (show ((65 - (j + 1) : Nat) : Int) = (i : Int) by omega)
      clear hx hd hi hi1 HJ hx32
      go_wp2
      go_roundw
      case rel => exact ⟨j + 1, HJ7.out, by rw [HX.out]; rfl, by rw [HI.out], by rw [← HS.out]; rfl⟩
      case measure => simp [intOf]
    · have hmod : x % 16 = x := Nat.mod_eq_of_lt (by omega)
      obtain rfl : d = x := by omega
      have HS := Lib.hid (bcells_set n j (by omega) ((figs36[d]'hdf).toNat : Int) (by rw [figs36_at d hd16, hx, hmod]))
      have HN := Lib.hid (show n < 16 ^ (j + 1) by
        have := (Nat.div_lt_iff_lt_mul (Nat.pow_pos (by decide))).1 (show n / 16 ^ j < 16 by omega)
        rw [Nat.pow_succ, Nat.mul_comm]; exact this)
      rw [hi] at HS
      have hij : i + j = 64 := by omega
      clear hx hi hi1 hx32 hsh hb15 hd hmod
      have hn16 : ¬ (16 : Int) ≤ (d : Int) := by omega
      have hsl := fun W => buf_slice W w.heap.size i j hij
      have hcv := buf_conv w n i j hij (by omega)
      rw [← HS.out] at hcv
      simp only [figs36] at hcv
      go_wp2
      go_ret2
      exact ⟨⟨j, by omega, HN.out, rfl⟩, (Below.refl _ _).alloc (Nat.le_refl _) _⟩

theorem format16_any (n : Nat) (w : World) (hn : n < 16 ^ 8) (h : Tab64 w) :
    Calls Tryd.prog 29 #[.int .i64 (n : Int), .int .i64 16] w fun e w' => (∃ j, j < 8 ∧ n < 16 ^ (j + 1) ∧ e = .returned (.string (txt (hexd (j + 1) n)))) ∧ Below w.heap.size w w' := by
  have e8 : (16 : Nat) ^ 8 = 4294967296 := by decide
  have hw : IntKind.u64.wrap (n : Int) = (n : Int) := by rw [IntKind.wrap_u64]; omega
  have h0 : ¬ (n : Int) < 0 := by omega
  have HN := Lib.hid hn
  have HT := Lib.hid h
  clear h hn
  go_enter Tryd.func29, Tryd.ntmps29
  go_wp2_with (first | (go_at_call 37; go_in) | (go_at_call 49; refine (bits16_any n _ HN.out HT.out).mono ?_; rintro e w' ⟨⟨j, h1, h2, rfl⟩, hb⟩))
  go_ret
  exact ⟨⟨j, h1, h2, rfl⟩, hb⟩

end Go.Proofs.YtiehfobcbhgfkaaDoor.nam

namespace Go.Proofs.YtiehfobcbhgfkaaDoor.nam
open Go.RowKit
open kit
open num

set_option maxRecDepth 1000000
theorem repeat_noughts (c : Nat) : (⟨(Lib.repeatL (({ data := #[48] } : ByteArray)).data.toList c).toArray⟩ : ByteArray) = txt (List.replicate c 48) := by
  unfold txt
  congr 2
  induction c with
  | zero => rfl
  | succ c ih =>
    rw [List.replicate_succ, List.map_cons, ← ih]
    rfl
theorem implSeg_in (n : Nat) (w : World) (hn : n ≤ 1000000000) (h : Tab64 w) :
    Calls Tryd.prog 18 #[.int .i64 (n : Int)] w (PostT (seg n) w) := by
  have e8 : (16 : Nat) ^ 8 = 4294967296 := by decide
  have HF := Lib.hid (format16_any n w (by omega) h)
  have h0 : ¬ (n : Int) < 0 := by omega
  have h1 : ¬ (1000000000 : Int) < (n : Int) := by omega
  clear h
  go_enter Tryd.func18, Tryd.ntmps18
  go_wp2_with fail
  refine HF.out.mono ?_
  rintro e w1 ⟨⟨j, hj, hn2, rfl⟩, b1⟩
  have hz : (txt (hexd (j + 1) n)).size = j + 1 := by rw [txt_size, hexd_length]
  obtain ⟨c, hc⟩ : ∃ c, 7 - j = c := ⟨_, rfl⟩
  have hsub : (8 : Int) - ((j + 1 : Nat) : Int) = (c : Int) := by omega
  have HS : seg n = (({ data := #[115] } : ByteArray) ++ txt (List.replicate c 48) ++ txt (hexd (j + 1) n)) ++ { data := #[46, 115, 101, 103] } := by
    unfold seg
    rw [show 8 = c + (j + 1) by omega, hexd_pad _ _ hn2, ← List.append_assoc, txt_append, txt_append, txt_append]
    rfl
  obtain ⟨T, hT⟩ : ∃ T, txt (hexd (j + 1) n) = T := ⟨_, rfl⟩
  obtain ⟨m, hm⟩ : ∃ m, j + 1 = m := ⟨_, rfl⟩
  rw [hT] at hz HS ⊢
  rw [hm] at hz hsub
  have hR : Calls Tryd.prog 30 #[.string { data := #[48] }, .int .i64 (c : Int)] w1 fun e w' => e = .returned (.string (txt (List.replicate c 48))) ∧ Below w1.heap.size w1 w' :=
    (Tryd.strings_Repeat { data := #[48] } c w1 (by omega) (by show 1 * c ≤ _; omega)).mono fun e w' ⟨h1, h2⟩ => ⟨by rw [h1, repeat_noughts], h2⟩
  have HR := Lib.hid hR
  have z0 : (txt (List.replicate c 48)).size = c := by rw [txt_size, List.length_replicate]
  obtain ⟨Z, hZ⟩ : ∃ Z, txt (List.replicate c 48) = Z := ⟨_, rfl⟩
  rw [hZ] at HS HR z0
  have z1 : (({ data := #[115] } : ByteArray)).size = 1 := rfl
  have z2 : (({ data := #[46, 115, 101, 103] } : ByteArray)).size = 4 := rfl
  have z3 : (({ data := #[115] } : ByteArray) ++ Z).size = 1 + c := by rw [ByteArray.size_append, z1, z0]
  have z4 : (({ data := #[115] } : ByteArray) ++ Z ++ T).size = 1 + c + m := by rw [ByteArray.size_append, z3, hz]
  have hc8 : c ≤ 7 := by omega
  have hm8 : m ≤ 8 := by omega
  have HSS := Lib.hid HS
  clear hT hZ hR HS hm hc hn2
  go_wp2_with (go_at_call 30; refine HR.out.mono ?_; rintro e w2 ⟨rfl, c2⟩)
  go_ret
  exact ⟨by rw [HSS.out]; rfl, chain b1 c2⟩
theorem implSeg_any (n : Int) (w : World) (h : Tab64 w) : Calls Tryd.prog 18 #[.int .i64 n] w (PostT (segI n) w) := by
  by_cases hn : 0 ≤ n ∧ n ≤ 1000000000
  · obtain ⟨m, rfl⟩ := Int.eq_ofNat_of_zero_le hn.1
    rw [segI_in m (by omega)]
    exact implSeg_in m w (by omega) h
  · have HE := Lib.hid (segI_out n hn)
    clear h
    by_cases h0 : n < 0
    · clear hn
      go_enter Tryd.func18, Tryd.ntmps18
      go_wp2
      go_ret
      exact ⟨by rw [HE.out]; rfl, Below.refl _ _⟩
    · have h1 : (1000000000 : Int) < n := by omega
      clear hn
      go_enter Tryd.func18, Tryd.ntmps18
      go_wp2
      go_ret
      exact ⟨by rw [HE.out]; rfl, Below.refl _ _⟩
end Go.Proofs.YtiehfobcbhgfkaaDoor.nam
