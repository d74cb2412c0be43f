/-
  strconv.FormatInt at base 16: the library's own text, walked.
-/
import Derived.Test.YtiehfobcbhgfkaaGreatDoorNameX
import Derived.Deep.WholeRow
import Derived.Lib.LaidTab
import Derived.Test.YtiehfobcbhgfkaaGreatDoorShelfX
import Derived.Test.YtiehfobcbhgfkaaGreatDoorBig
import Derived.Lib.Strings
import Derived.Lib.ConvBytes
import Derived.Lib.AtoiAllMem
import Derived.Lib.SmallJoins
namespace Go.Proofs.YtiehfobcbhgfkaaGreatDoor.nam
open Go.RowKit
open kit
open num

set_option maxRecDepth 1000000
def tab64 : List Int := [0, 1, 56, 2, 57, 49, 28, 3, 61, 58, 42, 50, 38, 29, 17, 4, 62, 47, 59, 36, 45, 43, 51, 22, 53, 39, 33, 30, 24, 18, 12, 5, 63, 55, 48, 27, 60, 41, 37, 16, 46, 35, 44, 21, 52, 32, 23, 11, 54, 26, 40, 15, 34, 20, 31, 10, 25, 14, 19, 9, 13, 8, 7, 6]
theorem g64 : Tryz.prog.globalNamed "math/bits.deBruijn64tab" = some 5 := by kernel_rfl
def Tab64 (w : World) : Prop := Lib.TabIs Tryz.prog w "math/bits.deBruijn64tab" .u8 tab64

theorem tz16_any (w : World) (h : Tab64 w) :
    Calls Tryz.prog 231 #[.int .u64 16] w fun e w' => e = .returned (.int .i64 4) ∧ w = w' := by
  have hc : w.cell? ⟨5, 15, none⟩ = some (.int .u8 4) := h.cell g64 15 (by decide)
  have hq : IntKind.u64.wrap (bits BinOp.and IntKind.u64 16 (IntKind.u64.wrap (-16)) * 285870213051353865) / 288230376151711744 = 15 := by decide +kernel
  clear h
  go_enter Tryz.func231, Tryz.ntmps231
  go_wp2
  go_ret
  exact ⟨rfl, rfl⟩

theorem infoBuf : (Tryz.prog.info? 222).map (fun i => (i.zero, i.size)) = some (some (.agg (Array.replicate 65 (.int .u8 0))), 65) := by kernel_rfl
def dig (n p : Nat) : Nat := figN (n / 16 ^ (64 - p) % 16)
def bcell (n j p : Nat) : Value := .int .u8 (if 65 - j ≤ p then ((dig n p : Nat) : Int) else 0)
def bcells (n j : Nat) : Array Value := ((List.range 65).map (bcell n j)).toArray
theorem bcells_size (n j : Nat) : (bcells n j).size = 65 := by simp [bcells]
theorem bcells_at (n j p : Nat) (h : p < 65) : (bcells n j)[p]? = some (bcell n j p) := by simp [bcells, h]
theorem bcells_zero (n : Nat) : bcells n 0 = Array.replicate 65 (.int .u8 0) := by
  apply Array.ext_getElem?
  intro i
  by_cases h : i < 65
  · rw [bcells_at n 0 i h, Array.getElem?_replicate, if_pos h]
    unfold bcell
    rw [if_neg (by omega)]
  · rw [Array.getElem?_eq_none (by rw [bcells_size]; omega), Array.getElem?_eq_none (by simp; omega)]
theorem bcells_set (n j : Nat) (h : j < 65) (x : Int) (hx : x = ((figN (n / 16 ^ j % 16) : Nat) : Int)) : (bcells n j).setIfInBounds (64 - j) (.int .u8 x) = bcells n (j + 1) := by
  subst hx
  apply Array.ext_getElem?
  intro i
  by_cases hi : i < 65
  · rw [Array.getElem?_setIfInBounds, bcells_at _ _ i hi, bcells_at _ _ i hi, bcells_size]
    unfold bcell dig
    by_cases hn : 64 - j = i
    · subst hn
      rw [if_pos rfl, if_pos (by omega), if_pos (by omega), show 64 - (64 - j) = j by omega]
    · rw [if_neg hn]
      by_cases hl : 65 - j ≤ i
      · rw [if_pos hl, if_pos (by omega)]
      · rw [if_neg hl, if_neg (by omega)]
  · rw [Array.getElem?_eq_none (by rw [Array.size_setIfInBounds, bcells_size]; omega), Array.getElem?_eq_none (by rw [bcells_size]; omega)]
theorem hexd_get (k n i : Nat) (h : i < k) : (hexd k n)[i]? = some (figN (n / 16 ^ (k - 1 - i) % 16)) := by
  induction k generalizing n with
  | zero => omega
  | succ k ih =>
    rw [hexd]
    by_cases hi : i < k
    · rw [List.getElem?_append_left (by rw [hexd_length]; exact hi), ih _ hi, Nat.div_div_eq_div_mul, ← Nat.pow_succ', show (k - 1 - i).succ = k + 1 - 1 - i by omega]
    · obtain rfl : i = k := by omega
      rw [List.getElem?_append_right (by rw [hexd_length]; exact Nat.le_refl _), hexd_length]
      simp
theorem hexd_cons (k n : Nat) : hexd (k + 1) n = figN (n / 16 ^ k % 16) :: hexd k n := by
  apply List.ext_getElem?
  intro i
  by_cases hi : i < k + 1
  · rw [hexd_get _ _ _ hi]
    cases i with
    | zero => simp
    | succ i =>
      rw [List.getElem?_cons_succ, hexd_get _ _ _ (by omega), show k + 1 - 1 - (i + 1) = k - 1 - i by omega]
  · rw [List.getElem?_eq_none (by rw [hexd_length]; omega), List.getElem?_eq_none (by rw [List.length_cons, hexd_length]; omega)]
/-- the first digits of a small number are noughts -/
theorem hexd_pad (k n : Nat) (h : n < 16 ^ k) : ∀ m, hexd (m + k) n = List.replicate m 48 ++ hexd k n
  | 0 => by rw [Nat.zero_add]; rfl
  | m + 1 => by
    rw [show m + 1 + k = (m + k) + 1 by omega, hexd_cons, hexd_pad k n h m, Nat.div_eq_of_lt (Nat.lt_of_lt_of_le h (Nat.pow_le_pow_right (by decide) (by omega)))]
    rfl
theorem and15u (x : Nat) (h : x < 4294967296) : bits BinOp.and IntKind.u64 (x : Int) 15 = ((x % 16 : Nat) : Int) := by
  unfold bits
  simp only [BitVec.toNat_and, BitVec.toNat_ofInt]
  rw [show ((x : Int) % ((2 ^ IntKind.u64.bits : Nat) : Int)).toNat = x by show ((x : Int) % 18446744073709551616).toNat = x; omega, show ((15 : Int) % ((2 ^ IntKind.u64.bits : Nat) : Int)).toNat = 2 ^ 4 - 1 by decide, Nat.and_two_pow_sub_one_eq_mod, IntKind.wrap_u64]
  omega
def figs36 : ByteArray := { data := #[48, 49, 50, 51, 52, 53, 54, 55, 56, 57, 97, 98, 99, 100, 101, 102, 103, 104, 105, 106, 107, 108, 109, 110, 111, 112, 113, 114, 115, 116, 117, 118, 119, 120, 121, 122] }
theorem figs36_at' : ∀ q : Fin 16, (figs36[q.val]'(by have := q.isLt; have : figs36.size = 36 := rfl; omega)).toNat = figN q.val := by decide +kernel
theorem figs36_at (q : Nat) (hq : q < 16) (h : q < figs36.size) : (figs36[q]'h).toNat = figN q := figs36_at' ⟨q, hq⟩

theorem tab64_below {W W' : World} (h : Tab64 W) (hb : Below W.heap.size W W') : Tab64 W' := by
  have hc := Lib.TabIs.cell h g64 0 (by decide)
  exact var?_below hb g64 (World.block_lt_of_cell? W _ hc) h
theorem bufLen : Tryz.prog.arrayLen 222 = 65 := by kernel_rfl
theorem bufElem : Tryz.prog.underlying 222 = some (.array (Tryz.prog.arrayLen 222) (Tryz.prog.elem 222)) := by kernel_rfl
theorem bufSize (w : World) : (sizeOf (Tryz.prog.elem 222)).run Tryz.prog w = .ok 1 w := by kernel_rfl
theorem buf_slice (w : World) (g i j : Nat) (h : i + j = 64) :
    (Instr.sliceAt 222 (.pointer (some ⟨g, 0, none⟩)) (some (.int .i64 (i : Int))) none none).run Tryz.prog w = .ok (.slice (some ⟨g, i, none⟩) (j + 1) (j + 1)) w := by
  rw [run_sliceAt_array_l w 222 ⟨g, 0, none⟩ bufElem .i64 (i : Int) (by omega) (by rw [bufLen]; omega), bufSize, bufLen]
  unfold slicedAt
  show Result.ok _ w = _
  rw [Int.toNat_natCast, if_neg (by omega), show 65 - i = j + 1 by omega, Nat.mul_one, add_none]
theorem buf_conv (w : World) (n i j : Nat) (h : i + j = 64) (hj : j < 64) :
    ∀ dst, Tryz.prog.underlying dst = some .string → (convert 22 dst (.slice (some ⟨w.heap.size, i, none⟩) (j + 1) (j + 1))).run Tryz.prog (w.alloc (.cells (bcells n (j + 1)) 222)) = .ok (.string (txt (hexd (j + 1) n))) (w.alloc (.cells (bcells n (j + 1)) 222)) := by
  intro dst hd
  rw [← txt_nums]
  refine run_convert_bytes_arg _ 22 5 Tryz.underlying22 Tryz.underlying5 w.heap.size i (j + 1) (j + 1) _ (by simp [hexd_length]) (fun k hk => ?_) dst hd
  rw [cell_of_row _ w.heap.size (i + k) _ 222 (0, 0) (heap_alloc_new w _), bcells_at _ _ _ (by omega)]
  unfold bcell dig
  rw [if_pos (by omega), List.getD, List.getElem?_map, hexd_get _ _ _ hk, show 64 - (i + k) = j + 1 - 1 - k by omega]
  rfl
theorem shr4u (x : Nat) : Op.shift .shr .u64 (x : Int) .u64 4 = pure (.int .u64 ((x / 16 : Nat) : Int)) := by
  rw [shift_shr .u64 .u64 (x : Int) 4 (by omega) (by show _ ≤ (64 : Int); omega)]
  rfl

set_option maxHeartbeats 1000000 in
theorem bits16_any (n : Nat) (w : World) (hn : n < 16 ^ 8) (h : Tab64 w) :
    Calls Tryz.prog 206 #[.slice none 0 0, .int .u64 (n : Int), .int .i64 16, .bool false, .bool false] w fun e w' => (∃ j, j < 8 ∧ n < 16 ^ (j + 1) ∧ e = .returned (.tuple #[.slice none 0 0, .string (txt (hexd (j + 1) n))])) ∧ Below w.heap.size w w' := by
  have HT := Lib.hid h
  clear h
  have hz := (zero_of_info infoBuf).1
  have hp : bits BinOp.and IntKind.i64 16 15 = 0 := by decide +kernel
  rw [← bcells_zero n] at hz
  go_enter Tryz.func206, Tryz.ntmps206
  go_wp2_with (first | (go_at_call 230; go_in) | (go_at_call 231; refine (tz16_any _ (tab64_below HT.out ((Below.refl _ _).alloc (Nat.le_refl _) _))).mono ?_; rintro e w' ⟨rfl, rfl⟩))
  clear hz hp
  go_loopw [1, 13] (fun u i wr => ∃ j : Nat, j ≤ 7 ∧ u = .int .u64 ((n / 16 ^ j : Nat) : Int) ∧ i = .int .i64 ((65 - j : Nat) : Int) ∧ wr = w.alloc (.cells (bcells n j) 222)) (fun _ i _ => (intOf i).toNat)
  case atStart => exact ⟨0, by omega, by simp, rfl, rfl⟩
  case round =>
    obtain ⟨j, hj, rfl, rfl, rfl⟩ := hrel
    obtain ⟨i, hi⟩ : ∃ i, 64 - j = i := ⟨_, rfl⟩
    have hi1 : ((65 - j : Nat) : Int) = (i : Int) + 1 := by omega
    have hi65 : i < (bcells n j).size := by rw [bcells_size]; omega
    have hib : (i : Int) < 65 := by omega
    rw [hi1]
    obtain ⟨x, hx⟩ : ∃ x, n / 16 ^ j = x := ⟨_, rfl⟩
    have hx32 : x < 4294967296 := by have := Nat.div_le_self n (16 ^ j); have e : (16 : Nat) ^ 8 = 4294967296 := by decide
                                     omega
    have hb15 := and15u x hx32
    have hsh := shr4u x
    obtain ⟨d, hd⟩ : ∃ d, x % 16 = d := ⟨_, rfl⟩
    have hd16 : d < 16 := by omega
    have hd36 : (d : Int) < 36 := by omega
    have hdf : d < figs36.size := by show d < 36; omega
    rw [hd] at hb15
    rw [hx]
    by_cases hlt : 16 ≤ x
    · have HS := Lib.hid (bcells_set n j (by omega) ((figs36[d]'hdf).toNat : Int) (by rw [figs36_at d hd16, hx, hd]))
      have HJ : 16 ^ (j + 1) ≤ n := by
        have := (Nat.le_div_iff_mul_le (Nat.pow_pos (by decide))).1 (show 16 ≤ n / 16 ^ j by omega)
        rw [Nat.pow_succ, Nat.mul_comm]; exact this
      have HJ7 := Lib.hid (show j + 1 ≤ 7 by
        rcases Nat.lt_or_ge j 7 with h | h
        · omega
        · have := Nat.pow_le_pow_right (show 0 < 16 by decide) (show 8 ≤ j + 1 by omega)
          omega)
      have HX := Lib.hid (show n / 16 ^ (j + 1) = x / 16 by rw [Nat.pow_succ, ← Nat.div_div_eq_div_mul, hx])
      rw [hi] at HS
      have HI := Lib.hid (show ((65 - (j + 1) : Nat) : Int) = (i : Int) by omega)
      clear hx hd hi hi1 HJ hx32
      go_wp2
      go_roundw
      case rel => exact ⟨j + 1, HJ7.out, by rw [HX.out]; rfl, by rw [HI.out], by rw [← HS.out]; rfl⟩
      case measure => simp [intOf]
    · have hmod : x % 16 = x := Nat.mod_eq_of_lt (by omega)
      obtain rfl : d = x := by omega
      have HS := Lib.hid (bcells_set n j (by omega) ((figs36[d]'hdf).toNat : Int) (by rw [figs36_at d hd16, hx, hmod]))
      have HN := Lib.hid (show n < 16 ^ (j + 1) by
        have := (Nat.div_lt_iff_lt_mul (Nat.pow_pos (by decide))).1 (show n / 16 ^ j < 16 by omega)
        rw [Nat.pow_succ, Nat.mul_comm]; exact this)
      rw [hi] at HS
      have hij : i + j = 64 := by omega
      clear hx hi hi1 hx32 hsh hb15 hd hmod
      have hn16 : ¬ (16 : Int) ≤ (d : Int) := by omega
      have hsl := fun W => buf_slice W w.heap.size i j hij
      have hcv := buf_conv w n i j hij (by omega)
      rw [← HS.out] at hcv
      simp only [figs36] at hcv
      go_wp2
      go_ret2
      exact ⟨⟨j, by omega, HN.out, rfl⟩, (Below.refl _ _).alloc (Nat.le_refl _) _⟩

theorem format16_any (n : Nat) (w : World) (hn : n < 16 ^ 8) (h : Tab64 w) :
    Calls Tryz.prog 113 #[.int .i64 (n : Int), .int .i64 16] w fun e w' => (∃ j, j < 8 ∧ n < 16 ^ (j + 1) ∧ e = .returned (.string (txt (hexd (j + 1) n)))) ∧ Below w.heap.size w w' := by
  have e8 : (16 : Nat) ^ 8 = 4294967296 := by decide
  have hw : IntKind.u64.wrap (n : Int) = (n : Int) := by rw [IntKind.wrap_u64]; omega
  have h0 : ¬ (n : Int) < 0 := by omega
  have HN := Lib.hid hn
  have HT := Lib.hid h
  clear h hn
  go_enter Tryz.func113, Tryz.ntmps113
  go_wp2_with (first | (go_at_call 166; go_in) | (go_at_call 206; refine (bits16_any n _ HN.out HT.out).mono ?_; rintro e w' ⟨⟨j, h1, h2, rfl⟩, hb⟩))
  go_ret
  exact ⟨⟨j, h1, h2, rfl⟩, hb⟩

end Go.Proofs.YtiehfobcbhgfkaaGreatDoor.nam

namespace Go.Proofs.YtiehfobcbhgfkaaGreatDoor.nam
open Go.RowKit
open kit
open num

set_option maxRecDepth 1000000
theorem repeat_noughts (c : Nat) : (⟨(Lib.repeatL (({ data := #[48] } : ByteArray)).data.toList c).toArray⟩ : ByteArray) = txt (List.replicate c 48) := by
  unfold txt
  congr 2
  induction c with
  | zero => rfl
  | succ c ih =>
    rw [List.replicate_succ, List.map_cons, ← ih]
    rfl
theorem implSeg_in (n : Nat) (w : World) (hn : n ≤ 1000000000) (h : Tab64 w) :
    Calls Tryz.prog 63 #[.int .i64 (n : Int)] w (PostT (seg n) w) := by
  have e8 : (16 : Nat) ^ 8 = 4294967296 := by decide
  have HF := Lib.hid (format16_any n w (by omega) h)
  have h0 : ¬ (n : Int) < 0 := by omega
  have h1 : ¬ (1000000000 : Int) < (n : Int) := by omega
  clear h
  go_enter Tryz.func63, Tryz.ntmps63
  go_wp2_with fail
  refine HF.out.mono ?_
  rintro e w1 ⟨⟨j, hj, hn2, rfl⟩, b1⟩
  have hz : (txt (hexd (j + 1) n)).size = j + 1 := by rw [txt_size, hexd_length]
  obtain ⟨c, hc⟩ : ∃ c, 7 - j = c := ⟨_, rfl⟩
  have hsub : (8 : Int) - ((j + 1 : Nat) : Int) = (c : Int) := by omega
  have HS : seg n = (({ data := #[115] } : ByteArray) ++ txt (List.replicate c 48) ++ txt (hexd (j + 1) n)) ++ { data := #[46, 115, 101, 103] } := by
    unfold seg
    rw [show 8 = c + (j + 1) by omega, hexd_pad _ _ hn2, ← List.append_assoc, txt_append, txt_append, txt_append]
    rfl
  obtain ⟨T, hT⟩ : ∃ T, txt (hexd (j + 1) n) = T := ⟨_, rfl⟩
  obtain ⟨m, hm⟩ : ∃ m, j + 1 = m := ⟨_, rfl⟩
  rw [hT] at hz HS ⊢
  rw [hm] at hz hsub
  have hR : Calls Tryz.prog 114 #[.string { data := #[48] }, .int .i64 (c : Int)] w1 fun e w' => e = .returned (.string (txt (List.replicate c 48))) ∧ Below w1.heap.size w1 w' :=
    (Tryz.strings_Repeat { data := #[48] } c w1 (by omega) (by show 1 * c ≤ _; omega)).mono fun e w' ⟨h1, h2⟩ => ⟨by rw [h1, repeat_noughts], h2⟩
  have HR := Lib.hid hR
  have z0 : (txt (List.replicate c 48)).size = c := by rw [txt_size, List.length_replicate]
  obtain ⟨Z, hZ⟩ : ∃ Z, txt (List.replicate c 48) = Z := ⟨_, rfl⟩
  rw [hZ] at HS HR z0
  have z1 : (({ data := #[115] } : ByteArray)).size = 1 := rfl
  have z2 : (({ data := #[46, 115, 101, 103] } : ByteArray)).size = 4 := rfl
  have z3 : (({ data := #[115] } : ByteArray) ++ Z).size = 1 + c := by rw [ByteArray.size_append, z1, z0]
  have z4 : (({ data := #[115] } : ByteArray) ++ Z ++ T).size = 1 + c + m := by rw [ByteArray.size_append, z3, hz]
  have hc8 : c ≤ 7 := by omega
  have hm8 : m ≤ 8 := by omega
  have HSS := Lib.hid HS
  clear hT hZ hR HS hm hc hn2
  go_wp2_with (go_at_call 114; refine HR.out.mono ?_; rintro e w2 ⟨rfl, c2⟩)
  go_ret
  exact ⟨by rw [HSS.out]; rfl, chain b1 c2⟩
theorem implSeg_any (n : Int) (w : World) (h : Tab64 w) : Calls Tryz.prog 63 #[.int .i64 n] w (PostT (segI n) w) := by
  by_cases hn : 0 ≤ n ∧ n ≤ 1000000000
  · obtain ⟨m, rfl⟩ := Int.eq_ofNat_of_zero_le hn.1
    rw [segI_in m (by omega)]
    exact implSeg_in m w (by omega) h
  · have HE := Lib.hid (segI_out n hn)
    clear h
    by_cases h0 : n < 0
    · clear hn
      go_enter Tryz.func63, Tryz.ntmps63
      go_wp2
      go_ret
      exact ⟨by rw [HE.out]; rfl, Below.refl _ _⟩
    · have h1 : (1000000000 : Int) < n := by omega
      clear hn
      go_enter Tryz.func63, Tryz.ntmps63
      go_wp2
      go_ret
      exact ⟨by rw [HE.out]; rfl, Below.refl _ _⟩
end Go.Proofs.YtiehfobcbhgfkaaGreatDoor.nam

namespace Go.Proofs.YtiehfobcbhgfkaaGreatDoor.nam
open Go.RowKit
open kit
open num

set_option maxRecDepth 1000000
/-- a byte with its sixth bit set -/
def lo (c : Nat) : Nat := (bits .or .u8 (c : Int) 32).toNat
theorem lo_is' : ∀ c : Fin 256, bits .or .u8 (c.val : Int) 32 = (lo c.val : Int) ∧ lo c.val < 256 := by decide +kernel
theorem lo_is (c : Nat) (h : c < 256) : bits .or .u8 (c : Int) 32 = (lo c : Int) ∧ lo c < 256 := lo_is' ⟨c, h⟩
/-- a figure's value, capitals too -/
def udig (c : Nat) : Option Nat := if 48 ≤ c ∧ c ≤ 57 then some (c - 48) else if 97 ≤ lo c ∧ lo c ≤ 102 then some (lo c - 87) else none
def ustep (o : Option Nat) (c : Nat) : Option Nat := o.bind fun v => (udig c).map fun d => 16 * v + d
def uvalF (o : Option Nat) (l : List Nat) : Option Nat := l.foldl ustep o
def uval (l : List Nat) : Option Nat := uvalF (some 0) l
theorem uvalF_none : ∀ l : List Nat, uvalF none l = none
  | [] => rfl
  | _ :: l => uvalF_none l
theorem lo_small' : ∀ c : Fin 256, 97 ≤ c.val → c.val ≤ 102 → lo c.val = c.val := by decide +kernel
theorem udig_hdig (c d : Nat) (h : hdig c = some d) : udig c = some d := by
  unfold hdig at h
  unfold udig
  split at h
  · rename_i h1
    rw [if_pos h1]; exact h
  · rename_i h1
    rw [if_neg h1]
    split at h
    · rename_i h2
      rw [lo_small' ⟨c, by omega⟩ h2.1 h2.2, if_pos h2]; exact h
    · cases h
theorem uval_hval (l : List Nat) : ∀ v, hval l = some v → uval l = some v := by
  have : ∀ (l : List Nat) (o : Option Nat) (v : Nat), l.foldl hstep o = some v → uvalF o l = some v := by
    intro l
    induction l with
    | nil => intro o v h; exact h
    | cons c r ih =>
      intro o v h
      rw [List.foldl_cons] at h
      have e : uvalF o (c :: r) = uvalF (ustep o c) r := rfl
      rw [e]
      cases hs : hstep o c with
      | none =>
        rw [hs] at h
        have hn : ∀ l : List Nat, l.foldl hstep none = none := by
          intro l
          induction l with
          | nil => rfl
          | cons c r ih => exact ih
        rw [hn] at h
        cases h
      | some x =>
        rw [hs] at h
        have : ustep o c = some x := by
          unfold hstep at hs
          unfold ustep
          cases o with
          | none => cases hs
          | some u =>
            rw [Option.bind_some] at hs ⊢
            cases hd : hdig c with
            | none => rw [hd] at hs; cases hs
            | some d => rw [udig_hdig c d hd]; rw [hd] at hs; exact hs
        rw [this]
        exact ih _ _ h
  exact this l (some 0)

/-- what ParseUint answers at base 16 -/
def puV : Option Nat → Value
  | none => .tuple #[.int .u64 0, .iface 212 (.int .i64 2)]
  | some n => .tuple #[.int .u64 (n : Int), .nilIface]

set_option maxHeartbeats 4000000 in
theorem parseUint16_any (s : ByteArray) (w : World) (h0 : 0 < s.size) (h8 : s.size ≤ 8) :
    Calls Tryz.prog 222 #[.string s, .int .i64 16, .int .i64 64] w fun e w' => e = .returned (puV (uval (nats s 0))) ∧ Below w.heap.size w w' := by
  have hemp := str_full h0
  have hcv := Lib.run_convert_string_bytes (P := Tryz.prog) w 9 22 5 s (u := .string) Tryz.underlying9 Tryz.underlying22 Tryz.underlying5
  have hB : ∀ j, (hj : j < s.size) → (Lib.bytesWorld w 5 s).cell? ⟨w.heap.size, j, none⟩ = some (.int .u8 s[j].toNat) := fun j hj => by
    rw [Lib.bytesWorld_cell w 5 s j hj, List.getD, List.getElem?_eq_getElem (show j < s.data.toList.length from hj)]
    rfl
  have hb1 : Below w.heap.size w (Lib.bytesWorld w 5 s) := Joins.below_bytesWorld _ _ _ _ (Nat.le_refl _)
  obtain ⟨W1, hW1⟩ : ∃ W1, W1 = Lib.bytesWorld w 5 s := ⟨_, rfl⟩
  rw [← hW1] at hcv hB hb1
  clear hW1
  have hmv : IntKind.u64.wrap (IntKind.u64.wrap 18446744073709551616 - 1) = 18446744073709551615 := by
    rw [IntKind.wrap_u64, IntKind.wrap_u64]
    decide
  go_enter Tryz.func222, Tryz.ntmps222
  go_wp2
  go_loop [12, 13, 101] (fun vu vn vi => ∃ (k acc : Nat) (a : Int), vu = .bool false ∧ vn = .int .u64 a ∧ vi = .int .i64 k ∧ k ≤ s.size ∧ Hid (a = (acc : Int) ∧ acc < 16 ^ k ∧ uval (nats s 0) = uvalF (some acc) ((nats s 0).drop k)))
    (fun _ _ vi => s.size - (intOf vi).toNat)
  case atStart => exact ⟨0, 0, 0, rfl, rfl, rfl, by omega, rfl, by omega, rfl⟩
  case round =>
    obtain ⟨k, acc, a, rfl, rfl, rfl, hk, hh⟩ := hrel
    obtain ⟨ha, hacc, hdec⟩ := hh.out
    clear hh
    have a0 : 0 ≤ a := by omega
    by_cases hkn : k < s.size
    · have hc := hB k hkn
      have hget : (nats s 0)[k]? = some s[k].toNat := by have := nats_get s 0 k (by omega); simpa using this
      have hdrop : (nats s 0).drop k = s[k].toNat :: (nats s 0).drop (k + 1) := by
        rw [List.drop_eq_getElem_cons (by rw [nats_length]; omega)]
        congr 1
        rw [List.getElem?_eq_getElem (by rw [nats_length]; omega)] at hget
        exact Option.some.inj hget
      rw [hdrop] at hdec
      have hc256 : s[k].toNat < 256 := s[k].toNat_lt
      generalize s[k].toNat = c at hc hdec hc256
      have hstep : uvalF (some acc) (c :: (nats s 0).drop (k + 1)) = uvalF (ustep (some acc) c) ((nats s 0).drop (k + 1)) := rfl
      rw [hstep] at hdec
      have hp : acc < 16 ^ 7 := Nat.lt_of_lt_of_le hacc (Nat.pow_le_pow_right (by decide) (by omega))
      rw [show (16 : Nat) ^ 7 = 268435456 by decide] at hp
      have a1 : a < 268435456 := by omega
      have hpk : ∀ d, d < 16 → 16 * acc + d < 16 ^ (k + 1) := fun d hd => by rw [Nat.pow_succ]; omega
      obtain ⟨hl, hl256⟩ := lo_is c hc256
      have hud : ∀ d, udig c = some d → uval (nats s 0) = uvalF (some (16 * acc + d)) ((nats s 0).drop (k + 1)) := fun d hd => by rw [hdec]; unfold ustep; rw [Option.bind_some, hd]; rfl
      have hun : udig c = none → puV (uval (nats s 0)) = puV none := fun hd => by rw [hdec]; unfold ustep; rw [Option.bind_some, hd]; simp only [Option.map_none]; rw [uvalF_none]
      clear hB hdrop hget hdec hstep hp
      by_cases hdig : 48 ≤ c ∧ c ≤ 57
      · obtain ⟨hd0, hd1⟩ := hdig
        have HN : Hid (a * 16 + ((c : Int) - 48) = ((16 * acc + (c - 48) : Nat) : Int) ∧ 16 * acc + (c - 48) < 16 ^ (k + 1) ∧ uval (nats s 0) = uvalF (some (16 * acc + (c - 48))) ((nats s 0).drop (k + 1))) := Lib.hid ⟨by omega, hpk _ (by omega), hud _ (if_pos ⟨hd0, hd1⟩)⟩
        clear hud hun hacc ha hpk hl
        go_wp2
        refine ⟨⟨k + 1, 16 * acc + (c - 48), a * 16 + ((c : Int) - 48), rfl, (by first | rfl | (congr 1; omega)), (by first | rfl | (congr 1; omega)), by omega, HN⟩, by simp [intOf]; omega⟩
      · obtain ⟨l, hll⟩ : ∃ l, lo c = l := ⟨_, rfl⟩
        rw [hll] at hl hl256
        by_cases h97 : 97 ≤ l ∧ l ≤ 102
        · have HN : Hid (a * 16 + ((l : Int) - 97 + 10) = ((16 * acc + (l - 87) : Nat) : Int) ∧ 16 * acc + (l - 87) < 16 ^ (k + 1) ∧ uval (nats s 0) = uvalF (some (16 * acc + (l - 87))) ((nats s 0).drop (k + 1))) := Lib.hid ⟨by omega, hpk _ (by omega), hud _ (by unfold udig; rw [if_neg hdig, hll, if_pos h97])⟩
          have h95 : c ≠ 95 := by
            rintro rfl
            have : lo 95 = 127 := by decide +kernel
            omega
          obtain ⟨hl0, hl1⟩ := h97
          clear hud hun hacc ha hpk hll
          go_wp2_with (go_at_call 236; go_in)
          all_goals refine ⟨⟨k + 1, 16 * acc + (l - 87), a * 16 + ((l : Int) - 97 + 10), rfl, (by first | rfl | (congr 1; omega)), (by first | rfl | (congr 1; omega)), by omega, HN⟩, by simp [intOf]; omega⟩
        · have HU := Lib.hid (hun (by unfold udig; rw [if_neg hdig, hll, if_neg h97]))
          clear hud hun hacc ha hpk
          have hu0 := bits_lo_u8 .or 95 32
          have hu1 := bits_hi_u8 .or 95 32
          go_wp2_with (go_at_call 236; go_in)
          all_goals go_ret2
          all_goals exact ⟨by rw [HU.out]; rfl, hb1⟩
    · obtain rfl : k = s.size := by omega
      have hF : puV (uval (nats s 0)) = puV (some acc) := by rw [hdec, List.drop_eq_nil_of_le (by rw [nats_length]; omega)]; rfl
      have HF := Lib.hid hF
      subst ha
      clear hacc hdec hF
      go_wp2
      go_ret2
      exact ⟨by rw [HF.out]; rfl, hb1⟩

end Go.Proofs.YtiehfobcbhgfkaaGreatDoor.nam

namespace Go.Proofs.YtiehfobcbhgfkaaGreatDoor.nam
open Go.RowKit
open kit
open num

set_option maxRecDepth 1000000
def piE : Value := .tuple #[.int .i64 0, .iface 212 (.int .i64 2)]
def piN (n : Int) : Value := .tuple #[.int .i64 n, .nilIface]
/-- what is known of ParseInt's answer -/
def PostI (s : ByteArray) (w : World) (e : Ending) (w' : World) : Prop :=
  ((e = .returned piE ∧ uval (nats s 0) = none) ∨ ∃ n : Int, e = .returned (piN n) ∧ -4294967296 < n ∧ n < 4294967296 ∧ ∀ v : Nat, uval (nats s 0) = some v → n = (v : Int)) ∧ Below w.heap.size w w'

theorem uvalF_lt (l : List Nat) : ∀ (u v k : Nat), u < 16 ^ k → uvalF (some u) l = some v → v < 16 ^ (k + l.length) := by
  induction l with
  | nil => intro u v k hu h; simp [uvalF] at h; subst h; simpa using hu
  | cons c r ih =>
    intro u v k hu h
    have e : uvalF (some u) (c :: r) = uvalF (ustep (some u) c) r := rfl
    rw [e] at h
    unfold ustep at h
    rw [Option.bind_some] at h
    cases hd : udig c with
    | none => rw [hd] at h; simp only [Option.map_none] at h; rw [uvalF_none] at h; cases h
    | some d =>
      have hd16 : d < 16 := by
        unfold udig at hd
        split at hd
        · simp at hd; omega
        · split at hd
          · simp at hd; omega
          · cases hd
      rw [hd] at h
      simp only [Option.map_some] at h
      have := ih _ _ (k + 1) (by rw [Nat.pow_succ]; omega) h
      rw [List.length_cons, show k + (r.length + 1) = k + 1 + r.length by omega]
      exact this
theorem uval_lt (s : ByteArray) (v : Nat) (h8 : s.size ≤ 8) (h : uval (nats s 0) = some v) : v < 4294967296 := by
  have := uvalF_lt _ 0 v 0 (by decide) h
  rw [nats_length] at this
  exact Nat.lt_of_lt_of_le this (by rw [show (4294967296 : Nat) = 16 ^ 8 by decide]; exact Nat.pow_le_pow_right (by decide) (by omega))

theorem synt_ne (W : World) : (binOp .neq 153 (.iface 212 (.int .i64 2)) (.iface 212 (.int .i64 1))).run Tryz.prog W = .ok (.bool true) W := by kernel_rfl

theorem sign_none (s : ByteArray) (c : Nat) (h0 : 0 < s.size) (hc : s[0].toNat = c) (h : udig c = none) : uval (nats s 0) = none := by
  have hget : (nats s 0)[0]? = some c := by have := nats_get s 0 0 (by omega); simpa [hc] using this
  cases hl : nats s 0 with
  | nil => rw [hl] at hget; cases hget
  | cons x r =>
    rw [hl] at hget
    obtain rfl : x = c := Option.some.inj hget
    have e : uval (x :: r) = uvalF (ustep (some 0) x) r := rfl
    rw [e]
    unfold ustep
    rw [Option.bind_some, h]
    exact uvalF_none r
set_option maxHeartbeats 4000000 in
theorem parseInt16_int (s : ByteArray) (w : World) (h8 : s.size = 8) :
    Calls Tryz.prog 193 #[.string s, .int .i64 16, .int .i64 64] w (PostI s w) := by
  have hemp := str_full (show 0 < s.size by omega)
  have hs0 : 0 < s.size := by omega
  have hsn := synt_ne
  obtain ⟨c, hc⟩ : ∃ c, s[0].toNat = c := ⟨_, rfl⟩
  by_cases h43 : c = 43
  · subst h43
    obtain ⟨t, ht⟩ : ∃ t, s.extract 1 8 = t := ⟨_, rfl⟩
    have ht7 : t.size = 7 := by rw [← ht, ByteArray.size_extract]; omega
    have HU := Lib.hid (parseUint16_any t w (by omega) (by omega))
    have HS := Lib.hid (sign_none s 43 hs0 hc (by decide +kernel))
    cases hv : uval (nats t 0) with
    | none =>
      have HU := Lib.hid (show Calls Tryz.prog 222 #[.string t, .int .i64 16, .int .i64 64] w fun e w' => e = .returned (.tuple #[.int .u64 0, .iface 212 (.int .i64 2)]) ∧ Below w.heap.size w w' by rw [hv] at HU; exact HU.out)
      clear hv
      go_enter Tryz.func193, Tryz.ntmps193
      go_wp2_with (go_at_call 222; refine HU.out.mono ?_; rintro e w1 ⟨rfl, b1⟩)
      go_ret2
      exact ⟨.inl ⟨rfl, HS.out⟩, b1⟩
    | some v =>
      obtain ⟨a, ha⟩ : ∃ a : Int, a = (v : Int) := ⟨_, rfl⟩
      have HU := Lib.hid (show Calls Tryz.prog 222 #[.string t, .int .i64 16, .int .i64 64] w fun e w' => e = .returned (.tuple #[.int .u64 a, .nilIface]) ∧ Below w.heap.size w w' by rw [hv] at HU; rw [ha]; exact HU.out)
      have hlt := uval_lt t v (by omega) hv
      have a0 : 0 ≤ a := by omega
      have a1 : a < 4294967296 := by omega
      have hng : IntKind.i64.wrap (-a) = -a := by rw [IntKind.wrap_i64]; omega
      clear hv ha hlt
      go_enter Tryz.func193, Tryz.ntmps193
      go_wp2_with (go_at_call 222; refine HU.out.mono ?_; rintro e w1 ⟨rfl, b1⟩)
      go_ret2
      refine ⟨.inr ⟨_, rfl, by omega, by omega, fun v' hv' => ?_⟩, b1⟩
      rw [HS.out] at hv'
      cases hv'
  · by_cases h45 : c = 45
    · subst h45
      obtain ⟨t, ht⟩ : ∃ t, s.extract 1 8 = t := ⟨_, rfl⟩
      have ht7 : t.size = 7 := by rw [← ht, ByteArray.size_extract]; omega
      have HU := Lib.hid (parseUint16_any t w (by omega) (by omega))
      have HS := Lib.hid (sign_none s 45 hs0 hc (by decide +kernel))
      cases hv : uval (nats t 0) with
      | none =>
        have HU := Lib.hid (show Calls Tryz.prog 222 #[.string t, .int .i64 16, .int .i64 64] w fun e w' => e = .returned (.tuple #[.int .u64 0, .iface 212 (.int .i64 2)]) ∧ Below w.heap.size w w' by rw [hv] at HU; exact HU.out)
        clear hv
        go_enter Tryz.func193, Tryz.ntmps193
        go_wp2_with (go_at_call 222; refine HU.out.mono ?_; rintro e w1 ⟨rfl, b1⟩)
        go_ret2
        exact ⟨.inl ⟨rfl, HS.out⟩, b1⟩
      | some v =>
        obtain ⟨a, ha⟩ : ∃ a : Int, a = (v : Int) := ⟨_, rfl⟩
        have HU := Lib.hid (show Calls Tryz.prog 222 #[.string t, .int .i64 16, .int .i64 64] w fun e w' => e = .returned (.tuple #[.int .u64 a, .nilIface]) ∧ Below w.heap.size w w' by rw [hv] at HU; rw [ha]; exact HU.out)
        have hlt := uval_lt t v (by omega) hv
        have a0 : 0 ≤ a := by omega
        have a1 : a < 4294967296 := by omega
        have hng : IntKind.i64.wrap (-a) = -a := by rw [IntKind.wrap_i64]; omega
        clear hv ha hlt
        go_enter Tryz.func193, Tryz.ntmps193
        go_wp2_with (go_at_call 222; refine HU.out.mono ?_; rintro e w1 ⟨rfl, b1⟩)
        go_ret2
        refine ⟨.inr ⟨_, rfl, by omega, by omega, fun v' hv' => ?_⟩, b1⟩
        rw [HS.out] at hv'
        cases hv'
    · have HU := Lib.hid (parseUint16_any s w hs0 (by omega))
      cases hv : uval (nats s 0) with
      | none =>
        have HU := Lib.hid (show Calls Tryz.prog 222 #[.string s, .int .i64 16, .int .i64 64] w fun e w' => e = .returned (.tuple #[.int .u64 0, .iface 212 (.int .i64 2)]) ∧ Below w.heap.size w w' by rw [hv] at HU; exact HU.out)
        have HE := Lib.hid hv
        clear hv
        go_enter Tryz.func193, Tryz.ntmps193
        go_wp2_with (go_at_call 222; refine HU.out.mono ?_; rintro e w1 ⟨rfl, b1⟩)
        go_ret2
        exact ⟨.inl ⟨rfl, HE.out⟩, b1⟩
      | some v =>
        obtain ⟨a, ha⟩ : ∃ a : Int, a = (v : Int) := ⟨_, rfl⟩
        have HU := Lib.hid (show Calls Tryz.prog 222 #[.string s, .int .i64 16, .int .i64 64] w fun e w' => e = .returned (.tuple #[.int .u64 a, .nilIface]) ∧ Below w.heap.size w w' by rw [hv] at HU; rw [ha]; exact HU.out)
        have hlt := uval_lt s v (by omega) hv
        have a0 : 0 ≤ a := by omega
        have a1 : a < 4294967296 := by omega
        have HE := Lib.hid (And.intro hv ha)
        clear hv ha hlt
        go_enter Tryz.func193, Tryz.ntmps193
        go_wp2_with (go_at_call 222; refine HU.out.mono ?_; rintro e w1 ⟨rfl, b1⟩)
        go_ret2
        refine ⟨.inr ⟨a, rfl, by omega, by omega, fun v' hv' => ?_⟩, b1⟩
        obtain ⟨q1, q2⟩ := HE.out
        rw [q1] at hv'
        injection hv' with hv'
        omega

end Go.Proofs.YtiehfobcbhgfkaaGreatDoor.nam

namespace Go.Proofs.YtiehfobcbhgfkaaGreatDoor.nam
open Go.RowKit
open kit
open num

set_option maxRecDepth 1000000
def Synt (w : World) : Prop := ∃ te pe, w.cell? ⟨1, 0, none⟩ = some (.iface te pe)
theorem synt_below {W W' : World} (h : Synt W) (hb : Below W.heap.size W W') : Synt W' := by
  obtain ⟨te, pe, hc⟩ := h
  exact ⟨te, pe, by rw [hb.cell (p := ⟨1, 0, none⟩) (World.block_lt_of_cell? W _ hc)]; exact hc⟩
/-- what is known of the public ParseInt's answer -/
def PostP (s : ByteArray) (w : World) (e : Ending) (w' : World) : Prop :=
  ((∃ N, e = .returned (.tuple #[.int .i64 0, .iface 215 (.pointer (some ⟨N, 0, none⟩))]) ∧ uval (nats s 0) = none) ∨ ∃ n : Int, e = .returned (.tuple #[.int .i64 n, .nilIface]) ∧ -4294967296 < n ∧ n < 4294967296 ∧ ∀ v : Nat, uval (nats s 0) = some v → n = (v : Int)) ∧ Below w.heap.size w w'
theorem parseInt16_any (s : ByteArray) (w : World) (h8 : s.size = 8) (h : Synt w) :
    Calls Tryz.prog 153 #[.string s, .int .i64 16, .int .i64 64] w (PostP s w) := by
  have HP := Lib.hid (parseInt16_int s w h8)
  have HS := Lib.hid h
  clear h
  go_enter Tryz.func153, Tryz.ntmps153
  go_wp2_with fail
  refine HP.out.mono ?_
  rintro e w1 ⟨⟨rfl, hn⟩ | ⟨n, rfl, h1, h2, h3⟩, b1⟩
  · have HN := Lib.hid hn
    clear hn
    unfold piE
    go_wp2_with (go_at_call 194; obtain ⟨te, pe, hc⟩ := synt_below HS.out b1; refine (Tryz.strconv_toError_syntax _ s 16 64 _ w1 (by omega) hc (.inr ⟨te, pe, rfl⟩)).mono ?_; rintro e w2 ⟨N, rfl, _, _, c2⟩)
    go_ret2
    exact ⟨.inl ⟨N, rfl, HN.out⟩, chain b1 c2⟩
  · unfold piN
    have H3 := Lib.hid h3
    clear h3
    go_wp2
    go_ret2
    exact ⟨.inr ⟨n, rfl, h1, h2, H3.out⟩, b1⟩

/-- what segmentBase answers -/
def PostB (b : ByteArray) (w : World) (e : Ending) (w' : World) : Prop :=
  ((∃ n : Nat, n ≤ 1000000000 ∧ seg n = b ∧ e = .returned (.tuple #[.int .i64 (n : Int), .bool true])) ∨ ((∀ n : Nat, n ≤ 1000000000 → seg n ≠ b) ∧ e = .returned (.tuple #[.int .i64 0, .bool false]))) ∧ Below w.heap.size w w'
theorem seg_cut (n : Nat) (b : ByteArray) (hn : n ≤ 1000000000) (h : seg n = b) : uval (nats (b.extract 1 9) 0) = some n := by
  have e8 : (16 : Nat) ^ 8 = 4294967296 := by decide
  rw [show b.extract 1 9 = b.extract 1 (1 + 8) from rfl, nats_extract, ← h, seg_digits]
  exact uval_hval _ _ (hval_hexd 8 n (by omega))
theorem segBase_any (b : ByteArray) (w : World) (hb : b.size ≤ 1048576) (h64 : Tab64 w) (hs : Synt w) :
    Calls Tryz.prog 106 #[.string b] w (PostB b w) := by
  by_cases h13 : b.size = 13
  · obtain ⟨t, ht⟩ : ∃ t, b.extract 1 9 = t := ⟨_, rfl⟩
    have ht8 : t.size = 8 := by rw [← ht, ByteArray.size_extract]; omega
    have HP := Lib.hid (parseInt16_any t w ht8 hs)
    have HC := Lib.hid (fun (n : Nat) (hn : n ≤ 1000000000) (h : seg n = b) => (by have := seg_cut n b hn h; rwa [ht] at this : uval (nats t 0) = some n))
    have H64 := Lib.hid h64
    clear h64 hs
    go_enter Tryz.func106, Tryz.ntmps106
    go_wp2_with fail
    refine HP.out.mono ?_
    rintro e w1 ⟨⟨N, rfl, hn⟩ | ⟨n, rfl, h1, h2, h3⟩, b1⟩
    · have HN := Lib.hid hn
      clear hn
      go_wp2
      go_ret2
      refine ⟨.inr ⟨fun n hn h => ?_, rfl⟩, b1⟩
      have := HC.out n hn h
      rw [HN.out] at this
      cases this
    · have H3 := Lib.hid h3
      clear h3
      obtain ⟨S, hS⟩ : ∃ S, segI n = S := ⟨_, rfl⟩
      have HS := Lib.hid hS
      have HQ := Lib.hid (implSeg_any n w1 (tab64_below H64.out b1))
      rw [hS] at HQ
      clear hS
      by_cases hSb : S = b
      · subst hSb
        have hn : 0 ≤ n ∧ n ≤ 1000000000 := by
          by_cases hn : 0 ≤ n ∧ n ≤ 1000000000
          · exact hn
          · have := HS.out
            rw [segI_out n hn] at this
            rw [← this] at h13
            cases h13
        obtain ⟨m, rfl⟩ := Int.eq_ofNat_of_zero_le hn.1
        go_wp2_with (go_at_call 63; refine HQ.out.mono ?_; rintro e w2 ⟨rfl, c2⟩)
        go_ret2
        exact ⟨.inl ⟨m, by omega, by rw [← HS.out, segI_in m (by omega)], rfl⟩, chain b1 c2⟩
      · have hne := str_ne hSb
        have HB := Lib.hid hSb
        clear hSb
        go_wp2_with (go_at_call 63; refine HQ.out.mono ?_; rintro e w2 ⟨rfl, c2⟩)
        go_ret2
        refine ⟨.inr ⟨fun m hm h => ?_, rfl⟩, chain b1 c2⟩
        have e := H3.out m (HC.out m hm h)
        subst e
        exact HB.out (by rw [← HS.out, segI_in m hm, h])
  · clear h64 hs
    have HN := Lib.hid (fun (n : Nat) (h : seg n = b) => h13 (by rw [← h, seg_size]))
    have hne : ¬ (b.size : Int) = 13 := by omega
    go_enter Tryz.func106, Tryz.ntmps106
    go_wp2
    go_ret2
    exact ⟨.inr ⟨fun n _ h => HN.out n h, rfl⟩, Below.refl _ _⟩

end Go.Proofs.YtiehfobcbhgfkaaGreatDoor.nam

namespace Go.Proofs.YtiehfobcbhgfkaaGreatDoor.nam
open Go.RowKit
open kit
open num

set_option maxRecDepth 1000000
def tmpB : ByteArray := { data := #[46, 116, 109, 112] }
theorem seg_no_suffix (n : Nat) : Lib.hasSuffix (seg n).data.toList tmpB.data.toList = false := by
  cases h : Lib.hasSuffix (seg n).data.toList tmpB.data.toList with
  | false => rfl
  | true =>
    exfalso
    obtain ⟨l, hl⟩ := List.isSuffixOf_iff_suffix.1 (show tmpB.data.toList.isSuffixOf (seg n).data.toList = true from h)
    have h1 : (seg n).data.toList.getLast? = some 112 := by rw [← hl, List.getLast?_append]; rfl
    have h2 : (seg n).data.toList.getLast? = some 103 := by
      have e : seg n = txt ([115] ++ hexd 8 n) ++ txt [46, 115, 101, 103] := by unfold seg; rw [txt_append]
      have e2 : (seg n).data.toList = (txt ([115] ++ hexd 8 n)).data.toList ++ [46, 115, 101, 103] := by
        rw [e]
        simp [ByteArray.data_append]
        rfl
      rw [e2, List.getLast?_append]
      rfl
    rw [h1] at h2
    cases h2
theorem tmp_suffix (t : ByteArray) : Lib.hasSuffix (t ++ tmpB).data.toList tmpB.data.toList = true := by
  show tmpB.data.toList.isSuffixOf _ = true
  rw [List.isSuffixOf_iff_suffix]
  exact ⟨t.data.toList, by simp [ByteArray.data_append]⟩
theorem suffix_split (b : ByteArray) (h : Lib.hasSuffix b.data.toList tmpB.data.toList = true) : ∃ t : ByteArray, b = t ++ tmpB ∧ (⟨(Lib.trimSuffix b.data.toList tmpB.data.toList).toArray⟩ : ByteArray) = t := by
  obtain ⟨l, hl⟩ := List.isSuffixOf_iff_suffix.1 (show tmpB.data.toList.isSuffixOf b.data.toList = true from h)
  refine ⟨⟨l.toArray⟩, ?_, ?_⟩
  · apply ByteArray.ext
    apply Array.ext'
    rw [← hl]
    simp [ByteArray.data_append]
  · unfold Lib.trimSuffix
    rw [if_pos h, ← hl]
    simp
theorem append_tmp_inj {s t : ByteArray} (h : s ++ tmpB = t ++ tmpB) : s = t := by
  have e : s.data.toList ++ tmpB.data.toList = t.data.toList ++ tmpB.data.toList := by
    have := congrArg (fun x : ByteArray => x.data.toList) h
    simpa [ByteArray.data_append] using this
  apply ByteArray.ext
  apply Array.ext'
  exact List.append_cancel_right e

theorem implRead_any (b : ByteArray) (w : World) (hb : b.size ≤ 1048576) (h64 : Tab64 w) (hs : Synt w) :
    Calls Tryz.prog 57 #[.string b] w (PostR (rnV b) w) := by
  cases hx : Lib.hasSuffix b.data.toList tmpB.data.toList with
  | true =>
    obtain ⟨t, hbt, htr⟩ := suffix_split b hx
    have htz : t.size ≤ 1048576 := by
      have := congrArg ByteArray.size hbt
      rw [ByteArray.size_append] at this
      omega
    have hC : Calls Tryz.prog 105 #[.string b, .string { data := #[46, 116, 109, 112] }] w fun e w' => e = .returned (.tuple #[.string t, .bool true]) ∧ w = w' :=
      (Tryz.strings_CutSuffix b tmpB w (by omega)).mono fun e w' ⟨h1, h2⟩ => ⟨by rw [h1, htr, hx], h2.symm⟩
    have HC := Lib.hid hC
    have HP := Lib.hid (segBase_any t w htz h64 hs)
    have HT := Lib.hid hbt
    clear hC h64 hs htr hx hbt
    go_enter Tryz.func57, Tryz.ntmps57
    go_wp2_with fail
    refine HC.out.mono ?_
    rintro e w1 ⟨rfl, rfl⟩
    go_wp2_with fail
    refine HP.out.mono ?_
    rintro e w2 ⟨⟨n, hn, hsg, rfl⟩ | ⟨hno, rfl⟩, b2⟩
    · have HR := Lib.hid (show rnV b = .tuple #[.int .i64 2, .int .i64 (n : Int)] by
        have e : rn b = (2, (n : Int)) := by
          rw [← rn_of_tmp n hn, tmpI_in n hn, hsg, HT.out]
          rfl
        unfold rnV
        rw [e])
      clear hsg
      go_wp2
      go_ret2
      exact ⟨by rw [HR.out]; rfl, b2⟩
    · have HR := Lib.hid (show rnV b = .tuple #[.int .i64 0, .int .i64 0] by
        have e : rn b = (0, 0) := by
          refine rn_none b fun n hn => ⟨?_, ?_⟩
          · rw [segI_in n hn]
            intro h
            have h1 := seg_no_suffix n
            rw [h, HT.out, tmp_suffix] at h1
            cases h1
          · rw [tmpI_in n hn]
            intro h
            exact hno n hn (append_tmp_inj (h.trans HT.out))
        unfold rnV
        rw [e])
      clear hno
      go_wp2
      go_ret2
      exact ⟨by rw [HR.out]; rfl, b2⟩
  | false =>
    have hC : Calls Tryz.prog 105 #[.string b, .string { data := #[46, 116, 109, 112] }] w fun e w' => e = .returned (.tuple #[.string b, .bool false]) ∧ w = w' :=
      (Tryz.strings_CutSuffix b tmpB w (by omega)).mono fun e w' ⟨h1, h2⟩ => ⟨by rw [h1, hx]; unfold Lib.trimSuffix; rw [if_neg (by rw [hx]; decide)], h2.symm⟩
    have HC := Lib.hid hC
    have HP := Lib.hid (segBase_any b w hb h64 hs)
    have HX := Lib.hid hx
    clear hC h64 hs hx
    go_enter Tryz.func57, Tryz.ntmps57
    go_wp2_with fail
    refine HC.out.mono ?_
    rintro e w1 ⟨rfl, rfl⟩
    go_wp2_with fail
    refine HP.out.mono ?_
    rintro e w2 ⟨⟨n, hn, hsg, rfl⟩ | ⟨hno, rfl⟩, b2⟩
    · have HR := Lib.hid (show rnV b = .tuple #[.int .i64 1, .int .i64 (n : Int)] by
        have e : rn b = (1, (n : Int)) := by
          rw [← rn_of_seg n hn, segI_in n hn, hsg]
        unfold rnV
        rw [e])
      clear hsg
      go_wp2
      go_ret2
      exact ⟨by rw [HR.out]; rfl, b2⟩
    · have HR := Lib.hid (show rnV b = .tuple #[.int .i64 0, .int .i64 0] by
        have e : rn b = (0, 0) := by
          refine rn_none b fun n hn => ⟨?_, ?_⟩
          · rw [segI_in n hn]
            exact hno n hn
          · rw [tmpI_in n hn]
            intro h
            have h1 := HX.out
            rw [← h] at h1
            rw [show seg n ++ ({ data := #[46, 116, 109, 112] } : ByteArray) = seg n ++ tmpB from rfl, tmp_suffix] at h1
            cases h1
        unfold rnV
        rw [e])
      clear hno
      go_wp2
      go_ret2
      exact ⟨by rw [HR.out]; rfl, b2⟩

end Go.Proofs.YtiehfobcbhgfkaaGreatDoor.nam
