/-
  Contracts of impl.VarSize, impl.VarText, impl.ReadVar (the landed code's).
-/
import Derived.Test.YtiehfobcbhgfkaaGreatDoorNumX
import Derived.Test.YtiehfobcbhgfkaaGreatDoorSumX
namespace Go.Proofs.YtiehfobcbhgfkaaGreatDoor.num
set_option maxRecDepth 20000
open Go.RowKit
open kit

/-! ### plain facts -/
theorem vb_front (k n : Nat) (h : n < 128 ^ (k + 1)) : (∀ i, i + 1 < (vb k n).length → (vb k n)[i]? = some (n / 128 ^ i % 128 + 128)) ∧ (vb k n)[(vb k n).length - 1]? = some (n / 128 ^ ((vb k n).length - 1)) ∧ n / 128 ^ ((vb k n).length - 1) < 128 := by
  induction k generalizing n with
  | zero =>
    rw [vb_low 0 n (by simpa using h)]
    exact ⟨fun i hi => by simp at hi, by simp, by simpa using h⟩
  | succ k ih =>
    by_cases hn : n < 128
    · rw [vb_low _ n hn]
      exact ⟨fun i hi => by simp at hi, by simp, by simpa using hn⟩
    · obtain ⟨h1, h2, h3⟩ := ih (n / 128) (by rw [Nat.pow_succ] at h; omega)
      have hp := vb_length_pos k (n / 128)
      have e : ∀ i, n / 128 / 128 ^ i = n / 128 ^ (i + 1) := fun i => by rw [Nat.div_div_eq_div_mul, Nat.mul_comm, ← Nat.pow_succ]
      rw [vb_high k n hn, List.length_cons]
      obtain ⟨L, hL⟩ : ∃ L, (vb k (n / 128)).length = L + 1 := ⟨(vb k (n / 128)).length - 1, by omega⟩
      rw [hL] at h1 h2 h3 ⊢
      rw [show L + 1 + 1 - 1 = L + 1 by omega]
      rw [show L + 1 - 1 = L by omega] at h2 h3
      rw [e] at h2 h3
      refine ⟨fun i hi => ?_, by simpa using h2, h3⟩
      cases i with
      | zero => simp
      | succ i => rw [← e]; simpa using h1 i (by omega)
theorem vb_made (n L : Nat) (h : n ≤ 1000000000) (hL : (vb 4 n).length = L) (ys : List Int) (hy : ys.length = L) (hg : ∀ i, i < L → ys[i]? = some ((n / 128 ^ i % 128 + 128 : Nat) : Int)) :
    strOfNums (ys.set (L - 1) ((n / 128 ^ (L - 1) % 128 : Nat) : Int)) = vt n := by
  obtain ⟨h1, h2, h3⟩ := vb_front 4 n (lt128 h)
  have hp := vb_length_pos 4 n
  rw [hL] at h1 h2 h3 hp
  have e : ys.set (L - 1) ((n / 128 ^ (L - 1) % 128 : Nat) : Int) = (vb 4 n).map fun (c : Nat) => (c : Int) := by
    apply List.ext_getElem?
    intro i
    rw [List.getElem?_map, List.getElem?_set]
    by_cases hi : i + 1 < L
    · rw [if_neg (by omega), hg i (by omega), h1 i hi]
      rfl
    · by_cases hi2 : i = L - 1
      · rw [if_pos hi2.symm, if_pos (by omega), hi2, h2, Nat.mod_eq_of_lt h3]
        rfl
      · rw [if_neg (fun e => hi2 e.symm), List.getElem?_eq_none (by omega), List.getElem?_eq_none (by omega)]
        rfl
  rw [e, txt_nums]
  rfl
theorem set_pre (g : Nat → Int) (ys : List Int) (k L : Nat) (hl : ys.length = L) (hk : k < L) (h : ∀ i, i < k → ys[i]? = some (g i)) : ∀ i, i < k + 1 → (ys.set k (g k))[i]? = some (g i) := by
  intro i hi
  rw [List.getElem?_set]
  by_cases hik : k = i
  · rw [if_pos hik, if_pos (by omega), hik]
  · rw [if_neg hik]
    exact h i (by omega)
theorem or8u' : ∀ a : Fin 256, bits BinOp.or IntKind.u8 (a.val : Int) 128 = ((a.val % 128 + 128 : Nat) : Int) := by decide +kernel
theorem or8u (a : Nat) (h : a < 256) : bits BinOp.or IntKind.u8 (a : Int) 128 = ((a % 128 + 128 : Nat) : Int) := or8u' ⟨a, h⟩
theorem shr7 (n i : Nat) (hi : i < 5) : Op.shift .shr .i64 (n : Int) .i64 ((7 * i : Nat) : Int) = pure (.int .i64 ((n / 128 ^ i : Nat) : Int)) := by
  rw [shift_shr .i64 .i64 (n : Int) ((7 * i : Nat) : Int) (by omega) (by show _ ≤ (64 : Int); omega), Int.toNat_natCast, ← pow7]
  push_cast
  rfl
theorem shl7i (s i : Nat) (hs : s < 128) (hi : i < 5) : Op.shift .shl .i64 (s : Int) .i64 ((7 * i : Nat) : Int) = pure (.int .i64 ((128 ^ i * s : Nat) : Int)) := by
  rw [shift_shl .i64 .i64 (s : Int) ((7 * i : Nat) : Int) (by omega) (by show _ ≤ (64 : Int); omega), Int.toNat_natCast]
  have hp := pow_le5 hi
  have e : (s : Int) * 2 ^ (7 * i) = ((128 ^ i * s : Nat) : Int) := by
    rw [← pow7]
    push_cast
    exact Int.mul_comm _ _
  have hl : 128 ^ i * s ≤ 268435456 * 127 := Nat.mul_le_mul hp (by omega)
  rw [e, wrap64 _ (by omega)]

/-! ### impl.VarSize -/
set_option maxRecDepth 20000 in
theorem implSize_in (n : Nat) (w : World) (hn : n ≤ 1000000000) :
    Calls Tryz.prog 268 #[.int .i64 n] w fun e w' => e = .returned (.int .i64 (((vb 4 n).length : Nat) : Int)) ∧ w = w' := by
  have HN := Lib.hid (lt128 hn)
  obtain ⟨L, hL⟩ : ∃ L, (vb 4 n).length = L := ⟨_, rfl⟩
  rw [hL]
  have HL := Lib.hid hL
  clear hL
  go_enter Tryz.func268, Tryz.ntmps268
  go_wp2
  go_loopw [0, 3] (fun x v wr => ∃ (k z s : Nat), x = .int .i64 z ∧ v = .int .i64 s ∧ z ≤ 1000000000 ∧ s + k = 5 ∧ z < 128 ^ (k + 1) ∧ L + 1 = s + (vb k z).length ∧ wr = w) (fun x _ _ => (intOf x).toNat)
  case atStart => exact ⟨4, n, 1, rfl, rfl, hn, rfl, HN.out, by rw [HL.out]; omega, rfl⟩
  case round =>
    obtain ⟨k, z, s, rfl, rfl, hz, hs, hk, hl, rfl⟩ := hrel
    by_cases hlt : z < 128
    · rw [vb_low k z hlt] at hl
      have hl2 : L = s := by simpa using hl
      clear hl hk
      go_wp2
      go_ret
      subst hl2
      exact ⟨rfl, rfl⟩
    · obtain ⟨j, rfl⟩ : ∃ j, k = j + 1 := by
        cases k with
        | zero => simp at hk; omega
        | succ j => exact ⟨j, rfl⟩
      have HJ := Lib.hid (show z / 128 < 128 ^ (j + 1) by rw [Nat.pow_succ] at hk; omega)
      have HS := Lib.hid (show L + 1 = (s + 1) + (vb j (z / 128)).length by rw [vb_high j z (by omega)] at hl; simp at hl; omega)
      clear hl hk
      go_wp2
      go_roundw
      case rel => exact ⟨j, z / 128, s + 1, by go_num, by go_num, by omega, by omega, HJ.out, HS.out, trivial⟩
      case measure => simp [intOf]; omega
theorem implSize_out (n : Int) (w : World) (h : ¬ (0 ≤ n ∧ n ≤ 1000000000)) :
    Calls Tryz.prog 268 #[.int .i64 n] w fun e w' => e = .returned (.int .i64 0) ∧ w = w' := by
  by_cases h1 : n < 0
  · clear h
    go_enter Tryz.func268, Tryz.ntmps268
    go_wp2
    go_ret
    exact ⟨rfl, rfl⟩
  · have h2 : 1000000000 < n := by omega
    clear h
    go_enter Tryz.func268, Tryz.ntmps268
    go_wp2
    go_ret
    exact ⟨rfl, rfl⟩
/-! ### impl.VarText -/
set_option maxHeartbeats 400000 in
theorem implVar_in (n : Nat) (w : World) (hn : n ≤ 1000000000) :
    Calls Tryz.prog 266 #[.int .i64 n] w (PostT (vt n) w) := by
  obtain ⟨i0, hi, hz0, hz1, hz2⟩ := info_parts Tryz.infoU8
  have hp := vb_length_pos 4 n
  have h5 := vb_length 4 n
  have HI := Lib.hid (implSize_in n w hn)
  obtain ⟨L, hL⟩ : ∃ L, (vb 4 n).length = L := ⟨_, rfl⟩
  rw [hL] at hp h5 HI
  have HM := Lib.hid (vb_made n L hn hL)
  have HF := Lib.hid (show n / 128 ^ (L - 1) < 128 by have := (vb_front 4 n (lt128 hn)).2.2; rw [hL] at this; exact this)
  clear hL
  go_enter Tryz.func266, Tryz.ntmps266
  go_wp2_with fail
  refine (HI.out).mono ?_
  rintro e w' ⟨rfl, rfl⟩
  have hL0 : ¬ (L : Int) = 0 := by omega
  go_wp2_with (refine wpList_make_full _ (by rfl) _ _ 22 (by rfl) w.heap.size 5 i0 (.int .u8 0) 1 Tryz.underlying22 hi hz0 hz1 .i64 .i64 _ _ L (by rfl) (by rfl) ?_ ?_ ?_ ?_ ?_ ?_; omega; omega; (rw [hz2]; omega); (unfold maxLen; omega); exact Nat.le_refl _; intro w1 hown1 hg1)
  have hb1 : Below w.heap.size w w1 := (Below.refl _ _).grown hg1 (Nat.le_refl _) (fun k hk => by cases hk)
  have hown2 : w1.ownsRow w.heap.size 5 1 (.slice (some ⟨w.heap.size, 0, none⟩) L L) L ((List.replicate L (0 : Int)).map (Value.int .u8)) := by
    rw [show (Value.int IntKind.u8 0).cells = #[.int .u8 0] from rfl, toList_madeCells_one] at hown1
    simpa using hown1
  clear hown1
  go_loopw [13] (fun i wr => ∃ (k : Nat) (ys : List Int), k ≤ L ∧ i = .int .i64 k ∧ ys.length = L ∧ (∀ i, i < k → ys[i]? = some ((n / 128 ^ i % 128 + 128 : Nat) : Int)) ∧ wr.ownsRow w.heap.size 5 1 (.slice (some ⟨w.heap.size, 0, none⟩) L L) L (ys.map (Value.int .u8)) ∧ Below w.heap.size w wr) (fun i _ => L - (intOf i).toNat)
  case atStart => exact ⟨0, _, Nat.zero_le _, rfl, by simp, fun i hi => by omega, hown2, hb1⟩
  case round =>
    obtain ⟨k, ys, hk, rfl, hy, hg, hown, hb⟩ := hrel
    have HY := Lib.hid hy
    have HG := Lib.hid hg
    clear hown2 hg
    by_cases hlt : k < L
    · obtain ⟨u, hcell⟩ : ∃ u, wr.cell? ⟨w.heap.size, k, none⟩ = some u := by
        rw [hown.cellAt k (by omega)]
        exact ⟨_, List.getElem?_eq_getElem (by rw [List.length_map, hy]; exact hlt)⟩
      have hfrz := hown.frozenAt k
      have HP := Lib.hid (set_pre (fun i => ((n / 128 ^ i % 128 + 128 : Nat) : Int)) ys k L hy hlt HG.out)
      have hsh := shr7 n k (by omega)
      obtain ⟨z, hz⟩ : ∃ z, n / 128 ^ k = z := ⟨_, rfl⟩
      have HZ := Lib.hid hz
      have h3 : IntKind.u8.wrap (z : Int) = ((z % 256 : Nat) : Int) := by rw [IntKind.wrap_u8]; omega
      have hor := or8u (z % 256) (by omega)
      obtain ⟨c, hc⟩ : ∃ c, z % 256 % 128 + 128 = c := ⟨_, rfl⟩
      have HC := Lib.hid (show n / 128 ^ k % 128 + 128 = c by rw [hz]; omega)
      obtain ⟨y, hy2⟩ : ∃ y, z % 256 = y := ⟨_, rfl⟩
      obtain ⟨q, hq⟩ : ∃ q, 7 * k = q := ⟨_, rfl⟩
      rw [hc, hy2] at hor
      rw [hy2] at h3
      have hdv : (n : Int) / 2 ^ q = (z : Int) := by
        rw [← hq, ← hz, ← pow7]
        push_cast
        rfl
      rw [hz, hq] at hsh
      have h7 : (7 * (k : Int)) = (q : Int) := by omega
      have h7w : IntKind.i64.wrap (7 * (k : Int)) = (q : Int) := by rw [IntKind.wrap_i64]; omega
      clear hy hz hc hy2 hq
      go_wp2
      have hst := hown.stored k (.int .u8 (c : Int))
      go_roundw
      case rel =>
        refine ⟨k + 1, ys.set k (c : Int), by omega, by go_num, by rw [List.length_set]; exact HY.out, by have := HP.out; rw [HC.out] at this; exact this, ?_, hb.setCell (Nat.le_refl _) _⟩
        rw [← List.map_set] at hst
        exact hst.1
      case measure => simp [intOf]; omega
    · obtain rfl : k = L := by omega
      have hM := HM.out ys hy HG.out
      have hF := HF.out
      obtain ⟨j, rfl⟩ : ∃ j, k = j + 1 := ⟨k - 1, by omega⟩
      rw [show j + 1 - 1 = j by omega] at hM hF
      have hgj := HG.out j (by omega)
      obtain ⟨c, hc⟩ : ∃ c, n / 128 ^ j = c := ⟨_, rfl⟩
      rw [hc] at hgj hM hF
      rw [Nat.mod_eq_of_lt hF] at hgj hM
      have HMM := Lib.hid hM
      have hcell : wr.cell? ⟨w.heap.size, j, none⟩ = some (.int .u8 ((c + 128 : Nat) : Int)) := by
        rw [hown.cellAt j (by omega), List.getElem?_map, hgj]
        rfl
      have hfrz := hown.frozenAt j
      have hj2 : ((j + 1 : Nat) : Int) - 1 = (j : Int) := by omega
      have hst := (hown.stored j (.int .u8 (c : Int))).1
      rw [← List.map_set] at hst
      have hcv := conv_own (xs := ys.set j (c : Int)) Tryz.underlying22 Tryz.underlying5 hst
      rw [HMM.out] at hcv
      obtain ⟨d, hd⟩ : ∃ d, c + 128 = d := ⟨_, rfl⟩
      have hsub : IntKind.u8.wrap ((d : Int) - 128) = (c : Int) := by rw [IntKind.wrap_u8]; omega
      rw [hd] at hcell
      clear hM hgj hc hy hd HI
      go_wp2
      go_ret
      exact ⟨rfl, hb.setCell (Nat.le_refl _) _⟩
theorem implVar_out (n : Int) (w : World) (h : ¬ (0 ≤ n ∧ n ≤ 1000000000)) :
    Calls Tryz.prog 266 #[.int .i64 n] w (PostT { data := #[] } w) := by
  go_enter Tryz.func266, Tryz.ntmps266
  go_wp2_with fail
  refine (implSize_out n w h).mono ?_
  rintro e w' ⟨rfl, rfl⟩
  go_wp2
  go_ret
  exact ⟨rfl, Below.refl _ _⟩
theorem implVar_any (n : Int) (w : World) : Calls Tryz.prog 266 #[.int .i64 n] w (PostT (vtI n) w) := by
  by_cases h : 0 ≤ n ∧ n ≤ 1000000000
  · obtain ⟨m, rfl⟩ := Int.eq_ofNat_of_zero_le h.1
    rw [vtI_in m (by omega)]
    exact implVar_in m w (by omega)
  · rw [vtI_out n h]
    exact implVar_out n w h

end Go.Proofs.YtiehfobcbhgfkaaGreatDoor.num

namespace Go.Proofs.YtiehfobcbhgfkaaGreatDoor.num
set_option maxRecDepth 20000
open Go.RowKit
open kit

/-! ### impl.ReadVar -/
set_option maxHeartbeats 400000 in
set_option maxRecDepth 20000 in
theorem implRead_in (b : ByteArray) (a : Nat) (w : World) (hm : b.size ≤ 1048576) (ha : a < b.size) :
    Calls Tryz.prog 267 #[.string b, .int .i64 a] w fun e w' => e = .returned (rvAt b a) ∧ w = w' := by
  obtain ⟨M, hM1, hM2⟩ : ∃ M : Nat, M ≤ 5 ∧ a + M ≤ b.size ∧ (M = 5 ∨ a + M = b.size) := ⟨(min ((b.size : Int) - (a : Int)) 5).toNat, by omega, by omega, by omega⟩
  obtain ⟨hM2, hM3⟩ := hM2
  have hna : ¬ b.size ≤ a := by omega
  have hn0 : ¬ (a : Int) < 0 := by omega
  rcases Int.lt_or_le 5 ((b.size : Int) - (a : Int)) with h | h
  all_goals
    go_enter Tryz.func267, Tryz.ntmps267
    go_wp2
    go_loopw [7, 23] (fun x v wr => ∃ (i z : Nat), x = .int .i64 z ∧ v = .int .i64 i ∧ i ≤ M ∧ Gone (nats b a) i z ∧ wr = w) (fun _ v _ => 5 - (intOf v).toNat)
    case atStart => exact ⟨0, 0, rfl, rfl, by omega, gone_zero _, rfl⟩
    case round =>
      obtain ⟨i, z, rfl, rfl, hi, hg, rfl⟩ := hrel
      by_cases hlt : i < M
      · have h5 : i < 5 := by omega
        have hin : a + i < b.size := by omega
        have hc : b[a + i].toNat < 256 := b[a + i].toNat_lt
        have hget := nats_get b a i hin
        have hzi := hg.1
        obtain ⟨c, hcc⟩ : ∃ c, b[a + i].toNat = c := ⟨_, rfl⟩
        rw [hcc] at hc hget
        have hsh := shl7i (c % 128) i (by omega) h5
        have hor := or7 i z (c % 128) hzi (by omega) h5
        have HN := Lib.hid (gone_next hg h5 hget)
        have HS := Lib.hid (gone_stop hg h5 hget)
        have hy64 : z + 128 ^ i * (c % 128) < 9223372036854775808 := by
          have hp := pow_le5 h5
          have hl : 128 ^ i * (c % 128) ≤ 268435456 * 127 := Nat.mul_le_mul hp (by omega)
          omega
        obtain ⟨s, hs⟩ : ∃ s, c % 128 = s := ⟨_, rfl⟩
        obtain ⟨q, hq⟩ : ∃ q, 7 * i = q := ⟨_, rfl⟩
        obtain ⟨r, hr⟩ : ∃ r, 128 ^ i * s = r := ⟨_, rfl⟩
        obtain ⟨y, hy⟩ : ∃ y, z + r = y := ⟨_, rfl⟩
        have HY := Lib.hid (show z + 128 ^ i * (c % 128) = y by rw [hs, hr, hy])
        have h7 : (7 * (i : Int)) = (q : Int) := by omega
        have h1 : ((c : Int) % 128) = (s : Int) := by omega
        have hdv : IntKind.i64.wrap ((s : Int) * 2 ^ q) = (r : Int) := by
          have e : (s : Int) * 2 ^ q = (r : Int) := by
            rw [← hq, ← hr, ← pow7]
            push_cast
            exact Int.mul_comm _ _
          rw [e]
          rw [hs, hr] at hy64
          exact wrap64 _ (by omega)
        rw [hs] at hsh hor hy64
        rw [hq] at hsh
        rw [hr] at hsh hor hy64
        rw [hy] at hor hy64
        clear hs hq hr hy hg hget hzi
        by_cases hstop : c < 128
        · have hrd : rd 5 (nats b a) = some (y, i + 1) := by rw [← HY.out, Nat.mod_eq_of_lt hstop]; exact HS.out hstop
          by_cases hbig : y ≤ 1000000000
          · by_cases heq : (vb 4 y).length = i + 1
            · have HE := Lib.hid (rvAt_some b a y (i + 1) (rv_yes hrd hbig heq))
              have HV := Lib.hid (implSize_in y wr hbig)
              rw [heq] at HV
              clear hrd heq
              go_wp2_with (go_at_call 268; refine (HV.out).mono ?_; rintro e w' ⟨rfl, rfl⟩)
              go_ret3
              exact ⟨by rw [HE.out]; rfl, rfl⟩
            · have HE := Lib.hid (rvAt_none b a (rv_no hrd fun e => heq e.2))
              have HV := Lib.hid (implSize_in y wr hbig)
              obtain ⟨L, hL⟩ : ∃ L, (vb 4 y).length = L := ⟨_, rfl⟩
              rw [hL] at HV heq
              have hne : ¬ (L : Int) = (i : Int) + 1 := by omega
              clear hrd heq hL
              go_wp2_with (go_at_call 268; refine (HV.out).mono ?_; rintro e w' ⟨rfl, rfl⟩)
              go_ret3
              exact ⟨by rw [HE.out]; rfl, rfl⟩
          · have HV := Lib.hid (implSize_out (y : Int) wr (by omega))
            have HE := Lib.hid (rvAt_none b a (rv_no hrd fun e => hbig e.1))
            have hne : ¬ (0 : Int) = (i : Int) + 1 := by omega
            clear hrd
            go_wp2_with (go_at_call 268; refine (HV.out).mono ?_; rintro e w' ⟨rfl, rfl⟩)
            go_ret3
            exact ⟨by rw [HE.out]; rfl, rfl⟩
        · have HG := Lib.hid (show Gone (nats b a) (i + 1) y by rw [← HY.out]; exact HN.out (by omega))
          go_wp2
          go_roundw
          case rel => exact ⟨i + 1, y, rfl, by go_num, by omega, HG.out, trivial⟩
          case measure => simp [intOf]; omega
      · obtain rfl : i = M := by omega
        have HE := Lib.hid (rvAt_none b a (rv_none (gone_end hg (by rw [nats_length]; omega))))
        clear hg
        go_wp2
        go_ret3
        exact ⟨by rw [HE.out]; rfl, rfl⟩
theorem implRead_out (b : ByteArray) (a : Int) (w : World) (h : a < 0 ∨ (b.size : Int) ≤ a) :
    Calls Tryz.prog 267 #[.string b, .int .i64 a] w fun e w' => e = .returned no2 ∧ w = w' := by
  by_cases h1 : a < 0
  · clear h
    go_enter Tryz.func267, Tryz.ntmps267
    go_wp2
    go_ret3
    exact ⟨rfl, rfl⟩
  · have h2 : (b.size : Int) ≤ a := by omega
    clear h
    go_enter Tryz.func267, Tryz.ntmps267
    go_wp2
    go_ret3
    exact ⟨rfl, rfl⟩
theorem implRead_any (b : ByteArray) (a : Int) (w : World) (hm : b.size ≤ 1048576) :
    Calls Tryz.prog 267 #[.string b, .int .i64 a] w fun e w' => e = .returned (rvAt b a) ∧ w = w' := by
  by_cases h : 0 ≤ a ∧ a < b.size
  · obtain ⟨n, rfl⟩ := Int.eq_ofNat_of_zero_le h.1
    exact implRead_in b n w hm (by omega)
  · have e : rvAt b a = no2 := by
      by_cases h0 : a < 0
      · exact rvAt_neg b a h0
      · exact rvAt_over b a (by omega)
    rw [e]
    exact implRead_out b a w (by omega)

/-! ### impl.FixText -/
theorem fixSize_yes (k : Int) (w : World) (h1 : 1 ≤ k) (h2 : k ≤ 8) :
    Calls Tryz.prog 214 #[.int .i64 k] w fun e w' => e = .returned (.bool true) ∧ w = w' := by
  go_enter Tryz.func214, Tryz.ntmps214
  go_wp2
  go_ret
  exact ⟨rfl, rfl⟩
theorem fixSize_no (k : Int) (w : World) (h : k < 1 ∨ 8 < k) :
    Calls Tryz.prog 214 #[.int .i64 k] w fun e w' => e = .returned (.bool false) ∧ w = w' := by
  rcases h with h | h
  all_goals
    go_enter Tryz.func214, Tryz.ntmps214
    go_wp2
    go_ret
    exact ⟨by first | rfl | (show Ending.returned (.bool (decide (k ≤ 8))) = _; rw [decide_eq_false (by omega)]), rfl⟩
theorem pow8 (i : Nat) : 2 ^ (8 * i) = 256 ^ i := by rw [Nat.pow_mul]
theorem shr8 (n i : Nat) (hi : i ≤ 8) : Op.shift .shr .i64 (n : Int) .i64 ((8 * i : Nat) : Int) = pure (.int .i64 ((n / 256 ^ i : Nat) : Int)) := by
  rw [shift_shr .i64 .i64 (n : Int) ((8 * i : Nat) : Int) (by omega) (by show _ ≤ (64 : Int); omega), Int.toNat_natCast, ← pow8]
  push_cast
  rfl
theorem div8 (n i q : Nat) (hq : 8 * i = q) : (n : Int) / 2 ^ q = ((n / 256 ^ i : Nat) : Int) := by
  rw [← hq, ← pow8]
  push_cast
  rfl
theorem fb_get (k n i : Nat) (h : i < k) : (fb k n)[i]? = some (n / 256 ^ i % 256) := by
  induction k with
  | zero => omega
  | succ k ih =>
    rw [fb_snoc]
    by_cases hi : i < k
    · rw [List.getElem?_append_left (by rw [fb_length]; exact hi), ih hi]
    · obtain rfl : i = k := by omega
      rw [List.getElem?_append_right (by rw [fb_length]; exact Nat.le_refl _), fb_length, Nat.sub_self]
      rfl
theorem fb_made (k n : Nat) (ys : List Int) (hy : ys.length = k) (hg : ∀ i, i < k → ys[i]? = some ((n / 256 ^ i % 256 : Nat) : Int)) : strOfNums ys = txt (fb k n) := by
  have e : ys = (fb k n).map fun (c : Nat) => (c : Int) := by
    apply List.ext_getElem?
    intro i
    rw [List.getElem?_map]
    by_cases hi : i < k
    · rw [hg i hi, fb_get k n i hi]
      rfl
    · rw [List.getElem?_eq_none (by omega), List.getElem?_eq_none (by rw [fb_length]; omega)]
      rfl
  rw [e, txt_nums]

set_option maxHeartbeats 400000 in
theorem implFix_in (n k : Nat) (w : World) (h1 : 1 ≤ k) (h2 : k ≤ 8) :
    Calls Tryz.prog 180 #[.int .i64 n, .int .i64 k] w (PostT (fxI n k) w) := by
  obtain ⟨i0, hi, hz0, hz1, hz2⟩ := info_parts Tryz.infoU8
  have hsh := shr8 n k h2
  obtain ⟨q, hq⟩ : ∃ q, 8 * k = q := ⟨_, rfl⟩
  have hdv := div8 n k q hq
  obtain ⟨z, hz⟩ : ∃ z, n / 256 ^ k = z := ⟨_, rfl⟩
  rw [hz, hq] at hsh
  rw [hz] at hdv
  have h8 : (8 * (k : Int)) = (q : Int) := by omega
  have hq64 : q ≤ 64 := by omega
  have HY := Lib.hid (fixSize_yes (k : Int) w (by omega) (by omega))
  by_cases h0 : 0 < z
  · have HE := Lib.hid (fxI_big n k (by intro h; rw [Nat.div_eq_of_lt h] at hz; omega))
    have hz0' : ((z : Int) != 0) = true := by rw [bne_iff_ne]; omega
    clear hz hq
    go_enter Tryz.func180, Tryz.ntmps180
    go_wp2_with (go_at_call 214; refine (HY.out).mono ?_; rintro e w' ⟨rfl, rfl⟩)
    go_ret
    exact ⟨by rw [HE.out]; rfl, Below.refl _ _⟩
  · have HE := Lib.hid (fxI_in n k h1 h2 (by
      rcases Nat.lt_or_ge n (256 ^ k) with h | h
      · exact h
      · have := Nat.div_pos h (Nat.pow_pos (by omega : 0 < 256)); omega))
    obtain rfl : z = 0 := by omega
    clear hz hq h0
    go_enter Tryz.func180, Tryz.ntmps180
    go_wp2_with fail
    refine (HY.out).mono ?_
    rintro e w' ⟨rfl, rfl⟩
    go_wp2_with (refine wpList_make_full _ (by rfl) _ _ 22 (by rfl) w.heap.size 5 i0 (.int .u8 0) 1 Tryz.underlying22 hi hz0 hz1 .i64 .i64 _ _ k (by rfl) (by rfl) ?_ ?_ ?_ ?_ ?_ ?_; omega; omega; (rw [hz2]; omega); (unfold maxLen; omega); exact Nat.le_refl _; intro w1 hown1 hg1)
    have hb1 : Below w.heap.size w w1 := (Below.refl _ _).grown hg1 (Nat.le_refl _) (fun k hk => by cases hk)
    have hown2 : w1.ownsRow w.heap.size 5 1 (.slice (some ⟨w.heap.size, 0, none⟩) k k) k ((List.replicate k (0 : Int)).map (Value.int .u8)) := by
      rw [show (Value.int IntKind.u8 0).cells = #[.int .u8 0] from rfl, toList_madeCells_one] at hown1
      simpa using hown1
    clear hown1 hsh hdv h8 hq64
    go_loopw [24] (fun i wr => ∃ (j : Nat) (ys : List Int), j ≤ k ∧ i = .int .i64 j ∧ ys.length = k ∧ (∀ i, i < j → ys[i]? = some ((n / 256 ^ i % 256 : Nat) : Int)) ∧ wr.ownsRow w.heap.size 5 1 (.slice (some ⟨w.heap.size, 0, none⟩) k k) k (ys.map (Value.int .u8)) ∧ Below w.heap.size w wr) (fun i _ => k - (intOf i).toNat)
    case atStart => exact ⟨0, _, Nat.zero_le _, rfl, by simp, fun i hi => by omega, hown2, hb1⟩
    case round =>
      obtain ⟨j, ys, hj, rfl, hy, hg, hown, hb⟩ := hrel
      have HYS := Lib.hid hy
      have HG := Lib.hid hg
      clear hown2 hg
      by_cases hlt : j < k
      · obtain ⟨u, hcell⟩ : ∃ u, wr.cell? ⟨w.heap.size, j, none⟩ = some u := by
          rw [hown.cellAt j (by omega)]
          exact ⟨_, List.getElem?_eq_getElem (by rw [List.length_map, hy]; exact hlt)⟩
        have hfrz := hown.frozenAt j
        have HP := Lib.hid (set_pre (fun i => ((n / 256 ^ i % 256 : Nat) : Int)) ys j k hy hlt HG.out)
        have hsh := shr8 n j (by omega)
        obtain ⟨q, hq⟩ : ∃ q, 8 * j = q := ⟨_, rfl⟩
        have hdv := div8 n j q hq
        obtain ⟨z, hz⟩ : ∃ z, n / 256 ^ j = z := ⟨_, rfl⟩
        have h3 : IntKind.u8.wrap (z : Int) = ((z % 256 : Nat) : Int) := by rw [IntKind.wrap_u8]; omega
        obtain ⟨c, hc⟩ : ∃ c, z % 256 = c := ⟨_, rfl⟩
        have HC := Lib.hid (show n / 256 ^ j % 256 = c by rw [hz]; exact hc)
        rw [hc] at h3
        rw [hz, hq] at hsh
        rw [hz] at hdv
        have h8 : (8 * (j : Int)) = (q : Int) := by omega
        have hq64 : q ≤ 64 := by omega
        have hcz : ((z : Int) % 256) = (c : Int) := by omega
        clear hy hz hc hq
        go_wp2
        have hst := hown.stored j (.int .u8 (c : Int))
        go_roundw
        case rel =>
          refine ⟨j + 1, ys.set j (c : Int), by omega, by go_num, by rw [List.length_set]; exact HYS.out, by have := HP.out; rw [HC.out] at this; exact this, ?_, hb.setCell (Nat.le_refl _) _⟩
          rw [← List.map_set] at hst
          exact hst.1
        case measure => simp [intOf]; omega
      · obtain rfl : j = k := by omega
        have hcv := conv_own Tryz.underlying22 Tryz.underlying5 hown
        rw [fb_made j n ys hy HG.out] at hcv
        clear hy
        go_wp2
        go_ret
        exact ⟨by rw [HE.out]; rfl, hb⟩
theorem implFix_out (n k : Int) (w : World) (h : n < 0 ∨ k < 1 ∨ 8 < k) :
    Calls Tryz.prog 180 #[.int .i64 n, .int .i64 k] w (PostT { data := #[] } w) := by
  by_cases h0 : n < 0
  · clear h
    go_enter Tryz.func180, Tryz.ntmps180
    go_wp2
    go_ret
    exact ⟨rfl, Below.refl _ _⟩
  · have HN := Lib.hid (fixSize_no k w (by omega))
    clear h
    go_enter Tryz.func180, Tryz.ntmps180
    go_wp2_with (go_at_call 214; refine (HN.out).mono ?_; rintro e w' ⟨rfl, rfl⟩)
    go_ret
    exact ⟨rfl, Below.refl _ _⟩
theorem implFix_any (n k : Int) (w : World) : Calls Tryz.prog 180 #[.int .i64 n, .int .i64 k] w (PostT (fxI n k) w) := by
  by_cases h : n < 0 ∨ k < 1 ∨ 8 < k
  · rw [fxI_out n k h]
    exact implFix_out n k w h
  · obtain ⟨m, rfl⟩ := Int.eq_ofNat_of_zero_le (show 0 ≤ n by omega)
    obtain ⟨j, rfl⟩ := Int.eq_ofNat_of_zero_le (show 0 ≤ k by omega)
    exact implFix_in m j w (by omega) (by omega)

end Go.Proofs.YtiehfobcbhgfkaaGreatDoor.num

namespace Go.Proofs.YtiehfobcbhgfkaaGreatDoor.num
set_option maxRecDepth 20000
open Go.RowKit
open kit

theorem wrap64u (n : Nat) (h : n < 18446744073709551616) : IntKind.u64.wrap (n : Int) = n := by
  rw [IntKind.wrap_u64]
  omega
theorem pow_le8 {i : Nat} (h : i < 8) : 256 ^ i ≤ 72057594037927936 := by
  have := Nat.pow_le_pow_right (show 0 < 256 by omega) (show i ≤ 7 by omega)
  have h4 : (256 : Nat) ^ 7 = 72057594037927936 := by decide
  omega
theorem or_addu (j z s : Nat) (hz : z < 2 ^ j) (hb : z + 2 ^ j * s < 18446744073709551616) : bits BinOp.or IntKind.u64 (z : Int) ((2 ^ j * s : Nat) : Int) = ((z + 2 ^ j * s : Nat) : Int) := by
  have h := Nat.two_pow_add_eq_or_of_lt hz s
  obtain ⟨r, hr⟩ : ∃ r, 2 ^ j * s = r := ⟨_, rfl⟩
  rw [hr] at h hb ⊢
  unfold bits
  simp only [BitVec.toNat_or, BitVec.toNat_ofInt]
  rw [show ((z : Int) % ((2 ^ IntKind.u64.bits : Nat) : Int)).toNat = z by show ((z : Int) % 18446744073709551616).toNat = z; omega, show ((r : Int) % ((2 ^ IntKind.u64.bits : Nat) : Int)).toNat = r by show ((r : Int) % 18446744073709551616).toNat = r; omega, Nat.or_comm, ← h, Nat.add_comm]
  exact wrap64u _ hb
theorem or8w (i z c : Nat) (hz : z < 256 ^ i) (hc : c < 256) (hi : i < 8) : bits BinOp.or IntKind.u64 (z : Int) ((256 ^ i * c : Nat) : Int) = ((z + 256 ^ i * c : Nat) : Int) := by
  have hp := pow_le8 hi
  have hl : 256 ^ i * c ≤ 72057594037927936 * 255 := Nat.mul_le_mul hp (by omega)
  rw [← pow8] at hz hl hp ⊢
  exact or_addu (8 * i) z c hz (by omega)
theorem shl8w (c i : Nat) (hc : c < 256) (hi : i < 8) : (c : Int) * 2 ^ (8 * i) = ((256 ^ i * c : Nat) : Int) ∧ IntKind.u64.wrap ((256 ^ i * c : Nat) : Int) = ((256 ^ i * c : Nat) : Int) := by
  have hp := pow_le8 hi
  have hl : 256 ^ i * c ≤ 72057594037927936 * 255 := Nat.mul_le_mul hp (by omega)
  refine ⟨?_, wrap64u _ (by omega)⟩
  rw [← pow8]
  push_cast
  exact Int.mul_comm _ _
theorem val_next (l : List Nat) (j c : Nat) (h : l[j]? = some c) : val (l.take (j + 1)) = val (l.take j) + 256 ^ j * c := by
  have hl : j < l.length := (List.getElem?_eq_some_iff.1 h).1
  rw [List.take_add_one, h, val_append, List.length_take, Nat.min_eq_left (by omega)]
  rfl
theorem val_next_lt {z c j : Nat} (hz : z < 256 ^ j) (hc : c < 256) : z + 256 ^ j * c < 256 ^ (j + 1) := by
  rw [Nat.pow_succ]
  have : 256 ^ j * c ≤ 256 ^ j * 255 := Nat.mul_le_mul (Nat.le_refl _) (by omega)
  omega

set_option maxHeartbeats 400000 in
theorem implRf_in (b : ByteArray) (a k : Nat) (w : World) (hm : b.size ≤ 1048576) (h1 : 1 ≤ k) (h2 : k ≤ 8) (h3 : a + k ≤ b.size) :
    Calls Tryz.prog 215 #[.string b, .int .i64 a, .int .i64 k] w fun e w' => e = .returned (rfAt b a k) ∧ w = w' := by
  have HE := Lib.hid (rfAt_in b a k h1 h2 h3)
  have HB := Lib.hid (rfAt_big b a k)
  have HD := Lib.hid (fun j h => val_next _ j _ (nats_take b a k j h h3))
  obtain ⟨L, hL⟩ : ∃ L, (nats b a).take k = L := ⟨_, rfl⟩
  have hlen : L.length = k := by rw [← hL, List.length_take, nats_length]; omega
  rw [hL] at HE HB
  have HLL := Lib.hid hL
  have HLEN := Lib.hid hlen
  clear hL hlen
  have HY := Lib.hid (fixSize_yes (k : Int) w (by omega) (by omega))
  have hn0 : ¬ (a : Int) < 0 := by omega
  have hn1 : ¬ ((b.size : Int) - (k : Int)) < (a : Int) := by omega
  go_enter Tryz.func215, Tryz.ntmps215
  go_wp2_with (go_at_call 214; refine (HY.out).mono ?_; rintro e w' ⟨rfl, rfl⟩)
  go_loopw [8, 26] (fun x i wr => ∃ (j z : Nat), x = .int .u64 z ∧ i = .int .i64 j ∧ j ≤ k ∧ val (L.take j) = z ∧ z < 256 ^ j ∧ wr = w) (fun _ i _ => k - (intOf i).toNat)
  case atStart => exact ⟨0, 0, rfl, rfl, Nat.zero_le _, rfl, by decide, rfl⟩
  case round =>
    obtain ⟨j, z, rfl, rfl, hj, hz, hz2, rfl⟩ := hrel
    by_cases hlt : j < k
    · have hd := HD.out j hlt
      rw [HLL.out, hz] at hd
      have hin : a + j < b.size := by omega
      have hc : b[a + j].toNat < 256 := b[a + j].toNat_lt
      obtain ⟨c, hcc⟩ : ∃ c, b[a + j].toNat = c := ⟨_, rfl⟩
      rw [hcc] at hd hc
      have hor := or8w j z c hz2 hc (by omega)
      obtain ⟨hs1, hs2⟩ := shl8w c j hc (by omega)
      have HZ := Lib.hid (val_next_lt hz2 hc)
      have hcw : IntKind.u64.wrap (c : Int) = (c : Int) := wrap64u c (by omega)
      obtain ⟨q, hq⟩ : ∃ q, 8 * j = q := ⟨_, rfl⟩
      have h8 : (8 * (j : Int)) = (q : Int) := by omega
      have hq64 : q ≤ 64 := by omega
      obtain ⟨r, hr⟩ : ∃ r, 256 ^ j * c = r := ⟨_, rfl⟩
      obtain ⟨y, hy⟩ : ∃ y, z + r = y := ⟨_, rfl⟩
      rw [hr] at hs1 hs2 hor hd HZ
      rw [hy] at hor hd HZ
      rw [hq] at hs1
      have HDD := Lib.hid hd
      clear hd hz hz2 hq hr hy
      go_wp2
      go_roundw
      case rel => exact ⟨j + 1, y, rfl, by go_num, by omega, HDD.out, HZ.out, trivial⟩
      case measure => simp [intOf]; omega
    · obtain rfl : j = k := by omega
      have hall : L.take j = L := List.take_of_length_le (by rw [HLEN.out]; exact Nat.le_refl _)
      rw [hall] at hz
      have hz3 : z < 18446744073709551616 := by
        have := Nat.pow_le_pow_right (show 0 < 256 by omega) h2
        have e8 : (256 : Nat) ^ 8 = 18446744073709551616 := by decide
        omega
      rw [hz] at HE HB
      clear hz hz2 hall HLL
      by_cases hbig : z < 9223372036854775808
      · have HF := Lib.hid (HE.out hbig)
        have hwz : IntKind.i64.wrap (z : Int) = (z : Int) := wrap64 z hbig
        clear HE HB hz3
        go_wp2
        go_ret2
        exact ⟨by rw [HF.out]; rfl, rfl⟩
      · have HF := Lib.hid (HB.out hbig)
        clear HE HB
        go_wp2
        go_ret2
        exact ⟨by rw [HF.out]; rfl, rfl⟩
theorem implRf_any (b : ByteArray) (a k : Int) (w : World) (hm : b.size ≤ 1048576) :
    Calls Tryz.prog 215 #[.string b, .int .i64 a, .int .i64 k] w fun e w' => e = .returned (rfAt b a k) ∧ w = w' := by
  by_cases h : 1 ≤ k ∧ k ≤ 8 ∧ 0 ≤ a ∧ a + k ≤ b.size
  · obtain ⟨n, rfl⟩ := Int.eq_ofNat_of_zero_le h.2.2.1
    obtain ⟨j, rfl⟩ := Int.eq_ofNat_of_zero_le (show 0 ≤ k by omega)
    exact implRf_in b n j w hm (by omega) (by omega) (by omega)
  · have HE := Lib.hid (rfAt_out b a k (by omega))
    by_cases hk : k < 1 ∨ 8 < k
    · have HN := Lib.hid (fixSize_no k w hk)
      clear h hk
      go_enter Tryz.func215, Tryz.ntmps215
      go_wp2_with (go_at_call 214; refine (HN.out).mono ?_; rintro e w' ⟨rfl, rfl⟩)
      go_ret2
      exact ⟨by rw [HE.out]; rfl, rfl⟩
    · have HY := Lib.hid (fixSize_yes k w (by omega) (by omega))
      have hk1 : 1 ≤ k := by omega
      have hk2 : k ≤ 8 := by omega
      by_cases ha : a < 0
      · clear h hk
        go_enter Tryz.func215, Tryz.ntmps215
        go_wp2_with (go_at_call 214; refine (HY.out).mono ?_; rintro e w' ⟨rfl, rfl⟩)
        go_ret2
        exact ⟨by rw [HE.out]; rfl, rfl⟩
      · have ha2 : (b.size : Int) - k < a := by omega
        clear h hk
        go_enter Tryz.func215, Tryz.ntmps215
        go_wp2_with (go_at_call 214; refine (HY.out).mono ?_; rintro e w' ⟨rfl, rfl⟩)
        go_ret2
        exact ⟨by rw [HE.out]; rfl, rfl⟩

end Go.Proofs.YtiehfobcbhgfkaaGreatDoor.num

namespace Go.Proofs.YtiehfobcbhgfkaaGreatDoor.sum
set_option maxRecDepth 20000
open Go.RowKit
open kit

set_option maxHeartbeats 400000 in
theorem implByte_any (s b : Int) (w : World) :
    Calls Tryz.prog 213 #[.int .i64 s, .int .i64 b] w fun e w' => e = .returned (.int .i64 ((sumByte s b : Nat) : Int)) ∧ w = w' := by
  have hs := low_eq s
  have hb := low8_eq b
  have l1 := low_lt s
  have l2 := low8_lt b
  have ws := (IntKind.wrap_u32 s).trans hs
  have wb := (IntKind.wrap_u8 b).trans hb
  have wb2 : IntKind.u32.wrap ((low8 b : Nat) : Int) = ((low8 b : Nat) : Int) := by rw [IntKind.wrap_u32]; omega
  have hx := xor_u32 (low s) (low8 b) l1 (by omega)
  obtain ⟨y, hy⟩ : ∃ y, low s ^^^ low8 b = y := ⟨_, rfl⟩
  have hy32 : y < 4294967296 := by rw [← hy]; exact xor_lt l1 (by omega)
  rw [hy] at hx
  have HY := Lib.hid hy
  clear hy l1 l2 hs hb
  go_enter Tryz.func213, Tryz.ntmps213
  go_wp2
  clear ws wb wb2 hx
  go_loop [5, 6, 13] (fun x _ i => ∃ k z : Nat, k ≤ 8 ∧ i = .int .i64 k ∧ x = .int .u32 z ∧ stN k y = z) (fun _ _ i => 8 - (intOf i).toNat)
  case atStart => exact ⟨0, y, by omega, rfl, rfl, rfl⟩
  case round =>
    obtain ⟨k, z, hk, rfl, rfl, hz⟩ := hrel
    have hz32 : z < 4294967296 := by rw [← hz]; exact stN_lt hy32 k
    have HZ := Lib.hid hz
    clear hz
    by_cases hlt : k < 8
    · have h1 := and1_u32 z hz32
      by_cases hodd : z % 2 = 1
      · have ho : ((z : Int) % 2 == 1) = true := by rw [beq_iff_eq]; omega
        have HO := Lib.hid (st_odd hodd)
        have hxx := xor_u32 (z / 2) 2197175160 (by omega) (by decide)
        have hdv : ((z / 2 : Nat) : Int) = (z : Int) / 2 := by omega
        rw [hdv] at hxx
        have HX := Lib.hid hxx
        clear hodd hxx hdv
        go_wp2
        go_round
        case rel => exact ⟨k + 1, (z / 2) ^^^ 2197175160, by omega, by go_num, by rw [← HX.out]; rfl, by rw [stN_succ, HZ.out, HO.out]⟩
        case measure => simp [intOf]; omega
      · have ho : ((z : Int) % 2 == 1) = false := by rw [beq_eq_false_iff_ne]; omega
        have HO := Lib.hid (st_evn hodd)
        clear hodd
        go_wp2
        go_round
        case rel => exact ⟨k + 1, z / 2, by omega, by go_num, by go_num, by rw [stN_succ, HZ.out, HO.out]⟩
        case measure => simp [intOf]; omega
    · obtain rfl : k = 8 := by omega
      have HE := Lib.hid (show sumByte s b = z by unfold sumByte; rw [HY.out]; exact HZ.out)
      have hw : IntKind.i64.wrap (z : Int) = (z : Int) := wrap_in z (by omega)
      go_wp2
      go_ret
      exact ⟨by rw [HE.out]; rfl, rfl⟩

theorem xor_low (s : Int) : low (bits BinOp.xor IntKind.i64 s 4294967295) = low s ^^^ 4294967295 := by
  unfold bits low
  simp only [BitVec.toNat_xor]
  rw [ofInt_toNat, ofInt_toNat, IntKind.wrap_i64]
  obtain ⟨a, ha⟩ : ∃ a, (s % 18446744073709551616).toNat = a := ⟨_, rfl⟩
  have ha2 : (s % 4294967296).toNat = a % 4294967296 := by omega
  rw [ha, ha2, show ((4294967295 : Int) % 18446744073709551616).toNat = 4294967295 by decide]
  have h2 := Nat.xor_mod_two_pow (a := a) (b := 4294967295) (n := 32)
  rw [show (2 : Nat) ^ 32 = 4294967296 by rfl, show 4294967295 % 4294967296 = 4294967295 by rfl] at h2
  rw [← h2]
  omega
theorem sumByte_low (v : Int) (c : Nat) (h : c < 256) : sumByte v (c : Int) = stN 8 (low v ^^^ c) := by
  unfold sumByte
  rw [low8_of c h]

set_option maxHeartbeats 400000 in
theorem implMore_any (s : Int) (t : ByteArray) (w : World) (hm : t.size ≤ 9223372036854775807) :
    Calls Tryz.prog 179 #[.int .i64 s, .string t] w fun e w' => e = .returned (.int .i64 ((more s t : Nat) : Int)) ∧ w = w' := by
  obtain ⟨v, hv⟩ : ∃ v, bits BinOp.xor IntKind.i64 s 4294967295 = v := ⟨_, rfl⟩
  have hlv : low v = low s ^^^ 4294967295 := by rw [← hv]; exact xor_low s
  obtain ⟨y, hy⟩ : ∃ y, low s ^^^ 4294967295 = y := ⟨_, rfl⟩
  rw [hy] at hlv
  have HL := Lib.hid hlv
  have HY := Lib.hid hy
  clear hlv hy
  go_enter Tryz.func179, Tryz.ntmps179
  go_wp2
  clear hv
  go_loopw [5, 11] (fun x i wr => ∃ (k : Nat) (z : Int), k ≤ t.size ∧ i = .int .i64 k ∧ x = .int .i64 z ∧ F y (t.data.toList.take k) = low z ∧ w = wr) (fun _ i _ => t.size - (intOf i).toNat)
  case atStart => exact ⟨0, v, Nat.zero_le _, rfl, rfl, HL.out.symm, rfl⟩
  case round =>
    obtain ⟨k, z, hk, rfl, rfl, hz, rfl⟩ := hrel
    have HZ := Lib.hid hz
    clear hz
    by_cases hlt : k < t.size
    · have hc : t[k].toNat < 256 := t[k].toNat_lt
      have HT := Lib.hid (take_step t k hlt)
      go_wp2_with (go_at_call 213; refine (implByte_any _ _ _).mono ?_; rintro e w' ⟨rfl, rfl⟩)
      go_roundw
      case rel => exact ⟨k + 1, _, by omega, by go_num, rfl, by rw [HT.out, F_snoc, HZ.out, sumByte_low z _ hc, low_of _ (stN_lt (xor_lt (low_lt z) (byte_lt _)) 8)], trivial⟩
      case measure => simp [intOf]; omega
    · obtain rfl : k = t.size := by omega
      have HT := Lib.hid (show t.data.toList.take t.size = t.data.toList from List.take_of_length_le (Nat.le_refl _))
      have HE := Lib.hid (show more s t = low z ^^^ 4294967295 by
        unfold more sumMore
        rw [HY.out, ← HZ.out, HT.out])
      have hx : bits BinOp.and IntKind.i64 (bits BinOp.xor IntKind.i64 z 4294967295) 4294967295 = ((low z ^^^ 4294967295 : Nat) : Int) := by
        rw [and32, low_eq, xor_low]
      go_wp2
      go_ret
      exact ⟨by rw [HE.out]; rfl, rfl⟩

theorem implOf_any (t : ByteArray) (w : World) (hm : t.size ≤ 9223372036854775807) :
    Calls Tryz.prog 217 #[.string t] w fun e w' => e = .returned (.int .i64 ((more 0 t : Nat) : Int)) ∧ w = w' := by
  go_enter Tryz.func217, Tryz.ntmps217
  go_wp2_with (go_at_call 179; refine (implMore_any _ _ _ hm).mono ?_; rintro e w' ⟨rfl, rfl⟩)
  go_ret
  exact ⟨rfl, rfl⟩

theorem implBr_any (n least most : Int) (w : World) :
    Calls Tryz.prog 243 #[.int .i64 n, .int .i64 least, .int .i64 most] w fun e w' => e = .returned (.int .i64 (br n least most)) ∧ w = w' := by
  by_cases h1 : n < least
  · have H := Lib.hid (show br n least most = least by unfold br; rw [if_pos (.inl h1)])
    go_enter Tryz.func243, Tryz.ntmps243
    go_wp2
    go_ret
    exact ⟨by rw [H.out]; rfl, rfl⟩
  · by_cases h2 : most < least
    · have H := Lib.hid (show br n least most = least by unfold br; rw [if_pos (.inr h2)])
      go_enter Tryz.func243, Tryz.ntmps243
      go_wp2
      go_ret
      exact ⟨by rw [H.out]; rfl, rfl⟩
    · by_cases h3 : most < n
      · have H := Lib.hid (show br n least most = most by unfold br; rw [if_neg (by omega), if_pos h3])
        go_enter Tryz.func243, Tryz.ntmps243
        go_wp2
        go_ret
        exact ⟨by rw [H.out]; rfl, rfl⟩
      · have H := Lib.hid (show br n least most = n by unfold br; rw [if_neg (by omega), if_neg h3])
        go_enter Tryz.func243, Tryz.ntmps243
        go_wp2
        go_ret
        exact ⟨by rw [H.out]; rfl, rfl⟩

end Go.Proofs.YtiehfobcbhgfkaaGreatDoor.sum
