/-
  Contracts of impl.ReadVar, impl.FixText, impl.ReadFix (the landed code's).
-/
import Derived.Test.YtbgkdngeingmnaaNumI
namespace Go.Proofs.Ytbgkdngeingmnaa.num
set_option maxRecDepth 20000
open Go.RowKit
open kit

/-! ### impl.ReadVar -/
set_option maxHeartbeats 400000 in
set_option maxRecDepth 20000 in
theorem implRead_in (b : ByteArray) (a : Nat) (w : World) (hm : b.size ≤ 1048576) (ha : a < b.size) :
    Calls Try.prog 119 #[.string b, .int .i64 a] w fun e w' => e = .returned (rvAt b a) ∧ w = w' := by
  obtain ⟨M, hM1, hM2⟩ : ∃ M : Nat, M ≤ 5 ∧ a + M ≤ b.size ∧ (M = 5 ∨ a + M = b.size) := ⟨(min ((b.size : Int) - (a : Int)) 5).toNat, by omega, by omega, by omega⟩
  obtain ⟨hM2, hM3⟩ := hM2
  have hna : ¬ b.size ≤ a := by omega
  have hn0 : ¬ (a : Int) < 0 := by omega
  rcases Int.lt_or_le 5 ((b.size : Int) - (a : Int)) with h | h
  all_goals
    go_enter Try.func119, Try.ntmps119
    go_wp2
    go_loopw [7, 23] (fun x v wr => ∃ (i z : Nat), x = .int .i64 z ∧ v = .int .i64 i ∧ i ≤ M ∧ Gone (nats b a) i z ∧ wr = w) (fun _ v _ => 5 - (intOf v).toNat)
    case atStart => exact ⟨0, 0, rfl, rfl, by omega, gone_zero _, rfl⟩
    case round =>
      obtain ⟨i, z, rfl, rfl, hi, hg, rfl⟩ := hrel
      by_cases hlt : i < M
      · have h5 : i < 5 := by omega
        have hin : a + i < b.size := by omega
        have hc : b[a + i].toNat < 256 := b[a + i].toNat_lt
        have hget := nats_get b a i hin
        have hzi := hg.1
        obtain ⟨c, hcc⟩ : ∃ c, b[a + i].toNat = c := ⟨_, rfl⟩
        rw [hcc] at hc hget
        have hsh := shl7i (c % 128) i (by omega) h5
        have hor := or7 i z (c % 128) hzi (by omega) h5
        have HN := Lib.hid (gone_next hg h5 hget)
        have HS := Lib.hid (gone_stop hg h5 hget)
        have hy64 : z + 128 ^ i * (c % 128) < 9223372036854775808 := by
          have hp := pow_le5 h5
          have hl : 128 ^ i * (c % 128) ≤ 268435456 * 127 := Nat.mul_le_mul hp (by omega)
          omega
        obtain ⟨s, hs⟩ : ∃ s, c % 128 = s := ⟨_, rfl⟩
        obtain ⟨q, hq⟩ : ∃ q, 7 * i = q := ⟨_, rfl⟩
        obtain ⟨r, hr⟩ : ∃ r, 128 ^ i * s = r := ⟨_, rfl⟩
        obtain ⟨y, hy⟩ : ∃ y, z + r = y := ⟨_, rfl⟩
        have HY := Lib.hid (show z + 128 ^ i * (c % 128) = y by rw [hs, hr, hy])
        have h7 : (7 * (i : Int)) = (q : Int) := by omega
        have h1 : ((c : Int) % 128) = (s : Int) := by omega
        have hdv : IntKind.i64.wrap ((s : Int) * 2 ^ q) = (r : Int) := by
          have e : (s : Int) * 2 ^ q = (r : Int) := by
            rw [← hq, ← hr, ← pow7]
            push_cast
            exact Int.mul_comm _ _
          rw [e]
          rw [hs, hr] at hy64
          exact wrap64 _ (by omega)
        rw [hs] at hsh hor hy64
        rw [hq] at hsh
        rw [hr] at hsh hor hy64
        rw [hy] at hor hy64
        clear hs hq hr hy hg hget hzi
        by_cases hstop : c < 128
        · have hrd : rd 5 (nats b a) = some (y, i + 1) := by rw [← HY.out, Nat.mod_eq_of_lt hstop]; exact HS.out hstop
          by_cases hbig : y ≤ 1000000000
          · by_cases heq : (vb 4 y).length = i + 1
            · have HE := Lib.hid (rvAt_some b a y (i + 1) (rv_yes hrd hbig heq))
              have HV := Lib.hid (implSize_in y wr hbig)
              rw [heq] at HV
              clear hrd heq
              go_wp2_with (go_at_call 120; refine (HV.out).mono ?_; rintro e w' ⟨rfl, rfl⟩)
              go_ret3
              exact ⟨by rw [HE.out]; rfl, rfl⟩
            · have HE := Lib.hid (rvAt_none b a (rv_no hrd fun e => heq e.2))
              have HV := Lib.hid (implSize_in y wr hbig)
              obtain ⟨L, hL⟩ : ∃ L, (vb 4 y).length = L := ⟨_, rfl⟩
              rw [hL] at HV heq
              have hne : ¬ (L : Int) = (i : Int) + 1 := by omega
              clear hrd heq hL
              go_wp2_with (go_at_call 120; refine (HV.out).mono ?_; rintro e w' ⟨rfl, rfl⟩)
              go_ret3
              exact ⟨by rw [HE.out]; rfl, rfl⟩
          · have HV := Lib.hid (implSize_out (y : Int) wr (by omega))
            have HE := Lib.hid (rvAt_none b a (rv_no hrd fun e => hbig e.1))
            have hne : ¬ (0 : Int) = (i : Int) + 1 := by omega
            clear hrd
            go_wp2_with (go_at_call 120; refine (HV.out).mono ?_; rintro e w' ⟨rfl, rfl⟩)
            go_ret3
            exact ⟨by rw [HE.out]; rfl, rfl⟩
        · have HG := Lib.hid (show Gone (nats b a) (i + 1) y by rw [← HY.out]; exact HN.out (by omega))
          go_wp2
          go_roundw
          case rel => exact ⟨i + 1, y, rfl, by go_num, by omega, HG.out, trivial⟩
          case measure => simp [intOf]; omega
      · obtain rfl : i = M := by omega
        have HE := Lib.hid (rvAt_none b a (rv_none (gone_end hg (by rw [nats_length]; omega))))
        clear hg
        go_wp2
        go_ret3
        exact ⟨by rw [HE.out]; rfl, rfl⟩
theorem implRead_out (b : ByteArray) (a : Int) (w : World) (h : a < 0 ∨ (b.size : Int) ≤ a) :
    Calls Try.prog 119 #[.string b, .int .i64 a] w fun e w' => e = .returned no2 ∧ w = w' := by
  by_cases h1 : a < 0
  · clear h
    go_enter Try.func119, Try.ntmps119
    go_wp2
    go_ret3
    exact ⟨rfl, rfl⟩
  · have h2 : (b.size : Int) ≤ a := by omega
    clear h
    go_enter Try.func119, Try.ntmps119
    go_wp2
    go_ret3
    exact ⟨rfl, rfl⟩
theorem implRead_any (b : ByteArray) (a : Int) (w : World) (hm : b.size ≤ 1048576) :
    Calls Try.prog 119 #[.string b, .int .i64 a] w fun e w' => e = .returned (rvAt b a) ∧ w = w' := by
  by_cases h : 0 ≤ a ∧ a < b.size
  · obtain ⟨n, rfl⟩ := Int.eq_ofNat_of_zero_le h.1
    exact implRead_in b n w hm (by omega)
  · have e : rvAt b a = no2 := by
      by_cases h0 : a < 0
      · exact rvAt_neg b a h0
      · exact rvAt_over b a (by omega)
    rw [e]
    exact implRead_out b a w (by omega)

/-! ### impl.FixText -/
theorem fixSize_yes (k : Int) (w : World) (h1 : 1 ≤ k) (h2 : k ≤ 8) :
    Calls Try.prog 89 #[.int .i64 k] w fun e w' => e = .returned (.bool true) ∧ w = w' := by
  go_enter Try.func89, Try.ntmps89
  go_wp2
  go_ret
  exact ⟨rfl, rfl⟩
theorem fixSize_no (k : Int) (w : World) (h : k < 1 ∨ 8 < k) :
    Calls Try.prog 89 #[.int .i64 k] w fun e w' => e = .returned (.bool false) ∧ w = w' := by
  rcases h with h | h
  all_goals
    go_enter Try.func89, Try.ntmps89
    go_wp2
    go_ret
    exact ⟨by first | rfl | (show Ending.returned (.bool (decide (k ≤ 8))) = _; rw [decide_eq_false (by omega)]), rfl⟩
theorem pow8 (i : Nat) : 2 ^ (8 * i) = 256 ^ i := by rw [Nat.pow_mul]
theorem shr8 (n i : Nat) (hi : i ≤ 8) : Op.shift .shr .i64 (n : Int) .i64 ((8 * i : Nat) : Int) = pure (.int .i64 ((n / 256 ^ i : Nat) : Int)) := by
  rw [shift_shr .i64 .i64 (n : Int) ((8 * i : Nat) : Int) (by omega) (by show _ ≤ (64 : Int); omega), Int.toNat_natCast, ← pow8]
  push_cast
  rfl
theorem div8 (n i q : Nat) (hq : 8 * i = q) : (n : Int) / 2 ^ q = ((n / 256 ^ i : Nat) : Int) := by
  rw [← hq, ← pow8]
  push_cast
  rfl
theorem fb_get (k n i : Nat) (h : i < k) : (fb k n)[i]? = some (n / 256 ^ i % 256) := by
  induction k with
  | zero => omega
  | succ k ih =>
    rw [fb_snoc]
    by_cases hi : i < k
    · rw [List.getElem?_append_left (by rw [fb_length]; exact hi), ih hi]
    · obtain rfl : i = k := by omega
      rw [List.getElem?_append_right (by rw [fb_length]; exact Nat.le_refl _), fb_length, Nat.sub_self]
      rfl
theorem fb_made (k n : Nat) (ys : List Int) (hy : ys.length = k) (hg : ∀ i, i < k → ys[i]? = some ((n / 256 ^ i % 256 : Nat) : Int)) : strOfNums ys = txt (fb k n) := by
  have e : ys = (fb k n).map fun (c : Nat) => (c : Int) := by
    apply List.ext_getElem?
    intro i
    rw [List.getElem?_map]
    by_cases hi : i < k
    · rw [hg i hi, fb_get k n i hi]
      rfl
    · rw [List.getElem?_eq_none (by omega), List.getElem?_eq_none (by rw [fb_length]; omega)]
      rfl
  rw [e, txt_nums]

set_option maxHeartbeats 400000 in
theorem implFix_in (n k : Nat) (w : World) (h1 : 1 ≤ k) (h2 : k ≤ 8) :
    Calls Try.prog 76 #[.int .i64 n, .int .i64 k] w (PostT (fxI n k) w) := by
  obtain ⟨i0, hi, hz0, hz1, hz2⟩ := info_parts Try.infoU8
  have hsh := shr8 n k h2
  obtain ⟨q, hq⟩ : ∃ q, 8 * k = q := ⟨_, rfl⟩
  have hdv := div8 n k q hq
  obtain ⟨z, hz⟩ : ∃ z, n / 256 ^ k = z := ⟨_, rfl⟩
  rw [hz, hq] at hsh
  rw [hz] at hdv
  have h8 : (8 * (k : Int)) = (q : Int) := by omega
  have hq64 : q ≤ 64 := by omega
  have HY := Lib.hid (fixSize_yes (k : Int) w (by omega) (by omega))
  by_cases h0 : 0 < z
  · have HE := Lib.hid (fxI_big n k (by intro h; rw [Nat.div_eq_of_lt h] at hz; omega))
    have hz0' : ((z : Int) != 0) = true := by rw [bne_iff_ne]; omega
    clear hz hq
    go_enter Try.func76, Try.ntmps76
    go_wp2_with (go_at_call 89; refine (HY.out).mono ?_; rintro e w' ⟨rfl, rfl⟩)
    go_ret
    exact ⟨by rw [HE.out]; rfl, Below.refl _ _⟩
  · have HE := Lib.hid (fxI_in n k h1 h2 (by
      rcases Nat.lt_or_ge n (256 ^ k) with h | h
      · exact h
      · have := Nat.div_pos h (Nat.pow_pos (by omega : 0 < 256)); omega))
    obtain rfl : z = 0 := by omega
    clear hz hq h0
    go_enter Try.func76, Try.ntmps76
    go_wp2_with fail
    refine (HY.out).mono ?_
    rintro e w' ⟨rfl, rfl⟩
    go_wp2_with (refine wpList_make_full _ (by rfl) _ _ 22 (by rfl) w.heap.size 5 i0 (.int .u8 0) 1 Try.underlying22 hi hz0 hz1 .i64 .i64 _ _ k (by rfl) (by rfl) ?_ ?_ ?_ ?_ ?_ ?_; omega; omega; (rw [hz2]; omega); (unfold maxLen; omega); exact Nat.le_refl _; intro w1 hown1 hg1)
    have hb1 : Below w.heap.size w w1 := (Below.refl _ _).grown hg1 (Nat.le_refl _) (fun k hk => by cases hk)
    have hown2 : w1.ownsRow w.heap.size 5 1 (.slice (some ⟨w.heap.size, 0, none⟩) k k) k ((List.replicate k (0 : Int)).map (Value.int .u8)) := by
      rw [show (Value.int IntKind.u8 0).cells = #[.int .u8 0] from rfl, toList_madeCells_one] at hown1
      simpa using hown1
    clear hown1 hsh hdv h8 hq64
    go_loopw [24] (fun i wr => ∃ (j : Nat) (ys : List Int), j ≤ k ∧ i = .int .i64 j ∧ ys.length = k ∧ (∀ i, i < j → ys[i]? = some ((n / 256 ^ i % 256 : Nat) : Int)) ∧ wr.ownsRow w.heap.size 5 1 (.slice (some ⟨w.heap.size, 0, none⟩) k k) k (ys.map (Value.int .u8)) ∧ Below w.heap.size w wr) (fun i _ => k - (intOf i).toNat)
    case atStart => exact ⟨0, _, Nat.zero_le _, rfl, by simp, fun i hi => by omega, hown2, hb1⟩
    case round =>
      obtain ⟨j, ys, hj, rfl, hy, hg, hown, hb⟩ := hrel
      have HYS := Lib.hid hy
      have HG := Lib.hid hg
      clear hown2 hg
      by_cases hlt : j < k
      · obtain ⟨u, hcell⟩ : ∃ u, wr.cell? ⟨w.heap.size, j, none⟩ = some u := by
          rw [hown.cellAt j (by omega)]
          exact ⟨_, List.getElem?_eq_getElem (by rw [List.length_map, hy]; exact hlt)⟩
        have hfrz := hown.frozenAt j
        have HP := Lib.hid (set_pre (fun i => ((n / 256 ^ i % 256 : Nat) : Int)) ys j k hy hlt HG.out)
        have hsh := shr8 n j (by omega)
        obtain ⟨q, hq⟩ : ∃ q, 8 * j = q := ⟨_, rfl⟩
        have hdv := div8 n j q hq
        obtain ⟨z, hz⟩ : ∃ z, n / 256 ^ j = z := ⟨_, rfl⟩
        have h3 : IntKind.u8.wrap (z : Int) = ((z % 256 : Nat) : Int) := by rw [IntKind.wrap_u8]; omega
        obtain ⟨c, hc⟩ : ∃ c, z % 256 = c := ⟨_, rfl⟩
        have HC := Lib.hid (show n / 256 ^ j % 256 = c by rw [hz]; exact hc)
        rw [hc] at h3
        rw [hz, hq] at hsh
        rw [hz] at hdv
        have h8 : (8 * (j : Int)) = (q : Int) := by omega
        have hq64 : q ≤ 64 := by omega
        have hcz : ((z : Int) % 256) = (c : Int) := by omega
        clear hy hz hc hq
        go_wp2
        have hst := hown.stored j (.int .u8 (c : Int))
        go_roundw
        case rel =>
          refine ⟨j + 1, ys.set j (c : Int), by omega, by go_num, by rw [List.length_set]; exact HYS.out, by have := HP.out; rw [HC.out] at this; exact this, ?_, hb.setCell (Nat.le_refl _) _⟩
          rw [← List.map_set] at hst
          exact hst.1
        case measure => simp [intOf]; omega
      · obtain rfl : j = k := by omega
        have hcv := conv_own Try.underlying22 Try.underlying5 hown
        rw [fb_made j n ys hy HG.out] at hcv
        clear hy
        go_wp2
        go_ret
        exact ⟨by rw [HE.out]; rfl, hb⟩
theorem implFix_out (n k : Int) (w : World) (h : n < 0 ∨ k < 1 ∨ 8 < k) :
    Calls Try.prog 76 #[.int .i64 n, .int .i64 k] w (PostT { data := #[] } w) := by
  by_cases h0 : n < 0
  · clear h
    go_enter Try.func76, Try.ntmps76
    go_wp2
    go_ret
    exact ⟨rfl, Below.refl _ _⟩
  · have HN := Lib.hid (fixSize_no k w (by omega))
    clear h
    go_enter Try.func76, Try.ntmps76
    go_wp2_with (go_at_call 89; refine (HN.out).mono ?_; rintro e w' ⟨rfl, rfl⟩)
    go_ret
    exact ⟨rfl, Below.refl _ _⟩
theorem implFix_any (n k : Int) (w : World) : Calls Try.prog 76 #[.int .i64 n, .int .i64 k] w (PostT (fxI n k) w) := by
  by_cases h : n < 0 ∨ k < 1 ∨ 8 < k
  · rw [fxI_out n k h]
    exact implFix_out n k w h
  · obtain ⟨m, rfl⟩ := Int.eq_ofNat_of_zero_le (show 0 ≤ n by omega)
    obtain ⟨j, rfl⟩ := Int.eq_ofNat_of_zero_le (show 0 ≤ k by omega)
    exact implFix_in m j w (by omega) (by omega)

end Go.Proofs.Ytbgkdngeingmnaa.num
