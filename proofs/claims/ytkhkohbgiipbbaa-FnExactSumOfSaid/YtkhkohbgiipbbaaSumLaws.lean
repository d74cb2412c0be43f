/-
  The walks of laws.FnSums and laws.FnJoined, given what impl's functions answer.
-/
import Derived.Test.YtkhkohbgiipbbaaSumB
import Derived.Test.YtkhkohbgiipbbaaDrawS
namespace Go.Proofs.Ytkhkohbgiipbbaa.sum
open Go.RowKit
open kit

theorem big_no (a : Option Addr) (len cap : Nat) (w : World) (h : len ≤ 1048576) :
    Calls Try.prog 12 #[.slice a len cap] w fun e w' => e = .returned (.bool false) ∧ w = w' := by
  have hd : decide (1048576 < (len : Int)) = false := by simp; omega
  go_enter Try.func12, Try.ntmps12
  go_wp2
  go_ret
  exact ⟨rfl, rfl⟩
theorem big_yes (a : Option Addr) (len cap : Nat) (w : World) (h : 1048576 < len) :
    Calls Try.prog 12 #[.slice a len cap] w fun e w' => e = .returned (.bool true) ∧ w = w' := by
  have hd : decide (1048576 < (len : Int)) = true := by simp; omega
  go_enter Try.func12, Try.ntmps12
  go_wp2
  go_ret
  exact ⟨rfl, rfl⟩

/-- a number is answered, and nothing of what was there turns -/
def Ret (n : Nat) (w : World) (e : Ending) (w' : World) : Prop := e = .returned (.int .i64 (n : Int)) ∧ Below w.heap.size w w'
/-- what impl answers, in worlds where G holds (a table lies as it was laid, say) -/
structure Impl (G : World → Prop) : Prop where
  keep : ∀ w w', G w → Below w.heap.size w w' → G w'
  byte : ∀ (s b : Int) (w : World), G w → Calls Try.prog 16 #[.int .i64 s, .int .i64 b] w (Ret (sumByte s b) w)
  more : ∀ (s : Int) (t : ByteArray) (w : World), t.size ≤ 1048576 → G w → Calls Try.prog 17 #[.int .i64 s, .string t] w (Ret (more s t) w)
  all : ∀ (t : ByteArray) (w : World), t.size ≤ 1048576 → G w → Calls Try.prog 15 #[.string t] w (Ret (sum.more 0 t) w)
  tab : ∀ (i : Int) (w : World), G w → Calls Try.prog 19 #[.int .i64 i] w (Ret (tabAt i) w)
  tabSum : ∀ (s : Int) (t : ByteArray) (w : World), t.size ≤ 1048576 → G w → Calls Try.prog 18 #[.int .i64 s, .string t] w (Ret (sum.more s t) w)
  shift : ∀ (s n : Int) (w : World), G w → Calls Try.prog 23 #[.int .i64 s, .int .i64 n] w (Ret (shift s n) w)
  joined : ∀ (a b n : Int) (w : World), G w → Calls Try.prog 21 #[.int .i64 a, .int .i64 b, .int .i64 n] w (Ret (sum.shift a n ^^^ low b) w)

theorem chain {w1 W w4 : World} (h : Below w1.heap.size w1 W) (h4 : Below W.heap.size W w4) : Below w1.heap.size w1 w4 := h.trans (h4.mono h.size)
theorem size_app (a b : ByteArray) (ha : a.size ≤ 39) (hb : b.size ≤ 39) : (a ++ b).size ≤ 78 := by rw [ByteArray.size_append]; omega
theorem list_app_bytes (a b : ByteArray) : (a ++ b).data.toList = a.data.toList ++ b.data.toList := by rw [ByteArray.data_append, Array.toList_append]
theorem more_app (a b : ByteArray) : more ((more 0 a : Nat) : Int) b = more 0 (a ++ b) := by
  have h0 : low 0 = 0 := by decide
  unfold more
  rw [low_of _ (sumMore_lt (low_lt 0) _), list_app_bytes, sumMore_append]
theorem known : more 0 { data := #[49, 50, 51, 52, 53, 54, 55, 56, 57] } = 3808858755 := by decide +kernel
theorem tab1 : tabAt 1 = sumByte 0 1 := by decide +kernel
theorem tab128 : tabAt 128 = 2197175160 := by decide +kernel

set_option maxHeartbeats 1000000 in
theorem sums_small (G : World → Prop) (I : Impl G) (a : Option Addr) (len cap : Nat) (w : World) (hc : draw.CodeAt w w.heap.size a len) (hG : G w) :
    Calls Try.prog 3 #[.slice a len cap] w fun e w' => e = .returned (.bool true) ∧ Below w.heap.size w w' := by
  have HC := Lib.hid hc
  have HG := Lib.hid hG
  have HI := Lib.hid I
  have hlen := hc.1
  clear hc hG I
  go_enter Try.func3, Try.ntmps3
  go_wp2_with fail
  refine (big_no a len cap w hlen).mono ?_
  rintro e w' ⟨rfl, rfl⟩
  go_wp2_with fail
  refine (draw.sumOf_any a len cap w HC.out).mono ?_
  rintro e w1 ⟨⟨x, hx, rfl⟩, b1⟩
  go_wp2_with fail
  refine (draw.sumMore_any a len cap w1 ((HC.out.below b1).raise b1.size)).mono ?_
  rintro e w2 ⟨⟨s, y, hy, rfl⟩, c2⟩
  have b2 := chain b1 c2
  have hxy := size_app x y hx hy
  have hxs : x.size + y.size ≤ 78 := by omega
  go_wp2_with fail
  refine (HI.out.all (x ++ y) w2 (by omega) (HI.out.keep _ _ HG.out b2)).mono ?_
  rintro e w3 ⟨rfl, c3⟩
  have b3 := chain b2 c3
  obtain ⟨W, hW⟩ : ∃ W, more 0 (x ++ y) = W := ⟨_, rfl⟩
  rw [hW]
  have HW := Lib.hid hW
  have hs := (and32 s).trans (low_eq s)
  have hx1 := xor_nat (low s) 4294967295 (low_lt s) (by decide)
  obtain ⟨q, hq⟩ : ∃ q, low s ^^^ 4294967295 = q := ⟨_, rfl⟩
  have hq32 : q < 4294967296 := by rw [← hq]; exact xor_lt (low_lt s) (by decide)
  rw [hq] at hx1
  have HQ := Lib.hid hq
  have HX1 := Lib.hid hx1
  have hx2 : bits BinOp.xor IntKind.i64 (low s : Int) 4294967295 = (q : Int) := HX1.out
  clear hq hx1 hW c2 c3 b1 b2 hxy
  go_wp2_with fail
  clear hs hx2
  go_loopw [7, 8] (fun v i wr => ∃ k z : Nat, k ≤ y.size ∧ i = .int .i64 k ∧ v = .int .i64 z ∧ F q (y.data.toList.take k) = z ∧ Below w.heap.size w wr) (fun _ i _ => y.size - (intOf i).toNat)
  case atStart => exact ⟨0, q, Nat.zero_le _, rfl, rfl, rfl, b3⟩
  case round =>
    obtain ⟨k, z, hk, rfl, rfl, hz, hb⟩ := hrel
    have hz32 : z < 4294967296 := by rw [← hz]; exact F_lt _ _ hq32
    have HZ := Lib.hid hz
    clear hz b3
    by_cases hlt : k < y.size
    · have hcb : y[k].toNat < 256 := y[k].toNat_lt
      have HT := Lib.hid (take_step y k hlt)
      go_wp2_with (go_at_call 16; refine (HI.out.byte _ _ _ (HI.out.keep _ _ HG.out hb)).mono ?_; rintro e w4 ⟨rfl, c4⟩)
      go_roundw
      case rel => exact ⟨k + 1, stN 8 (z ^^^ y[k].toNat), by omega, by go_num, by rw [sumByte_nat z _ hz32 hcb], by rw [HT.out, F_snoc, HZ.out], chain hb c4⟩
      case measure => simp [intOf]; omega
    · obtain rfl : k = y.size := by omega
      have HE := Lib.hid (show more s y = z ^^^ 4294967295 by
        unfold more sumMore
        rw [HQ.out, ← HZ.out, List.take_of_length_le (by exact Nat.le_refl _)])
      have hx3 : bits BinOp.xor IntKind.i64 (z : Int) 4294967295 = ((z ^^^ 4294967295 : Nat) : Int) := xor_nat z 4294967295 hz32 (by decide)
      obtain ⟨M, hM⟩ : ∃ M, z ^^^ 4294967295 = M := ⟨_, rfl⟩
      rw [hM] at hx3
      have HM := Lib.hid (HE.out.trans hM)
      clear hM HE HZ
      go_wp2_with fail
      refine (HI.out.all x _ (by omega) (HI.out.keep _ _ HG.out hb)).mono ?_
      rintro e w4 ⟨rfl, c4⟩
      have b4 := chain hb c4
      go_wp2_with fail
      refine (HI.out.more _ y _ (by omega) (HI.out.keep _ _ HG.out b4)).mono ?_
      rw [more_app, HW.out]
      rintro e w5 ⟨rfl, c5⟩
      have b5 := chain b4 c5
      clear c4 c5 b4 hb
      go_wp2_with fail
      refine (HI.out.more s y _ (by omega) (HI.out.keep _ _ HG.out b5)).mono ?_
      rw [HM.out]
      rintro e w6 ⟨rfl, c6⟩
      have b6 := chain b5 c6
      go_wp2_with fail
      refine (HI.out.tabSum s y _ (by omega) (HI.out.keep _ _ HG.out b6)).mono ?_
      rw [HM.out]
      rintro e w7 ⟨rfl, c7⟩
      have b7 := chain b6 c7
      clear c6 c7 b5 b6
      go_wp2_with fail
      refine (HI.out.more s y _ (by omega) (HI.out.keep _ _ HG.out b7)).mono ?_
      rw [HM.out]
      rintro e w8 ⟨rfl, c8⟩
      have b8 := chain b7 c8
      go_wp2_with fail
      refine (HI.out.all _ _ (by decide) (HI.out.keep _ _ HG.out b8)).mono ?_
      rw [known]
      rintro e w9 ⟨rfl, c9⟩
      have b9 := chain b8 c9
      clear c8 c9 b7 b8
      go_wp2_with fail
      refine (HI.out.tab 1 _ (HI.out.keep _ _ HG.out b9)).mono ?_
      rw [tab1]
      rintro e w10 ⟨rfl, c10⟩
      have b10 := chain b9 c10
      go_wp2_with fail
      refine (HI.out.byte 0 1 _ (HI.out.keep _ _ HG.out b10)).mono ?_
      rintro e w11 ⟨rfl, c11⟩
      have b11 := chain b10 c11
      clear c10 c11 b9 b10
      go_wp2_with fail
      refine (HI.out.tab 128 _ (HI.out.keep _ _ HG.out b11)).mono ?_
      rw [tab128]
      rintro e w12 ⟨rfl, c12⟩
      have b12 := chain b11 c12
      clear c12 b11
      go_wp2
      go_ret
      exact ⟨rfl, b12⟩

end Go.Proofs.Ytkhkohbgiipbbaa.sum
