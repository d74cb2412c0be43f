/-
  The walk of laws.FnJoined, given what impl's functions answer; the draw of its last part.
-/
import Derived.Test.YtkhkohbgiipbbaaSumLaws
namespace Go.Proofs.Ytkhkohbgiipbbaa.draw
open Go.RowKit
open kit

/-- two numbers -/
def PostTwo (w : World) (e : Ending) (w' : World) : Prop := (∃ x n : Int, e = .returned (.tuple #[.int .i64 x, .int .i64 n])) ∧ Below w.heap.size w w'
theorem sumShift_any (a : Option Addr) (len cap : Nat) (w : World) (hc : CodeAt w w.heap.size a len) :
    Calls Try.prog 20 #[.slice a len cap] w (PostTwo w) := by
  go_enter Try.func20, Try.ntmps20
  go_wp2_with fail
  refine (new_any w.heap.size a len cap w (Nat.le_refl _) hc).mono ?_
  rintro e w1 ⟨rfl, u1, b1, sz1⟩
  have code1 := hc.below b1
  have hs1 : w.heap.size < w1.heap.size := by omega
  clear sz1 hc
  go_wp2_with fail
  refine (int_any w.heap.size w.heap.size a len cap w1 (Nat.le_refl _) hs1 code1 u1).mono ?_
  rintro e w2 ⟨⟨x, rfl⟩, u2, g2⟩
  have code2 := code1.grown (Nat.le_refl _) (by omega) g2
  have hs2 : w.heap.size < w2.heap.size := Nat.lt_of_lt_of_le hs1 g2.size
  clear code1 u1
  go_wp2_with fail
  refine (pickInt_any w.heap.size w.heap.size w2.heap.size 6 _ a len cap [0, 1, 5, 40, -1, 300] _ (Nat.le_refl _) (by simp; omega) (code2.below ((Below.refl _ _).alloc (by omega) _)) (u2.below ((Below.refl _ _).alloc (by omega) _)) (by simp) (by omega) rfl (by omega) (by omega) (fun j hj => ?_)).mono ?_
  · rw [cell_of_row _ w2.heap.size j _ 3 (0, 0) (heap_alloc_new w2 _)]
    rw [List.getElem?_toArray]
    rfl
  · rintro e w3 ⟨⟨v, hv, rfl⟩, u3, g3⟩
    obtain ⟨n, rfl⟩ : ∃ n, v = .int .i64 n := by
      obtain ⟨n, _, hn⟩ := List.mem_map.1 hv
      exact ⟨n, hn.symm⟩
    clear hv code2 u2
    go_wp2
    go_ret2
    exact ⟨⟨x, n, rfl⟩, below_of w w1 w3 b1 (grown_trans (grown_trans g2 (World.grownBy_alloc _ _ _)) g3)⟩

end Go.Proofs.Ytkhkohbgiipbbaa.draw
namespace Go.Proofs.Ytkhkohbgiipbbaa.sum
open Go.RowKit
open kit

theorem times_of (n : Nat) (h : n ≤ 10000) : times (n : Int) = n := by
  unfold times br
  split <;> (try split) <;> omega
theorem more0_lt (t : ByteArray) : more 0 t < 4294967296 := by
  have h0 : low 0 = 0 := by decide
  unfold more
  rw [h0]
  exact sumMore_lt (by decide) _
/-- the sum of two texts out of both sums and the second's length -/
theorem join_app (a b : ByteArray) (hb : b.size ≤ 10000) : shift ((more 0 a : Nat) : Int) (b.size : Int) ^^^ low ((more 0 b : Nat) : Int) = more 0 (a ++ b) := by
  have h0 : low 0 = 0 := by decide
  unfold shift
  rw [low_of _ (more0_lt a), low_of _ (more0_lt b), times_of _ hb]
  unfold more
  rw [h0, list_app_bytes, sumMore_joined]
  rfl
theorem shift128 : shift 128 1 = 2197175160 := by decide +kernel

set_option maxHeartbeats 1000000 in
theorem joined_small (G : World → Prop) (I : Impl G) (a : Option Addr) (len cap : Nat) (w : World) (hc : draw.CodeAt w w.heap.size a len) (hG : G w) :
    Calls Try.prog 4 #[.slice a len cap] w fun e w' => e = .returned (.bool true) ∧ Below w.heap.size w w' := by
  have HC := Lib.hid hc
  have HG := Lib.hid hG
  have HI := Lib.hid I
  have hlen := hc.1
  clear hc hG I
  go_enter Try.func4, Try.ntmps4
  go_wp2_with fail
  refine (big_no a len cap w hlen).mono ?_
  rintro e w' ⟨rfl, rfl⟩
  go_wp2_with fail
  refine (draw.sumOf_any a len cap w HC.out).mono ?_
  rintro e w1 ⟨⟨x, hx, rfl⟩, b1⟩
  go_wp2_with fail
  refine (draw.sumMore_any a len cap w1 ((HC.out.below b1).raise b1.size)).mono ?_
  rintro e w2 ⟨⟨s0, y, hy, rfl⟩, c2⟩
  have b2 := chain b1 c2
  go_wp2_with fail
  refine (draw.sumShift_any a len cap w2 ((HC.out.below b2).raise b2.size)).mono ?_
  rintro e w3 ⟨⟨s, n, rfl⟩, c3⟩
  have b3 := chain b2 c3
  clear b1 c2 b2 c3
  go_wp2_with fail
  refine (HI.out.all x _ (by omega) (HI.out.keep _ _ HG.out b3)).mono ?_
  rintro e w4 ⟨rfl, c4⟩
  have b4 := chain b3 c4
  clear c4 b3
  go_wp2_with fail
  refine (HI.out.all y _ (by omega) (HI.out.keep _ _ HG.out b4)).mono ?_
  rintro e w5 ⟨rfl, c5⟩
  have b5 := chain b4 c5
  clear c5 b4
  have hxy := size_app x y hx hy
  have hxs : x.size + y.size ≤ 78 := by omega
  go_wp2_with fail
  refine (HI.out.joined _ _ _ _ (HI.out.keep _ _ HG.out b5)).mono ?_
  rw [join_app x y (by omega)]
  rintro e w6 ⟨rfl, c6⟩
  have b6 := chain b5 c6
  clear c6 b5
  go_wp2_with fail
  refine (specOf_any (x ++ y) _ (by omega)).mono ?_
  rintro e w7 ⟨rfl, rfl⟩
  clear hxy hxs hx hy
  go_wp2_with fail
  refine (HI.out.shift _ _ _ (HI.out.keep _ _ HG.out b6)).mono ?_
  rintro e w8 ⟨rfl, c8⟩
  have b8 := chain b6 c8
  clear c8 b6
  go_wp2_with fail
  refine (specShift_any _ _ _).mono ?_
  rintro e w9 ⟨rfl, rfl⟩
  go_wp2_with fail
  refine (HI.out.shift _ _ _ (HI.out.keep _ _ HG.out b8)).mono ?_
  rw [shift128]
  rintro e w10 ⟨rfl, c10⟩
  have b10 := chain b8 c10
  clear c10 b8
  go_wp2
  go_ret
  exact ⟨rfl, b10⟩

end Go.Proofs.Ytkhkohbgiipbbaa.sum
