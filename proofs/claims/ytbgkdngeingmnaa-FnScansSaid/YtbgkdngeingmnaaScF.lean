/-
  Contract of spec.l10Frames: how long its text may be.
-/
import Derived.Test.YtbgkdngeingmnaaScP
import Derived.Test.YtbgkdngeingmnaaLater
import Derived.BigQuiet
namespace Go.Proofs.Ytbgkdngeingmnaa.sc
set_option maxRecDepth 20000
open Go.RowKit
open kit sum num burst hd fr

set_option maxHeartbeats 2000000 in
theorem frames10_any (v s bb l : Int) (a : Option Addr) (c n : Nat) (xs : List ByteArray) (w : World) (hn : n ≤ 1000) (hx : ∀ x ∈ xs, x.size ≤ 60) (ha : strs.At w a n xs) :
    Calls Try.prog 66 #[.agg #[.int .i64 v, .int .i64 s, .int .i64 bb, .int .i64 l], .slice a n c] w fun e w' => (∃ t : ByteArray, t.size ≤ 24 + 72 * n ∧ e = .returned (.string t)) ∧ Below w.heap.size w w' := by
  have HL := Lib.hid ha.1
  have HX := Lib.hid hx
  have CH := Lib.hid (fun w => specHeadText v s bb l w)
  have hhl := hdT_le ⟨v, s, bb, l⟩
  obtain ⟨H, hH⟩ : ∃ H, hdT ⟨v, s, bb, l⟩ = H := ⟨_, rfl⟩
  rw [hH] at CH hhl
  have al : Below w.heap.size w (w.alloc (.cells #[.int .i64 v, .int .i64 s, .int .i64 bb, .int .i64 l] 26)) := (Below.refl _ _).alloc (Nat.le_refl _) _
  have bx := Box.new w #[.int .i64 v, .int .i64 s, .int .i64 bb, .int .i64 l] 26
  obtain ⟨W, hW⟩ : ∃ W, W = w.alloc (.cells #[.int .i64 v, .int .i64 s, .int .i64 bb, .int .i64 l] 26) := ⟨_, rfl⟩
  rw [← hW] at al bx
  have HA := Lib.hid (ha.below al)
  have B0 := Lib.hid al
  have BX := Lib.hid bx
  have z0 : w.heap.size < W.heap.size := bx.lt
  have x0 := bx.at 0 _ rfl
  have x1 := bx.at 1 _ rfl
  have x2 := bx.at 2 _ rfl
  have x3 := bx.at 3 _ rfl
  rw [hW] at x0 x1 x2 x3
  clear al bx hx ha hH
  go_enter Try.func66, Try.ntmps66
  go_wp2_with fail
  rw [← hW]
  clear hW x0 x1 x2 x3
  refine (CH.out _).mono ?_
  rintro e w1 ⟨rfl, b1⟩
  have B1 := Lib.hid b1
  clear b1
  go_wp2
  go_loopw [5, 6] (fun t i wr => ∃ (k : Nat) (T : ByteArray), k ≤ n ∧ i = .int .i64 k ∧ t = .string T ∧ T.size ≤ 24 + 72 * k ∧ Hid (Below W.heap.size W wr)) (fun _ i _ => n - (intOf i).toNat)
  case atStart => exact ⟨0, H, Nat.zero_le _, rfl, rfl, by omega, B1⟩
  case round =>
    obtain ⟨k, T, hk, rfl, rfl, hT, hb⟩ := hrel
    by_cases hlt : k < n
    · obtain ⟨x, hxk⟩ : ∃ x, xs[k]? = some x := ⟨_, List.getElem?_eq_getElem (by rw [HL.out]; exact hlt)⟩
      obtain ⟨g, o, rfl, hg, hc⟩ := HA.out.2.resolve_left (by omega)
      have hx60 := HX.out x (List.mem_of_getElem? hxk)
      have bw := BX.out.below hb.out
      have c1 := Later.cell ((hb.out.cell (p := ⟨g, o + k, none⟩) hg).trans (hc k x hxk)) (Nat.lt_of_lt_of_le hg hb.out.size)
      have x0 := Later.cell (bw.at 0 _ rfl) bw.lt
      have x2 := Later.cell (bw.at 2 _ rfl) bw.lt
      have CF := Lib.hid (fun p w => specFrame_any v p x w (by omega))
      have hF := frT_le v (RowKit.wrap64 (bb + (k : Int))) x
      have i0 : (0 : Int) ≤ (k : Int) := by omega
      have i1 : (k : Int) < (n : Int) := by omega
      have HB := Lib.hid hb.out
      clear hc hxk bw
      go_wp2
      refine wp_region_later (by kernel_rfl) (by kernel_rfl) ?_
      repeat (first | go_big_quiet_skip | (go_big_quiet_want; go_big_quiet_op; go_big_quiet_on))
      go_big_quiet_want
      go_big_quiet_op
      apply Exists.intro
      refine ⟨fun x => ?_, ?_⟩
      · go_at_call 22
        exact Calls.later (CF.out _ x.val)
      go_big_quiet_on
      repeat (first | go_big_quiet_skip | (go_big_quiet_want; go_big_quiet_op; go_big_quiet_on))
      refine wpQuiet_nil ?_
      rintro w2 ⟨x2, hx2⟩
      have b2 : Below wr.heap.size wr w2 := hx2 ▸ x2.2
      clear hx2 x2
      go_wp2
      go_roundw
      case rel => exact ⟨k + 1, _, by omega, by go_num, rfl, by rw [ByteArray.size_append]; omega, Lib.hid (HB.out.trans (b2.mono HB.out.size))⟩
      case measure => simp [intOf]; omega
    · obtain rfl : k = n := by omega
      go_wp2
      go_ret
      exact ⟨⟨T, hT, rfl⟩, B0.out.trans (hb.out.mono B0.out.size)⟩

end Go.Proofs.Ytbgkdngeingmnaa.sc
