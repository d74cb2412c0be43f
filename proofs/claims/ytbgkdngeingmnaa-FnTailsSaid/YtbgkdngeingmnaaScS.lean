/-
  Contracts of the laws' comparisons of what is scanned.
-/
import Derived.Test.YtbgkdngeingmnaaScY
import Derived.Test.YtbgkdngeingmnaaLater
import Derived.BigQuiet
namespace Go.Proofs.Ytbgkdngeingmnaa.sc
set_option maxRecDepth 20000
open Go.RowKit
open kit sum num burst hd fr

set_option maxHeartbeats 400000 in
theorem same_any (a b : Option Addr) (c d n : Nat) (xs : List ByteArray) (w : World) (hm : n ≤ 1048576) (ha : strs.At w a n xs) (hb : strs.At w b n xs) :
    Calls Try.prog 17 #[.slice a n c, .slice b n d] w fun e w' => e = .returned (.bool true) ∧ Below w.heap.size w w' := by
  have HL := Lib.hid ha.1
  have HA := Lib.hid ha
  have HB := Lib.hid hb
  clear ha hb
  go_enter Try.func17, Try.ntmps17
  go_wp2
  go_loopw [5] (fun i wr => ∃ k : Nat, k ≤ n ∧ i = .int .i64 k ∧ Below w.heap.size w wr) (fun i _ => n - (intOf i).toNat)
  case atStart => exact ⟨0, Nat.zero_le _, rfl, Below.refl _ _⟩
  case round =>
    obtain ⟨k, hk, rfl, hb⟩ := hrel
    by_cases hlt : k < n
    · obtain ⟨x, hxk⟩ : ∃ x, xs[k]? = some x := ⟨_, List.getElem?_eq_getElem (by rw [HL.out]; exact hlt)⟩
      obtain ⟨g, o, rfl, hg, hx⟩ := HA.out.2.resolve_left (by omega)
      obtain ⟨h, p, rfl, hh, hy⟩ := HB.out.2.resolve_left (by omega)
      have c1 : wr.cell? ⟨g, o + k, none⟩ = some (.string x) := (hb.cell (p := ⟨g, o + k, none⟩) hg).trans (hx k x hxk)
      have c2 : wr.cell? ⟨h, p + k, none⟩ = some (.string x) := (hb.cell (p := ⟨h, p + k, none⟩) hh).trans (hy k x hxk)
      have hne := num.str_yes (rfl : x = x)
      clear hxk hx hy HA HB
      have i0 : (0 : Int) ≤ (k : Int) := by omega
      have i1 : (k : Int) < (n : Int) := by omega
      go_wp2
      go_quiet (fail)
      go_wp2
      go_roundw
      case rel => exact ⟨k + 1, by omega, by go_num, below_drewN hb _⟩
      case measure => simp [intOf]; omega
    · go_wp2
      go_ret
      exact ⟨rfl, hb⟩

set_option maxHeartbeats 400000 in
theorem sameInts_any (a b : Option Addr) (c d n : Nat) (xs : List Int) (w : World) (hm : n ≤ maxLen) (ha : ints.At w a n xs) (hb : ints.At w b n xs) :
    Calls Try.prog 45 #[.slice a n c, .slice b n d] w fun e w' => e = .returned (.bool true) ∧ Below w.heap.size w w' := by
  unfold maxLen at hm
  have HL := Lib.hid ha.1
  have HA := Lib.hid ha
  have HB := Lib.hid hb
  clear ha hb
  go_enter Try.func45, Try.ntmps45
  go_wp2
  go_loopw [5] (fun i wr => ∃ k : Nat, k ≤ n ∧ i = .int .i64 k ∧ Below w.heap.size w wr) (fun i _ => n - (intOf i).toNat)
  case atStart => exact ⟨0, Nat.zero_le _, rfl, Below.refl _ _⟩
  case round =>
    obtain ⟨k, hk, rfl, hb⟩ := hrel
    by_cases hlt : k < n
    · obtain ⟨x, hxk⟩ : ∃ x, xs[k]? = some x := ⟨_, List.getElem?_eq_getElem (by rw [HL.out]; exact hlt)⟩
      obtain ⟨g, o, rfl, hg, hx⟩ := HA.out.2.resolve_left (by omega)
      obtain ⟨h, p, rfl, hh, hy⟩ := HB.out.2.resolve_left (by omega)
      have c1 : wr.cell? ⟨g, o + k, none⟩ = some (.int .i64 x) := (hb.cell (p := ⟨g, o + k, none⟩) hg).trans (hx k x hxk)
      have c2 : wr.cell? ⟨h, p + k, none⟩ = some (.int .i64 x) := (hb.cell (p := ⟨h, p + k, none⟩) hh).trans (hy k x hxk)
      clear hxk hx hy HA HB
      have i0 : (0 : Int) ≤ (k : Int) := by omega
      have i1 : (k : Int) < (n : Int) := by omega
      go_wp2
      go_quiet (fail)
      go_wp2
      go_roundw
      case rel => exact ⟨k + 1, by omega, by go_num, below_drewN hb _⟩
      case measure => simp [intOf]; omega
    · go_wp2
      go_ret
      exact ⟨rfl, hb⟩


set_option maxHeartbeats 2000000 in
theorem sameScan_any {B C : Nat} {v u : Value} (b : ByteArray) (w : World) (hm : b.size ≤ 1048576) (hv : OwnScan B w v b) (hu : OwnScan C w u b) :
    Calls Try.prog 15 #[v, u] w fun e w' => e = .returned (.bool true) ∧ Below w.heap.size w w' := by
  obtain ⟨R, O, rfl, rR, rO⟩ := hv
  obtain ⟨R', O', rfl, rR', rO'⟩ := hu
  have hlo := offs_length b
  have hn := recs_le b
  have rO := own_ints rO
  have rO' := own_ints rO'
  obtain ⟨ks, hks⟩ : ∃ ks, (offs b).map (fun (o : Nat) => (o : Int)) = ks := ⟨_, rfl⟩
  rw [hks] at rO rO'
  obtain ⟨a1, c1, rfl, _, _, _⟩ := own_form rR
  obtain ⟨a2, c2, rfl, _, _, _⟩ := own_form rO
  obtain ⟨d1, e1, rfl, _, _, _⟩ := own_form rR'
  obtain ⟨d2, e2, rfl, _, _, _⟩ := own_form rO'
  obtain ⟨xs, hxs⟩ : ∃ xs, recs b = xs := ⟨_, rfl⟩
  rw [hxs] at rR rO rR' rO' hn ⊢
  obtain ⟨n, hnn⟩ : ∃ n, xs.length = n := ⟨_, rfl⟩
  rw [hnn] at rR rO rR' rO' hn ⊢
  clear hks hlo hxs
  have al1 : Below w.heap.size w (w.alloc (.cells #[.bool (rdH b).isSome, .int .i64 (hdOf b).v, .int .i64 (hdOf b).s, .int .i64 (hdOf b).b, .int .i64 (hdOf b).l, .slice a1 n c1, .slice a2 n c2, .int .i64 (endN b : Int), .bool (marked b)] 30)) := (Below.refl _ _).alloc (Nat.le_refl _) _
  have al2 := (Below.refl _ (w.alloc (.cells #[.bool (rdH b).isSome, .int .i64 (hdOf b).v, .int .i64 (hdOf b).s, .int .i64 (hdOf b).b, .int .i64 (hdOf b).l, .slice a1 n c1, .slice a2 n c2, .int .i64 (endN b : Int), .bool (marked b)] 30))).alloc (Nat.le_refl _) (.cells #[.bool (rdH b).isSome, .int .i64 (hdOf b).v, .int .i64 (hdOf b).s, .int .i64 (hdOf b).b, .int .i64 (hdOf b).l, .slice d1 n e1, .slice d2 n e2, .int .i64 (endN b : Int), .bool (marked b)] 30)
  have bx := (Box.new w #[.bool (rdH b).isSome, .int .i64 (hdOf b).v, .int .i64 (hdOf b).s, .int .i64 (hdOf b).b, .int .i64 (hdOf b).l, .slice a1 n c1, .slice a2 n c2, .int .i64 (endN b : Int), .bool (marked b)] 30).below al2
  have by' := Box.new (w.alloc (.cells #[.bool (rdH b).isSome, .int .i64 (hdOf b).v, .int .i64 (hdOf b).s, .int .i64 (hdOf b).b, .int .i64 (hdOf b).l, .slice a1 n c1, .slice a2 n c2, .int .i64 (endN b : Int), .bool (marked b)] 30)) #[.bool (rdH b).isSome, .int .i64 (hdOf b).v, .int .i64 (hdOf b).s, .int .i64 (hdOf b).b, .int .i64 (hdOf b).l, .slice d1 n e1, .slice d2 n e2, .int .i64 (endN b : Int), .bool (marked b)] 30
  obtain ⟨W, hW⟩ : ∃ W, W = (w.alloc (.cells #[.bool (rdH b).isSome, .int .i64 (hdOf b).v, .int .i64 (hdOf b).s, .int .i64 (hdOf b).b, .int .i64 (hdOf b).l, .slice a1 n c1, .slice a2 n c2, .int .i64 (endN b : Int), .bool (marked b)] 30)).alloc (.cells #[.bool (rdH b).isSome, .int .i64 (hdOf b).v, .int .i64 (hdOf b).s, .int .i64 (hdOf b).b, .int .i64 (hdOf b).l, .slice d1 n e1, .slice d2 n e2, .int .i64 (endN b : Int), .bool (marked b)] 30) := ⟨_, rfl⟩
  have hws : (w.alloc (.cells #[.bool (rdH b).isSome, .int .i64 (hdOf b).v, .int .i64 (hdOf b).s, .int .i64 (hdOf b).b, .int .i64 (hdOf b).l, .slice a1 n c1, .slice a2 n c2, .int .i64 (endN b : Int), .bool (marked b)] 30)).heap.size = w.heap.size + 1 := by simp
  rw [← hW] at al2 bx by'
  rw [hws] at by'
  have B0 := Lib.hid (al1.trans (al2.mono al1.size))
  have A1 := Lib.hid (strs.At.of_own (own_below rR B0.out))
  have A2 := Lib.hid (ints.At.of_own (own_below rO B0.out))
  have A1' := Lib.hid (strs.At.of_own (own_below rR' B0.out))
  have A2' := Lib.hid (ints.At.of_own (own_below rO' B0.out))
  have BX := Lib.hid bx
  have BY := Lib.hid by'
  have x0 := bx.at 0 _ rfl
  have x1 := bx.at 1 _ rfl
  have x2 := bx.at 2 _ rfl
  have x3 := bx.at 3 _ rfl
  have x4 := bx.at 4 _ rfl
  have x5 := bx.at 5 _ rfl
  have x6 := bx.at 6 _ rfl
  have x7 := bx.at 7 _ rfl
  have x8 := bx.at 8 _ rfl
  have y0 := by'.at 0 _ rfl
  have y1 := by'.at 1 _ rfl
  have y2 := by'.at 2 _ rfl
  have y3 := by'.at 3 _ rfl
  have y4 := by'.at 4 _ rfl
  have y5 := by'.at 5 _ rfl
  have y6 := by'.at 6 _ rfl
  have y7 := by'.at 7 _ rfl
  have y8 := by'.at 8 _ rfl
  rw [hW] at x0 x1 x2 x3 x4 x5 x6 x7 x8 y0 y1 y2 y3 y4 y5 y6 y7 y8
  have CT := Lib.hid (fun (w' : World) hb => same_any a1 d1 c1 e1 n xs w' (by omega) (A1.out.below hb) (A1'.out.below hb))
  have CI := Lib.hid (fun (w' : World) hb => sameInts_any a2 d2 c2 e2 n ks w' (by unfold maxLen; omega) (A2.out.below hb) (A2'.out.below hb))
  clear al1 al2 bx by' hws rR rO rR' rO' A1 A2 A1' A2'
  go_enter Try.func15, Try.ntmps15
  go_wp2_with fail
  rw [← hW]
  clear hW x0 x1 x2 x3 x4 x5 x6 x7 x8 y0 y1 y2 y3 y4 y5 y6 y7 y8
  refine (CT.out W (Below.refl _ _)).mono ?_
  rintro e w1 ⟨rfl, b1⟩
  have B1 := Lib.hid (B0.out.trans (b1.mono B0.out.size))
  have x0 := (BX.out.below b1).at 0 _ rfl
  have x1 := (BX.out.below b1).at 1 _ rfl
  have x2 := (BX.out.below b1).at 2 _ rfl
  have x3 := (BX.out.below b1).at 3 _ rfl
  have x4 := (BX.out.below b1).at 4 _ rfl
  have x5 := (BX.out.below b1).at 5 _ rfl
  have x6 := (BX.out.below b1).at 6 _ rfl
  have x7 := (BX.out.below b1).at 7 _ rfl
  have x8 := (BX.out.below b1).at 8 _ rfl
  have y0 := (BY.out.below b1).at 0 _ rfl
  have y1 := (BY.out.below b1).at 1 _ rfl
  have y2 := (BY.out.below b1).at 2 _ rfl
  have y3 := (BY.out.below b1).at 3 _ rfl
  have y4 := (BY.out.below b1).at 4 _ rfl
  have y5 := (BY.out.below b1).at 5 _ rfl
  have y6 := (BY.out.below b1).at 6 _ rfl
  have y7 := (BY.out.below b1).at 7 _ rfl
  have y8 := (BY.out.below b1).at 8 _ rfl
  go_wp2_with fail
  clear x0 x1 x2 x3 x4 x5 x6 x7 x8 y0 y1 y2 y3 y4 y5 y6 y7 y8
  refine (CI.out w1 b1).mono ?_
  rintro e w2 ⟨rfl, b2⟩
  have b12 := chain b1 b2
  have B2 := Lib.hid (B1.out.trans (b2.mono B1.out.size))
  have x0 := (BX.out.below b12).at 0 _ rfl
  have x1 := (BX.out.below b12).at 1 _ rfl
  have x2 := (BX.out.below b12).at 2 _ rfl
  have x3 := (BX.out.below b12).at 3 _ rfl
  have x4 := (BX.out.below b12).at 4 _ rfl
  have x5 := (BX.out.below b12).at 5 _ rfl
  have x6 := (BX.out.below b12).at 6 _ rfl
  have x7 := (BX.out.below b12).at 7 _ rfl
  have x8 := (BX.out.below b12).at 8 _ rfl
  have y0 := (BY.out.below b12).at 0 _ rfl
  have y1 := (BY.out.below b12).at 1 _ rfl
  have y2 := (BY.out.below b12).at 2 _ rfl
  have y3 := (BY.out.below b12).at 3 _ rfl
  have y4 := (BY.out.below b12).at 4 _ rfl
  have y5 := (BY.out.below b12).at 5 _ rfl
  have y6 := (BY.out.below b12).at 6 _ rfl
  have y7 := (BY.out.below b12).at 7 _ rfl
  have y8 := (BY.out.below b12).at 8 _ rfl
  go_wp2
  go_ret
  exact ⟨rfl, B2.out⟩

end Go.Proofs.Ytbgkdngeingmnaa.sc
