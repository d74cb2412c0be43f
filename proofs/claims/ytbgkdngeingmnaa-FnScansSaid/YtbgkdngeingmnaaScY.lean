/-
  The walk of FnExactScanText.
-/
import Derived.Test.YtbgkdngeingmnaaScX
namespace Go.Proofs.Ytbgkdngeingmnaa.sc
set_option maxRecDepth 20000
open Go.RowKit
open kit sum num burst hd fr

theorem own_ints {w : World} {B n : Nat} {v : Value} {os : List Nat} (h : w.ownsRow B 3 1 v n (os.map fun (o : Nat) => Value.int .i64 (o : Int))) : w.ownsRow B 3 1 v n ((os.map fun (o : Nat) => (o : Int)).map (Value.int .i64)) := by
  rw [List.map_map]
  exact h
set_option maxHeartbeats 1000000 in
theorem eqHead_any (v s b l : Int) (w : World) :
    Calls Try.prog 56 #[.agg #[.int .i64 v, .int .i64 s, .int .i64 b, .int .i64 l], .agg #[.int .i64 v, .int .i64 s, .int .i64 b, .int .i64 l]] w fun e w' => e = .returned (.bool true) ∧ Below w.heap.size w w' := by
  have hb : Below w.heap.size w ((w.alloc (.cells #[.int .i64 v, .int .i64 s, .int .i64 b, .int .i64 l] 26)).alloc (.cells #[.int .i64 v, .int .i64 s, .int .i64 b, .int .i64 l] 26)) := ((Below.refl _ _).alloc (Nat.le_refl _) _).alloc (by simp) _
  go_enter Try.func56, Try.ntmps56
  go_wp2
  go_ret
  exact ⟨rfl, hb⟩

set_option maxHeartbeats 2000000 in
theorem eqScan_any {B C : Nat} {v u : Value} (b : ByteArray) (w : World) (hm : b.size ≤ 1048576) (hv : OwnScan B w v b) (hu : OwnScan C w u b) :
    Calls Try.prog 32 #[v, u] w fun e w' => e = .returned (.bool true) ∧ Below w.heap.size w w' := by
  obtain ⟨R, O, rfl, rR, rO⟩ := hv
  obtain ⟨R', O', rfl, rR', rO'⟩ := hu
  have hlo := offs_length b
  have hn := recs_le b
  have rO := own_ints rO
  have rO' := own_ints rO'
  obtain ⟨ks, hks⟩ : ∃ ks, (offs b).map (fun (o : Nat) => (o : Int)) = ks := ⟨_, rfl⟩
  rw [hks] at rO rO'
  obtain ⟨a1, c1, rfl, _, _, _⟩ := own_form rR
  obtain ⟨a2, c2, rfl, _, _, _⟩ := own_form rO
  obtain ⟨d1, e1, rfl, _, _, _⟩ := own_form rR'
  obtain ⟨d2, e2, rfl, _, _, _⟩ := own_form rO'
  obtain ⟨xs, hxs⟩ : ∃ xs, recs b = xs := ⟨_, rfl⟩
  rw [hxs] at rR rO rR' rO' hn ⊢
  obtain ⟨n, hnn⟩ : ∃ n, xs.length = n := ⟨_, rfl⟩
  rw [hnn] at rR rO rR' rO' hn ⊢
  clear hks hlo hxs
  have al1 : Below w.heap.size w (w.alloc (.cells #[.bool (rdH b).isSome, .int .i64 (hdOf b).v, .int .i64 (hdOf b).s, .int .i64 (hdOf b).b, .int .i64 (hdOf b).l, .slice a1 n c1, .slice a2 n c2, .int .i64 (endN b : Int), .bool (marked b)] 30)) := (Below.refl _ _).alloc (Nat.le_refl _) _
  have al2 := (Below.refl _ (w.alloc (.cells #[.bool (rdH b).isSome, .int .i64 (hdOf b).v, .int .i64 (hdOf b).s, .int .i64 (hdOf b).b, .int .i64 (hdOf b).l, .slice a1 n c1, .slice a2 n c2, .int .i64 (endN b : Int), .bool (marked b)] 30))).alloc (Nat.le_refl _) (.cells #[.bool (rdH b).isSome, .int .i64 (hdOf b).v, .int .i64 (hdOf b).s, .int .i64 (hdOf b).b, .int .i64 (hdOf b).l, .slice d1 n e1, .slice d2 n e2, .int .i64 (endN b : Int), .bool (marked b)] 30)
  have bx := (Box.new w #[.bool (rdH b).isSome, .int .i64 (hdOf b).v, .int .i64 (hdOf b).s, .int .i64 (hdOf b).b, .int .i64 (hdOf b).l, .slice a1 n c1, .slice a2 n c2, .int .i64 (endN b : Int), .bool (marked b)] 30).below al2
  have by' := Box.new (w.alloc (.cells #[.bool (rdH b).isSome, .int .i64 (hdOf b).v, .int .i64 (hdOf b).s, .int .i64 (hdOf b).b, .int .i64 (hdOf b).l, .slice a1 n c1, .slice a2 n c2, .int .i64 (endN b : Int), .bool (marked b)] 30)) #[.bool (rdH b).isSome, .int .i64 (hdOf b).v, .int .i64 (hdOf b).s, .int .i64 (hdOf b).b, .int .i64 (hdOf b).l, .slice d1 n e1, .slice d2 n e2, .int .i64 (endN b : Int), .bool (marked b)] 30
  obtain ⟨W, hW⟩ : ∃ W, W = (w.alloc (.cells #[.bool (rdH b).isSome, .int .i64 (hdOf b).v, .int .i64 (hdOf b).s, .int .i64 (hdOf b).b, .int .i64 (hdOf b).l, .slice a1 n c1, .slice a2 n c2, .int .i64 (endN b : Int), .bool (marked b)] 30)).alloc (.cells #[.bool (rdH b).isSome, .int .i64 (hdOf b).v, .int .i64 (hdOf b).s, .int .i64 (hdOf b).b, .int .i64 (hdOf b).l, .slice d1 n e1, .slice d2 n e2, .int .i64 (endN b : Int), .bool (marked b)] 30) := ⟨_, rfl⟩
  have hws : (w.alloc (.cells #[.bool (rdH b).isSome, .int .i64 (hdOf b).v, .int .i64 (hdOf b).s, .int .i64 (hdOf b).b, .int .i64 (hdOf b).l, .slice a1 n c1, .slice a2 n c2, .int .i64 (endN b : Int), .bool (marked b)] 30)).heap.size = w.heap.size + 1 := by simp
  rw [← hW] at al2 bx by'
  rw [hws] at by'
  have B0 := Lib.hid (al1.trans (al2.mono al1.size))
  have rR := Lib.hid (own_below rR B0.out)
  have rO := Lib.hid (own_below rO B0.out)
  have rR' := Lib.hid (own_below rR' B0.out)
  have rO' := Lib.hid (own_below rO' B0.out)
  have BX := Lib.hid bx
  have BY := Lib.hid by'
  have x0 := bx.at 0 _ rfl
  have x1 := bx.at 1 _ rfl
  have x2 := bx.at 2 _ rfl
  have x3 := bx.at 3 _ rfl
  have x4 := bx.at 4 _ rfl
  have x5 := bx.at 5 _ rfl
  have x6 := bx.at 6 _ rfl
  have x7 := bx.at 7 _ rfl
  have x8 := bx.at 8 _ rfl
  have y0 := by'.at 0 _ rfl
  have y1 := by'.at 1 _ rfl
  have y2 := by'.at 2 _ rfl
  have y3 := by'.at 3 _ rfl
  have y4 := by'.at 4 _ rfl
  have y5 := by'.at 5 _ rfl
  have y6 := by'.at 6 _ rfl
  have y7 := by'.at 7 _ rfl
  have y8 := by'.at 8 _ rfl
  rw [hW] at x0 x1 x2 x3 x4 x5 x6 x7 x8 y0 y1 y2 y3 y4 y5 y6 y7 y8
  clear al1 al2 bx by' hws
  go_enter Try.func32, Try.ntmps32
  go_wp2_with fail
  rw [← hW]
  clear hW x0 x1 x2 x3 x4 x5 x6 x7 x8 y0 y1 y2 y3 y4 y5 y6 y7 y8
  refine (eqHead_any _ _ _ _ _).mono ?_
  rintro e w1 ⟨rfl, b1⟩
  have B1 := Lib.hid (B0.out.trans (b1.mono B0.out.size))
  have x0 := (BX.out.below b1).at 0 _ rfl
  have x1 := (BX.out.below b1).at 1 _ rfl
  have x2 := (BX.out.below b1).at 2 _ rfl
  have x3 := (BX.out.below b1).at 3 _ rfl
  have x4 := (BX.out.below b1).at 4 _ rfl
  have x5 := (BX.out.below b1).at 5 _ rfl
  have x6 := (BX.out.below b1).at 6 _ rfl
  have x7 := (BX.out.below b1).at 7 _ rfl
  have x8 := (BX.out.below b1).at 8 _ rfl
  have y0 := (BY.out.below b1).at 0 _ rfl
  have y1 := (BY.out.below b1).at 1 _ rfl
  have y2 := (BY.out.below b1).at 2 _ rfl
  have y3 := (BY.out.below b1).at 3 _ rfl
  have y4 := (BY.out.below b1).at 4 _ rfl
  have y5 := (BY.out.below b1).at 5 _ rfl
  have y6 := (BY.out.below b1).at 6 _ rfl
  have y7 := (BY.out.below b1).at 7 _ rfl
  have y8 := (BY.out.below b1).at 8 _ rfl
  go_wp2_with fail
  refine (strs.eqStr_any w1 (own_below rR.out b1) (own_below rR'.out b1)).mono ?_
  rintro e w2 ⟨rfl, b2⟩
  have b12 := chain b1 b2
  have B2 := Lib.hid (B1.out.trans (b2.mono B1.out.size))
  clear x0 x1 x2 x3 x4 x5 x6 x7 x8 y0 y1 y2 y3 y4 y5 y6 y7 y8 B1
  have x0 := (BX.out.below b12).at 0 _ rfl
  have x1 := (BX.out.below b12).at 1 _ rfl
  have x2 := (BX.out.below b12).at 2 _ rfl
  have x3 := (BX.out.below b12).at 3 _ rfl
  have x4 := (BX.out.below b12).at 4 _ rfl
  have x5 := (BX.out.below b12).at 5 _ rfl
  have x6 := (BX.out.below b12).at 6 _ rfl
  have x7 := (BX.out.below b12).at 7 _ rfl
  have x8 := (BX.out.below b12).at 8 _ rfl
  have y0 := (BY.out.below b12).at 0 _ rfl
  have y1 := (BY.out.below b12).at 1 _ rfl
  have y2 := (BY.out.below b12).at 2 _ rfl
  have y3 := (BY.out.below b12).at 3 _ rfl
  have y4 := (BY.out.below b12).at 4 _ rfl
  have y5 := (BY.out.below b12).at 5 _ rfl
  have y6 := (BY.out.below b12).at 6 _ rfl
  have y7 := (BY.out.below b12).at 7 _ rfl
  have y8 := (BY.out.below b12).at 8 _ rfl
  go_wp2_with fail
  refine (ints.eq_any a2 d2 c2 e2 n ks w2 (by unfold maxLen; omega) (ints.At.of_own (own_below rO.out b12)) (ints.At.of_own (own_below rO'.out b12))).mono ?_
  rintro e w3 ⟨rfl, b3⟩
  have b13 := chain b12 b3
  have B3 := Lib.hid (B2.out.trans (b3.mono B2.out.size))
  clear x0 x1 x2 x3 x4 x5 x6 x7 x8 y0 y1 y2 y3 y4 y5 y6 y7 y8 B2
  have x0 := (BX.out.below b13).at 0 _ rfl
  have x1 := (BX.out.below b13).at 1 _ rfl
  have x2 := (BX.out.below b13).at 2 _ rfl
  have x3 := (BX.out.below b13).at 3 _ rfl
  have x4 := (BX.out.below b13).at 4 _ rfl
  have x5 := (BX.out.below b13).at 5 _ rfl
  have x6 := (BX.out.below b13).at 6 _ rfl
  have x7 := (BX.out.below b13).at 7 _ rfl
  have x8 := (BX.out.below b13).at 8 _ rfl
  have y0 := (BY.out.below b13).at 0 _ rfl
  have y1 := (BY.out.below b13).at 1 _ rfl
  have y2 := (BY.out.below b13).at 2 _ rfl
  have y3 := (BY.out.below b13).at 3 _ rfl
  have y4 := (BY.out.below b13).at 4 _ rfl
  have y5 := (BY.out.below b13).at 5 _ rfl
  have y6 := (BY.out.below b13).at 6 _ rfl
  have y7 := (BY.out.below b13).at 7 _ rfl
  have y8 := (BY.out.below b13).at 8 _ rfl
  go_wp2
  go_ret
  exact ⟨rfl, B3.out⟩

/-- a scan whose rows are marked -/
def MarkScan (B : Nat) (w : World) (v : Value) (b : ByteArray) : Prop :=
  ∃ (R O : Value), v = .agg #[.bool (rdH b).isSome, .int .i64 (hdOf b).v, .int .i64 (hdOf b).s, .int .i64 (hdOf b).b, .int .i64 (hdOf b).l, R, O, .int .i64 (endN b : Int), .bool (marked b)] ∧
    w.ownsRow B 9 1 R (recs b).length ((strs.marks 1 (recs b).length).map Value.string) ∧ w.ownsRow B 3 1 O (recs b).length ((ints.marks (1 + (recs b).length) (recs b).length).map (Value.int .i64))
theorem MarkScan.below {B : Nat} {w w' : World} {v : Value} {b : ByteArray} (h : MarkScan B w v b) (hb : Below w.heap.size w w') : MarkScan B w' v b := by
  obtain ⟨R, O, hv, h1, h2⟩ := h
  exact ⟨R, O, hv, own_below h1 hb, own_below h2 hb⟩
def rowsOf : Value → List Value
  | .agg a => [a.getD 5 undef, a.getD 6 undef]
  | _ => []
/-- all but a scan's own rows is as it was -/
def Kept (w w' : World) (v : Value) : Prop := w.heap.size ≤ w'.heap.size ∧ ∀ g, g < w.heap.size → (∀ u ∈ rowsOf v, u.ownBlock ≠ some g) → w'.heap[g]? = w.heap[g]?
theorem Kept.box {w w' : World} {v : Value} {g : Nat} {cs : List Value} (h : Kept w w' v) (hb : Box w g cs) (hg : ∀ u ∈ rowsOf v, u.ownBlock ≠ some g) : Box w' g cs := by
  have hh := h.2 g hb.lt hg
  refine ⟨⟨Nat.lt_of_lt_of_le hb.lt h.1, fun j x hj => ?_⟩, fun j => (World.frozen?_of_block (a := ⟨g, j, none⟩) hh).trans (hb.2 j)⟩
  rw [← hb.1.2 j x hj]
  unfold World.cell?
  rw [hh]
theorem own_new {w : World} {B s n : Nat} {e : TypeId} {v : Value} {xs : List Value} (h : w.ownsRow B e s v n xs) (g : Nat) (hg : w.heap.size ≤ g) : v.ownBlock ≠ some g := fun e1 => by
  have := (own_block_ge h g e1).2
  omega
theorem OwnScan.off {B : Nat} {w : World} {v : Value} {b : ByteArray} (h : OwnScan B w v b) (g : Nat) (hg : w.heap.size ≤ g) : ∀ u ∈ rowsOf v, u.ownBlock ≠ some g := by
  obtain ⟨R, O, rfl, h1, h2⟩ := h
  intro u hu
  rcases List.mem_cons.1 hu with rfl | hu
  · exact own_new h1 g hg
  · obtain rfl := List.mem_singleton.1 hu
    exact own_new h2 g hg
theorem OwnScan.form {B : Nat} {w : World} {v : Value} {b : ByteArray} (h : OwnScan B w v b) : ∃ a1 c1 a2 c2, v = .agg #[.bool (rdH b).isSome, .int .i64 (hdOf b).v, .int .i64 (hdOf b).s, .int .i64 (hdOf b).b, .int .i64 (hdOf b).l, .slice a1 (recs b).length c1, .slice a2 (recs b).length c2, .int .i64 (endN b : Int), .bool (marked b)] := by
  obtain ⟨R, O, rfl, h1, h2⟩ := h
  obtain ⟨a1, c1, rfl, _, _, _⟩ := own_form h1
  obtain ⟨a2, c2, rfl, _, _, _⟩ := own_form (own_ints h2)
  exact ⟨a1, c1, a2, c2, rfl⟩

theorem own_low {w w' : World} {B s n k : Nat} {e : TypeId} {v : Value} {xs : List Value} (h : w.ownsRow B e s v n xs) (hk : ∀ g, v.ownBlock = some g → g < k) (hb : Below k w w') : w'.ownsRow B e s v n xs := by
  refine ⟨h.1, ?_⟩
  rcases h.2 with hn | ⟨g, cap, cur, rfl, hB, hh, rest⟩
  · exact .inl hn
  · exact .inr ⟨g, cap, cur, rfl, hB, (hb.block g (hk g rfl)).trans hh, rest⟩
theorem OwnScan.lows {B : Nat} {w : World} {v : Value} {b : ByteArray} (h : OwnScan B w v b) : ∀ u ∈ rowsOf v, ∀ g, u.ownBlock = some g → g < w.heap.size := by
  obtain ⟨R, O, rfl, h1, h2⟩ := h
  intro u hu g hg
  rcases List.mem_cons.1 hu with rfl | hu
  · exact (own_block_ge h1 g hg).2
  · obtain rfl := List.mem_singleton.1 hu
    exact (own_block_ge h2 g hg).2
theorem OwnScan.low {B k : Nat} {w w' : World} {v : Value} {b : ByteArray} (h : OwnScan B w v b) (hk : ∀ u ∈ rowsOf v, ∀ g, u.ownBlock = some g → g < k) (hb : Below k w w') : OwnScan B w' v b := by
  obtain ⟨R, O, rfl, h1, h2⟩ := h
  exact ⟨R, O, rfl, own_low h1 (hk R (List.mem_cons_self ..)) hb, own_low h2 (hk O (List.mem_cons_of_mem _ (List.mem_cons_self ..))) hb⟩
theorem Box.low {w w' : World} {g k : Nat} {cs : List Value} (h : Box w g cs) (hb : Below k w w') (hg : g < k) : Box w' g cs :=
  ⟨⟨Nat.lt_of_lt_of_le h.lt hb.size, fun i v hi => (hb.cell (p := ⟨g, i, none⟩) hg).trans (h.1.2 i v hi)⟩, fun j => (hb.frozen (p := ⟨g, j, none⟩) hg).trans (h.2 j)⟩

set_option maxHeartbeats 2000000 in
theorem markScan_any {B : Nat} {v : Value} (b : ByteArray) (w : World) (hm : b.size ≤ 1048576) (hB : B ≤ w.heap.size) (hv : OwnScan B w v b) :
    Calls Try.prog 33 #[v, .int .i64 1] w fun e w' => e = .returned (.int .i64 ((1 + (recs b).length + (recs b).length : Nat) : Int)) ∧ MarkScan B w' v b ∧ Below B w w' ∧ Kept w w' v := by
  obtain ⟨R, O, rfl, rR, rO⟩ := hv
  have hn := recs_le b
  have rO := own_ints rO
  obtain ⟨ks, hks⟩ : ∃ ks, (offs b).map (fun (o : Nat) => (o : Int)) = ks := ⟨_, rfl⟩
  rw [hks] at rO
  obtain ⟨a1, c1, rfl, _, _, _⟩ := own_form rR
  obtain ⟨a2, c2, rfl, _, _, _⟩ := own_form rO
  have HV := Lib.hid (show ∀ w' : World, w'.ownsRow B 9 1 (.slice a1 (recs b).length c1) (recs b).length ((strs.marks 1 (recs b).length).map Value.string) → w'.ownsRow B 3 1 (.slice a2 (recs b).length c2) (recs b).length ((ints.marks (1 + (recs b).length) (recs b).length).map (Value.int .i64)) → MarkScan B w' (.agg #[.bool (rdH b).isSome, .int .i64 (hdOf b).v, .int .i64 (hdOf b).s, .int .i64 (hdOf b).b, .int .i64 (hdOf b).l, .slice a1 (recs b).length c1, .slice a2 (recs b).length c2, .int .i64 (endN b : Int), .bool (marked b)]) b from fun _ h1 h2 => ⟨_, _, rfl, h1, h2⟩)
  obtain ⟨xs, hxs⟩ : ∃ xs, recs b = xs := ⟨_, rfl⟩
  rw [hxs] at rR rO hn HV ⊢
  obtain ⟨n, hnn⟩ : ∃ n, xs.length = n := ⟨_, rfl⟩
  rw [hnn] at rR rO hn HV ⊢
  clear hks hxs
  have al : Below w.heap.size w (w.alloc (.cells #[.bool (rdH b).isSome, .int .i64 (hdOf b).v, .int .i64 (hdOf b).s, .int .i64 (hdOf b).b, .int .i64 (hdOf b).l, .slice a1 n c1, .slice a2 n c2, .int .i64 (endN b : Int), .bool (marked b)] 30)) := (Below.refl _ _).alloc (Nat.le_refl _) _
  have bx := Box.new w #[.bool (rdH b).isSome, .int .i64 (hdOf b).v, .int .i64 (hdOf b).s, .int .i64 (hdOf b).b, .int .i64 (hdOf b).l, .slice a1 n c1, .slice a2 n c2, .int .i64 (endN b : Int), .bool (marked b)] 30
  obtain ⟨W, hW⟩ : ∃ W, W = w.alloc (.cells #[.bool (rdH b).isSome, .int .i64 (hdOf b).v, .int .i64 (hdOf b).s, .int .i64 (hdOf b).b, .int .i64 (hdOf b).l, .slice a1 n c1, .slice a2 n c2, .int .i64 (endN b : Int), .bool (marked b)] 30) := ⟨_, rfl⟩
  rw [← hW] at al bx
  have B0 := Lib.hid al
  have rR0 := Lib.hid rR
  have rR := Lib.hid (own_below rR al)
  have rO := Lib.hid (own_below rO al)
  have BX := Lib.hid bx
  have x0 := bx.at 0 _ rfl
  have x1 := bx.at 1 _ rfl
  have x2 := bx.at 2 _ rfl
  have x3 := bx.at 3 _ rfl
  have x4 := bx.at 4 _ rfl
  have x5 := bx.at 5 _ rfl
  have x6 := bx.at 6 _ rfl
  have x7 := bx.at 7 _ rfl
  have x8 := bx.at 8 _ rfl
  rw [hW] at x0 x1 x2 x3 x4 x5 x6 x7 x8
  clear al bx
  go_enter Try.func33, Try.ntmps33
  go_wp2_with fail
  rw [← hW]
  clear hW x0 x1 x2 x3 x4 x5 x6 x7 x8
  refine (strs.mark_any (k := 1) W (by omega) (by omega) rR.out).mono ?_
  rintro e w1 ⟨rfl, o1, g1⟩
  have hs0 : w.heap.size < W.heap.size := Nat.lt_of_lt_of_le BX.out.lt (Nat.le_refl _)
  have B1 := Lib.hid ((B0.out.mono hB).grown g1 (Nat.le_trans hB (Nat.le_of_lt hs0)) (fun k hk => (own_block_ge rR.out k hk).1))
  have X1 := BX.out.grown g1 (own_new rR0.out _ (Nat.le_refl _))
  have rO1 := Lib.hid (own_grown rO.out g1 (off_type rO.out rR.out (by decide)))
  have x0 := X1.at 0 _ rfl
  have x1 := X1.at 1 _ rfl
  have x2 := X1.at 2 _ rfl
  have x3 := X1.at 3 _ rfl
  have x4 := X1.at 4 _ rfl
  have x5 := X1.at 5 _ rfl
  have x6 := X1.at 6 _ rfl
  have x7 := X1.at 7 _ rfl
  have x8 := X1.at 8 _ rfl
  go_wp2_with fail
  clear x0 x1 x2 x3 x4 x5 x6 x7 x8
  refine (ints.mark_any (k := 1 + n) w1 (by omega) rO1.out).mono ?_
  rintro e w2 ⟨rfl, o2, g2⟩
  have B2 := Lib.hid (B1.out.grown g2 (Nat.le_trans (Nat.le_trans hB (Nat.le_of_lt hs0)) g1.size) (fun k hk => (own_block_ge rO1.out k hk).1))
  have M2 := Lib.hid (HV.out w2 (own_grown o1 g2 (off_type o1 rO1.out (by decide))) o2)
  have K2 := Lib.hid (show Kept w w2 (.agg #[.bool (rdH b).isSome, .int .i64 (hdOf b).v, .int .i64 (hdOf b).s, .int .i64 (hdOf b).b, .int .i64 (hdOf b).l, .slice a1 n c1, .slice a2 n c2, .int .i64 (endN b : Int), .bool (marked b)]) from ⟨Nat.le_trans (Nat.le_of_lt hs0) (Nat.le_trans g1.size g2.size), fun k hk hr => by
    have r1 := hr _ (List.mem_cons_self ..)
    have r2 := hr _ (List.mem_cons_of_mem _ (List.mem_cons_self ..))
    rw [g2.block k (Nat.lt_of_lt_of_le (Nat.lt_trans hk hs0) g1.size) (fun e => r2 e.symm), g1.block k (Nat.lt_trans hk hs0) (fun e => r1 e.symm)]
    exact B0.out.block k hk⟩)
  clear o1 g1 o2 g2 rR rO rO1 rR0 BX X1
  go_wp2
  go_ret
  exact ⟨by push_cast; rfl, M2.out, B2.out, K2.out⟩

set_option maxHeartbeats 2000000 in
theorem heldScan_any {B : Nat} {v : Value} (b : ByteArray) (w : World) (hm : b.size ≤ 1048576) (hv : MarkScan B w v b) :
    Calls Try.prog 34 #[v, .int .i64 1] w fun e w' => e = .returned (.int .i64 ((1 + (recs b).length + (recs b).length : Nat) : Int)) ∧ Below w.heap.size w w' := by
  obtain ⟨R, O, rfl, rR, rO⟩ := hv
  have hn := recs_le b
  obtain ⟨a1, c1, rfl, _, _, _⟩ := own_form rR
  obtain ⟨a2, c2, rfl, _, _, _⟩ := own_form rO
  obtain ⟨n, hnn⟩ : ∃ n, (recs b).length = n := ⟨_, rfl⟩
  rw [hnn] at rR rO hn ⊢
  clear hnn
  have al : Below w.heap.size w (w.alloc (.cells #[.bool (rdH b).isSome, .int .i64 (hdOf b).v, .int .i64 (hdOf b).s, .int .i64 (hdOf b).b, .int .i64 (hdOf b).l, .slice a1 n c1, .slice a2 n c2, .int .i64 (endN b : Int), .bool (marked b)] 30)) := (Below.refl _ _).alloc (Nat.le_refl _) _
  have bx := Box.new w #[.bool (rdH b).isSome, .int .i64 (hdOf b).v, .int .i64 (hdOf b).s, .int .i64 (hdOf b).b, .int .i64 (hdOf b).l, .slice a1 n c1, .slice a2 n c2, .int .i64 (endN b : Int), .bool (marked b)] 30
  obtain ⟨W, hW⟩ : ∃ W, W = w.alloc (.cells #[.bool (rdH b).isSome, .int .i64 (hdOf b).v, .int .i64 (hdOf b).s, .int .i64 (hdOf b).b, .int .i64 (hdOf b).l, .slice a1 n c1, .slice a2 n c2, .int .i64 (endN b : Int), .bool (marked b)] 30) := ⟨_, rfl⟩
  rw [← hW] at al bx
  have B0 := Lib.hid al
  have rR := Lib.hid (own_below rR al)
  have rO := Lib.hid (own_below rO al)
  have BX := Lib.hid bx
  have x0 := bx.at 0 _ rfl
  have x1 := bx.at 1 _ rfl
  have x2 := bx.at 2 _ rfl
  have x3 := bx.at 3 _ rfl
  have x4 := bx.at 4 _ rfl
  have x5 := bx.at 5 _ rfl
  have x6 := bx.at 6 _ rfl
  have x7 := bx.at 7 _ rfl
  have x8 := bx.at 8 _ rfl
  rw [hW] at x0 x1 x2 x3 x4 x5 x6 x7 x8
  clear al bx
  go_enter Try.func34, Try.ntmps34
  go_wp2_with fail
  rw [← hW]
  clear hW x0 x1 x2 x3 x4 x5 x6 x7 x8
  refine (strs.held_any (k := 1) W (by omega) (by omega) rR.out).mono ?_
  rintro e w1 ⟨rfl, b1⟩
  have B1 := Lib.hid (B0.out.trans (b1.mono B0.out.size))
  have x0 := (BX.out.below b1).at 0 _ rfl
  have x1 := (BX.out.below b1).at 1 _ rfl
  have x2 := (BX.out.below b1).at 2 _ rfl
  have x3 := (BX.out.below b1).at 3 _ rfl
  have x4 := (BX.out.below b1).at 4 _ rfl
  have x5 := (BX.out.below b1).at 5 _ rfl
  have x6 := (BX.out.below b1).at 6 _ rfl
  have x7 := (BX.out.below b1).at 7 _ rfl
  have x8 := (BX.out.below b1).at 8 _ rfl
  have hlt0 : ¬ ((1 + n : Nat) : Int) < 0 := by omega
  go_wp2_with fail
  clear x0 x1 x2 x3 x4 x5 x6 x7 x8
  refine (ints.held_any a2 c2 n (1 + n) w1 (by omega) (ints.At.of_own (own_below rO.out b1))).mono ?_
  rintro e w2 ⟨rfl, b2⟩
  have B2 := Lib.hid (B1.out.trans (b2.mono B1.out.size))
  have hlt1 : ¬ ((1 + n + n : Nat) : Int) < 0 := by omega
  go_wp2
  go_ret
  exact ⟨by push_cast; rfl, B2.out⟩

set_option maxHeartbeats 4000000 in
theorem exactScanText (b : ByteArray) (w : World) (hb : b.size ≤ 9223372036854775807) :
    Calls Try.prog 5 #[.string b] w fun e w' => e = .returned (.bool true) ∧ Below w.heap.size w w' := by
  by_cases h1 : 1048576 < b.size
  · go_enter Try.func5, Try.ntmps5
    go_wp2
    go_ret
    exact ⟨rfl, Below.refl _ _⟩
  have hm : b.size ≤ 1048576 := by omega
  have CS := Lib.hid (fun w => specScan b w hm)
  have CI := Lib.hid (fun w => implScan b w hm)
  have hn := recs_le b
  obtain ⟨n, hnn⟩ : ∃ n, (recs b).length = n := ⟨_, rfl⟩
  have HNN := Lib.hid hnn
  clear hnn
  have hn : n ≤ 1048576 := by rw [← HNN.out]; omega
  go_enter Try.func5, Try.ntmps5
  go_wp2_with fail
  refine (CS.out _).mono ?_
  rintro e w1 ⟨⟨v1, rfl, o1⟩, b1⟩
  obtain ⟨p1, q1, r1, t1, rfl⟩ := o1.form
  rw [HNN.out] at o1 ⊢
  obtain ⟨W1, hW1⟩ : ∃ W1, W1 = w1.alloc (.cells #[.bool (rdH b).isSome, .int .i64 (hdOf b).v, .int .i64 (hdOf b).s, .int .i64 (hdOf b).b, .int .i64 (hdOf b).l, .slice p1 n q1, .slice r1 n t1, .int .i64 (endN b : Int), .bool (marked b)] 30) := ⟨_, rfl⟩
  have alW1 : Below w1.heap.size w1 W1 := by rw [hW1]; exact (Below.refl _ _).alloc (Nat.le_refl _) _
  have bx1 : Box W1 w1.heap.size [.bool (rdH b).isSome, .int .i64 (hdOf b).v, .int .i64 (hdOf b).s, .int .i64 (hdOf b).b, .int .i64 (hdOf b).l, .slice p1 n q1, .slice r1 n t1, .int .i64 (endN b : Int), .bool (marked b)] := by rw [hW1]; exact Box.new w1 _ _
  have L1 := Lib.hid (fun u hu g hg => Nat.lt_of_lt_of_le (o1.lows u hu g hg) alW1.size)
  have O1 := Lib.hid (o1.below alW1)
  have B1 := Lib.hid (b1.trans (alW1.mono b1.size))
  have X1 := Lib.hid bx1
  have s1 := b1.size
  have HW1 := Lib.hid hW1
  have z1 : w1.heap.size < W1.heap.size := bx1.lt
  clear o1 b1 alW1 bx1 hW1 CS
  go_wp2_with fail
  rw [← HW1.out]
  refine (CI.out _).mono ?_
  rintro e w2 ⟨⟨v2, rfl, o2⟩, b2⟩
  obtain ⟨p2, q2, r2, t2, rfl⟩ := o2.form
  rw [HNN.out] at o2 ⊢
  obtain ⟨W2, hW2⟩ : ∃ W2, W2 = w2.alloc (.cells #[.bool (rdH b).isSome, .int .i64 (hdOf b).v, .int .i64 (hdOf b).s, .int .i64 (hdOf b).b, .int .i64 (hdOf b).l, .slice p2 n q2, .slice r2 n t2, .int .i64 (endN b : Int), .bool (marked b)] 30) := ⟨_, rfl⟩
  have alW2 : Below w2.heap.size w2 W2 := by rw [hW2]; exact (Below.refl _ _).alloc (Nat.le_refl _) _
  have bx2 : Box W2 w2.heap.size [.bool (rdH b).isSome, .int .i64 (hdOf b).v, .int .i64 (hdOf b).s, .int .i64 (hdOf b).b, .int .i64 (hdOf b).l, .slice p2 n q2, .slice r2 n t2, .int .i64 (endN b : Int), .bool (marked b)] := by rw [hW2]; exact Box.new w2 _ _
  have hb2 : Below W1.heap.size W1 W2 := b2.trans (alW2.mono b2.size)
  have F2 := Lib.hid (o2.off w2.heap.size (Nat.le_refl _))
  have O2 := Lib.hid (o2.below alW2)
  have O1 := Lib.hid (O1.out.below hb2)
  have B2 := Lib.hid (B1.out.trans (hb2.mono B1.out.size))
  have X2 := Lib.hid bx2
  have X1 := Lib.hid (X1.out.below hb2)
  have s2 := b2.size
  have z2 : w2.heap.size < W2.heap.size := bx2.lt
  have x0 := X1.out.at 0 _ rfl
  have x1 := X1.out.at 1 _ rfl
  have x2 := X1.out.at 2 _ rfl
  have x3 := X1.out.at 3 _ rfl
  have x4 := X1.out.at 4 _ rfl
  have x5 := X1.out.at 5 _ rfl
  have x6 := X1.out.at 6 _ rfl
  have x7 := X1.out.at 7 _ rfl
  have x8 := X1.out.at 8 _ rfl
  have y0 := X2.out.at 0 _ rfl
  have y1 := X2.out.at 1 _ rfl
  have y2 := X2.out.at 2 _ rfl
  have y3 := X2.out.at 3 _ rfl
  have y4 := X2.out.at 4 _ rfl
  have y5 := X2.out.at 5 _ rfl
  have y6 := X2.out.at 6 _ rfl
  have y7 := X2.out.at 7 _ rfl
  have y8 := X2.out.at 8 _ rfl
  rw [hW2] at x0 x1 x2 x3 x4 x5 x6 x7 x8 y0 y1 y2 y3 y4 y5 y6 y7 y8
  have HW2 := Lib.hid hW2
  clear o2 b2 alW2 bx2 hW2 hb2
  go_wp2_with fail
  rw [← HW2.out]
  clear x0 x1 x2 x3 x4 x5 x6 x7 x8 y0 y1 y2 y3 y4 y5 y6 y7 y8
  refine (eqScan_any b W2 hm O2.out O1.out).mono ?_
  rintro e w3 ⟨rfl, b3⟩
  have O2 := Lib.hid (O2.out.below b3)
  have O1 := Lib.hid (O1.out.below b3)
  have B3 := Lib.hid (B2.out.trans (b3.mono B2.out.size))
  have X2 := Lib.hid (X2.out.below b3)
  have X1 := Lib.hid (X1.out.below b3)
  have s3 := b3.size
  have z3 : W1.heap.size ≤ w3.heap.size := by omega
  have y0 := X2.out.at 0 _ rfl
  have y1 := X2.out.at 1 _ rfl
  have y2 := X2.out.at 2 _ rfl
  have y3 := X2.out.at 3 _ rfl
  have y4 := X2.out.at 4 _ rfl
  have y5 := X2.out.at 5 _ rfl
  have y6 := X2.out.at 6 _ rfl
  have y7 := X2.out.at 7 _ rfl
  have y8 := X2.out.at 8 _ rfl
  clear b3
  go_wp2_with fail
  clear y0 y1 y2 y3 y4 y5 y6 y7 y8
  refine (markScan_any b w3 hm z3 O2.out).mono ?_
  rw [HNN.out]
  rintro e w4 ⟨rfl, m4, b4, k4⟩
  have M4 := Lib.hid m4
  have X2 := Lib.hid (k4.box X2.out F2.out)
  have O1 := Lib.hid (O1.out.low L1.out b4)
  have X1 := Lib.hid (X1.out.low b4 z1)
  have B4 := Lib.hid (B3.out.trans (b4.mono (Nat.le_trans s1 (Nat.le_of_lt z1))))
  have z4 := k4.1
  have y0 := X2.out.at 0 _ rfl
  have y1 := X2.out.at 1 _ rfl
  have y2 := X2.out.at 2 _ rfl
  have y3 := X2.out.at 3 _ rfl
  have y4 := X2.out.at 4 _ rfl
  have y5 := X2.out.at 5 _ rfl
  have y6 := X2.out.at 6 _ rfl
  have y7 := X2.out.at 7 _ rfl
  have y8 := X2.out.at 8 _ rfl
  clear m4 k4 b4 L1 O2
  go_wp2_with fail
  clear y0 y1 y2 y3 y4 y5 y6 y7 y8
  refine (heldScan_any b w4 hm M4.out).mono ?_
  rw [HNN.out]
  rintro e w5 ⟨rfl, b5⟩
  have M5 := Lib.hid (M4.out.below b5)
  have O1 := Lib.hid (O1.out.below b5)
  have X1 := Lib.hid (X1.out.below b5)
  have X2 := Lib.hid (X2.out.below b5)
  have B5 := Lib.hid (B4.out.trans (b5.mono B4.out.size))
  have hlt : ¬ ((1 + n + n : Nat) : Int) < 0 := by omega
  clear b5 M4
  go_wp2_with fail
  refine (CI.out _).mono ?_
  rintro e w6 ⟨⟨v6, rfl, o6⟩, b6⟩
  obtain ⟨p3, q3, r3, t3, rfl⟩ := o6.form
  rw [HNN.out] at o6 ⊢
  obtain ⟨W6, hW6⟩ : ∃ W6, W6 = w6.alloc (.cells #[.bool (rdH b).isSome, .int .i64 (hdOf b).v, .int .i64 (hdOf b).s, .int .i64 (hdOf b).b, .int .i64 (hdOf b).l, .slice p3 n q3, .slice r3 n t3, .int .i64 (endN b : Int), .bool (marked b)] 30) := ⟨_, rfl⟩
  have al6 : Below w6.heap.size w6 W6 := by rw [hW6]; exact (Below.refl _ _).alloc (Nat.le_refl _) _
  have bx3 : Box W6 w6.heap.size [.bool (rdH b).isSome, .int .i64 (hdOf b).v, .int .i64 (hdOf b).s, .int .i64 (hdOf b).b, .int .i64 (hdOf b).l, .slice p3 n q3, .slice r3 n t3, .int .i64 (endN b : Int), .bool (marked b)] := by rw [hW6]; exact Box.new w6 _ _
  have hb6 : Below w5.heap.size w5 W6 := b6.trans (al6.mono b6.size)
  have O6 := Lib.hid (o6.below al6)
  have O1 := Lib.hid (O1.out.below hb6)
  have M6 := Lib.hid (M5.out.below hb6)
  have X2 := Lib.hid (X2.out.below hb6)
  have X1 := X1.out.below hb6
  have B6 := Lib.hid (B5.out.trans (hb6.mono B5.out.size))
  have x0 := X1.at 0 _ rfl
  have x1 := X1.at 1 _ rfl
  have x2 := X1.at 2 _ rfl
  have x3 := X1.at 3 _ rfl
  have x4 := X1.at 4 _ rfl
  have x5 := X1.at 5 _ rfl
  have x6 := X1.at 6 _ rfl
  have x7 := X1.at 7 _ rfl
  have x8 := X1.at 8 _ rfl
  have y0 := bx3.at 0 _ rfl
  have y1 := bx3.at 1 _ rfl
  have y2 := bx3.at 2 _ rfl
  have y3 := bx3.at 3 _ rfl
  have y4 := bx3.at 4 _ rfl
  have y5 := bx3.at 5 _ rfl
  have y6 := bx3.at 6 _ rfl
  have y7 := bx3.at 7 _ rfl
  have y8 := bx3.at 8 _ rfl
  rw [hW6] at x0 x1 x2 x3 x4 x5 x6 x7 x8 y0 y1 y2 y3 y4 y5 y6 y7 y8
  have HW6 := Lib.hid hW6
  clear o6 b6 al6 bx3 hW6 hb6 X1 M5
  go_wp2_with fail
  rw [← HW6.out]
  clear x0 x1 x2 x3 x4 x5 x6 x7 x8 y0 y1 y2 y3 y4 y5 y6 y7 y8
  refine (eqScan_any b W6 hm O6.out O1.out).mono ?_
  rintro e w7 ⟨rfl, b7⟩
  have M7 := Lib.hid (M6.out.below b7)
  have X2 := X2.out.below b7
  have B7 := Lib.hid (B6.out.trans (b7.mono B6.out.size))
  have y0 := X2.at 0 _ rfl
  have y1 := X2.at 1 _ rfl
  have y2 := X2.at 2 _ rfl
  have y3 := X2.at 3 _ rfl
  have y4 := X2.at 4 _ rfl
  have y5 := X2.at 5 _ rfl
  have y6 := X2.at 6 _ rfl
  have y7 := X2.at 7 _ rfl
  have y8 := X2.at 8 _ rfl
  clear b7 M6 X2 O6 O1
  go_wp2_with fail
  clear y0 y1 y2 y3 y4 y5 y6 y7 y8
  refine (heldScan_any b w7 hm M7.out).mono ?_
  rw [HNN.out]
  rintro e w8 ⟨rfl, b8⟩
  have B8 := Lib.hid (B7.out.trans (b8.mono B7.out.size))
  clear b8 M7
  go_wp2
  go_ret
  exact ⟨rfl, B8.out⟩

end Go.Proofs.Ytbgkdngeingmnaa.sc
