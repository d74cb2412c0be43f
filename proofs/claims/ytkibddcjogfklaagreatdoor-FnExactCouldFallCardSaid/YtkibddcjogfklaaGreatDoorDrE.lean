/-
  The landed program's map of names, made by a range over slices.Backward: of a name that stands twice the first entry counts.
-/
import Derived.RangeFuncNested
import Derived.RangeFuncBound
import Derived.RangeFuncBox
import Derived.RangeFuncCalls
import Derived.RangeFuncLeaves
import Derived.Shelf.Abstract
import Derived.Shelf.RegionOpen
import Derived.OwnWalkIn
import Derived.TacticsInMore
import Derived.LoopNIn
import Derived.LoopIn
import Derived.Maps.OwnIn
import Derived.Test.YtkibddcjogfklaaGreatDoorIkY
namespace Go.Proofs.YtkibddcjogfklaaGreatDoor.ik
open Go.RowKit Go.Maps Go.WideMaps Go.Shelf
open kit strs recs disk deed

attribute [local go_sem] Oper.semAt_some

theorem wf_lit {x : Int} (h : recs.wfI x) : (Lit.int .i64 x).wf = true := by
  have e1 : IntKind.i64.min = -9223372036854775808 := rfl
  have e2 : IntKind.i64.max = 9223372036854775807 := rfl
  obtain ⟨h1, h2⟩ := h
  simp [Lit.wf, e1, e2, h1, h2]
/-- an entry of a list: its name is short, its number is an int -/
abbrev EW := { e : Ent // e.1.size ≤ maxLen ∧ recs.wfI e.2 }
@[reducible] def encB (x : Int × EW) : Array Value := #[.int .i64 x.1, .agg #[.string x.2.val.1, .int .i64 x.2.val.2]]
def come (pre : List (Int × EW)) : List Ent := pre.map fun x => x.2.val
theorem come_snoc (pre : List (Int × EW)) (x : Int × EW) : come (pre ++ [x]) = come pre ++ [x.2.val] := by simp [come]
/-- what a round that goes on keeps: all below, and the box of the list -/
def Kb (n₀ Bs : Nat) (W W' : World) : Prop := Below n₀ W W' ∧ ∀ v, W.cell? ⟨Bs, 0, none⟩ = some v → W'.cell? ⟨Bs, 0, none⟩ = some v
theorem kb_t {n₀ Bs : Nat} {X Y Z : World} (h : Kb n₀ Bs X Y) (k : Kb n₀ Bs Y Z) : Kb n₀ Bs X Z := ⟨h.1.trans k.1, fun v hv => k.2 v (h.2 v hv)⟩
theorem kb_b {n₀ Bs : Nat} {w : World} (hn : n₀ ≤ w.heap.size) (W : World) (l : Nat) (o o' : Obj) (hl : w.heap.size ≤ l) (h : W.heap[l]? = some o) (hc : o.isCells = false) (hk : o.isWalk = false) : Kb n₀ Bs W (W.putObj l o') :=
  ⟨belowK_b hn W l o o' hl h hc hk, fun v hv => cell_kept hv (grownBy_putObj' W l o') (fun r e => by cases e; exact ⟨o, h, hc⟩)⟩

set_option maxRecDepth 100000 in
set_option maxHeartbeats 4000000 in
/-- slices.Backward's closure, for every loop body that keeps what lay below n₀ and the list's box. -/
theorem back1_in (F : Fence) (n : Nat) (hf : F.fn 75) (hro : F.round = none) (hn : 1 ≤ n) (l Bs len cap : Nat) (a : Option Addr) (xs : List Ent) (hlen : len ≤ 2000000) (hx : recs.wfE xs)
    (w0 : World) (ha : AtE w0 a len xs) (J Jx : List (Int × EW) → World → Prop)
    (hY : ∀ pre x W, J pre W → pre.length < len → YieldAt F (n - 1) Tryz.prog l (encB x) W fun e W' =>
      (e = .returned (.bool true) ∧ J (pre ++ [x]) W' ∧ Kb w0.heap.size Bs W W') ∨ (e = .returned (.bool false) ∧ Jx (pre ++ [x]) W'))
    (W : World) (hW : Below w0.heap.size w0 W) (hBs : W.cell? ⟨Bs, 0, none⟩ = some (.slice a len cap)) (h0 : J [] W) :
    CallsIn F n Tryz.prog 75 #[.func (.yield l) #[] #[], .pointer (some ⟨Bs, 0, none⟩)] W fun e W' => (∃ v, e = .returned v) ∧
      ((∃ ys, come ys = xs.reverse ∧ J ys W') ∨ (∃ pre, True ∧ Jx pre W')) := by
  refine callsIn_of_wp Tryz.func75 rfl hf ?_ hro
  simp only [Tryz.ntmps75, List.size_toArray, List.length_cons, List.length_nil, Nat.reduceAdd, Nat.reduceSub, Array.replicate_succ, Array.replicate_zero, List.push_toArray, List.append_toArray, List.nil_append, List.cons_append]
  have hxl := ha.len
  gi_wp2
  gi_loopw [3] (fun i wr => ∃ (k : Nat) (pre : List (Int × EW)), k ≤ len ∧ i = .int .i64 ((len : Int) - 1 - k) ∧ come pre = (xs.drop (len - k)).reverse ∧ pre.length = k ∧ J pre wr ∧ Kb w0.heap.size Bs W wr)
    (fun i _ => (intOf i + 1).toNat)
  case atStart => exact ⟨0, [], Nat.zero_le _, by first | rfl | (congr 1; omega) | simp, by simp [come, hxl], rfl, h0, Below.refl _ _, fun v h => h⟩
  case round =>
    obtain ⟨k, pre, hk, rfl, hc, hpl, hJs, hnx⟩ := hrel
    have hBr := hnx.2 _ hBs
    by_cases hlt : k < len
    · obtain ⟨t, i, g, o, hxt, rfl, hg, c1, c2⟩ := (ha.below (hW.trans hnx.1)).get (k := len - 1 - k) (by omega)
      have hwt := hx _ (List.mem_of_getElem? hxt)
      obtain ⟨fn, tmps, assign, body, hy, hR⟩ := hY pre ((len : Int) - 1 - k, ⟨(t, i), hwt⟩) wr hJs (by omega)
      dsimp only [encB] at hy
      have e1 : ((len : Int) - 1 - (k : Int)).toNat = len - 1 - k := by omega
      have i0 : (0 : Int) ≤ (len : Int) - 1 - (k : Int) := by omega
      have i1 : (len : Int) - 1 - (k : Int) < (len : Int) := by omega
      have hcn : come (pre ++ [((len : Int) - 1 - k, ⟨(t, i), hwt⟩)]) = (xs.drop (len - (k + 1))).reverse := by
        rw [come_snoc, hc]
        have e2 : xs.drop (len - (k + 1)) = (t, i) :: xs.drop (len - k) := by
          rw [drop_cons (show xs[len - (k + 1)]? = some (t, i) by rw [← hxt]; congr 1; omega)]
          congr 2
          omega
        rw [e2, List.reverse_cons]
      gi_wp2
      refine hR.mono ?_
      rintro e W3 (⟨rfl, hJ3, hk3⟩ | ⟨rfl, hJx3⟩)
      · gi_wp2
        go_roundw
        case rel => exact ⟨k + 1, _, by omega, by first | go_num | (congr 1; omega), hcn, by simp [hpl], hJ3, kb_t hnx hk3⟩
        case measure => simp [intOf]; omega
      · gi_wp2
        refine bodyPost_ret (results_none rfl _ _ _) rfl ?_
        exact ⟨⟨_, rfl⟩, .inr ⟨_, trivial, hJx3⟩⟩
    · obtain rfl : k = len := by omega
      have i0 : ¬ (0 : Int) ≤ (k : Int) - 1 - (k : Int) := by omega
      gi_wp2
      go_end0
      exact ⟨⟨_, rfl⟩, .inl ⟨_, by rw [hc]; simp, hJs⟩⟩

theorem back_stops (F : Fence) (n : Nat) (hf : F.fn 75) (hro : F.round = none) (hn : 1 ≤ n) (Bs len cap : Nat) (a : Option Addr) (xs : List Ent) (hlen : len ≤ 2000000) (hx : recs.wfE xs)
    (w0 w : World) (ha : AtE w0 a len xs) (hw : Below w0.heap.size w0 w) (hBs : Bs < w.heap.size) (hc : w.cell? ⟨Bs, 0, none⟩ = some (.slice a len cap)) :
    SeqStopsK F n Tryz.prog 75 #[.pointer (some ⟨Bs, 0, none⟩)] encB (Kb w0.heap.size Bs) (fun ys => come ys = xs.reverse) (fun _ => True) len w := fun l J Jx W hW _ _ hY h0 =>
  back1_in F n hf hro hn l Bs len cap a xs hlen hx w0 ha J Jx hY W (hw.trans (hW.mono hw.size)) ((hW.cell (p := ⟨Bs, 0, none⟩) hBs).trans hc) h0

set_option maxHeartbeats 1000000 in
theorem back_in (F : Fence) (n : Nat) (hf : F.fn 65) (hro : F.round = none) (a : Option Addr) (len cap : Nat) (w : World) :
    CallsIn F n Tryz.prog 65 #[.slice a len cap] w fun e w' => e = .returned (.func (.func 75) #[] #[.pointer (some ⟨w.heap.size, 0, none⟩)]) ∧ w' = w.alloc (.cells #[.slice a len cap] 30) := by
  refine callsIn_of_wp Tryz.func65 rfl hf ?_ hro
  simp only [Tryz.ntmps65, List.size_toArray, List.length_cons, List.length_nil, Nat.reduceAdd, Nat.reduceSub, Array.replicate_succ, Array.replicate_zero, List.push_toArray, List.append_toArray, List.nil_append, List.cons_append]
  gi_wp2
  go_ret
  exact ⟨rfl, rfl⟩

/-- entries put one by one -/
def insAll (l : List Ent) : List Ent := l.foldl (fun m e => insE e m) []
theorem insAll_snoc (l : List Ent) (e : Ent) : insAll (l ++ [e]) = insE e (insAll l) := by simp [insAll]
theorem insE_first {e : Ent} {l : List Ent} (h : ∀ x ∈ l, lessB e.1 x.1 = true) : insE e l = e :: l := by
  cases l with
  | nil => rfl
  | cons x r =>
    have hx := h x List.mem_cons_self
    rw [insE, if_neg (less_no hx), if_neg (fun e2 => less_ne hx e2.symm)]
theorem insAll_rev {xs : List Ent} (h : Srt xs) : insAll xs.reverse = xs := by
  induction xs with
  | nil => rfl
  | cons x r ih =>
    have h' := List.pairwise_cons.1 h
    rw [List.reverse_cons, insAll_snoc, ih h'.2, insE_first h'.1]

set_option maxRecDepth 100000 in
set_option maxHeartbeats 4000000 in
theorem names_in (a : Option Addr) (c n : Nat) (xs : List Ent) (w : World) (hm : n ≤ 2000000) (ha : AtE w a n xs) (hw : recs.wfE xs) (hs : Srt xs) :
    CallsIn Fence.wide 6 Tryz.prog 44 #[.slice a n c] w fun e W' => e = .returned (.map (some w.heap.size)) ∧ MapE W' w.heap.size n xs ∧ Below w.heap.size w W' := by
  have hmm := @run_makeMap Tryz.prog
  have hxl := ha.len
  refine callsIn_of_wp_marks Tryz.func44 rfl trivial ?_ rfl
  simp only [Tryz.ntmps44, List.size_toArray, List.length_cons, List.length_nil, Nat.reduceAdd, Nat.reduceSub, Array.replicate_succ, Array.replicate_zero, List.push_toArray, List.append_toArray, List.nil_append, List.cons_append]
  gi_wp2_with (refine ⟨trivial, ?_⟩; gi_at_call 65; refine (back_in Fence.wide _ trivial rfl _ _ _ _).mono ?_; rintro e w' ⟨rfl, rfl⟩)
  have hm0 := World.ownsMap_made w Tryz.prog 9 (plainElem (H := Unit) Tryz.prog 3)
  have bM := (Boxed.new (w.alloc (.map #[] 0)) 69 (.map (some w.heap.size))).alloc (.cells #[.slice a n c] 30)
  have bL := Boxed.new ((w.alloc (.map #[] 0)).alloc (.cells #[.map (some w.heap.size)] 69)) 30 (.slice a n c)
  simp only [World.size_alloc] at bM bL
  have hB0 : Below w.heap.size w (((w.alloc (.map #[] 0)).alloc (.cells #[.map (some w.heap.size)] 69)).alloc (.cells #[.slice a n c] 30)) := (((Below.refl _ w).alloc (Nat.le_refl _) _).alloc (by simp) _).alloc (by simp; omega) _
  have hsz : (((w.alloc (.map #[] 0)).alloc (.cells #[.map (some w.heap.size)] 69)).alloc (.cells #[.slice a n c] 30)).heap.size = w.heap.size + 3 := by simp
  have hmap : MapE (((w.alloc (.map #[] 0)).alloc (.cells #[.map (some w.heap.size)] 69)).alloc (.cells #[.slice a n c] 30)) w.heap.size 0 [] := ⟨_, (hm0.alloc _).alloc _, Rep.empty, List.Pairwise.nil⟩
  obtain ⟨W0, hW0⟩ : ∃ W0, ((w.alloc (.map #[] 0)).alloc (.cells #[.map (some w.heap.size)] 69)).alloc (.cells #[.slice a n c] 30) = W0 := ⟨_, rfl⟩
  rw [hW0] at bM bL hB0 hsz hmap ⊢
  clear hW0 hm0
  refine wpIn_rangeFunc_ownH rfl (by omega) (gf := 75) (lb := #[.pointer (some ⟨w.heap.size + 1 + 1, 0, none⟩)]) rfl trivial (enters_of Tryz.func75 (by kernel_rfl) rfl)
    (back_stops Fence.wide _ trivial rfl (by omega) (w.heap.size + 1 + 1) n c a xs hm hw w W0 ha hB0 (by omega) bL.cell) kb_t (kb_b (by omega)) (Below.refl _ _) (fun _ => rfl)
    (fun pre W => (Boxed W (w.heap.size + 1) 69 (.map (some w.heap.size)) ∧ MapE W w.heap.size pre.length (insAll (come pre))) ∧ Below w.heap.size w W)
    (fun _ _ _ => False)
    (OwnFrom.and (OwnFrom.and (Own.from (boxed_own _ _ _) _) (fun s A B row hs hg hr => hs.kept hg (fun e => by have := (hr _ e.symm).1; omega))) (ownFrom_below (Nat.le_refl _) (by omega)))
    (fun _ _ _ _ _ hs _ _ => hs)
    ⟨⟨bM, hmap⟩, hB0⟩
    (fun x a' W => ∃ Bx, (W.cell? ⟨Bx, 0, none⟩ = some (.string x.2.val.1) ∧ W.cell? ⟨Bx, 1, none⟩ = some (.int .i64 x.2.val.2)) ∧ a' = { tmps := #[.slice a n c, undef, .map none, .pointer (some ⟨w.heap.size + 1, 0, none⟩), undef, .pointer (some ⟨Bx, 0, none⟩), .map (some w.heap.size), .slice a n c, .func (.func 75) #[] #[.pointer (some ⟨w.heap.size + 1 + 1, 0, none⟩)], .int .i64 x.1, .agg #[.string x.2.val.1, .int .i64 x.2.val.2], undef, undef, undef, undef, undef, undef], defers := [] })
    (fun x a' _ X Y row hs hg hr => by obtain ⟨Bx, ⟨h2, h3⟩, h4⟩ := hs; exact ⟨Bx, ⟨cell_kept h2 hg (fun r e => (hr r e).2), cell_kept h3 hg (fun r e => (hr r e).2)⟩, h4⟩)
    ?assign ?body ?done ?stop
  case assign =>
    rintro l pre x W K ⟨⟨bM1, hm1⟩, hB1⟩ hK
    have hs1 := hB1.size
    have hlM := bM1.lt
    dsimp only [encB]
    gi_wp2
    refine hK _ _ ((KeepsOthers.alloc _ _).from _) ⟨(Below.refl _ W).alloc hs1 _, fun v hv => ?_⟩ ⟨⟨bM1.alloc _, hm1.below ((Below.refl _ W).alloc (Nat.le_refl _) _)⟩, hB1.alloc hs1 _⟩ ⟨W.heap.size, ⟨?_, ?_⟩, rfl⟩
    · exact cell_kept hv (World.grownBy_alloc W _ none) (fun r e => by cases e)
    · simp
    · simp
  case body =>
    rintro l pre x a' W hl ⟨r, hr⟩ ⟨⟨bM1, hm1⟩, hB1⟩ ⟨Bx, ⟨x0, x1⟩, rfl⟩ hlt
    have cM := bM1.cell
    obtain ⟨D, ho, hrep, hsrt⟩ := hm1
    have hkey := x.2.property.1
    have hwf := wf_lit x.2.property.2
    gi_wp2_with (gi_at_mapUpdate; refine wpListIn_mapUpdate_own _ rfl _ _ _ 69 rfl 9 3 lawS Tryz.underlying69 _ w.heap.size pre.length D rfl ho (by unfold maxLen; omega) _ _ _ rfl rfl (keyOf_string_mk Tryz.underlying9 hkey) _ [] (plainElem_int Tryz.underlying3 hwf) ?_; intro w1 hown1 hgrow1)
    have hsB := hB1.size
    refine ⟨KeepsFrom.of_grownBy hgrow1 (fun j e => by cases e; omega), ⟨(Below.refl _ W).grown hgrow1 hsB (fun k e => by cases e; exact Nat.le_refl _), fun v hv => ?_⟩, ⟨⟨bM1.kept hgrow1 (fun e => by have := Option.some.inj e; omega), ?_⟩, hB1.grown hgrow1 hsB (fun k e => by cases e; exact Nat.le_refl _)⟩⟩
    · obtain ⟨es, ck, hh, _⟩ := ho
      exact cell_kept hv hgrow1 (fun r e => by cases e; exact ⟨_, hh, rfl⟩)
    · rw [come_snoc, insAll_snoc, List.length_append]
      exact ⟨_, hown1, hrep.put x.2.val, ins_srt hsrt⟩
  case done =>
    rintro D ys W hD hys ⟨⟨bM1, hm1⟩, hB1⟩ hK
    have cM := bM1.cell
    have hyl : ys.length = n := by
      have := congrArg List.length hys
      simpa [come, hxl] using this
    rw [hys, insAll_rev hs, hyl] at hm1
    gi_wp2
    refine ⟨by simp, .inl ⟨_, _, rfl, run_takeDeferred hK, ?_⟩⟩
    exact ⟨_, results_tmp rfl _ _ _, rfl, hm1.kept (grownBy_putObj' _ D _) (fun e => by have := Option.some.inj e; omega), hB1.trans (belowK_b (w := w) (Nat.le_refl _) W D _ _ (by omega) hK rfl rfl)⟩
  case stop =>
    rintro D c pre W _ _ h _
    exact h.elim

theorem implNames (a : Option Addr) (c n : Nat) (xs : List Ent) (w : World) (hm : n ≤ 2000000) (ha : AtE w a n xs) (hw : recs.wfE xs) (hs : Srt xs) :
    Calls Tryz.prog 44 #[.slice a n c] w fun e w' => ∃ b, e = .returned (.map (some b)) ∧ MapE w' b n xs ∧ w.heap.size ≤ b ∧ Below w.heap.size w w' :=
  (callsIn_wide.1 (names_in a c n xs w hm ha hw hs)).mono fun _ _ ⟨h1, h2, h3⟩ => ⟨_, h1, h2, Nat.le_refl _, h3⟩

end Go.Proofs.YtkibddcjogfklaaGreatDoor.ik
