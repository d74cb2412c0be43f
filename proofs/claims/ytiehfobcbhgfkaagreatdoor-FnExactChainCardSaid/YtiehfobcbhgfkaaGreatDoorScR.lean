/-
  A range over a method value whose calls of yield go from state to state: the law of such a loop, for a body that always goes on.
-/
import Derived.RangeFuncNested
import Derived.RangeFuncBound
import Derived.RangeFuncCalls
import Derived.RangeFuncLeaves
import Derived.Shelf.Abstract
import Derived.Shelf.RegionOpen
import Derived.WalkKit
import Derived.OwnWalkIn
import Derived.TacticsInMore
import Derived.LoopNIn
import Derived.LoopIn
import Derived.Test.YtiehfobcbhgfkaaGreatDoorIntX
import Derived.Test.YtiehfobcbhgfkaaGreatDoorFrQ
import Derived.Test.YtiehfobcbhgfkaaGreatDoorHdQ
import Derived.Test.YtiehfobcbhgfkaaGreatDoorScC
namespace Go.Proofs.YtiehfobcbhgfkaaGreatDoor.rg
set_option maxRecDepth 20000
open Go.RowKit

/-- blocks from B on that are of the kind T lie as they lay -/
structure Stay (T : Obj → Prop) (B : Nat) (W W' : World) : Prop where
  size : W.heap.size ≤ W'.heap.size
  same : ∀ (k : Nat) (o : Obj), B ≤ k → W.heap[k]? = some o → T o → W'.heap[k]? = some o
theorem Stay.refl (T : Obj → Prop) (B : Nat) (W : World) : Stay T B W W := ⟨Nat.le_refl _, fun _ _ _ h _ => h⟩
theorem Stay.trans {T : Obj → Prop} {B : Nat} {X Y Z : World} (h : Stay T B X Y) (k : Stay T B Y Z) : Stay T B X Z := ⟨Nat.le_trans h.size k.size, fun i o hB hi ho => k.same i o hB (h.same i o hB hi ho) ho⟩
theorem Stay.weak {T T' : Obj → Prop} {B : Nat} {X Y : World} (h : Stay T B X Y) (hT : ∀ o, T' o → T o) : Stay T' B X Y := ⟨h.size, fun k o hB hk ho => h.same k o hB hk (hT o ho)⟩
theorem Stay.below {T : Obj → Prop} {B : Nat} {X Y : World} (h : Below X.heap.size X Y) : Stay T B X Y := ⟨h.size, fun k _ _ hk _ => (h.block k (Array.getElem?_eq_some_iff.1 hk).1).trans hk⟩
theorem Stay.grown {T : Obj → Prop} {B : Nat} {X Y : World} {row : Option Nat} (h : X.grownBy Y row) (hr : ∀ r, row = some r → ∃ o : Obj, X.heap[r]? = some o ∧ ¬ T o) : Stay T B X Y :=
  ⟨h.size, fun k _ _ hk ho => (h.block k (Array.getElem?_eq_some_iff.1 hk).1 (fun e => by
    obtain ⟨o', h1, h2⟩ := hr k e.symm
    rw [hk] at h1
    cases h1
    exact h2 ho)).trans hk⟩
theorem Stay.put {T : Obj → Prop} {B l : Nat} {o : Obj} (X : World) (o' : Obj) (hl : X.heap[l]? = some o) (ho : ¬ T o) : Stay T B X (X.putObj l o') := Stay.grown (grownBy_putObj' X l o') (fun r e => by cases e; exact ⟨o, hl, ho⟩)
theorem Stay.far {T : Obj → Prop} {B g : Nat} (X : World) (i : Nat) (u : Value) (hg : g < B) : Stay T B X (X.setCell ⟨g, i, none⟩ u) :=
  ⟨by simp, fun k _ hB hk _ => (heap_setCell_other _ _ _ _ (fun e => by subst e; exact absurd hB (by simpa using hg))).trans hk⟩

/-- how the body of a round is left: it goes on -/
def goes {σ : Type} (T : Obj → Prop) (B : Nat) (I : σ → World → Prop) (s : σ) (W : World) : Exit → Act → World → Prop
  | .normal, _, W' => Stay (fun o => o.isCells = false ∨ T o) B W W' ∧ I s W'
  | _, _, _ => False

/-- what the method is asked: it hands yield one element after the other, from state to state, until the state is a last one -/
def Gives {σ α : Type} (P : Program) (gf : Nat) (recv : Value) (encs : α → Array Value) (nx : σ → α → σ → Prop) (s0 : σ) (fin : σ → Prop) (T : Obj → Prop) (B : Nat) : Prop :=
  ∀ (l : Nat) (J : σ → World → Prop) (W : World), B ≤ W.heap.size → (∀ s A A', J s A → Below A.heap.size A A' → J s A') →
    (∀ s x s' W1, nx s x s' → J s W1 → YieldAt Fence.wide 1 P l (encs x) W1 fun e W' => e = .returned (.bool true) ∧ J s' W' ∧ Stay T B W1 W') → J s0 W →
    CallsIn Fence.wide 2 P gf #[recv, .func (.yield l) #[] #[]] W fun e W' => (∃ v, e = .returned v) ∧ ∃ s, fin s ∧ J s W'

theorem range_m {σ α : Type} {P : Program} {g : Operand} {ps : Array Tmp} {assign body : Code} {Q : Exit → Act → World → Prop} {a : Act} {w : World} {gf : Nat} {recv : Value} {encs : α → Array Value} {nx : σ → α → σ → Prop} {s0 : σ} {fin : σ → Prop} {T : Obj → Prop}
    (hg : a.eval g = .func (.func gf) #[recv] #[]) (eg : ∀ args w, (callFunc gf args).run P w = .ok (.enter gf args) w) (hps : ∀ x, (encs x).size = ps.size)
    (hT : ∀ o, T o → o.isCells = true) (iter : Gives P gf recv encs nx s0 fin T w.heap.size)
    (I : σ → World → Prop) (hIb : ∀ s A A', I s A → Below A.heap.size A A' → I s A') (hIl : ∀ s A l o o', w.heap.size ≤ l → A.heap[l]? = some o → o.isCells = false → I s A → I s (A.putObj l o'))
    (h0 : I s0 w) (a₁ : α → Act)
    (hassign : ∀ (l : Nat) (x : α) (W : World) (K : Act → World → Prop), K (a₁ x) W →
      assign.wpIn (Fence.wide.inRound l) 1 P (Exit.then K (fun _ _ _ => False)) { tmps := (ps.zip (encs x)).foldl (fun t (p, v) => t.setIfInBounds p v) a.tmps, defers := [] } W)
    (hbody : ∀ (l : Nat) (s : σ) (x : α) (s' : σ) (W : World), nx s x s' → I s W → body.wpIn (Fence.wide.inRound l) 1 P (goes T w.heap.size I s' W) (a₁ x) W)
    (hdone : ∀ (D : Nat) (s : σ) (W : World), w.heap.size ≤ D → fin s → I s W → W.heap[D]? = some (.deferred (some [])) → Q .normal { a with defers := { target := .collected D, args := #[] } :: a.defers } W) :
    (Code.rangeFunc g ps assign body).wpIn Fence.wide 3 P Q a w := by
  refine wpIn_rangeFunc ?_
  intro fn hfn
  obtain ⟨rec, hrec⟩ : ∃ rec : LoopState → Loop, rec = fun st => { state := st, pending := none, fn, tmps := a.tmps, params := ps, assign, body, defers := w.heap.size } := ⟨_, rfl⟩
  obtain ⟨W1, hW1⟩ : ∃ W1, (w.alloc (.deferred (some []))).alloc (.loop (rec .ready)) = W1 := ⟨_, rfl⟩
  have hB : Below w.heap.size w W1 := by
    rw [← hW1]
    exact ((Below.refl _ w).alloc (Nat.le_refl _) _).alloc (by simp) _
  have hD1 : W1.heap[w.heap.size]? = some (.deferred (some [])) := by
    rw [← hW1]
    exact (Below.heap_alloc _ _ _ (by simp)).trans (World.alloc_heap_new w _)
  have hL1 : W1.heap[w.heap.size + 1]? = some (.loop (rec .ready)) := by
    rw [← hW1]
    have h := World.alloc_heap_new (w.alloc (.deferred (some []))) (.loop (rec .ready))
    rwa [World.size_alloc] at h
  refine ⟨w.heap.size + 1, [{ target := .collected w.heap.size, args := #[] }], W1, { target := .fn (.func gf) #[], args := #[recv, .func (.yield (w.heap.size + 1)) #[] #[]] }, W1, gf, #[recv, .func (.yield (w.heap.size + 1)) #[] #[]], W1, ?_, ?_, fun _ _ => trivial, ?_, fun h => by simp [Fence.wide] at h, ?_⟩
  · rw [← hW1, hrec]
    exact run_enterLoop_outer _ _ _ _ _
  · simp only [resolve, hg]
    simp [go_sem]
  · simp [invoke, go_sem, eg]
  · have notT : ∀ o : Obj, o.isCells = false → ¬ T o := fun o h h' => by rw [hT o h'] at h; cases h
    refine (iter (w.heap.size + 1) (fun s W => I s W ∧ W.heap[w.heap.size + 1]? = some (.loop (rec .ready)) ∧ W.heap[w.heap.size]? = some (.deferred (some []))) W1 hB.size
      (fun s A A' h hb => ⟨hIb s A A' h.1 hb, (hb.block _ (Array.getElem?_eq_some_iff.1 h.2.1).1).trans h.2.1, (hb.block _ (Array.getElem?_eq_some_iff.1 h.2.2).1).trans h.2.2⟩)
      ?_ ⟨hIb s0 w W1 h0 hB, hL1, hD1⟩).mono ?_
    · rintro s x s' W hn ⟨hi, hl, hd⟩
      have hlt := (Array.getElem?_eq_some_iff.1 hl).1
      have hy := run_yield (P := P) (args := encs x) hl (by rw [hrec]; exact hps x)
      rw [hrec] at hy
      refine ⟨fn, _, assign, body, hy, roundIn_of_wpIn trivial (hassign _ x W _ ?_)⟩
      clear hy
      refine ⟨_, run_beginRound hl (by rw [hrec]), ?_⟩
      have hl2 : (W.putObj (w.heap.size + 1) (.loop { rec .ready with state := .busy })).heap[w.heap.size + 1]? = some (.loop { rec .ready with state := .busy }) := World.putObj_heap_same hlt
      have hd2 : (W.putObj (w.heap.size + 1) (.loop { rec .ready with state := .busy })).heap[w.heap.size]? = some (.deferred (some [])) := (World.putObj_heap_other (by omega)).trans hd
      have st2 : Stay T w.heap.size W (W.putObj (w.heap.size + 1) (.loop { rec .ready with state := .busy })) := Stay.put W _ hl (notT _ rfl)
      refine wpIn_mono (hbody _ s x s' _ hn (hIl s W _ _ _ (by omega) hl rfl hi)) ?_
      intro e a3 W3 hp
      cases e with
      | normal =>
        obtain ⟨h3, hi3⟩ := hp
        have hl3 := h3.same _ _ (by omega) hl2 (.inl rfl)
        have hd3 := h3.same _ _ (Nat.le_refl _) hd2 (.inl rfl)
        have hr := run_endRound (P := P) none hl3
        have hlt3 := (Array.getElem?_eq_some_iff.1 hl3).1
        rw [hrec] at hr hl3
        refine ⟨_, _, hr, rfl, ⟨hIl s' W3 _ _ _ (by omega) hl3 rfl hi3, ?_, (World.putObj_heap_other (by omega)).trans hd3⟩, (st2.trans (h3.weak fun o h => .inr h)).trans (Stay.put W3 _ hl3 (notT _ rfl))⟩
        rw [hrec]
        exact World.putObj_heap_same hlt3
      | ret => exact hp.elim
      | exit id => exact hp.elim
      | goto t => exact hp.elim
      | panic ch => exact hp.elim
      | outgrown => exact hp.elim
    · rintro e W2 ⟨⟨v, rfl⟩, s, hf, hi, hl, hd⟩
      have hr := run_endLoop (P := P) hl (by rw [hrec]; simp)
      rw [hrec] at hr
      exact ⟨none, _, hr, hdone _ s _ (Nat.le_refl _) hf (hIl s W2 _ _ _ (by omega) hl rfl hi) ((World.putObj_heap_other (by omega)).trans hd)⟩

end Go.Proofs.YtiehfobcbhgfkaaGreatDoor.rg

namespace Go.Proofs.YtiehfobcbhgfkaaGreatDoor.sc
set_option maxRecDepth 20000
open Go.RowKit
open kit sum num burst hd fr rg

attribute [local go_sem] Oper.semAt_some

theorem isMarked_any (h : Hd) (b : ByteArray) (k a : Int) (w : World) (hm : b.size ≤ 1048576) (hk0 : 0 ≤ k) (hk1 : k ≤ 1048576) (hb0 : 0 ≤ h.b) (hb1 : h.b ≤ 1000000000) :
    Calls Tryz.prog 150 #[.agg #[.int .i64 h.v, .int .i64 h.s, .int .i64 h.b, .int .i64 h.l, .string b], .int .i64 k, .int .i64 a] w fun e w' => e = .returned (.bool (mkAt h.v (h.b + k) b a)) ∧ Below w.heap.size w w' := by
  have C := Lib.hid (fun w => implMarkAt_any h.v (h.b + k) b a w hm)
  have hB := Lib.hid ((Below.refl w.heap.size w).alloc (Nat.le_refl _) (.cells #[.int .i64 h.v, .int .i64 h.s, .int .i64 h.b, .int .i64 h.l, .string b] 149))
  go_enter Tryz.func150, Tryz.ntmps150
  go_wp2_with fail
  refine (C.out _).mono ?_
  rintro e w1 ⟨rfl, b1⟩
  have BB := Lib.hid (hB.out.trans (b1.mono hB.out.size))
  clear b1 hB
  go_wp2
  go_ret
  exact ⟨rfl, BB.out⟩

/-- a block that holds a head and a text -/
def isHT (o : Obj) : Prop := ∃ cs, o = .cells cs 149
theorem isHT_cells (o : Obj) (h : isHT o) : o.isCells = true := by
  obtain ⟨cs, rfl⟩ := h
  rfl

theorem ht_cells {w : World} {g : Nat} {h : Hd} {b : ByteArray} (H : w.heap[g]? = some (.cells #[.int .i64 h.v, .int .i64 h.s, .int .i64 h.b, .int .i64 h.l, .string b] 149)) :
    w.cell? ⟨g, 0, none⟩ = some (.int .i64 h.v) ∧ w.cell? ⟨g, 1, none⟩ = some (.int .i64 h.s) ∧ w.cell? ⟨g, 2, none⟩ = some (.int .i64 h.b) ∧ w.cell? ⟨g, 3, none⟩ = some (.int .i64 h.l) ∧ w.cell? ⟨g, 4, none⟩ = some (.string b) :=
  ⟨cell_of_row _ _ _ _ _ _ H, cell_of_row _ _ _ _ _ _ H, cell_of_row _ _ _ _ _ _ H, cell_of_row _ _ _ _ _ _ H, cell_of_row _ _ _ _ _ _ H⟩
theorem heap_below {w w' : World} {g : Nat} {o : Obj} (H : w.heap[g]? = some o) (hb : Below w.heap.size w w') : w'.heap[g]? = some o := (hb.block _ (Array.getElem?_eq_some_iff.1 H).1).trans H

set_option maxHeartbeats 4000000 in
set_option maxRecDepth 100000 in
theorem each_gives (h : Hd) (b : ByteArray) (hm : b.size ≤ 1048576) (hx : rdH b = some h) (B : Nat) :
    Gives Tryz.prog 149 (.agg #[.int .i64 h.v, .int .i64 h.s, .int .i64 h.b, .int .i64 h.l, .string b]) (fun x : ByteArray × Nat => #[Value.string x.1, .int .i64 (x.2 : Int)])
      (fun (s : List (ByteArray × Nat) × Nat) x s' => step h b s.1.length s.2 = some x ∧ s' = (s.1 ++ [(x.1, s.2)], x.2)) ([], 24) (fun s => step h b s.1.length s.2 = none) isHT B := fun l J W hBW hJ hY h0 => by
  have HS := Lib.hid (Inv.start hx)
  have hok := okH_is.1 HS.out.ok
  have hb64 := hok.2.2.2.2.2.1
  have hb65 := hok.2.2.2.2.1
  clear hok
  have hal := (Below.refl W.heap.size W).alloc (Nat.le_refl _) (.cells #[.int .i64 h.v, .int .i64 h.s, .int .i64 h.b, .int .i64 h.l, .string b] 149)
  have J0 := Lib.hid (hJ _ _ _ h0 hal)
  have H0 := Lib.hid (heap_alloc_new W (.cells #[.int .i64 h.v, .int .i64 h.s, .int .i64 h.b, .int .i64 h.l, .string b] 149))
  have YY := Lib.hid hY
  have JJ := Lib.hid hJ
  clear hal hJ hY h0
  refine callsIn_of_wp Tryz.func149 rfl trivial ?_ rfl
  simp only [Tryz.ntmps149, List.size_toArray, List.length_cons, List.length_nil, Nat.reduceAdd, Nat.reduceSub, Array.replicate_succ, Array.replicate_zero, List.push_toArray, List.append_toArray, List.nil_append, List.cons_append]
  gi_wp2
  gi_loopw [4, 5, 6, 7, 8] (fun a c _ _ _ wr => ∃ (xs : List (ByteArray × Nat)) (e : Nat), a = .int .i64 (e : Int) ∧ c = .int .i64 (xs.length : Int) ∧ Hid (Inv h b xs e) ∧ Hid (J (xs, e) wr) ∧ Hid (wr.heap[W.heap.size]? = some (.cells #[.int .i64 h.v, .int .i64 h.s, .int .i64 h.b, .int .i64 h.l, .string b] 149))) (fun a _ _ _ _ _ => b.size - (intOf a).toNat)
  case atStart => exact ⟨[], 24, rfl, rfl, HS, J0, H0⟩
  case round =>
    obtain ⟨xs, e, rfl, rfl, II, JX, HH⟩ := hrel
    have hcount := II.out.count
    have hhi := II.out.hi
    have CM := Lib.hid (fun w => isMarked_any h b (xs.length : Int) (e : Int) w hm (by omega) (by omega) hb65 hb64)
    have CR := Lib.hid (fun w => implReadF_any h.v (h.b + (xs.length : Int)) b (e : Int) w hm)
    obtain ⟨q0, q1, q2, q3, q4⟩ := ht_cells HH.out
    cases hmk : mkAt h.v (h.b + (xs.length : Int)) b (e : Int) with
    | true =>
      rw [hmk] at CM
      gi_wp2_with fail
      refine ⟨trivial, (callsIn_wide.2 (CM.out _)).mono ?_⟩
      rintro e' w2 ⟨rfl, b2⟩
      have HE := Lib.hid (JJ.out _ _ _ JX.out b2)
      clear b2
      gi_wp2
      go_end0
      exact ⟨⟨_, rfl⟩, (xs, e), step_mark hmk, HE.out⟩
    | false =>
      rw [hmk] at CM
      gi_wp2_with fail
      refine ⟨trivial, (callsIn_wide.2 (CM.out _)).mono ?_⟩
      rintro e' w2 ⟨rfl, b2⟩
      have J2 := Lib.hid (JJ.out _ _ _ JX.out b2)
      have H2 := Lib.hid (heap_below HH.out b2)
      clear b2 q0 q1 q2 q3 q4 CM
      obtain ⟨q0, q1, q2, q3, q4⟩ := ht_cells H2.out
      cases hrd : rdF h.v (h.b + (xs.length : Int)) b (e : Int) with
      | none =>
        rw [hrd, show frR none = .tuple #[.string { data := #[] }, .int .i64 0, .bool false] from rfl] at CR
        gi_wp2_with fail
        refine ⟨trivial, (callsIn_wide.2 (CR.out _)).mono ?_⟩
        rintro e' w3 ⟨rfl, b3⟩
        have HE := Lib.hid (JJ.out _ _ _ J2.out b3)
        clear b3
        gi_wp2
        refine ⟨fun _ hh => (by cases hh), ?_⟩
        gi_wp2
        refine bodyPost_ret (results_none rfl _ _ _) rfl ?_
        exact ⟨⟨_, rfl⟩, (xs, e), by rw [step_read hmk]; exact hrd, HE.out⟩
      | some y =>
        obtain ⟨s, q⟩ := y
        have hst : step h b xs.length e = some (s, q) := by rw [step_read hmk]; exact hrd
        have hqf := step_facts hst
        have IN := Lib.hid (II.out.next hst)
        have hq5 : e + 5 ≤ q := hqf.2.2.1
        have hqb : q ≤ b.size := hqf.2.2.2.1
        clear hqf
        rw [hrd, show frR (some (s, q)) = .tuple #[.string s, .int .i64 (q : Int), .bool true] from rfl] at CR
        clear hrd hmk
        gi_wp2_with fail
        refine ⟨trivial, (callsIn_wide.2 (CR.out _)).mono ?_⟩
        rintro e' w3 ⟨rfl, b3⟩
        have H3 := Lib.hid (heap_below H2.out b3)
        obtain ⟨fn, tmps, assign, body, hy, hR⟩ := YY.out (xs, e) (s, q) _ w3 ⟨hst, rfl⟩ (JJ.out _ _ _ J2.out b3)
        dsimp only at hy
        clear b3 hst
        gi_wp2
        refine hR.mono ?_
        rintro e2 w4 ⟨rfl, hJ4, st⟩
        have J4 := Lib.hid hJ4
        have H4 := Lib.hid (st.same _ _ hBW H3.out ⟨_, rfl⟩)
        clear hJ4 st hy hR
        gi_wp2
        go_roundw
        case rel => exact ⟨_, q, rfl, by simp, IN, J4, H4⟩
        case measure =>
          simp [intOf]
          omega

end Go.Proofs.YtiehfobcbhgfkaaGreatDoor.sc

namespace Go.Proofs.YtiehfobcbhgfkaaGreatDoor.sc
set_option maxRecDepth 20000
open Go.RowKit
open kit sum num burst hd fr rg

attribute [local go_sem] Oper.semAt_some

/-- an append of a fresh row, inside a fence -/
theorem in_app3 {F : Fence} {d : Nat} {P : Program} {ops : Array Oper} {rest : List Oper} {o : Oper} {a : Act} {Q : Exit → Act → World → Prop} {w : World} (hgd : o.guard = none) (s x : Operand) (t : TypeId)
    (ho : o.op = .call { callee := .builtin .append, args := #[s, x], argTypes := #[t, t] })
    (B : Nat) (wr : World) (e : TypeId) (i : TypeInfo) (z : Value) (bytes : Nat) (ht : P.underlying t = some (.slice e)) (hi : P.info? e = some i) (hz : i.zero = some z)
    (hsize : i.size = 1) (hby : i.bytes = bytes) (hzs : z.cells.size = 1)
    (v : Value) (n : Nat) (xs : List Value) (hown : wr.ownsRow B e 1 v n xs) (hB : B ≤ wr.heap.size) (k : Nat) (hk : wr.heap.size = k)
    (news : List Value) (m : Nat) (hlen : news.length = m) (hone : ∀ u ∈ news, u.oneCell' = true) (h63 : n + m ≤ maxLen) (hbytes : (n + m) * bytes ≤ 140737488355328)
    (hs : a.eval s = v) (hx : a.eval x = .slice (some ⟨k, 0, none⟩) m m)
    (hw : w = wr.alloc (.cells news.toArray e))
    (h : ∀ v' w', w'.ownsRow B e 1 v' (n + m) (xs ++ news) → wr.grownBy w' v.ownBlock → wpListIn F d P ops Q rest (a.put o.dst v') w') :
    wpListIn F d P ops Q (o :: rest) a w := by
  subst hw hk
  have hnew := heap_alloc_new wr (.cells news.toArray e)
  refine wpListIn_append_own _ hgd s x t ho B e i z 1 bytes ht hi hz hsize hby hzs (by decide) v n xs hs (hown.alloc _) ⟨wr.heap.size, 0, none⟩ m m news hx (by omega)
    (fun j u hj => ?_) hone h63 hbytes (by simp; omega) (fun v' w' h1 h2 _ => h v' w' h1 ?_)
  · rw [add_none, cell_of_row _ wr.heap.size j _ e (0, 0) hnew]
    simpa using hj
  · exact grown_trans (World.grownBy_alloc wr _ v.ownBlock) h2
theorem Box.put {w : World} {g l : Nat} {cs : List Value} (h : Box w g cs) (o' : Obj) (hl : l ≠ g) : Box (w.putObj l o') g cs := by
  have hb := (grownBy_putObj' w l o').block g h.lt (fun e => by cases e; exact hl rfl)
  refine ⟨⟨Nat.lt_of_lt_of_le h.lt (grownBy_putObj' w l o').size, fun j x hj => ?_⟩, fun j => (World.frozen?_of_block (a := ⟨g, j, none⟩) hb).trans (h.2 j)⟩
  rw [← h.1.2 j x hj]
  unfold World.cell?
  rw [hb]
theorem Rig.put {B : Nat} {w : World} {g x r e l : Nat} {h : Hd} {R O : Value} {xs : List (ByteArray × Nat)} {o : Obj} (c : Rig B w g x r h R O xs e) (o' : Obj) (hB : B ≤ l) (hl : w.heap[l]? = some o) (ho : o.isCells = false) : Rig B (w.putObj l o') g x r h R O xs e :=
  ⟨c.hd.put o' (by have := c.hg; omega), c.box.put o' (by have := c.hx; omega), c.out.put o' (by have := c.hr; omega), ownsRow_putObj c.rowR o' hl ho, ownsRow_putObj c.rowO o' hl ho, c.hg, c.hx, c.hr, c.gx, c.gr, c.xr, Nat.le_trans c.size (grownBy_putObj' w l o').size⟩
theorem OwnScan.put {B : Nat} {w : World} {v : Value} {b : ByteArray} {l : Nat} {o : Obj} (h : OwnScan B w v b) (o' : Obj) (hl : w.heap[l]? = some o) (ho : o.isCells = false) : OwnScan B (w.putObj l o') v b := by
  obtain ⟨R, O, hv, h1, h2⟩ := h
  exact ⟨R, O, hv, ownsRow_putObj h1 o' hl ho, ownsRow_putObj h2 o' hl ho⟩

theorem box_nine {w : World} {r : Nat} {d0 d1 d2 d3 d4 d5 d6 d7 d8 : Value} (h : Box w r [d0, d1, d2, d3, d4, d5, d6, d7, d8]) (c0 c1 c2 c3 c4 c5 c6 c7 c8 : Value) : Box (nine w r c0 c1 c2 c3 c4 c5 c6 c7 c8) r [c0, c1, c2, c3, c4, c5, c6, c7, c8] :=
  ((((((((h.set 0 c0 (by simp)).set 1 c1 (by simp)).set 2 c2 (by simp)).set 3 c3 (by simp)).set 4 c4 (by simp)).set 5 c5 (by simp)).set 6 c6 (by simp)).set 7 c7 (by simp)).set 8 c8 (by simp)
theorem heap_nine {w : World} {r D : Nat} {o : Obj} (c0 c1 c2 c3 c4 c5 c6 c7 c8 : Value) (hD : D ≠ r) (h : w.heap[D]? = some o) : (nine w r c0 c1 c2 c3 c4 c5 c6 c7 c8).heap[D]? = some o := by
  unfold nine
  iterate 9 rw [heap_setCell_other _ _ _ _ hD]
  exact h
theorem own_kind {w : World} {B n : Nat} {e : TypeId} {v : Value} {xs : List Value} (h : w.ownsRow B e 1 v n xs) (he : e ≠ 149) : ∀ k, v.ownBlock = some k → ∃ o : Obj, w.heap[k]? = some o ∧ ¬ (o.isCells = false ∨ isHT o) := fun k hk => by
  rcases h.2 with ⟨rfl, _⟩ | ⟨g, cap, cur, rfl, _, hh, _⟩
  · simp [Value.ownBlock] at hk
  · simp only [Value.ownBlock, Option.some.injEq] at hk
    subst hk
    refine ⟨_, hh, fun hn => ?_⟩
    rcases hn with hn | ⟨cs, hn⟩
    · cases hn
    · cases hn
      exact he rfl

set_option maxHeartbeats 4000000 in
set_option maxRecDepth 100000 in
theorem implScan (b : ByteArray) (w : World) (hm : b.size ≤ 1048576) :
    Calls Tryz.prog 99 #[.string b] w fun e w' => (∃ v, e = .returned v ∧ OwnScan w.heap.size w' v b) ∧ Below w.heap.size w w' := by
  have CH := Lib.hid (fun w => implReadHead b w hm)
  obtain ⟨W, hW⟩ : ∃ W, W = w.alloc (.cells #[.bool false, .int .i64 0, .int .i64 0, .int .i64 0, .int .i64 0, .slice none 0 0, .slice none 0 0, .int .i64 0, .bool false] 80) := ⟨_, rfl⟩
  have hb0 : Below w.heap.size w W := by rw [hW]; exact (Below.refl _ _).alloc (Nat.le_refl _) _
  have bx : Box W w.heap.size [.bool false, .int .i64 0, .int .i64 0, .int .i64 0, .int .i64 0, .slice none 0 0, .slice none 0 0, .int .i64 0, .bool false] := by rw [hW]; exact Box.new w _ _
  have s0 : w.heap.size < W.heap.size := by rw [hW]; simp
  refine (callsIn_wide (n := 3)).1 ?_
  refine callsIn_of_wp_marks Tryz.func99 rfl trivial ?_ rfl
  simp only [Tryz.ntmps99, List.size_toArray, List.length_cons, List.length_nil, Nat.reduceAdd, Nat.reduceSub, Array.replicate_succ, Array.replicate_zero, List.push_toArray, List.append_toArray, List.nil_append, List.cons_append]
  cases hx : rdH b with
  | none =>
    rw [hx, hdR_none] at CH
    gi_wp2_with fail
    rw [← hW]
    clear hW
    refine ⟨trivial, (callsIn_wide.2 (CH.out _)).mono ?_⟩
    rintro e w1 ⟨rfl, b1⟩
    have al := (Below.refl w1.heap.size w1).alloc (Nat.le_refl _) (.cells #[.int .i64 0, .int .i64 0, .int .i64 0, .int .i64 0] 45)
    have HB := (bx.below b1).below al
    have BB := Lib.hid ((hb0.trans (b1.mono hb0.size)).trans (al.mono (Nat.le_trans hb0.size b1.size)))
    have x0 := HB.at 0 _ rfl
    have y0 := HB.2 0
    have x1 := HB.at 1 _ rfl
    have y1 := HB.2 1
    have x2 := HB.at 2 _ rfl
    have y2 := HB.2 2
    have x3 := HB.at 3 _ rfl
    have y3 := HB.2 3
    have x4 := HB.at 4 _ rfl
    have y4 := HB.2 4
    have x5 := HB.at 5 _ rfl
    have y5 := HB.2 5
    have x6 := HB.at 6 _ rfl
    have y6 := HB.2 6
    have x7 := HB.at 7 _ rfl
    have y7 := HB.2 7
    have x8 := HB.at 8 _ rfl
    have y8 := HB.2 8
    clear al HB bx
    gi_wp2
    refine ⟨.agg #[.bool false, .int .i64 0, .int .i64 0, .int .i64 0, .int .i64 0, .slice none 0 0, .slice none 0 0, .int .i64 0, .bool false], by simp [results, Tryz.f99, go_sem, x0, x1, x2, x3, x4, x5, x6, x7, x8], ⟨_, rfl, ?_⟩, below_nine _ _ _ _ _ _ _ _ _ BB.out (Nat.le_refl _)⟩
    refine ⟨.slice none 0 0, .slice none 0 0, by rw [hx, hdOf_none hx, endN_none hx, marked_none hx]; rfl, ?_, ?_⟩
    · rw [recs_none hx]; exact World.ownsRow_nil _ _ _ _
    · rw [recs_none hx, offs_none hx]; exact World.ownsRow_nil _ _ _ _
  | some h =>
    have HS := Lib.hid (Inv.start hx)
    have HX := Lib.hid hx
    have hok := okH_is.1 HS.out.ok
    have hb64 := hok.2.2.2.2.2.1
    have hb65 := hok.2.2.2.2.1
    clear hok
    rw [hx, hdR_some] at CH
    clear hx
    obtain ⟨i0, hi, hz0, hz1, hz2⟩ := info_parts strs.Tryz.infoStr
    obtain ⟨i1, gi, gz0, gz1, gz2⟩ := info_parts ints.Tryz.infoInt
    gi_wp2_with fail
    rw [← hW]
    clear hW
    refine ⟨trivial, (callsIn_wide.2 (CH.out _)).mono ?_⟩
    rintro e w1 ⟨rfl, b1⟩
    have al := (Below.refl w1.heap.size w1).alloc (Nat.le_refl _) (.cells #[.int .i64 h.v, .int .i64 h.s, .int .i64 h.b, .int .i64 h.l] 45)
    have bg : Box (w1.alloc (.cells #[.int .i64 h.v, .int .i64 h.s, .int .i64 h.b, .int .i64 h.l] 45)) w1.heap.size [.int .i64 h.v, .int .i64 h.s, .int .i64 h.b, .int .i64 h.l] := Box.new w1 _ _
    have bo := (bx.below b1).below al
    have BB := (hb0.trans (b1.mono hb0.size)).trans (al.mono (Nat.le_trans hb0.size b1.size))
    obtain ⟨W1, hW1⟩ : ∃ W1, W1 = w1.alloc (.cells #[.int .i64 h.v, .int .i64 h.s, .int .i64 h.b, .int .i64 h.l] 45) := ⟨_, rfl⟩
    rw [← hW1] at bg bo BB
    have s1 : W.heap.size ≤ w1.heap.size := b1.size
    have s2 : w1.heap.size < W1.heap.size := by rw [hW1]; simp
    have al2 := (Below.refl W1.heap.size W1).alloc (Nat.le_refl _) (.cells #[.bool true, .int .i64 h.v, .int .i64 h.s, .int .i64 h.b, .int .i64 h.l, .slice none 0 0, .slice none 0 0, .int .i64 24, .bool false] 80)
    have sz : W1.heap.size = w1.heap.size + 1 := by rw [hW1]; simp
    have bn := Box.new W1 #[.bool true, .int .i64 h.v, .int .i64 h.s, .int .i64 h.b, .int .i64 h.l, .slice none 0 0, .slice none 0 0, .int .i64 24, .bool false] 80
    rw [sz] at bn
    obtain ⟨W2, hW2⟩ : ∃ W2, W2 = W1.alloc (.cells #[.bool true, .int .i64 h.v, .int .i64 h.s, .int .i64 h.b, .int .i64 h.l, .slice none 0 0, .slice none 0 0, .int .i64 24, .bool false] 80) := ⟨_, rfl⟩
    rw [← hW2] at al2 bn
    have sz2 : W2.heap.size = w1.heap.size + 2 := by rw [hW2, World.size_alloc, sz]
    have al3 := (Below.refl W2.heap.size W2).alloc (Nat.le_refl _) (.cells #[.int .i64 h.v, .int .i64 h.s, .int .i64 h.b, .int .i64 h.l, .string b] 149)
    have bt := Box.new W2 #[.int .i64 h.v, .int .i64 h.s, .int .i64 h.b, .int .i64 h.l, .string b] 149
    rw [sz2] at bt
    have RG : Rig (w1.heap.size + 3) (W2.alloc (.cells #[.int .i64 h.v, .int .i64 h.s, .int .i64 h.b, .int .i64 h.l, .string b] 149)) w1.heap.size (w1.heap.size + 1) w.heap.size h (.slice none 0 0) (.slice none 0 0) [] 24 :=
      ⟨(bg.below al2).below al3, bn.below al3, (bo.below al2).below al3, World.ownsRow_nil _ _ _ _, World.ownsRow_nil _ _ _ _, by omega, by omega, by omega, by omega, by omega, by omega, by simp; omega⟩
    have B1 := Lib.hid ((BB.trans (al2.mono BB.size)).trans (al3.mono (Nat.le_trans BB.size al2.size)))
    have RGH := Lib.hid RG
    have BTH := Lib.hid bt
    have q0 := bg.at 0 _ rfl
    have q1 := bg.at 1 _ rfl
    have q2 := bg.at 2 _ rfl
    have q3 := bg.at 3 _ rfl
    have k0 := (bg.below al2).at 0 _ rfl
    have k1 := (bg.below al2).at 1 _ rfl
    have k2 := (bg.below al2).at 2 _ rfl
    have k3 := (bg.below al2).at 3 _ rfl
    have m0 := bt.at 0 _ rfl
    have m1 := bt.at 1 _ rfl
    have m2 := bt.at 2 _ rfl
    have m3 := bt.at 3 _ rfl
    have m4 := bt.at 4 _ rfl
    rw [hW2] at k0 k1 k2 k3 m0 m1 m2 m3 m4
    rw [hW1] at q0 q1 q2 q3 k0 k1 k2 k3 m0 m1 m2 m3 m4
    clear al b1 bg bo BB al2 bx hb0 CH bn al3 RG bt
    gi_wp2
    rw [← hW1, ← hW2]
    clear q0 q1 q2 q3 k0 k1 k2 k3 m0 m1 m2 m3 m4 hW1 hW2
    have s3 : (W2.alloc (.cells #[.int .i64 h.v, .int .i64 h.s, .int .i64 h.b, .int .i64 h.l, .string b] 149)).heap.size = w1.heap.size + 3 := by rw [World.size_alloc, sz2]
    refine range_m (gf := 149) (recv := .agg #[.int .i64 h.v, .int .i64 h.s, .int .i64 h.b, .int .i64 h.l, .string b]) rfl (enters_of Tryz.func149 (by kernel_rfl) rfl) (fun _ => rfl) isHT_cells (each_gives h b hm HX.out _)
      (fun s W' => ∃ (R O : Value), Hid (Rig (w1.heap.size + 3) W' w1.heap.size (w1.heap.size + 1) w.heap.size h R O s.1 s.2) ∧ Hid (Box W' (w1.heap.size + 2) [.int .i64 h.v, .int .i64 h.s, .int .i64 h.b, .int .i64 h.l, .string b]) ∧ Hid (Inv h b s.1 s.2) ∧ Hid (Below w.heap.size w W'))
      ?below ?put ⟨_, _, RGH, BTH, HS, B1⟩
      (fun y => { tmps := #[.string b, undef, .pointer (some ⟨w.heap.size, 0, none⟩), .pointer (some ⟨w1.heap.size, 0, none⟩), .bool true, .pointer (some ⟨w1.heap.size + 1, 0, none⟩), .pointer (some ⟨w1.heap.size + 1 + 1, 0, none⟩), .string y.1, .int .i64 (y.2 : Int), .tuple #[.agg #[.int .i64 h.v, .int .i64 h.s, .int .i64 h.b, .int .i64 h.l], .bool true], .string b, .tuple #[.agg #[.int .i64 h.v, .int .i64 h.s, .int .i64 h.b, .int .i64 h.l], .bool true], .agg #[.int .i64 h.v, .int .i64 h.s, .int .i64 h.b, .int .i64 h.l], .bool true, .bool true, .bool false, undef, .agg #[.int .i64 h.v, .int .i64 h.s, .int .i64 h.b, .int .i64 h.l], .agg #[.bool true, .int .i64 h.v, .int .i64 h.s, .int .i64 h.b, .int .i64 h.l, .slice none 0 0, .slice none 0 0, .int .i64 24, .bool false], .agg #[.int .i64 h.v, .int .i64 h.s, .int .i64 h.b, .int .i64 h.l], .string b, .agg #[.int .i64 h.v, .int .i64 h.s, .int .i64 h.b, .int .i64 h.l, .string b], .agg #[.int .i64 h.v, .int .i64 h.s, .int .i64 h.b, .int .i64 h.l, .string b], .func (.func 149) #[.agg #[.int .i64 h.v, .int .i64 h.s, .int .i64 h.b, .int .i64 h.l, .string b]] #[], .string y.1, .int .i64 (y.2 : Int), undef, undef, undef, undef, undef, undef, undef, undef, undef, undef, undef, undef, undef, undef, undef, undef, undef, undef, undef, undef, undef, undef, undef, undef], defers := [] }) ?assign ?body ?done
    case below =>
      rintro s A A' ⟨R, O, RR, HB, II, BW⟩ hb
      exact ⟨R, O, Lib.hid (RR.out.below hb), Lib.hid (HB.out.below hb), II, Lib.hid (BW.out.trans (hb.mono BW.out.size))⟩
    case put =>
      rintro s A l o o' hl ho hc ⟨R, O, RR, HB, II, BW⟩
      rw [s3] at hl
      exact ⟨R, O, Lib.hid (RR.out.put o' hl ho hc), Lib.hid (HB.out.put o' (by omega)), II, Lib.hid (BW.out.grown (grownBy_putObj' A l o') BW.out.size (fun k e => by cases e; omega))⟩
    case assign =>
      intro l y W K hK
      gi_wp2
      exact hK
    case body =>
      rintro l ⟨xs, e⟩ ⟨u, q⟩ s' W3 ⟨hst, rfl⟩ ⟨R, O, RR, HB, II, BW⟩
      have hst : step h b xs.length e = some (u, q) := hst
      have RR : Hid (Rig (w1.heap.size + 3) W3 w1.heap.size (w1.heap.size + 1) w.heap.size h R O xs e) := RR
      have II : Hid (Inv h b xs e) := II
      have hqf := step_facts hst
      have IN := Lib.hid (II.out.next hst)
      have hqb : q ≤ b.size := hqf.2.2.2.1
      have hcount := II.out.count
      clear hqf hst
      obtain ⟨aR, cR, rfl, _, _, _⟩ := own_form RR.out.rowR
      obtain ⟨aO, cO, rfl, _, _, _⟩ := own_form RR.out.rowO
      have x5 := RR.out.box.at 5 _ rfl
      have x6 := RR.out.box.at 6 _ rfl
      have x7 := RR.out.box.at 7 _ rfl
      gi_wp2_with (first | (gi_at_builtin; refine in_app3 (by rfl) (.tmp 27) (.tmp 29) 26 (by rfl) (w1.heap.size + 3) W3 9 i0 (.string { data := #[] }) 16 Tryz.underlying26 hi hz0 hz1 hz2 (by rfl) _ xs.length _ RR.out.rowR RR.out.size _ (by rfl) [.string u] 1 (by rfl) (by simp [Value.oneCell']) (by unfold maxLen; omega) (by omega) (by rfl) (by rfl) (by rfl) ?_; intro v4 w4 o4 g4; obtain ⟨a4, c4, rfl, _, _, _⟩ := own_form o4; have X4 := RR.out.box.grown g4 (own_not RR.out.rowR RR.out.hx); have O4 := Lib.hid (own_setOther (own_grown RR.out.rowO g4 (off_type RR.out.rowO RR.out.rowR (by decide))) (w1.heap.size + 1) 5 (.slice a4 (xs.length + 1) c4) (own_not RR.out.rowO RR.out.hx)); have Z4 := Lib.hid (show w1.heap.size + 3 ≤ (w4.setCell ⟨w1.heap.size + 1, 5, none⟩ (.slice a4 (xs.length + 1) c4)).heap.size by have h1 := g4.size; have h2 := RR.out.size; simp; omega); have X5 := Lib.hid (X4.set 5 (.slice a4 (xs.length + 1) c4) (by simp)); have z5 := X4.at 5 _ rfl; have z6 := X4.at 6 _ rfl; have z7 := X4.at 7 _ rfl; have u5 := X4.2 5; clear X4) | (gi_at_builtin; refine in_app3 (by rfl) (.tmp 33) (.tmp 36) 31 (by rfl) (w1.heap.size + 3) (w4.setCell ⟨w1.heap.size + 1, 5, none⟩ (.slice a4 (xs.length + 1) c4)) 3 i1 (.int .i64 0) 8 Tryz.underlying31 gi gz0 gz1 gz2 (by rfl) _ xs.length _ O4.out Z4.out w4.heap.size (by simp) [.int .i64 (e : Int)] 1 (by rfl) (by simp [Value.oneCell']) (by unfold maxLen; omega) (by omega) (by rfl) (by rfl) (by rfl) ?_; intro v5 w5 o5 g5; obtain ⟨a5, c5, rfl, _, _, _⟩ := own_form o5; have X6 := X5.out.grown g5 (own_not O4.out RR.out.hx); have z8 := X6.at 6 _ rfl; have z9 := X6.at 7 _ rfl; have u6 := X6.2 6; have u7 := X6.2 7; clear X6) | fail)
      have RN := Lib.hid (RR.out.more (q := q) g4 o4 g5 o5)
      have lt : w1.heap.size + 1 < w1.heap.size + 3 := by omega
      refine ⟨((((Stay.grown g4 (own_kind RR.out.rowR (by decide))).trans (Stay.far w4 5 _ lt)).trans (Stay.grown g5 (own_kind O4.out (by decide)))).trans (Stay.far w5 6 _ lt)).trans (Stay.far _ 7 _ lt), ⟨_, _, RN⟩, ?_, IN, ?_⟩
      · exact Lib.hid (((((HB.out.grown g4 (own_not RR.out.rowR (by omega))).far 5 _ (by omega)).grown g5 (own_not O4.out (by omega))).far 6 _ (by omega)).far 7 _ (by omega))
      · exact Lib.hid (((BW.out.grown g4 (Nat.le_trans BW.out.size (Nat.le_refl _)) (fun k hk => by have := (own_block_ge RR.out.rowR k hk).1; omega)).setCell (p := ⟨w1.heap.size + 1, 5, none⟩) (show w.heap.size ≤ w1.heap.size + 1 by omega) _ |>.grown g5 (by have := Z4.out; omega) (fun k hk => by have := (own_block_ge O4.out k hk).1; omega)).setCell (p := ⟨w1.heap.size + 1, 6, none⟩) (show w.heap.size ≤ w1.heap.size + 1 by omega) _ |>.setCell (p := ⟨w1.heap.size + 1, 7, none⟩) (show w.heap.size ≤ w1.heap.size + 1 by omega) _)
    case done =>
      rintro D ⟨xs, e⟩ W3 hD hfin ⟨R, O, RR, HB, II, BW⟩ hK
      have hfin : step h b xs.length e = none := hfin
      have RR : Hid (Rig (w1.heap.size + 3) W3 w1.heap.size (w1.heap.size + 1) w.heap.size h R O xs e) := RR
      have II : Hid (Inv h b xs e) := II
      have hcount := II.out.count
      have hhi := II.out.hi
      rw [s3] at hD
      obtain ⟨aR, cR, rfl, _, _, _⟩ := own_form RR.out.rowR
      obtain ⟨aO, cO, rfl, _, _, _⟩ := own_form RR.out.rowO
      have CM := Lib.hid (fun w => isMarked_any h b (xs.length : Int) (e : Int) w hm (by omega) (by omega) hb65 hb64)
      obtain ⟨m, hmk⟩ : ∃ m, mkAt h.v (h.b + (xs.length : Int)) b (e : Int) = m := ⟨_, rfl⟩
      rw [hmk] at CM
      have x5 := RR.out.box.at 5 _ rfl
      have x7 := RR.out.box.at 7 _ rfl
      have t0 := HB.out.at 0 _ rfl
      have t1 := HB.out.at 1 _ rfl
      have t2 := HB.out.at 2 _ rfl
      have t3 := HB.out.at 3 _ rfl
      have t4 := HB.out.at 4 _ rfl
      gi_wp2_with fail
      refine ⟨trivial, (callsIn_wide.2 (CM.out _)).mono ?_⟩
      rintro e' w4 ⟨rfl, b4⟩
      have R4 := Lib.hid (RR.out.below b4)
      have BW4 := Lib.hid ((BW.out.trans (b4.mono BW.out.size)).setCell (p := ⟨w1.heap.size + 1, 8, none⟩) (show w.heap.size ≤ w1.heap.size + 1 by omega) (.bool m))
      have K4 := Lib.hid (heap_below hK b4)
      clear x5 x7 t0 t1 t2 t3 t4 RR HB BW b4 CM hK
      have x0 := R4.out.box.at 0 _ rfl
      have y0 := R4.out.box.2 0
      have x1 := R4.out.box.at 1 _ rfl
      have y1 := R4.out.box.2 1
      have x2 := R4.out.box.at 2 _ rfl
      have y2 := R4.out.box.2 2
      have x3 := R4.out.box.at 3 _ rfl
      have y3 := R4.out.box.2 3
      have x4 := R4.out.box.at 4 _ rfl
      have y4 := R4.out.box.2 4
      have x5 := R4.out.box.at 5 _ rfl
      have y5 := R4.out.box.2 5
      have x6 := R4.out.box.at 6 _ rfl
      have y6 := R4.out.box.2 6
      have x7 := R4.out.box.at 7 _ rfl
      have y7 := R4.out.box.2 7
      have x8 := R4.out.box.at 8 _ rfl
      have y8 := R4.out.box.2 8
      have r0 := R4.out.out.at 0 _ rfl
      have t0 := R4.out.out.2 0
      have r1 := R4.out.out.at 1 _ rfl
      have t1 := R4.out.out.2 1
      have r2 := R4.out.out.at 2 _ rfl
      have t2 := R4.out.out.2 2
      have r3 := R4.out.out.at 3 _ rfl
      have t3 := R4.out.out.2 3
      have r4 := R4.out.out.at 4 _ rfl
      have t4 := R4.out.out.2 4
      have r5 := R4.out.out.at 5 _ rfl
      have t5 := R4.out.out.2 5
      have r6 := R4.out.out.at 6 _ rfl
      have t6 := R4.out.out.2 6
      have r7 := R4.out.out.at 7 _ rfl
      have t7 := R4.out.out.2 7
      have r8 := R4.out.out.at 8 _ rfl
      have t8 := R4.out.out.2 8
      have HE := Lib.hid (fun c0 c1 c2 c3 c4 c5 c6 c7 c8 => rig_end_mark (B' := w.heap.size) (u := .bool m) R4.out HX.out II.out hfin hmk (by omega) c0 c1 c2 c3 c4 c5 c6 c7 c8)
      have RX := Lib.hid (R4.out.out.far 8 (.bool m) R4.out.xr)
      have K5 : (w4.setCell ⟨w1.heap.size + 1, 8, none⟩ (.bool m)).heap[D]? = some (.deferred (some [])) := by
        rw [heap_setCell_other _ _ _ _ (by show D ≠ w1.heap.size + 1; omega)]
        exact K4.out
      have K6 := Lib.hid K5
      clear R4 K4 K5
      gi_wp2
      have B9 := Lib.hid (box_nine RX.out (.bool true) (.int .i64 h.v) (.int .i64 h.s) (.int .i64 h.b) (.int .i64 h.l) (.slice aR xs.length cR) (.slice aO xs.length cO) (.int .i64 (e : Int)) (.bool m))
      have K9 := Lib.hid (heap_nine (.bool true) (.int .i64 h.v) (.int .i64 h.s) (.int .i64 h.b) (.int .i64 h.l) (.slice aR xs.length cR) (.slice aO xs.length cO) (.int .i64 (e : Int)) (.bool m) (show D ≠ w.heap.size by omega) K6.out)
      have E9 := Lib.hid (HE.out (.bool true) (.int .i64 h.v) (.int .i64 h.s) (.int .i64 h.b) (.int .i64 h.l) (.slice aR xs.length cR) (.slice aO xs.length cO) (.int .i64 (e : Int)) (.bool m))
      have L9 := Lib.hid (below_nine (.bool true) (.int .i64 h.v) (.int .i64 h.s) (.int .i64 h.b) (.int .i64 h.l) (.slice aR xs.length cR) (.slice aO xs.length cO) (.int .i64 (e : Int)) (.bool m) BW4.out (Nat.le_refl _))
      change bodyPostM _ _ _ _ _ _ _ (nine (w4.setCell ⟨w1.heap.size + 1, 8, none⟩ (.bool m)) w.heap.size (.bool true) (.int .i64 h.v) (.int .i64 h.s) (.int .i64 h.b) (.int .i64 h.l) (.slice aR xs.length cR) (.slice aO xs.length cO) (.int .i64 (e : Int)) (.bool m))
      obtain ⟨V, hV⟩ : ∃ V, nine (w4.setCell ⟨w1.heap.size + 1, 8, none⟩ (.bool m)) w.heap.size (.bool true) (.int .i64 h.v) (.int .i64 h.s) (.int .i64 h.b) (.int .i64 h.l) (.slice aR xs.length cR) (.slice aO xs.length cO) (.int .i64 (e : Int)) (.bool m) = V := ⟨_, rfl⟩
      rw [hV] at B9 K9 E9 L9 ⊢
      clear hV HE RX K6 BW4
      have B9 := Lib.hid (B9.out.put (.deferred none) (show D ≠ w.heap.size by omega))
      have r0 := B9.out.at 0 _ rfl
      have r1 := B9.out.at 1 _ rfl
      have r2 := B9.out.at 2 _ rfl
      have r3 := B9.out.at 3 _ rfl
      have r4 := B9.out.at 4 _ rfl
      have r5 := B9.out.at 5 _ rfl
      have r6 := B9.out.at 6 _ rfl
      have r7 := B9.out.at 7 _ rfl
      have r8 := B9.out.at 8 _ rfl
      refine ⟨by simp, .inl ⟨_, _, rfl, run_takeDeferred K9.out, ?_⟩⟩
      refine ⟨.agg #[.bool true, .int .i64 h.v, .int .i64 h.s, .int .i64 h.b, .int .i64 h.l, .slice aR xs.length cR, .slice aO xs.length cO, .int .i64 (e : Int), .bool m], by simp [results, Tryz.f99, go_sem, r0, r1, r2, r3, r4, r5, r6, r7, r8], ⟨_, rfl, E9.out.put _ K9.out rfl⟩, L9.out.grown (grownBy_putObj' V D (.deferred none)) L9.out.size (fun k e => by cases e; omega)⟩

set_option maxHeartbeats 1000000 in
theorem implRecords (b : ByteArray) (w : World) (hm : b.size ≤ 1048576) :
    Calls Tryz.prog 52 #[.string b] w fun e w' => (∃ v, e = .returned v ∧ w'.ownsRow w.heap.size 9 1 v (recs b).length ((recs b).map Value.string)) ∧ Below w.heap.size w w' := by
  have CS := Lib.hid (fun w => implScan b w hm)

  go_enter Tryz.func52, Tryz.ntmps52
  go_wp2_with fail
  refine (CS.out _).mono ?_
  rintro e w1 ⟨⟨v, rfl, R, O, rfl, oR, oO⟩, b1⟩
  obtain ⟨a, c, rfl, hlen, _, hf⟩ := own_form oR
  obtain ⟨aO, cO, rfl, _, _, _⟩ := own_form oO
  have HO := Lib.hid oR
  have hfd := fun (w : World) => field_recs (rdH b).isSome (marked b) (hdOf b).v (hdOf b).s (hdOf b).b (hdOf b).l (endN b : Int) a aO (recs b).length c (recs b).length cO w
  clear oR oO hf hlen
  go_wp2
  go_ret
  exact ⟨⟨_, rfl, HO.out⟩, b1⟩


set_option maxHeartbeats 1000000 in
theorem implGoes (b : ByteArray) (ba li : Int) (w : World) (hm : b.size ≤ 1048576) :
    Calls Tryz.prog 101 #[.string b, .int .i64 ba, .int .i64 li] w fun e w' => e = .returned (.bool (goesB b ba li)) ∧ Below w.heap.size w w' := by
  have CH := Lib.hid (fun w => implReadHead b w hm)
  have HO := Lib.hid (show goesB b ba li = ((rdH b).isSome && (hdOf b).b == ba && (hdOf b).l == li) from rfl)
  obtain ⟨r, hr⟩ : ∃ r, goesB b ba li = r := ⟨_, rfl⟩
  rw [hr] at HO ⊢
  clear hr
  cases hx : rdH b with
  | none =>
    rw [hx, hdR_none] at CH
    rw [hx] at HO
    go_enter Tryz.func101, Tryz.ntmps101
    go_wp2_with fail
    refine (CH.out _).mono ?_
    rintro e w1 ⟨rfl, b1⟩
    have HB := Lib.hid (b1.alloc b1.size (.cells #[.int .i64 0, .int .i64 0, .int .i64 0, .int .i64 0] 45))
    clear b1
    go_wp2
    go_ret
    exact ⟨by rw [HO.out]; rfl, HB.out⟩
  | some h =>
    rw [hx, hdR_some] at CH
    rw [hx, hdOf_some hx] at HO
    go_enter Tryz.func101, Tryz.ntmps101
    go_wp2_with fail
    refine (CH.out _).mono ?_
    rintro e w1 ⟨rfl, b1⟩
    have bn := Box.new w1 #[.int .i64 h.v, .int .i64 h.s, .int .i64 h.b, .int .i64 h.l] 45
    have x2 := bn.at 2 _ rfl
    have x3 := bn.at 3 _ rfl
    have HB := Lib.hid (b1.alloc b1.size (.cells #[.int .i64 h.v, .int .i64 h.s, .int .i64 h.b, .int .i64 h.l] 45))
    clear b1 bn
    cases e1 : (h.b == ba) with
    | false =>
      rw [e1] at HO
      go_wp2
      go_ret
      exact ⟨by rw [HO.out]; rfl, HB.out⟩
    | true =>
      rw [e1] at HO
      go_wp2
      go_ret
      exact ⟨by rw [HO.out]; rfl, HB.out⟩


set_option maxHeartbeats 1000000 in
theorem implLinkAfter (b : ByteArray) (w : World) (hm : b.size ≤ 1048576) :
    Calls Tryz.prog 102 #[.string b] w fun e w' => e = .returned (.int .i64 (linkN b : Int)) ∧ Below w.heap.size w w' := by
  have CS := Lib.hid (fun w => implScan b w hm)

  go_enter Tryz.func102, Tryz.ntmps102
  go_wp2_with fail
  refine (CS.out _).mono ?_
  rintro e w1 ⟨⟨v, rfl, R, O, rfl, oR, oO⟩, b1⟩
  obtain ⟨a, c, rfl, hlen, _, hf⟩ := own_form oR
  obtain ⟨aO, cO, rfl, _, _, _⟩ := own_form oO
  have hl := hdOf_link b
  obtain ⟨l, hl0⟩ := Int.eq_ofNat_of_zero_le hl.1
  have HL := Lib.hid (show linkN b = lkL l (recs b) by unfold linkN; rw [hl0, Int.toNat_natCast])
  have HS := Lib.hid (recs_small b)
  have hn := recs_le b
  rw [hl0]
  clear hl0 hl
  obtain ⟨xs, hxs⟩ : ∃ xs, recs b = xs := ⟨_, rfl⟩
  rw [hxs] at HL HS hn hlen hf ⊢
  have al := (Below.refl w1.heap.size w1).alloc (Nat.le_refl _) (.cells #[.bool (rdH b).isSome, .int .i64 (hdOf b).v, .int .i64 (hdOf b).s, .int .i64 (hdOf b).b, .int .i64 (l : Int), .slice a xs.length c, .slice aO xs.length cO, .int .i64 (endN b : Int), .bool (marked b)] 80)
  have bn := Box.new w1 #[.bool (rdH b).isSome, .int .i64 (hdOf b).v, .int .i64 (hdOf b).s, .int .i64 (hdOf b).b, .int .i64 (l : Int), .slice a xs.length c, .slice aO xs.length cO, .int .i64 (endN b : Int), .bool (marked b)] 80
  obtain ⟨W1, hW1⟩ : ∃ W1, W1 = w1.alloc (.cells #[.bool (rdH b).isSome, .int .i64 (hdOf b).v, .int .i64 (hdOf b).s, .int .i64 (hdOf b).b, .int .i64 (l : Int), .slice a xs.length c, .slice aO xs.length cO, .int .i64 (endN b : Int), .bool (marked b)] 80) := ⟨_, rfl⟩
  rw [← hW1] at al bn
  have HB := Lib.hid (b1.trans (al.mono b1.size))
  have HN := Lib.hid bn
  have x4 := bn.at 4 _ rfl
  have x5 := bn.at 5 _ rfl
  rw [hW1] at x4 x5
  have HCL := Lib.hid (show xs.length = 0 ∨ ∃ g, a = some ⟨g, 0, none⟩ ∧ g < W1.heap.size ∧ ∀ j, j < xs.length → W1.cell? ⟨g, j, none⟩ = (xs.map Value.string)[j]? by
    rcases hf with h0 | ⟨g, h1, _, h3, h4, _⟩
    · exact .inl h0
    · exact .inr ⟨g, h1, Nat.lt_of_lt_of_le h3 al.size, fun j hj => (al.cell (p := ⟨g, j, none⟩) h3).trans (h4 j hj)⟩)
  clear al bn b1 hf hlen oR oO CS
  go_wp2
  rw [← hW1]
  clear hW1 x4 x5
  go_loopw [4, 6, 15] (fun z _ i wr => ∃ (k m : Nat), k ≤ xs.length ∧ i = .int .i64 k ∧ z = .int .i64 m ∧ Hid (lkL l (xs.take k) = m) ∧ Hid (Below W1.heap.size W1 wr)) (fun _ _ i _ => xs.length - (intOf i).toNat)
  case atStart => exact ⟨0, l, Nat.zero_le _, rfl, rfl, Lib.hid rfl, Lib.hid (Below.refl _ _)⟩
  case round =>
    obtain ⟨k, m, hk, rfl, rfl, hz, hb⟩ := hrel
    by_cases hlt : k < xs.length
    · obtain ⟨x, hxk⟩ : ∃ x, xs[k]? = some x := ⟨_, List.getElem?_eq_getElem hlt⟩
      obtain ⟨g, rfl, hg, hc⟩ := HCL.out.resolve_left (by omega)
      have c1 : wr.cell? ⟨g, k, none⟩ = some (.string x) := (hb.out.cell (p := ⟨g, k, none⟩) hg).trans ((hc k hlt).trans (by rw [List.getElem?_map, hxk]; rfl))
      have HS1 := Lib.hid (show lkL l (xs.take (k + 1)) = lkM (m : Int) x by rw [lkL_next hxk, hz.out])
      have hx60 := HS.out x (List.mem_of_getElem? hxk)
      have CM := Lib.hid (implLinkMore (m : Int) x wr (by omega))
      have i0 : (0 : Int) ≤ (k : Int) := by omega
      have i1 : (k : Int) < (xs.length : Int) := by omega
      clear hc hxk hz
      go_wp2_with (fail)
      refine CM.out.mono ?_
      rintro e w2 ⟨rfl, hb1⟩
      go_wp2
      go_roundw
      case rel => exact ⟨k + 1, _, by omega, by go_num, rfl, Lib.hid HS1.out, Lib.hid (hb.out.trans (hb1.mono hb.out.size))⟩
      case measure => simp [intOf]; omega
    · obtain rfl : k = xs.length := by omega
      have HE := Lib.hid (show linkN b = m by have h := hz.out; rw [List.take_of_length_le (Nat.le_refl _)] at h; rw [HL.out, h])
      clear hz
      go_wp2
      go_ret
      exact ⟨by rw [HE.out]; rfl, HB.out.trans (hb.out.mono HB.out.size)⟩



end Go.Proofs.YtiehfobcbhgfkaaGreatDoor.sc
