/-
  A range over a method value whose calls of yield go from state to state: the law of such a loop, for a body that always goes on.
-/
import Derived.RangeFuncNested
import Derived.RangeFuncBound
import Derived.RangeFuncCalls
import Derived.RangeFuncLeaves
import Derived.Shelf.Abstract
import Derived.Shelf.RegionOpen
import Derived.WalkKit
import Derived.OwnWalkIn
import Derived.TacticsInMore
import Derived.LoopNIn
import Derived.LoopIn
import Derived.Test.YtbgkdngeingmnaaBox
namespace Go.Proofs.Ytbgkdngeingmnaa.rg
set_option maxRecDepth 20000
open Go.RowKit

/-- blocks from B on that are of the kind T lie as they lay -/
structure Stay (T : Obj → Prop) (B : Nat) (W W' : World) : Prop where
  size : W.heap.size ≤ W'.heap.size
  same : ∀ (k : Nat) (o : Obj), B ≤ k → W.heap[k]? = some o → T o → W'.heap[k]? = some o
theorem Stay.refl (T : Obj → Prop) (B : Nat) (W : World) : Stay T B W W := ⟨Nat.le_refl _, fun _ _ _ h _ => h⟩
theorem Stay.trans {T : Obj → Prop} {B : Nat} {X Y Z : World} (h : Stay T B X Y) (k : Stay T B Y Z) : Stay T B X Z := ⟨Nat.le_trans h.size k.size, fun i o hB hi ho => k.same i o hB (h.same i o hB hi ho) ho⟩
theorem Stay.weak {T T' : Obj → Prop} {B : Nat} {X Y : World} (h : Stay T B X Y) (hT : ∀ o, T' o → T o) : Stay T' B X Y := ⟨h.size, fun k o hB hk ho => h.same k o hB hk (hT o ho)⟩
theorem Stay.below {T : Obj → Prop} {B : Nat} {X Y : World} (h : Below X.heap.size X Y) : Stay T B X Y := ⟨h.size, fun k _ _ hk _ => (h.block k (Array.getElem?_eq_some_iff.1 hk).1).trans hk⟩
theorem Stay.grown {T : Obj → Prop} {B : Nat} {X Y : World} {row : Option Nat} (h : X.grownBy Y row) (hr : ∀ r, row = some r → ∃ o : Obj, X.heap[r]? = some o ∧ ¬ T o) : Stay T B X Y :=
  ⟨h.size, fun k _ _ hk ho => (h.block k (Array.getElem?_eq_some_iff.1 hk).1 (fun e => by
    obtain ⟨o', h1, h2⟩ := hr k e.symm
    rw [hk] at h1
    cases h1
    exact h2 ho)).trans hk⟩
theorem Stay.put {T : Obj → Prop} {B l : Nat} {o : Obj} (X : World) (o' : Obj) (hl : X.heap[l]? = some o) (ho : ¬ T o) : Stay T B X (X.putObj l o') := Stay.grown (grownBy_putObj' X l o') (fun r e => by cases e; exact ⟨o, hl, ho⟩)
theorem Stay.far {T : Obj → Prop} {B g : Nat} (X : World) (i : Nat) (u : Value) (hg : g < B) : Stay T B X (X.setCell ⟨g, i, none⟩ u) :=
  ⟨by simp, fun k _ hB hk _ => (heap_setCell_other _ _ _ _ (fun e => by subst e; exact absurd hB (by simpa using hg))).trans hk⟩

/-- how the body of a round is left: it goes on -/
def goes {σ : Type} (T : Obj → Prop) (B : Nat) (I : σ → World → Prop) (s : σ) (W : World) : Exit → Act → World → Prop
  | .normal, _, W' => Stay (fun o => o.isCells = false ∨ T o) B W W' ∧ I s W'
  | _, _, _ => False

/-- what the method is asked: it hands yield one element after the other, from state to state, until the state is a last one -/
def Gives {σ α : Type} (P : Program) (gf : Nat) (recv : Value) (encs : α → Array Value) (nx : σ → α → σ → Prop) (s0 : σ) (fin : σ → Prop) (T : Obj → Prop) (B : Nat) : Prop :=
  ∀ (l : Nat) (J : σ → World → Prop) (W : World), B ≤ W.heap.size → (∀ s A A', J s A → Below A.heap.size A A' → J s A') →
    (∀ s x s' W1, nx s x s' → J s W1 → YieldAt Fence.wide 1 P l (encs x) W1 fun e W' => e = .returned (.bool true) ∧ J s' W' ∧ Stay T B W1 W') → J s0 W →
    CallsIn Fence.wide 2 P gf #[recv, .func (.yield l) #[] #[]] W fun e W' => (∃ v, e = .returned v) ∧ ∃ s, fin s ∧ J s W'

theorem range_m {σ α : Type} {P : Program} {g : Operand} {ps : Array Tmp} {assign body : Code} {Q : Exit → Act → World → Prop} {a : Act} {w : World} {gf : Nat} {recv : Value} {encs : α → Array Value} {nx : σ → α → σ → Prop} {s0 : σ} {fin : σ → Prop} {T : Obj → Prop}
    (hg : a.eval g = .func (.func gf) #[recv] #[]) (eg : ∀ args w, (callFunc gf args).run P w = .ok (.enter gf args) w) (hps : ∀ x, (encs x).size = ps.size)
    (hT : ∀ o, T o → o.isCells = true) (iter : Gives P gf recv encs nx s0 fin T w.heap.size)
    (I : σ → World → Prop) (hIb : ∀ s A A', I s A → Below A.heap.size A A' → I s A') (hIl : ∀ s A l o o', w.heap.size ≤ l → A.heap[l]? = some o → o.isCells = false → I s A → I s (A.putObj l o'))
    (h0 : I s0 w) (a₁ : α → Act)
    (hassign : ∀ (l : Nat) (x : α) (W : World) (K : Act → World → Prop), K (a₁ x) W →
      assign.wpIn (Fence.wide.inRound l) 1 P (Exit.then K (fun _ _ _ => False)) { tmps := (ps.zip (encs x)).foldl (fun t (p, v) => t.setIfInBounds p v) a.tmps, defers := [] } W)
    (hbody : ∀ (l : Nat) (s : σ) (x : α) (s' : σ) (W : World), nx s x s' → I s W → body.wpIn (Fence.wide.inRound l) 1 P (goes T w.heap.size I s' W) (a₁ x) W)
    (hdone : ∀ (D : Nat) (s : σ) (W : World), w.heap.size ≤ D → fin s → I s W → W.heap[D]? = some (.deferred (some [])) → Q .normal { a with defers := { target := .collected D, args := #[] } :: a.defers } W) :
    (Code.rangeFunc g ps assign body).wpIn Fence.wide 3 P Q a w := by
  refine wpIn_rangeFunc ?_
  intro fn hfn
  obtain ⟨rec, hrec⟩ : ∃ rec : LoopState → Loop, rec = fun st => { state := st, pending := none, fn, tmps := a.tmps, params := ps, assign, body, defers := w.heap.size } := ⟨_, rfl⟩
  obtain ⟨W1, hW1⟩ : ∃ W1, (w.alloc (.deferred (some []))).alloc (.loop (rec .ready)) = W1 := ⟨_, rfl⟩
  have hB : Below w.heap.size w W1 := by
    rw [← hW1]
    exact ((Below.refl _ w).alloc (Nat.le_refl _) _).alloc (by simp) _
  have hD1 : W1.heap[w.heap.size]? = some (.deferred (some [])) := by
    rw [← hW1]
    exact (Below.heap_alloc _ _ _ (by simp)).trans (World.alloc_heap_new w _)
  have hL1 : W1.heap[w.heap.size + 1]? = some (.loop (rec .ready)) := by
    rw [← hW1]
    have h := World.alloc_heap_new (w.alloc (.deferred (some []))) (.loop (rec .ready))
    rwa [World.size_alloc] at h
  refine ⟨w.heap.size + 1, [{ target := .collected w.heap.size, args := #[] }], W1, { target := .fn (.func gf) #[], args := #[recv, .func (.yield (w.heap.size + 1)) #[] #[]] }, W1, gf, #[recv, .func (.yield (w.heap.size + 1)) #[] #[]], W1, ?_, ?_, fun _ _ => trivial, ?_, fun h => by simp [Fence.wide] at h, ?_⟩
  · rw [← hW1, hrec]
    exact run_enterLoop_outer _ _ _ _ _
  · simp only [resolve, hg]
    simp [go_sem]
  · simp [invoke, go_sem, eg]
  · have notT : ∀ o : Obj, o.isCells = false → ¬ T o := fun o h h' => by rw [hT o h'] at h; cases h
    refine (iter (w.heap.size + 1) (fun s W => I s W ∧ W.heap[w.heap.size + 1]? = some (.loop (rec .ready)) ∧ W.heap[w.heap.size]? = some (.deferred (some []))) W1 hB.size
      (fun s A A' h hb => ⟨hIb s A A' h.1 hb, (hb.block _ (Array.getElem?_eq_some_iff.1 h.2.1).1).trans h.2.1, (hb.block _ (Array.getElem?_eq_some_iff.1 h.2.2).1).trans h.2.2⟩)
      ?_ ⟨hIb s0 w W1 h0 hB, hL1, hD1⟩).mono ?_
    · rintro s x s' W hn ⟨hi, hl, hd⟩
      have hlt := (Array.getElem?_eq_some_iff.1 hl).1
      have hy := run_yield (P := P) (args := encs x) hl (by rw [hrec]; exact hps x)
      rw [hrec] at hy
      refine ⟨fn, _, assign, body, hy, roundIn_of_wpIn trivial (hassign _ x W _ ?_)⟩
      clear hy
      refine ⟨_, run_beginRound hl (by rw [hrec]), ?_⟩
      have hl2 : (W.putObj (w.heap.size + 1) (.loop { rec .ready with state := .busy })).heap[w.heap.size + 1]? = some (.loop { rec .ready with state := .busy }) := World.putObj_heap_same hlt
      have hd2 : (W.putObj (w.heap.size + 1) (.loop { rec .ready with state := .busy })).heap[w.heap.size]? = some (.deferred (some [])) := (World.putObj_heap_other (by omega)).trans hd
      have st2 : Stay T w.heap.size W (W.putObj (w.heap.size + 1) (.loop { rec .ready with state := .busy })) := Stay.put W _ hl (notT _ rfl)
      refine wpIn_mono (hbody _ s x s' _ hn (hIl s W _ _ _ (by omega) hl rfl hi)) ?_
      intro e a3 W3 hp
      cases e with
      | normal =>
        obtain ⟨h3, hi3⟩ := hp
        have hl3 := h3.same _ _ (by omega) hl2 (.inl rfl)
        have hd3 := h3.same _ _ (Nat.le_refl _) hd2 (.inl rfl)
        have hr := run_endRound (P := P) none hl3
        have hlt3 := (Array.getElem?_eq_some_iff.1 hl3).1
        rw [hrec] at hr hl3
        refine ⟨_, _, hr, rfl, ⟨hIl s' W3 _ _ _ (by omega) hl3 rfl hi3, ?_, (World.putObj_heap_other (by omega)).trans hd3⟩, (st2.trans (h3.weak fun o h => .inr h)).trans (Stay.put W3 _ hl3 (notT _ rfl))⟩
        rw [hrec]
        exact World.putObj_heap_same hlt3
      | ret => exact hp.elim
      | exit id => exact hp.elim
      | goto t => exact hp.elim
      | panic ch => exact hp.elim
      | outgrown => exact hp.elim
    · rintro e W2 ⟨⟨v, rfl⟩, s, hf, hi, hl, hd⟩
      have hr := run_endLoop (P := P) hl (by rw [hrec]; simp)
      rw [hrec] at hr
      exact ⟨none, _, hr, hdone _ s _ (Nat.le_refl _) hf (hIl s W2 _ _ _ (by omega) hl rfl hi) ((World.putObj_heap_other (by omega)).trans hd)⟩

end Go.Proofs.Ytbgkdngeingmnaa.rg
