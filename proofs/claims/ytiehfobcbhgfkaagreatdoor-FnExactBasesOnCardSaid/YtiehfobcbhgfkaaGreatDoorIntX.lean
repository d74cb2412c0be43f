/-
  Contracts of the laws' own helpers over lists of numbers: toIntS, eqIntS, markIntS, heldIntS.
-/
import Derived.Test.YtiehfobcbhgfkaaGreatDoorKit
import Derived.Deep.QuietTactic
import Derived.BigQuiet
import Derived.Laws.OwnMore
import Derived.WalkSmall
import Derived.Test.YtiehfobcbhgfkaaGreatDoorStrQ
namespace Go.Proofs.YtiehfobcbhgfkaaGreatDoor.ints
set_option maxRecDepth 20000
open Go.RowKit
open kit

/-- a slice that holds these numbers -/
def At (w : World) (a : Option Addr) (n : Nat) (xs : List Int) : Prop :=
  xs.length = n ∧ (n = 0 ∨ ∃ b off, a = some ⟨b, off, none⟩ ∧ b < w.heap.size ∧ ∀ j x, xs[j]? = some x → w.cell? ⟨b, off + j, none⟩ = some (.int .i64 x))
theorem At.below {w w' : World} {a : Option Addr} {n : Nat} {xs : List Int} (h : At w a n xs) (hb : Below w.heap.size w w') : At w' a n xs :=
  ⟨h.1, h.2.imp id fun ⟨b, off, h1, h2, h3⟩ => ⟨b, off, h1, Nat.lt_of_lt_of_le h2 hb.size, fun j x hx => (hb.cell (p := ⟨b, off + j, none⟩) h2).trans (h3 j x hx)⟩⟩
theorem At.of_own {w : World} {B : Nat} {a : Option Addr} {n c : Nat} {xs : List Int} (h : w.ownsRow B 3 1 (.slice a n c) n (xs.map (Value.int .i64))) : At w a n xs := by
  obtain ⟨a', c', e, hl, _, h1⟩ := own_form h
  injection e with e1 e2 e3
  subst e1
  refine ⟨by simpa using hl, h1.imp id fun ⟨g, h1, _, h3, h4, _⟩ => ⟨g, 0, h1, h3, fun j x hx => ?_⟩⟩
  have hj : j < n := by have := (List.getElem?_eq_some_iff.1 hx).1; simp at hl; omega
  rw [Nat.zero_add, h4 j hj, List.getElem?_map, hx]
  rfl

theorem Tryz.infoInt : (Tryz.prog.info? 3).map (fun i => (i.zero, i.size, i.bytes)) = some (some (.int .i64 0), 1, 8) := by kernel_rfl

/-! ### equal lists -/
/-! ### a copy -/
/-! ### marks -/
def marks (k n : Nat) : List Int := (List.range n).map fun i => ((k + i : Nat) : Int)
end Go.Proofs.YtiehfobcbhgfkaaGreatDoor.ints

namespace Go.Proofs.YtiehfobcbhgfkaaGreatDoor.sc
set_option maxRecDepth 20000
open Go.RowKit
open kit

/-- a block of cells, as far as they are known -/
def Box (w : World) (g : Nat) (cs : List Value) : Prop := (g < w.heap.size ∧ ∀ i v, cs[i]? = some v → w.cell? ⟨g, i, none⟩ = some v) ∧ ∀ j, w.frozen? ⟨g, j, none⟩ = false
theorem Box.lt {w : World} {g : Nat} {cs : List Value} (h : Box w g cs) : g < w.heap.size := h.1.1
theorem Box.at {w : World} {g : Nat} {cs : List Value} (h : Box w g cs) (i : Nat) (v : Value) (hi : cs[i]? = some v) : w.cell? ⟨g, i, none⟩ = some v := h.1.2 i v hi
theorem Box.new (w : World) (cs : Array Value) (t : TypeId) : Box (w.alloc (.cells cs t)) w.heap.size cs.toList :=
  ⟨⟨by simp, fun i v h => by rw [cell_of_row _ _ _ _ _ _ (heap_alloc_new w _)]; simpa using h⟩, fun j => by
    unfold World.frozen?
    rw [show (w.alloc (.cells cs t)).heap[w.heap.size]? = _ from heap_alloc_new w _]
    simp⟩
theorem Box.below {w w' : World} {g : Nat} {cs : List Value} (h : Box w g cs) (hb : Below w.heap.size w w') : Box w' g cs :=
  ⟨⟨Nat.lt_of_lt_of_le h.lt hb.size, fun i v hi => (hb.cell (p := ⟨g, i, none⟩) h.lt).trans (h.1.2 i v hi)⟩, fun j => (hb.frozen (p := ⟨g, j, none⟩) h.lt).trans (h.2 j)⟩
theorem set_other {w : World} {g i j : Nat} {u : Value} (v : Value) (h : w.cell? ⟨g, j, none⟩ = some u) (hij : i ≠ j) : (w.setCell ⟨g, i, none⟩ v).cell? ⟨g, j, none⟩ = some u := by
  have _h := hij
  simp [go_sem, h]
theorem set_same {w : World} {g i : Nat} {u : Value} (v : Value) (h : w.cell? ⟨g, i, none⟩ = some u) : (w.setCell ⟨g, i, none⟩ v).cell? ⟨g, i, none⟩ = some v := by simp [go_sem, h]
theorem set_far {w : World} {g b i j : Nat} {u : Value} (v : Value) (h : w.cell? ⟨b, j, none⟩ = some u) (hg : g ≠ b) : (w.setCell ⟨g, i, none⟩ v).cell? ⟨b, j, none⟩ = some u := (World.cell?_setCell_far w ⟨g, i, none⟩ ⟨b, j, none⟩ v hg).trans h
theorem frozen_set {w : World} {g k i : Nat} {u : Value} (h : ∀ j, w.frozen? ⟨g, j, none⟩ = false) : ∀ j, (w.setCell ⟨k, i, none⟩ u).frozen? ⟨g, j, none⟩ = false := fun j => by
  have h := h j
  simpa [go_sem] using h
theorem Box.set {w : World} {g : Nat} {cs : List Value} (h : Box w g cs) (i : Nat) (u : Value) (hi : i < cs.length) : Box (w.setCell ⟨g, i, none⟩ u) g (cs.set i u) := by
  refine ⟨⟨by simpa using h.lt, fun j v hj => ?_⟩, frozen_set h.2⟩
  by_cases e : i = j
  · subst e
    obtain rfl : u = v := by simpa [List.getElem?_set, hi] using hj
    exact set_same _ (h.1.2 i _ (List.getElem?_eq_getElem hi))
  · rw [List.getElem?_set_ne e] at hj
    exact set_other _ (h.1.2 j v hj) e
theorem Box.far {w : World} {g k : Nat} {cs : List Value} (h : Box w g cs) (i : Nat) (u : Value) (hg : k ≠ g) : Box (w.setCell ⟨k, i, none⟩ u) g cs :=
  ⟨⟨by simpa using h.lt, fun j v hj => set_far _ (h.1.2 j v hj) hg⟩, frozen_set h.2⟩
theorem Box.grown {w w' : World} {v : Value} {g : Nat} {cs : List Value} (h : Box w g cs) (hg : w.grownBy w' v.ownBlock) (ho : v.ownBlock ≠ some g) : Box w' g cs := by
  have hb := hg.block g h.lt (fun e => ho e.symm)
  refine ⟨⟨Nat.lt_of_lt_of_le h.lt hg.size, fun j x hj => ?_⟩, fun j => (World.frozen?_of_block (a := ⟨g, j, none⟩) hb).trans (h.2 j)⟩
  rw [← h.1.2 j x hj]
  unfold World.cell?
  rw [hb]
def Off (u v : Value) : Prop := ∀ g, u.ownBlock = some g → v.ownBlock ≠ some g
theorem off_type {w : World} {B B' s s' n n' : Nat} {e e' : TypeId} {u v : Value} {xs ys : List Value} (hu : w.ownsRow B e s u n xs) (hv : w.ownsRow B' e' s' v n' ys) (hne : e ≠ e') : Off u v := fun g h1 h2 => by
  rcases hu.2 with ⟨rfl, _⟩ | ⟨g1, c1, cur1, rfl, _, k1, _⟩
  · simp [Value.ownBlock] at h1
  rcases hv.2 with ⟨rfl, _⟩ | ⟨g2, c2, cur2, rfl, _, k2, _⟩
  · simp [Value.ownBlock] at h2
  simp only [Value.ownBlock, Option.some.injEq] at h1 h2
  subst h1
  subst h2
  rw [k1] at k2
  simp only [Option.some.injEq] at k2
  injection k2 with _ h
  exact hne h
theorem own_block_ge {w : World} {B size : Nat} {e : TypeId} {v : Value} {n : Nat} {xs : List Value} (h : w.ownsRow B e size v n xs) (g : Nat) (hg : v.ownBlock = some g) : B ≤ g ∧ g < w.heap.size := by
  rcases h.2 with ⟨rfl, _⟩ | ⟨g', cap, cur, rfl, hB, hh, _⟩
  · simp [Value.ownBlock] at hg
  · simp only [Value.ownBlock, Option.some.injEq] at hg
    subst hg
    exact ⟨hB, (Array.getElem?_eq_some_iff.1 hh).1⟩
theorem own_not {w : World} {B s n g : Nat} {e : TypeId} {v : Value} {xs : List Value} (h : w.ownsRow B e s v n xs) (hg : g < B) : v.ownBlock ≠ some g := fun e => by
  have := (own_block_ge h g e).1
  omega
theorem own_grown {w w' : World} {B size : Nat} {e : TypeId} {v u : Value} {n : Nat} {xs : List Value} (h : w.ownsRow B e size v n xs) (hg : w.grownBy w' u.ownBlock) (ho : ∀ g, v.ownBlock = some g → u.ownBlock ≠ some g) : w'.ownsRow B e size v n xs := by
  refine ⟨h.1, ?_⟩
  rcases h.2 with hn | ⟨g, cap, cur, rfl, hB, hh, rest⟩
  · exact .inl hn
  · exact .inr ⟨g, cap, cur, rfl, hB, by rw [hg.block g (Array.getElem?_eq_some_iff.1 hh).1 (fun e => ho g rfl e.symm)]; exact hh, rest⟩
theorem own_setOther {w : World} {B size : Nat} {e : TypeId} {v : Value} {n : Nat} {xs : List Value} (h : w.ownsRow B e size v n xs) (g j : Nat) (u : Value) (hg : v.ownBlock ≠ some g) : (w.setCell ⟨g, j, none⟩ u).ownsRow B e size v n xs := by
  refine ⟨h.1, ?_⟩
  rcases h.2 with hn | ⟨g', cap, cur, rfl, hB, hh, rest⟩
  · exact .inl hn
  · exact .inr ⟨g', cap, cur, rfl, hB, by rw [heap_setCell_other _ _ _ _ (fun e => hg (by rw [e]; rfl))]; exact hh, rest⟩

/-- An append of a fresh row to a row that is owned: all but that row's block is as it was. -/
theorem wp_app3 {P : Program} {o : Oper} {a : Act} {K : Act → World → Prop} {Q : Exit → Act → World → Prop} {w : World} (s x : Operand) (t : TypeId)
    (ho : o.op = .call { callee := .builtin .append, args := #[s, x], argTypes := #[t, t] })
    (B : Nat) (wr : World) (e : TypeId) (i : TypeInfo) (z : Value) (bytes : Nat) (ht : P.underlying t = some (.slice e)) (hi : P.info? e = some i) (hz : i.zero = some z)
    (hsize : i.size = 1) (hby : i.bytes = bytes) (hzs : z.cells.size = 1)
    (v : Value) (n : Nat) (xs : List Value) (hown : wr.ownsRow B e 1 v n xs) (hB : B ≤ wr.heap.size)
    (news : List Value) (m : Nat) (hlen : news.length = m) (hone : ∀ u ∈ news, u.oneCell' = true) (h63 : n + m ≤ maxLen) (hbytes : (n + m) * bytes ≤ 140737488355328)
    (hs : a.eval s = v) (hx : a.eval x = .slice (some ⟨wr.heap.size, 0, none⟩) m m)
    (hw : w = wr.alloc (.cells news.toArray e))
    (h : ∀ v' w', w'.ownsRow B e 1 v' (n + m) (xs ++ news) → wr.grownBy w' v.ownBlock → K (a.put o.dst v') w') : o.wp P a w K Q := by
  subst hw
  have hnew := heap_alloc_new wr (.cells news.toArray e)
  refine wp_append_own _ s x t ho B e i z 1 bytes ht hi hz hsize hby hzs (by decide) v n xs hs (hown.alloc _) ⟨wr.heap.size, 0, none⟩ m m news hx (by omega)
    (fun j u hj => ?_) hone h63 hbytes (by simp; omega) (fun v' w' h1 h2 _ => h v' w' h1 ?_)
  · rw [add_none, cell_of_row _ wr.heap.size j _ e (0, 0) hnew]
    simpa using hj
  · exact grown_trans (World.grownBy_alloc wr _ v.ownBlock) h2
theorem list_app3 {P : Program} {ops : Array Oper} {rest : List Oper} {o : Oper} {a : Act} {Q : Exit → Act → World → Prop} {w : World} (hgd : o.guard = none) (s x : Operand) (t : TypeId)
    (ho : o.op = .call { callee := .builtin .append, args := #[s, x], argTypes := #[t, t] })
    (B : Nat) (wr : World) (e : TypeId) (i : TypeInfo) (z : Value) (bytes : Nat) (ht : P.underlying t = some (.slice e)) (hi : P.info? e = some i) (hz : i.zero = some z)
    (hsize : i.size = 1) (hby : i.bytes = bytes) (hzs : z.cells.size = 1)
    (v : Value) (n : Nat) (xs : List Value) (hown : wr.ownsRow B e 1 v n xs) (hB : B ≤ wr.heap.size)
    (news : List Value) (m : Nat) (hlen : news.length = m) (hone : ∀ u ∈ news, u.oneCell' = true) (h63 : n + m ≤ maxLen) (hbytes : (n + m) * bytes ≤ 140737488355328)
    (hs : a.eval s = v) (hx : a.eval x = .slice (some ⟨wr.heap.size, 0, none⟩) m m)
    (hw : w = wr.alloc (.cells news.toArray e))
    (h : ∀ v' w', w'.ownsRow B e 1 v' (n + m) (xs ++ news) → wr.grownBy w' v.ownBlock → wpList P ops Q rest (a.put o.dst v') w') :
    wpList P ops Q (o :: rest) a w :=
  wpList_plain hgd fun _ hK => wp_app3 s x t ho B wr e i z bytes ht hi hz hsize hby hzs v n xs hown hB news m hlen hone h63 hbytes hs hx hw fun v' w' h1 h2 => hK _ _ (h v' w' h1 h2)
theorem list_app4 {P : Program} {ops : Array Oper} {rest : List Oper} {o : Oper} {a : Act} {Q : Exit → Act → World → Prop} {w : World} (hgd : o.guard = none) (s x : Operand) (t : TypeId)
    (ho : o.op = .call { callee := .builtin .append, args := #[s, x], argTypes := #[t, t] })
    (B : Nat) (wr : World) (e : TypeId) (i : TypeInfo) (z : Value) (bytes : Nat) (ht : P.underlying t = some (.slice e)) (hi : P.info? e = some i) (hz : i.zero = some z)
    (hsize : i.size = 1) (hby : i.bytes = bytes) (hzs : z.cells.size = 1)
    (v : Value) (n : Nat) (xs : List Value) (hown : wr.ownsRow B e 1 v n xs) (hB : B ≤ wr.heap.size) (k : Nat) (hk : wr.heap.size = k)
    (news : List Value) (m : Nat) (hlen : news.length = m) (hone : ∀ u ∈ news, u.oneCell' = true) (h63 : n + m ≤ maxLen) (hbytes : (n + m) * bytes ≤ 140737488355328)
    (hs : a.eval s = v) (hx : a.eval x = .slice (some ⟨k, 0, none⟩) m m)
    (hw : w = wr.alloc (.cells news.toArray e))
    (h : ∀ v' w', w'.ownsRow B e 1 v' (n + m) (xs ++ news) → wr.grownBy w' v.ownBlock → wpList P ops Q rest (a.put o.dst v') w') :
    wpList P ops Q (o :: rest) a w := by
  subst hk
  exact list_app3 hgd s x t ho B wr e i z bytes ht hi hz hsize hby hzs v n xs hown hB news m hlen hone h63 hbytes hs hx hw h


end Go.Proofs.YtiehfobcbhgfkaaGreatDoor.sc
