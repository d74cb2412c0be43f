/-
  Lemmas of my own over any program: an append of a fresh row to a row that the call owns, as one step of a walk; an owned row of bytes as a string.
-/
import Derived.Test.YtiehfobcbhgfkaaGreatDoorRows
import Derived.WalkKit
import Derived.WalkSpells
import Derived.WalkLawsBesides
import Derived.Laws.BytesArg
import Derived.Lib.Hide
import Derived.Laws.OwnMore
namespace Go.Proofs.YtiehfobcbhgfkaaGreatDoor.kit
set_option maxRecDepth 20000
open Go.RowKit

theorem add_none (g j : Nat) : (⟨g, 0, none⟩ : Addr).add j = ⟨g, j, none⟩ := by unfold Addr.add; split <;> simp_all

/-- What an append of a fresh row leaves. -/
theorem wp_app {P : Program} {o : Oper} {a : Act} {K : Act → World → Prop} {Q : Exit → Act → World → Prop} {w : World} (s x : Operand) (t : TypeId)
    (ho : o.op = .call { callee := .builtin .append, args := #[s, x], argTypes := #[t, t] })
    (W0 wr : World) (e : TypeId) (i : TypeInfo) (z : Value) (bytes : Nat) (ht : P.underlying t = some (.slice e)) (hi : P.info? e = some i) (hz : i.zero = some z)
    (hsize : i.size = 1) (hby : i.bytes = bytes) (hzs : z.cells.size = 1)
    (v : Value) (n : Nat) (xs : List Value) (hown : wr.ownsRow W0.heap.size e 1 v n xs) (hb : Below W0.heap.size W0 wr)
    (news : List Value) (m : Nat) (hlen : news.length = m) (hone : ∀ u ∈ news, u.oneCell' = true) (h63 : n + m ≤ maxLen) (hbytes : (n + m) * bytes ≤ 140737488355328)
    (hs : a.eval s = v) (hx : a.eval x = .slice (some ⟨wr.heap.size, 0, none⟩) m m)
    (hw : w.heap = (wr.alloc (.cells news.toArray e)).heap) (hwo : w.os = wr.os ∧ w.tape = wr.tape ∧ w.output = wr.output)
    (h : ∀ v' w', w'.ownsRow W0.heap.size e 1 v' (n + m) (xs ++ news) → Below W0.heap.size W0 w' → K (a.put o.dst v') w') : o.wp P a w K Q := by
  have hb1 : Below W0.heap.size W0 (wr.alloc (.cells news.toArray e)) := hb.alloc hb.size _
  have hown1 := hown.alloc (.cells news.toArray e)
  have hb2 : Below W0.heap.size W0 w := ⟨hwo.1.trans hb.os, hwo.2.1.trans hb.tape, hwo.2.2.trans hb.output, by rw [hw]; exact hb1.size, fun k hk => by rw [hw]; exact hb1.block k hk⟩
  have hown2 : w.ownsRow W0.heap.size e 1 v n xs := by unfold World.ownsRow at hown1 ⊢; rw [hw]; exact hown1
  have hnew : w.heap[wr.heap.size]? = some (.cells news.toArray e (0, 0)) := by rw [hw]; exact heap_alloc_new wr _
  refine wp_append_own w s x t ho W0.heap.size e i z 1 bytes ht hi hz hsize hby hzs (by decide) v n xs hs hown2 ⟨wr.heap.size, 0, none⟩ m m news hx (by omega)
    (fun j u hj => ?_) hone h63 hbytes hb2.size (fun v' w' h1 h2 _ => h v' w' h1 ?_)
  · rw [add_none, cell_of_row w wr.heap.size j _ e (0, 0) hnew]
    simpa using hj
  · exact hb2.grown h2 hb2.size (fun k hk => (hown2.lt k hk).1)

/-- The same in a region whose order is fixed. -/
theorem list_app {P : Program} {ops : Array Oper} {rest : List Oper} {o : Oper} {a : Act} {Q : Exit → Act → World → Prop} {w : World} (hgd : o.guard = none) (s x : Operand) (t : TypeId)
    (ho : o.op = .call { callee := .builtin .append, args := #[s, x], argTypes := #[t, t] })
    (W0 wr : World) (e : TypeId) (i : TypeInfo) (z : Value) (bytes : Nat) (ht : P.underlying t = some (.slice e)) (hi : P.info? e = some i) (hz : i.zero = some z)
    (hsize : i.size = 1) (hby : i.bytes = bytes) (hzs : z.cells.size = 1)
    (v : Value) (n : Nat) (xs : List Value) (hown : wr.ownsRow W0.heap.size e 1 v n xs) (hb : Below W0.heap.size W0 wr)
    (news : List Value) (m : Nat) (hlen : news.length = m) (hone : ∀ u ∈ news, u.oneCell' = true) (h63 : n + m ≤ maxLen) (hbytes : (n + m) * bytes ≤ 140737488355328)
    (hs : a.eval s = v) (hx : a.eval x = .slice (some ⟨wr.heap.size, 0, none⟩) m m)
    (hw : w.heap = (wr.alloc (.cells news.toArray e)).heap) (hwo : w.os = wr.os ∧ w.tape = wr.tape ∧ w.output = wr.output)
    (h : ∀ v' w', w'.ownsRow W0.heap.size e 1 v' (n + m) (xs ++ news) → Below W0.heap.size W0 w' → wpList P ops Q rest (a.put o.dst v') w') :
    wpList P ops Q (o :: rest) a w :=
  wpList_plain hgd fun _ hK => wp_app s x t ho W0 wr e i z bytes ht hi hz hsize hby hzs v n xs hown hb news m hlen hone h63 hbytes hs hx hw hwo fun v' w' h1 h2 => hK _ _ (h v' w' h1 h2)

/-- An append of a fresh row to a row that is owned from block B on: of the world nothing below B turns. -/
theorem wp_app2 {P : Program} {o : Oper} {a : Act} {K : Act → World → Prop} {Q : Exit → Act → World → Prop} {w : World} (s x : Operand) (t : TypeId)
    (ho : o.op = .call { callee := .builtin .append, args := #[s, x], argTypes := #[t, t] })
    (B : Nat) (wr : World) (e : TypeId) (i : TypeInfo) (z : Value) (bytes : Nat) (ht : P.underlying t = some (.slice e)) (hi : P.info? e = some i) (hz : i.zero = some z)
    (hsize : i.size = 1) (hby : i.bytes = bytes) (hzs : z.cells.size = 1)
    (v : Value) (n : Nat) (xs : List Value) (hown : wr.ownsRow B e 1 v n xs) (hB : B ≤ wr.heap.size)
    (news : List Value) (m : Nat) (hlen : news.length = m) (hone : ∀ u ∈ news, u.oneCell' = true) (h63 : n + m ≤ maxLen) (hbytes : (n + m) * bytes ≤ 140737488355328)
    (hs : a.eval s = v) (hx : a.eval x = .slice (some ⟨wr.heap.size, 0, none⟩) m m)
    (hw : w.heap = (wr.alloc (.cells news.toArray e)).heap) (hwo : w.os = wr.os ∧ w.tape = wr.tape ∧ w.output = wr.output)
    (h : ∀ v' w', w'.ownsRow B e 1 v' (n + m) (xs ++ news) → Below B wr w' → K (a.put o.dst v') w') : o.wp P a w K Q := by
  have hb1 : Below B wr (wr.alloc (.cells news.toArray e)) := (Below.refl _ _).alloc hB _
  have hown1 := hown.alloc (.cells news.toArray e)
  have hb2 : Below B wr w := ⟨hwo.1, hwo.2.1, hwo.2.2, by rw [hw]; exact hb1.size, fun k hk => by rw [hw]; exact hb1.block k hk⟩
  have hown2 : w.ownsRow B e 1 v n xs := by unfold World.ownsRow at hown1 ⊢; rw [hw]; exact hown1
  have hnew : w.heap[wr.heap.size]? = some (.cells news.toArray e (0, 0)) := by rw [hw]; exact heap_alloc_new wr _
  have hB2 : B ≤ w.heap.size := Nat.le_trans hB hb2.size
  refine wp_append_own w s x t ho B e i z 1 bytes ht hi hz hsize hby hzs (by decide) v n xs hs hown2 ⟨wr.heap.size, 0, none⟩ m m news hx (by omega)
    (fun j u hj => ?_) hone h63 hbytes hB2 (fun v' w' h1 h2 _ => h v' w' h1 ?_)
  · rw [add_none, cell_of_row w wr.heap.size j _ e (0, 0) hnew]
    simpa using hj
  · exact hb2.grown h2 hB2 (fun k hk => (hown2.lt k hk).1)
theorem list_app2 {P : Program} {ops : Array Oper} {rest : List Oper} {o : Oper} {a : Act} {Q : Exit → Act → World → Prop} {w : World} (hgd : o.guard = none) (s x : Operand) (t : TypeId)
    (ho : o.op = .call { callee := .builtin .append, args := #[s, x], argTypes := #[t, t] })
    (B : Nat) (wr : World) (e : TypeId) (i : TypeInfo) (z : Value) (bytes : Nat) (ht : P.underlying t = some (.slice e)) (hi : P.info? e = some i) (hz : i.zero = some z)
    (hsize : i.size = 1) (hby : i.bytes = bytes) (hzs : z.cells.size = 1)
    (v : Value) (n : Nat) (xs : List Value) (hown : wr.ownsRow B e 1 v n xs) (hB : B ≤ wr.heap.size)
    (news : List Value) (m : Nat) (hlen : news.length = m) (hone : ∀ u ∈ news, u.oneCell' = true) (h63 : n + m ≤ maxLen) (hbytes : (n + m) * bytes ≤ 140737488355328)
    (hs : a.eval s = v) (hx : a.eval x = .slice (some ⟨wr.heap.size, 0, none⟩) m m)
    (hw : w.heap = (wr.alloc (.cells news.toArray e)).heap) (hwo : w.os = wr.os ∧ w.tape = wr.tape ∧ w.output = wr.output)
    (h : ∀ v' w', w'.ownsRow B e 1 v' (n + m) (xs ++ news) → Below B wr w' → wpList P ops Q rest (a.put o.dst v') w') :
    wpList P ops Q (o :: rest) a w :=
  wpList_plain hgd fun _ hK => wp_app2 s x t ho B wr e i z bytes ht hi hz hsize hby hzs v n xs hown hB news m hlen hone h63 hbytes hs hx hw hwo fun v' w' h1 h2 => hK _ _ (h v' w' h1 h2)
theorem own_base {w : World} {B B' : Nat} {e : TypeId} {size : Nat} {v : Value} {n : Nat} {xs : List Value} (h : w.ownsRow B e size v n xs) (hB : B' ≤ B) : w.ownsRow B' e size v n xs :=
  ⟨h.1, h.2.imp id fun ⟨g, cap, cur, h1, h2, h3⟩ => ⟨g, cap, cur, h1, Nat.le_trans hB h2, h3⟩⟩

/-- An owned row of bytes, as a string. -/
theorem conv_own {P : Program} {w : World} {B : Nat} {src e : TypeId} {v : Value} {n : Nat} {xs : List Int} (hs : P.underlying src = some (.slice e)) (he : P.underlying e = some (.int .u8))
    (h : w.ownsRow B e 1 v n (xs.map (Value.int .u8))) : ∀ dst, P.underlying dst = some .string → (convert src dst v).run P w = .ok (.string (strOfNums xs)) w := by
  intro dst hd
  have hl : xs.length = n := by have := h.1; simpa using this
  rcases h.2 with ⟨rfl, h0⟩ | ⟨g, cap, cur, rfl, _, hg, _, _, _, htake⟩
  · subst h0
    obtain rfl : xs = [] := List.length_eq_zero_iff.1 hl
    exact run_convert_bytes_nil w src e hs he 0 0 dst hd
  · refine run_convert_bytes_arg w src e hs he g 0 n cap xs hl (fun i hi => ?_) dst hd
    have := h.cells (g := g) rfl i (.int .u8 (xs.getD i 0)) (by simp [List.getD, List.getElem?_eq_getElem (show i < xs.length by omega)])
    rw [add_none] at this
    simpa using this

/-- An owned row stays owned where nothing below the heap's old size turns. -/
theorem own_below {w w' : World} {B : Nat} {e : TypeId} {size : Nat} {v : Value} {n : Nat} {xs : List Value} (h : w.ownsRow B e size v n xs) (hb : Below w.heap.size w w') : w'.ownsRow B e size v n xs := by
  refine ⟨h.1, ?_⟩
  rcases h.2 with hn | ⟨g, cap, cur, rfl, hB, hg, rest⟩
  · exact .inl hn
  · exact .inr ⟨g, cap, cur, rfl, hB, by rw [hb.block g (Array.getElem?_eq_some_iff.1 hg).1]; exact hg, rest⟩

/-- What a row of one-cell elements looks like. -/
theorem own_form {w : World} {B : Nat} {e : TypeId} {v : Value} {n : Nat} {xs : List Value} (h : w.ownsRow B e 1 v n xs) :
    ∃ a c, v = .slice a n c ∧ xs.length = n ∧ n ≤ maxLen ∧ (n = 0 ∨ ∃ g, a = some ⟨g, 0, none⟩ ∧ B ≤ g ∧ g < w.heap.size ∧ (∀ j, j < n → w.cell? ⟨g, j, none⟩ = xs[j]?) ∧ ∀ j, w.frozen? ⟨g, j, none⟩ = false) := by
  have hl : xs.length = n := by have := h.1; omega
  rcases h.2 with ⟨rfl, rfl⟩ | ⟨g, cap, cur, rfl, hB, hg, hn, hcm, _⟩
  · exact ⟨none, 0, rfl, hl, by decide, .inl rfl⟩
  · exact ⟨some ⟨g, 0, none⟩, cap, rfl, hl, by omega, .inr ⟨g, rfl, hB, (Array.getElem?_eq_some_iff.1 hg).1, fun j hj => h.cellAt j (by omega), fun j => h.frozenAt j⟩⟩

theorem grown_refl (w : World) (row : Option Nat) : w.grownBy w row := ⟨rfl, rfl, rfl, Nat.le_refl _, fun _ _ _ => rfl⟩
theorem grown_trans {a b c : World} {row : Option Nat} (h : a.grownBy b row) (k : b.grownBy c row) : a.grownBy c row :=
  ⟨k.os.trans h.os, k.tape.trans h.tape, k.output.trans h.output, Nat.le_trans h.size k.size, fun i hi hr => (k.block i (Nat.lt_of_lt_of_le hi h.size) hr).trans (h.block i hi hr)⟩
end Go.Proofs.YtiehfobcbhgfkaaGreatDoor.kit
