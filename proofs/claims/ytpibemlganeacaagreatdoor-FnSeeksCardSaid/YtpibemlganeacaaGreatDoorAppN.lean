/-
  An append of a fresh row of structs to a row that the call owns.
-/
import Derived.Test.YtpibemlganeacaaGreatDoorKit
namespace Go.Proofs.YtpibemlganeacaaGreatDoor.kit
set_option maxRecDepth 20000
open Go.RowKit

/-- What an append of a fresh row leaves. -/
theorem wp_appN {P : Program} {o : Oper} {a : Act} {K : Act → World → Prop} {Q : Exit → Act → World → Prop} {w : World} (s x : Operand) (t : TypeId)
    (ho : o.op = .call { callee := .builtin .append, args := #[s, x], argTypes := #[t, t] })
    (W0 wr : World) (e : TypeId) (i : TypeInfo) (z : Value) (size bytes : Nat) (ht : P.underlying t = some (.slice e)) (hi : P.info? e = some i) (hz : i.zero = some z)
    (hsize : i.size = size) (hby : i.bytes = bytes) (hzs : z.cells.size = size) (hsz : 0 < size)
    (v : Value) (n : Nat) (xs : List Value) (hown : wr.ownsRow W0.heap.size e size v n xs) (hb : Below W0.heap.size W0 wr)
    (news : List Value) (m : Nat) (hlen : news.length = m * size) (hone : ∀ u ∈ news, u.oneCell' = true) (h63 : n + m ≤ maxLen) (hbytes : (n + m) * bytes ≤ 140737488355328)
    (hs : a.eval s = v) (hx : a.eval x = .slice (some ⟨wr.heap.size, 0, none⟩) m m)
    (hw : w.heap = (wr.alloc (.cells news.toArray e)).heap) (hwo : w.os = wr.os ∧ w.tape = wr.tape ∧ w.output = wr.output)
    (h : ∀ v' w', w'.ownsRow W0.heap.size e size v' (n + m) (xs ++ news) → Below W0.heap.size W0 w' → K (a.put o.dst v') w') : o.wp P a w K Q := by
  have hb1 : Below W0.heap.size W0 (wr.alloc (.cells news.toArray e)) := hb.alloc hb.size _
  have hown1 := hown.alloc (.cells news.toArray e)
  have hb2 : Below W0.heap.size W0 w := ⟨hwo.1.trans hb.os, hwo.2.1.trans hb.tape, hwo.2.2.trans hb.output, by rw [hw]; exact hb1.size, fun k hk => by rw [hw]; exact hb1.block k hk⟩
  have hown2 : w.ownsRow W0.heap.size e size v n xs := by unfold World.ownsRow at hown1 ⊢; rw [hw]; exact hown1
  have hnew : w.heap[wr.heap.size]? = some (.cells news.toArray e (0, 0)) := by rw [hw]; exact heap_alloc_new wr _
  refine wp_append_own w s x t ho W0.heap.size e i z size bytes ht hi hz hsize hby hzs hsz v n xs hs hown2 ⟨wr.heap.size, 0, none⟩ m m news hx hlen
    (fun j u hj => ?_) hone h63 hbytes hb2.size (fun v' w' h1 h2 _ => h v' w' h1 ?_)
  · rw [add_none, cell_of_row w wr.heap.size j _ e (0, 0) hnew]
    simpa using hj
  · exact hb2.grown h2 hb2.size (fun k hk => (hown2.lt k hk).1)

/-- The same in a region whose order is fixed. -/
theorem list_appN {P : Program} {ops : Array Oper} {rest : List Oper} {o : Oper} {a : Act} {Q : Exit → Act → World → Prop} {w : World} (hgd : o.guard = none) (s x : Operand) (t : TypeId)
    (ho : o.op = .call { callee := .builtin .append, args := #[s, x], argTypes := #[t, t] })
    (W0 wr : World) (e : TypeId) (i : TypeInfo) (z : Value) (size bytes : Nat) (ht : P.underlying t = some (.slice e)) (hi : P.info? e = some i) (hz : i.zero = some z)
    (hsize : i.size = size) (hby : i.bytes = bytes) (hzs : z.cells.size = size) (hsz : 0 < size)
    (v : Value) (n : Nat) (xs : List Value) (hown : wr.ownsRow W0.heap.size e size v n xs) (hb : Below W0.heap.size W0 wr)
    (news : List Value) (m : Nat) (hlen : news.length = m * size) (hone : ∀ u ∈ news, u.oneCell' = true) (h63 : n + m ≤ maxLen) (hbytes : (n + m) * bytes ≤ 140737488355328)
    (hs : a.eval s = v) (hx : a.eval x = .slice (some ⟨wr.heap.size, 0, none⟩) m m)
    (hw : w.heap = (wr.alloc (.cells news.toArray e)).heap) (hwo : w.os = wr.os ∧ w.tape = wr.tape ∧ w.output = wr.output)
    (h : ∀ v' w', w'.ownsRow W0.heap.size e size v' (n + m) (xs ++ news) → Below W0.heap.size W0 w' → wpList P ops Q rest (a.put o.dst v') w') :
    wpList P ops Q (o :: rest) a w :=
  wpList_plain hgd fun _ hK => wp_appN s x t ho W0 wr e i z size bytes ht hi hz hsize hby hzs hsz v n xs hown hb news m hlen hone h63 hbytes hs hx hw hwo fun v' w' h1 h2 => hK _ _ (h v' w' h1 h2)


end Go.Proofs.YtpibemlganeacaaGreatDoor.kit
