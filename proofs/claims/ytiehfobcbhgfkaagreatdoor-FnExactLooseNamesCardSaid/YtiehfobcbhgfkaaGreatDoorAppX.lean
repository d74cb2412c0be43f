/-
  An append of a fresh row of structs to a row that the call owns.
-/
import Derived.Test.YtiehfobcbhgfkaaGreatDoorKit
import Derived.Test.YtiehfobcbhgfkaaGreatDoorRecX
namespace Go.Proofs.YtiehfobcbhgfkaaGreatDoor.kit
set_option maxRecDepth 20000
open Go.RowKit

/-- What an append of a fresh row leaves. -/
theorem wp_appN {P : Program} {o : Oper} {a : Act} {K : Act → World → Prop} {Q : Exit → Act → World → Prop} {w : World} (s x : Operand) (t : TypeId)
    (ho : o.op = .call { callee := .builtin .append, args := #[s, x], argTypes := #[t, t] })
    (W0 wr : World) (e : TypeId) (i : TypeInfo) (z : Value) (size bytes : Nat) (ht : P.underlying t = some (.slice e)) (hi : P.info? e = some i) (hz : i.zero = some z)
    (hsize : i.size = size) (hby : i.bytes = bytes) (hzs : z.cells.size = size) (hsz : 0 < size)
    (v : Value) (n : Nat) (xs : List Value) (hown : wr.ownsRow W0.heap.size e size v n xs) (hb : Below W0.heap.size W0 wr)
    (news : List Value) (m : Nat) (hlen : news.length = m * size) (hone : ∀ u ∈ news, u.oneCell' = true) (h63 : n + m ≤ maxLen) (hbytes : (n + m) * bytes ≤ 140737488355328)
    (hs : a.eval s = v) (hx : a.eval x = .slice (some ⟨wr.heap.size, 0, none⟩) m m)
    (hw : w.heap = (wr.alloc (.cells news.toArray e)).heap) (hwo : w.os = wr.os ∧ w.tape = wr.tape ∧ w.output = wr.output)
    (h : ∀ v' w', w'.ownsRow W0.heap.size e size v' (n + m) (xs ++ news) → Below W0.heap.size W0 w' → K (a.put o.dst v') w') : o.wp P a w K Q := by
  have hb1 : Below W0.heap.size W0 (wr.alloc (.cells news.toArray e)) := hb.alloc hb.size _
  have hown1 := hown.alloc (.cells news.toArray e)
  have hb2 : Below W0.heap.size W0 w := ⟨hwo.1.trans hb.os, hwo.2.1.trans hb.tape, hwo.2.2.trans hb.output, by rw [hw]; exact hb1.size, fun k hk => by rw [hw]; exact hb1.block k hk⟩
  have hown2 : w.ownsRow W0.heap.size e size v n xs := by unfold World.ownsRow at hown1 ⊢; rw [hw]; exact hown1
  have hnew : w.heap[wr.heap.size]? = some (.cells news.toArray e (0, 0)) := by rw [hw]; exact heap_alloc_new wr _
  refine wp_append_own w s x t ho W0.heap.size e i z size bytes ht hi hz hsize hby hzs hsz v n xs hs hown2 ⟨wr.heap.size, 0, none⟩ m m news hx hlen
    (fun j u hj => ?_) hone h63 hbytes hb2.size (fun v' w' h1 h2 _ => h v' w' h1 ?_)
  · rw [add_none, cell_of_row w wr.heap.size j _ e (0, 0) hnew]
    simpa using hj
  · exact hb2.grown h2 hb2.size (fun k hk => (hown2.lt k hk).1)

/-- The same in a region whose order is fixed. -/
theorem list_appN {P : Program} {ops : Array Oper} {rest : List Oper} {o : Oper} {a : Act} {Q : Exit → Act → World → Prop} {w : World} (hgd : o.guard = none) (s x : Operand) (t : TypeId)
    (ho : o.op = .call { callee := .builtin .append, args := #[s, x], argTypes := #[t, t] })
    (W0 wr : World) (e : TypeId) (i : TypeInfo) (z : Value) (size bytes : Nat) (ht : P.underlying t = some (.slice e)) (hi : P.info? e = some i) (hz : i.zero = some z)
    (hsize : i.size = size) (hby : i.bytes = bytes) (hzs : z.cells.size = size) (hsz : 0 < size)
    (v : Value) (n : Nat) (xs : List Value) (hown : wr.ownsRow W0.heap.size e size v n xs) (hb : Below W0.heap.size W0 wr)
    (news : List Value) (m : Nat) (hlen : news.length = m * size) (hone : ∀ u ∈ news, u.oneCell' = true) (h63 : n + m ≤ maxLen) (hbytes : (n + m) * bytes ≤ 140737488355328)
    (hs : a.eval s = v) (hx : a.eval x = .slice (some ⟨wr.heap.size, 0, none⟩) m m)
    (hw : w.heap = (wr.alloc (.cells news.toArray e)).heap) (hwo : w.os = wr.os ∧ w.tape = wr.tape ∧ w.output = wr.output)
    (h : ∀ v' w', w'.ownsRow W0.heap.size e size v' (n + m) (xs ++ news) → Below W0.heap.size W0 w' → wpList P ops Q rest (a.put o.dst v') w') :
    wpList P ops Q (o :: rest) a w :=
  wpList_plain hgd fun _ hK => wp_appN s x t ho W0 wr e i z size bytes ht hi hz hsize hby hzs hsz v n xs hown hb news m hlen hone h63 hbytes hs hx hw hwo fun v' w' h1 h2 => hK _ _ (h v' w' h1 h2)


end Go.Proofs.YtiehfobcbhgfkaaGreatDoor.kit

namespace Go.Proofs.YtiehfobcbhgfkaaGreatDoor.recs
set_option maxRecDepth 20000
open Go.RowKit
open kit strs

theorem run_append_none_any {P : Program} (w : World) (base : Nat) (t ty e : TypeId) (i : TypeInfo) (size c : Nat) (ht : P.underlying t = some (.slice e)) (hi : P.info? e = some i)
    (v : Value) (n : Nat) (xs : List Value) (hown : w.ownsRow base e size v n xs) : (Builtin.append_ #[t, t] ty #[v, .slice none 0 c]).run P w = .ok v w := by
  rcases hown.2 with ⟨rfl, rfl⟩ | ⟨g, cap, cur, rfl, _, _, hnc, _⟩
  · simp [Builtin.append_, run_underlying ht, sizeOf, typeInfo, hi, Builtin.lenOf, Builtin.firstCells]
  · simp [Builtin.append_, run_underlying ht, sizeOf, typeInfo, hi, Builtin.lenOf, Builtin.firstCells, hnc, storeCells]

theorem wp_copy {P : Program} {o : Oper} {a : Act} {K : Act → World → Prop} {Q : Exit → Act → World → Prop} {w : World} (s x : Operand) (t : TypeId)
    (ho : o.op = .call { callee := .builtin .append, args := #[s, x], argTypes := #[t, t] })
    (B : Nat) (e : TypeId) (i : TypeInfo) (z : Value) (size bytes : Nat) (ht : P.underlying t = some (.slice e)) (hi : P.info? e = some i) (hz : i.zero = some z)
    (hsize : i.size = size) (hby : i.bytes = bytes) (hzs : z.cells.size = size) (hsz : 0 < size)
    (v : Value) (n : Nat) (xs : List Value) (hown : w.ownsRow B e size v n xs) (hB : B ≤ w.heap.size)
    (b : Option Addr) (m c : Nat) (news : List Value) (hc : Cells w b m size news) (hone : ∀ u ∈ news, u.oneCell' = true) (h63 : n + m ≤ maxLen) (hbytes : (n + m) * bytes ≤ 140737488355328)
    (hs : a.eval s = v) (hx : a.eval x = .slice b m c)
    (h : ∀ v' w', w'.ownsRow B e size v' (n + m) (xs ++ news) → w.grownBy w' v.ownBlock → K (a.put o.dst v') w') : o.wp P a w K Q := by
  cases b with
  | none =>
    obtain rfl : m = 0 := hc.2.elim id fun ⟨_, _, h, _⟩ => by cases h
    obtain rfl : news = [] := List.length_eq_zero_iff.1 (by have := hc.1; omega)
    have hr := run_append_none_any (P := P) w B t o.type e i size c ht hi v n xs hown
    unfold Oper.wp execOp
    simp only [ho, resolve, invoke, builtin, Sem.run_bind, Sem.run_pure, Result.andThen_ok, List.map_toArray, List.map_cons, List.map_nil, hs, hx, hr]
    exact h v w (by simpa using hown) (grown_refl _ _)
  | some ad =>
    refine wp_append_own w s x t ho B e i z size bytes ht hi hz hsize hby hzs hsz v n xs hs hown ad m c news hx hc.1 (fun j u hj => ?_) hone h63 hbytes hB (fun v' w' h1 h2 _ => h v' w' h1 h2)
    rcases hc.2 with h0 | ⟨bb, off, hb, _, hcell⟩
    · subst h0
      have : news = [] := List.length_eq_zero_iff.1 (by have := hc.1; omega)
      subst this
      simp at hj
    · obtain rfl : ad = ⟨bb, off, none⟩ := by simpa using hb
      rw [Go.WideShapes.add_plain]
      exact hcell j u hj
theorem list_copy {P : Program} {ops : Array Oper} {rest : List Oper} {o : Oper} {a : Act} {Q : Exit → Act → World → Prop} {w : World} (hgd : o.guard = none) (s x : Operand) (t : TypeId)
    (ho : o.op = .call { callee := .builtin .append, args := #[s, x], argTypes := #[t, t] })
    (B : Nat) (e : TypeId) (i : TypeInfo) (z : Value) (size bytes : Nat) (ht : P.underlying t = some (.slice e)) (hi : P.info? e = some i) (hz : i.zero = some z)
    (hsize : i.size = size) (hby : i.bytes = bytes) (hzs : z.cells.size = size) (hsz : 0 < size)
    (v : Value) (n : Nat) (xs : List Value) (hown : w.ownsRow B e size v n xs) (hB : B ≤ w.heap.size)
    (b : Option Addr) (m c : Nat) (news : List Value) (hc : Cells w b m size news) (hone : ∀ u ∈ news, u.oneCell' = true) (h63 : n + m ≤ maxLen) (hbytes : (n + m) * bytes ≤ 140737488355328)
    (hs : a.eval s = v) (hx : a.eval x = .slice b m c)
    (h : ∀ v' w', w'.ownsRow B e size v' (n + m) (xs ++ news) → w.grownBy w' v.ownBlock → wpList P ops Q rest (a.put o.dst v') w') :
    wpList P ops Q (o :: rest) a w :=
  wpList_plain hgd fun _ hK => wp_copy s x t ho B e i z size bytes ht hi hz hsize hby hzs hsz v n xs hown hB b m c news hc hone h63 hbytes hs hx fun v' w' h1 h2 => hK _ _ (h v' w' h1 h2)

end Go.Proofs.YtiehfobcbhgfkaaGreatDoor.recs

namespace Go.Proofs.YtiehfobcbhgfkaaGreatDoor.recs
set_option maxRecDepth 20000
open Go.RowKit
open kit strs

theorem oneE (xs : List Ent) : ∀ u ∈ cellsE xs, u.oneCell' = true := by
  intro u hu
  obtain ⟨e, _, h⟩ := List.mem_flatMap.1 hu
  simp only [List.mem_cons, List.not_mem_nil, or_false] at h
  rcases h with rfl | rfl <;> rfl
theorem oneN (xs : List Nod) : ∀ u ∈ cellsN xs, u.oneCell' = true := by
  intro u hu
  obtain ⟨e, _, h⟩ := List.mem_flatMap.1 hu
  simp only [List.mem_cons, List.not_mem_nil, or_false] at h
  rcases h with rfl | rfl | rfl <;> rfl
theorem oneS (xs : List ByteArray) : ∀ u ∈ xs.map Value.string, u.oneCell' = true := by
  intro u hu
  obtain ⟨e, _, rfl⟩ := List.mem_map.1 hu
  rfl
theorem at_cells {w : World} {a : Option Addr} {n : Nat} {xs : List ByteArray} (h : strs.At w a n xs) : Cells w a n 1 (xs.map Value.string) :=
  ⟨by rw [List.length_map, Nat.mul_one]; exact h.1, h.2.imp id fun ⟨b, off, h1, h2, h3⟩ => ⟨b, off, h1, h2, fun j x hx => by
    rw [List.getElem?_map] at hx
    obtain ⟨s, hs, rfl⟩ := Option.map_eq_some_iff.1 hx
    exact h3 j s hs⟩⟩

end Go.Proofs.YtiehfobcbhgfkaaGreatDoor.recs
