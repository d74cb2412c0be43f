/-
  Deeds keep a disk small and well-formed; a disk in a box beside a cursor.
-/
import Derived.Test.YtkibddcjogfklaaGreatDoorDqX
import Derived.Test.YtkibddcjogfklaaGreatDoorDrawX
import Derived.Deep.RegionLaw
import Derived.Deep.RegionLawGrows
import Derived.Deep.DeepAppendRoom
namespace Go.Proofs.YtkibddcjogfklaaGreatDoor.deed
open Go.RowKit
open kit strs recs disk kd draw

theorem sm_remove {K : Nat} {d : D} {s : ByteArray} (h : Sm K d) (hK : K ≤ 200000) : Sm (K + 400) (removeFile d s).1 := by
  unfold removeFile
  split
  · exact h.mono (by omega)
  · rename_i hn
    have h1 : diskOk d = true := by cases e : diskOk d with | true => rfl | false => exact absurd (.inl e) hn
    have h2 : hasE d.ents s = true := by cases e : hasE d.ents s with | true => rfl | false => exact absurd (.inr e) hn
    exact ((more_remove (h.ok hK) (has_small h1 h2)).sm h).clean
theorem sm_rename {K : Nat} {d : D} {s t : ByteArray} (h : Sm K d) (hK : K ≤ 200000) : Sm (K + 400) (renameFile d s t).1 := by
  unfold renameFile
  split
  · exact h.mono (by omega)
  · rename_i hn
    have h1 : diskOk d = true := by cases e : diskOk d with | true => rfl | false => exact absurd (.inl e) hn
    have h2 : hasE d.ents s = true := by cases e : hasE d.ents s with | true => rfl | false => exact absurd (.inr e) hn
    split
    · exact h.mono (by omega)
    · rename_i hm
      have h3 : nam.nok t = true := by cases e : nam.nok t with | true => rfl | false => exact absurd (.inl e) hm
      exact ((more_rename (h.ok hK) (has_small h1 h2) (nok_small h3)).sm h).clean
theorem sm_create {K : Nat} {d : D} {s : ByteArray} (h : Sm K d) (hK : K ≤ 200000) : Sm (K + 400) (createFile d s).1 := by
  unfold createFile
  split
  · exact h.mono (by omega)
  · rename_i h1
    split
    · exact h.mono (by omega)
    · rename_i h2
      split
      · exact h.mono (by omega)
      · split
        · exact h.mono (by omega)
        · have h1 : diskOk d = true := by simpa using h1
          have h2 : nam.nok s = true := by simpa using h2
          obtain ⟨n1, n2⟩ := right_next h1
          exact ((more_create (h.ok hK) (nok_small h2) n1 n2 (itoa_small d.next n1 n2)).sm h).clean
theorem sm_syncNames {K : Nat} {d : D} (h : Sm K d) (hK : K ≤ 200000) : Sm (K + 400) (syncNames d) := by
  unfold syncNames
  split
  · exact h.mono (by omega)
  · rename_i h1
    exact ((more_sync (h.ok hK) (by simpa using h1)).sm h).clean
theorem tot_set : ∀ (xs : List ByteArray) (k : Nat) (x y : ByteArray), xs[k]? = some x → tot (xs.set k y) + x.size = tot xs + y.size
  | [], k, x, y, h => by simp at h
  | z :: r, 0, x, y, h => by
    obtain rfl : z = x := by simpa using h
    simp [tot]
    omega
  | z :: r, k + 1, x, y, h => by
    have ih := tot_set r k x y (by simpa using h)
    simp only [tot, List.set_cons_succ, List.map_cons, List.sum_cons] at ih ⊢
    omega
theorem bulkN_set {d : D} {k : Nat} {n m : Nod} (hx : d.nodes[k]? = some n) : bulkN { d with nodes := d.nodes.set k m } + n.2.1.size = bulkN d + m.2.1.size := by
  unfold bulkN
  simp only [List.map_set, List.length_set]
  have := tot_set (d.nodes.map (·.2.1)) k n.2.1 m.2.1 (by rw [List.getElem?_map, hx]; rfl)
  omega
theorem sm_set {K t : Nat} {d : D} {k : Nat} {n m : Nod} (h : Sm K d) (hK : K ≤ 200000) (hx : d.nodes[k]? = some n) (hm : wfI m.1 ∧ wfI m.2.2) (hz : m.2.1.size ≤ n.2.1.size + t) (ht : t ≤ 400) : Sm (K + 400) { d with nodes := d.nodes.set k m } := by
  obtain ⟨wN, wE, wO, wS, wR, wX, m1, m2, m3, m4⟩ := h.wf
  have hb := bulkN_set (m := m) hx
  have hn := h.n
  have hs : n.2.1.size ≤ K := by
    have h1 := tot_each (d.nodes.map (·.2.1)) n.2.1 (List.mem_map.2 ⟨n, List.mem_of_getElem? hx, rfl⟩)
    unfold bulkN at hn
    omega
  refine ⟨⟨?_, wE, wO, wS, wR, wX, by simpa using m1, m2, m3, m4⟩, by omega, Nat.le_trans h.e (by omega), Nat.le_trans h.o (by omega), Nat.le_trans h.s (by omega)⟩
  intro z hz2
  rcases List.mem_or_eq_of_mem_set hz2 with hz2 | rfl
  · exact wN z hz2
  · exact ⟨hm.1, by unfold maxLen; omega, hm.2⟩
theorem node_of {d : D} {s : ByteArray} (h1 : diskOk d = true) (h2 : hasE d.ents s = true) : d.nodes[nodeK d s]? = some (nodeN d s) := by
  obtain ⟨k, nd, hk, hx⟩ := right_node h1 h2
  rw [nodeK_is hk, nodeN_is hk hx]
  exact hx
theorem sm_syncFile {K : Nat} {d : D} {s : ByteArray} (h : Sm K d) (hK : K ≤ 200000) : Sm (K + 400) (syncFile d s).1 := by
  unfold syncFile
  split
  · exact h.mono (by omega)
  · rename_i hn
    have h1 : diskOk d = true := by cases e : diskOk d with | true => rfl | false => exact absurd (.inl e) hn
    have h2 : hasE d.ents s = true := by cases e : hasE d.ents s with | true => rfl | false => exact absurd (.inr e) hn
    have hx := node_of h1 h2
    have w := h.wf.1 _ (List.mem_of_getElem? hx)
    refine sm_set h hK hx ⟨w.1, ?_⟩ (Nat.le_add_right _ 0) (Nat.zero_le _)
    have := w.2.1
    unfold maxLen at this
    show wfI ((nodeN d s).2.1.size : Int)
    unfold wfI
    omega
theorem sm_append {K : Nat} {d : D} {s t : ByteArray} (h : Sm K d) (hK : K ≤ 200000) (ht : t.size ≤ 400) : Sm (K + 400) (appendFile d s t).1 := by
  unfold appendFile
  split
  · exact h.mono (by omega)
  · rename_i hn
    have h1 : diskOk d = true := by cases e : diskOk d with | true => rfl | false => exact absurd (.inl e) hn
    have h2 : hasE d.ents s = true := by cases e : hasE d.ents s with | true => rfl | false => exact absurd (.inr e) hn
    have hx := node_of h1 h2
    have w := h.wf.1 _ (List.mem_of_getElem? hx)
    split
    · refine sm_set (t := 400) h hK hx ⟨w.1, w.2.2⟩ ?_ (Nat.le_refl _)
      show ((nodeN d s).2.1 ++ t.extract 0 _).size ≤ _
      rw [ByteArray.size_append, ByteArray.size_extract]
      omega
    · refine sm_set (t := 400) h hK hx ⟨w.1, w.2.2⟩ ?_ (Nat.le_refl _)
      show ((nodeN d s).2.1 ++ t).size ≤ _
      rw [ByteArray.size_append]
      omega

/-! ### a disk in a box beside a cursor -/
theorem own_keep {w w' : World} {B s n c : Nat} {e : TypeId} {v : Value} {xs : List Value} (h : w.ownsRow B e s v n xs) (hg : w.grownBy w' (some c)) (hc : c < B) : w'.ownsRow B e s v n xs :=
  h.kept hg (.inr (own_not h hc))
theorem disk_keep {B c : Nat} {w w' : World} {v : Value} {d : D} (h : OwnDisk B w v d) (hg : w.grownBy w' (some c)) (hc : c < B) : OwnDisk B w' v d := by
  obtain ⟨sN, sE, sO, sS, nN, nE, nO, nS, rfl, rN, rE, rO, rS, o⟩ := h
  exact ⟨sN, sE, sO, sS, nN, nE, nO, nS, rfl, own_keep rN hg hc, own_keep rE hg hc, own_keep rO hg hc, own_keep rS hg hc, o⟩
theorem box_keep {w w' : World} {g c : Nat} {cs : List Value} (h : Box w g cs) (k : w.grownBy w' (some c)) (hne : g ≠ c) : Box w' g cs := by
  refine ⟨Nat.lt_of_lt_of_le h.1 k.size, fun i v hi => ?_⟩
  rw [← h.2 i v hi]
  unfold World.cell?
  rw [k.block g h.1 (fun e => hne (Option.some.inj e))]
theorem frozen_keep {w w' : World} {g c : Nat} (h : ∀ j, w.frozen? ⟨g, j, none⟩ = false) (hl : g < w.heap.size) (k : w.grownBy w' (some c)) (hne : g ≠ c) : ∀ j, w'.frozen? ⟨g, j, none⟩ = false := fun j =>
  (World.frozen?_of_block (a := ⟨g, j, none⟩) (k.block g hl (fun e => hne (Option.some.inj e)))).trans (h j)
theorem Desk.keep {B c : Nat} {w w' : World} {b r : Nat} {sN sE sO sS : Value} {d : D} (h : Desk B w b r sN sE sO sS d) (k : w.grownBy w' (some c)) (hb : c < b) (hr : c < r) : Desk B w' b r sN sE sO sS d := by
  obtain ⟨u0, u1, u2, u3, u4, u5, ho⟩ := h.out
  have h1 := h.hb
  exact ⟨box_keep h.box k (by omega), frozen_keep h.fz h.box.1 k (by omega), ⟨u0, u1, u2, u3, u4, u5, box_keep ho k (by omega)⟩, frozen_keep h.fr ho.1 k (by omega), disk_keep h.own k (by omega), h.hb, h.hr, h.ne, Nat.le_trans h.size k.size⟩
end Go.Proofs.YtkibddcjogfklaaGreatDoor.deed

namespace Go.Proofs.YtkibddcjogfklaaGreatDoor.deed
open Go.RowKit
open kit strs recs disk kd draw

theorem own_nil (B : Nat) (w : World) (e : TypeId) (s : Nat) : w.ownsRow B e s (.slice none 0 0) 0 [] := ⟨by simp, .inl ⟨rfl, rfl⟩⟩
theorem off_nil (v : Value) : Off (.slice none 0 0) v := fun g h => by simp [Value.ownBlock] at h
theorem own_newD (B : Nat) (w : World) (x : Int) : OwnDisk B w (.agg #[.slice none 0 0, .slice none 0 0, .slice none 0 0, .slice none 0 0, .int .i64 x, .int .i64 1]) ⟨[], [], [], [], x, 1⟩ :=
  ⟨_, _, _, _, 0, 0, 0, 0, rfl, own_nil _ _ _ _, own_nil _ _ _ _, own_nil _ _ _ _, own_nil _ _ _ _, off_nil _, off_nil _, off_nil _, off_nil _, off_nil _, off_nil _⟩
theorem sm_new (x : Int) (h : wfI x) : Sm 0 ⟨[], [], [], [], x, 1⟩ :=
  ⟨⟨(fun n hn => by cases hn), (fun n hn => by cases hn), (fun n hn => by cases hn), (fun n hn => by cases hn), h, (show wfI 1 from ⟨by decide, by decide⟩), Nat.zero_le _, Nat.zero_le _, Nat.zero_le _, Nat.zero_le _⟩, Nat.le_refl _, Nat.le_refl _, Nat.le_refl _, Nat.le_refl _⟩
end Go.Proofs.YtkibddcjogfklaaGreatDoor.deed

namespace Go.Proofs.YtkibddcjogfklaaGreatDoor.deed
open Go.RowKit
open kit strs recs disk kd draw

theorem row_ne {w : World} {B s n b : Nat} {e t : TypeId} {v : Value} {xs : List Value} {cs : Array Value} (hu : w.ownsRow B e s v n xs) (hb : w.heap[b]? = some (.cells cs t)) (hne : e ≠ t) : v.ownBlock ≠ some b := fun h => by
  rcases hu.2 with ⟨rfl, _⟩ | ⟨g1, c1, cur1, rfl, _, k1, _⟩
  · simp [Value.ownBlock] at h
  · simp only [Value.ownBlock, Option.some.injEq] at h
    subst h
    rw [k1] at hb
    simp only [Option.some.injEq] at hb
    injection hb with _ h
    exact hne h
theorem tb_kept {wr w1 : World} {b : Nat} {cs : Array Value} {t : TypeId} {row : Option Nat} (h : wr.heap[b]? = some (.cells cs t)) (g : wr.grownBy w1 row) (hl : b < wr.heap.size) (hne : some b ≠ row) : w1.heap[b]? = some (.cells cs t) := (g.block b hl hne).trans h
theorem disk_off {B : Nat} {w : World} {v : Value} {d : D} {b j : Nat} {u : Value} {cs : Array Value} (h : OwnDisk B w v d) (hb : w.heap[b]? = some (.cells cs 32)) : OwnDisk B (w.setCell ⟨b, j, none⟩ u) v d := by
  obtain ⟨sN, sE, sO, sS, nN, nE, nO, nS, rfl, rN, rE, rO, rS, o⟩ := h
  exact ⟨sN, sE, sO, sS, nN, nE, nO, nS, rfl, own_setOther rN _ _ _ (row_ne rN hb (by decide)), own_setOther rE _ _ _ (row_ne rE hb (by decide)), own_setOther rO _ _ _ (row_ne rO hb (by decide)), own_setOther rS _ _ _ (row_ne rS hb (by decide)), o⟩

/-- An append to a row of the call's own: it lies where the old one lay, or in a new block. -/
theorem wp_copy2 {P : Program} {o : Oper} {a : Act} {K : Act → World → Prop} {Q : Exit → Act → World → Prop} {w : World} (hgd : o.guard = none) (s x : Operand) (t : TypeId)
    (ho : o.op = .call { callee := .builtin .append, args := #[s, x], argTypes := #[t, t] })
    (B : Nat) (e : TypeId) (i : TypeInfo) (z : Value) (size bytes : Nat) (ht : P.underlying t = some (.slice e)) (hi : P.info? e = some i) (hz : i.zero = some z)
    (hsize : i.size = size) (hby : i.bytes = bytes) (hzs : z.cells.size = size) (hsz : 0 < size)
    (v : Value) (n : Nat) (xs : List Value) (hown : w.ownsRow B e size v n xs) (hB : B ≤ w.heap.size)
    (ad : Addr) (m c : Nat) (news : List Value) (hc : Cells w (some ad) m size news) (hone : ∀ u ∈ news, u.oneCell' = true) (hm : 0 < m) (h63 : n + m ≤ maxLen) (hbytes : (n + m) * bytes ≤ 140737488355328)
    (hs : a.eval s = v) (hx : a.eval x = .slice (some ad) m c)
    (h : ∀ v' w', w'.ownsRow B e size v' (n + m) (xs ++ news) → w.grownBy w' v.ownBlock → (v'.ownBlock = v.ownBlock ∨ w'.ownsRow w.heap.size e size v' (n + m) (xs ++ news)) → K (a.put o.dst v') w') : o.wp P a w K Q := by
  have hw : Region.wanted o (yielded #[] a.tmps) = true := by simp [Region.wanted, hgd]
  have hcell : ∀ j u, news[j]? = some u → w.cell? (ad.add j) = some u := fun j u hj => by
    rcases hc.2 with h0 | ⟨bb, off, hb, _, hcell⟩
    · omega
    · obtain rfl : ad = ⟨bb, off, none⟩ := by simpa using hb
      rw [Go.WideShapes.add_plain]
      exact hcell j u hj
  rcases hown.2 with ⟨rfl, rfl⟩ | ⟨g, cap, cur, rfl, hB', hh, hnc, hcm, hcs, htake⟩
  · have hx0 : xs = [] := List.length_eq_zero_iff.1 (by have := hown.1; omega)
    subst hx0
    have := step_append_grows (P := P) (ops := #[]) (o := o) (a := a) (w := w) (K := K) (Q := Q) (E := False) hgd s x t ho e i z size bytes ht hi hz hsize hby hzs hsz none 0 0 [] hs (fun _ => ⟨rfl, rfl⟩) (by simp) (fun b hb => by cases hb) ad m c news hx hc.1 hcell hone (by omega) h63 hbytes
      (fun v' w' h1 h2 => h v' w' (own_base h1 hB) h2 (.inr h1))
    rwa [if_pos hw] at this
  · by_cases hroom : n + m ≤ cap
    · exact wp_append_own_spare w s x t ho B e i size ht hi hsize g n cap xs hs hown ad m c news hx hc.1 hcell hone hroom (fun w' h2 h3 => h _ w' h2 h3 (.inl rfl))
    · have := step_append_grows (P := P) (ops := #[]) (o := o) (a := a) (w := w) (K := K) (Q := Q) (E := False) hgd s x t ho e i z size bytes ht hi hz hsize hby hzs hsz (some ⟨g, 0, none⟩) n cap xs hs (fun hb => by cases hb) hown.1
        (fun b hb j u hj => by
          obtain rfl : (⟨g, 0, none⟩ : Addr) = b := by simpa using hb
          rw [Go.WideShapes.add_plain, Nat.zero_add, hown.cellAt j (by have := (List.getElem?_eq_some_iff.1 hj).1; have := hown.1; omega)]
          exact hj)
        ad m c news hx hc.1 hcell hone (by omega) h63 hbytes
        (fun v' w' h1 h2 => h v' w' (own_base h1 hB) ⟨h2.os, h2.tape, h2.output, h2.size, fun k hk _ => h2.block k hk (by simp)⟩ (.inr h1))
      rwa [if_pos hw] at this
theorem step_copy2 {P : Program} {ops : Array Oper} {o : Oper} {a : Act} {K : Act → World → Prop} {Q : Exit → Act → World → Prop} {E : Prop} {w : World} (hgd : o.guard = none) (s x : Operand) (t : TypeId)
    (ho : o.op = .call { callee := .builtin .append, args := #[s, x], argTypes := #[t, t] })
    (B : Nat) (e : TypeId) (i : TypeInfo) (z : Value) (size bytes : Nat) (ht : P.underlying t = some (.slice e)) (hi : P.info? e = some i) (hz : i.zero = some z)
    (hsize : i.size = size) (hby : i.bytes = bytes) (hzs : z.cells.size = size) (hsz : 0 < size)
    (v : Value) (n : Nat) (xs : List Value) (hown : w.ownsRow B e size v n xs) (hB : B ≤ w.heap.size)
    (ad : Addr) (m c : Nat) (news : List Value) (hc : Cells w (some ad) m size news) (hone : ∀ u ∈ news, u.oneCell' = true) (hm : 0 < m) (h63 : n + m ≤ maxLen) (hbytes : (n + m) * bytes ≤ 140737488355328)
    (hs : a.eval s = v) (hx : a.eval x = .slice (some ad) m c)
    (h : ∀ v' w', w'.ownsRow B e size v' (n + m) (xs ++ news) → w.grownBy w' v.ownBlock → (v'.ownBlock = v.ownBlock ∨ w'.ownsRow w.heap.size e size v' (n + m) (xs ++ news)) → K (a.put o.dst v') w') :
    if Region.wanted o (yielded ops a.tmps) = true then Oper.wp P o a w K Q else E := by
  have hwd : Region.wanted o (yielded ops a.tmps) = true := by simp [Region.wanted, hgd]
  rw [if_pos hwd]
  exact wp_copy2 hgd s x t ho B e i z size bytes ht hi hz hsize hby hzs hsz v n xs hown hB ad m c news hc hone hm h63 hbytes hs hx h
theorem list_copy2 {P : Program} {ops : Array Oper} {rest : List Oper} {o : Oper} {a : Act} {Q : Exit → Act → World → Prop} {w : World} (hgd : o.guard = none) (s x : Operand) (t : TypeId)
    (ho : o.op = .call { callee := .builtin .append, args := #[s, x], argTypes := #[t, t] })
    (B : Nat) (e : TypeId) (i : TypeInfo) (z : Value) (size bytes : Nat) (ht : P.underlying t = some (.slice e)) (hi : P.info? e = some i) (hz : i.zero = some z)
    (hsize : i.size = size) (hby : i.bytes = bytes) (hzs : z.cells.size = size) (hsz : 0 < size)
    (v : Value) (n : Nat) (xs : List Value) (hown : w.ownsRow B e size v n xs) (hB : B ≤ w.heap.size)
    (ad : Addr) (m c : Nat) (news : List Value) (hc : Cells w (some ad) m size news) (hone : ∀ u ∈ news, u.oneCell' = true) (hm : 0 < m) (h63 : n + m ≤ maxLen) (hbytes : (n + m) * bytes ≤ 140737488355328)
    (hs : a.eval s = v) (hx : a.eval x = .slice (some ad) m c)
    (h : ∀ v' w', w'.ownsRow B e size v' (n + m) (xs ++ news) → w.grownBy w' v.ownBlock → (v'.ownBlock = v.ownBlock ∨ w'.ownsRow w.heap.size e size v' (n + m) (xs ++ news)) → wpList P ops Q rest (a.put o.dst v') w') :
    wpList P ops Q (o :: rest) a w :=
  wpList_plain hgd fun _ hK => wp_copy2 hgd s x t ho B e i z size bytes ht hi hz hsize hby hzs hsz v n xs hown hB ad m c news hc hone hm h63 hbytes hs hx fun v' w' h1 h2 h3 => hK _ _ (h v' w' h1 h2 h3)
theorem cells_new2 (w : World) (v0 v1 : Value) (t : TypeId) : Cells (w.alloc (.cells #[v0, v1] t)) (some ⟨w.heap.size, 0, none⟩) 1 2 [v0, v1] := by
  refine ⟨rfl, .inr ⟨w.heap.size, 0, rfl, by simp, fun j x hx => ?_⟩⟩
  rw [cell_of_row _ _ _ _ _ _ (heap_alloc_new w _)]
  simpa using hx

end Go.Proofs.YtkibddcjogfklaaGreatDoor.deed
