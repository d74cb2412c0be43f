/-
  A row of bytes that the call owns and that a conversion of a string has made (a mark stands behind its cells): what it is, an append of a string to it, and back to a string.
-/
import Derived.Test.YtiehfobcbhgfkaaGreatDoorIntX
import Derived.Lib.FrozenHead
import Derived.Laws.IdiomStrings
import Derived.Lib.BufferMore
import Derived.Test.YtiehfobcbhgfkaaGreatDoorMathX
import Derived.Test.YtiehfobcbhgfkaaGreatDoorPlP
import Derived.Deep.RegionHeld3
import Derived.Test.YtiehfobcbhgfkaaGreatDoorScP
namespace Go.Proofs.YtiehfobcbhgfkaaGreatDoor.om
set_option maxRecDepth 20000
open Go.RowKit Go.Lib
open kit

def ownM (w : World) (base : Nat) (e : TypeId) (v : Value) (n : Nat) (xs : List Value) : Prop :=
  xs.length = n ∧ ∃ g cap cur fz, v = .slice (some ⟨g, 0, none⟩) n cap ∧ base ≤ g ∧ w.heap[g]? = some (.cells cur e fz) ∧ (cur.size ≤ fz.1 ∨ fz.2 = 0) ∧ n ≤ cap ∧ cap ≤ maxLen ∧ cur.size = cap ∧ cur.toList.take n = xs
section
variable {w : World} {base : Nat} {e : TypeId} {v : Value} {n : Nat} {xs : List Value}
theorem ownM.lt (h : ownM w base e v n xs) : ∀ k, v.ownBlock = some k → base ≤ k ∧ k < w.heap.size := by
  intro k hk
  obtain ⟨_, g, cap, cur, fz, rfl, hb, hg, _⟩ := h
  simp [Value.ownBlock] at hk
  subst hk
  exact ⟨hb, (Array.getElem?_eq_some_iff.1 hg).1⟩
theorem ownM.kept {w' : World} {row : Option Nat} (h : ownM w base e v n xs) (hg : w.grownBy w' row) (hne : v.ownBlock ≠ row) : ownM w' base e v n xs := by
  obtain ⟨h1, g, cap, cur, fz, rfl, hb, hgg, rest⟩ := h
  refine ⟨h1, g, cap, cur, fz, rfl, hb, ?_, rest⟩
  rw [hg.block g (Array.getElem?_eq_some_iff.1 hgg).1 (by simpa [Value.ownBlock] using hne)]
  exact hgg
theorem ownM.below {w' : World} (h : ownM w base e v n xs) (hb : Below w.heap.size w w') : ownM w' base e v n xs := by
  obtain ⟨h1, g, cap, cur, fz, rfl, hbg, hgg, rest⟩ := h
  exact ⟨h1, g, cap, cur, fz, rfl, hbg, by rw [hb.block g (Array.getElem?_eq_some_iff.1 hgg).1]; exact hgg, rest⟩
theorem ownM.form (h : ownM w base e v n xs) : ∃ g c, v = .slice (some ⟨g, 0, none⟩) n c ∧ base ≤ g ∧ g < w.heap.size ∧ n ≤ maxLen := by
  obtain ⟨_, g, cap, cur, fz, rfl, hb, hg, _, hn, hc, _⟩ := h
  exact ⟨g, cap, rfl, hb, (Array.getElem?_eq_some_iff.1 hg).1, by omega⟩
theorem ownM.cells (h : ownM w base e v n xs) {g : Nat} (hg : v.ownBlock = some g) : ∀ j u, xs[j]? = some u → w.cell? ((⟨g, 0, none⟩ : Addr).add j) = some u := by
  intro j u hu
  obtain ⟨_, g', cap, cur, fz, rfl, _, hgg, _, _, _, _, htake⟩ := h
  simp [Value.ownBlock] at hg
  subst hg
  rw [add_none, cell_of_row w g' j cur e fz hgg]
  rw [← htake, List.getElem?_take] at hu
  split at hu
  · simpa using hu
  · cases hu
end
theorem run_storeCells_atM (P : Program) (g o : Nat) (t : TypeId) (fz : Nat × Nat) : ∀ (vs : List Value) (i : Nat) (cur : Array Value) (w : World), w.heap[g]? = some (.cells cur t fz) → (cur.size ≤ fz.1 ∨ fz.2 = 0) → o + i + vs.length ≤ cur.size → (∀ v ∈ vs, v.oneCell' = true) →
    (storeCells ⟨g, o, none⟩ vs i).run P w = .ok () (w.setRow g (cur.toList.take (o + i) ++ vs ++ cur.toList.drop (o + i + vs.length)).toArray)
  | [], i, cur, w, hg, _, _, _ => by
    simp only [storeCells, List.append_nil, List.length_nil, Nat.add_zero, List.take_append_drop, Array.toArray_toList]
    rw [setRow_self w g cur t fz hg]
    rfl
  | v :: rest, i, cur, w, hg, hfz, hl, h1 => by
    have hi : o + i < cur.size := by simp at hl; omega
    have hadd : (⟨g, o, none⟩ : Addr).add i = ⟨g, o + i, none⟩ := by unfold Addr.add; split <;> simp_all
    have hcell : w.cell? ⟨g, o + i, none⟩ = some cur[o + i] := by simp [World.cell?, hg, hi]
    have hfro : w.frozen? ⟨g, o + i, none⟩ = false := by
      obtain ⟨lo, hi'⟩ := fz
      simp only [World.frozen?, hg, Bool.and_eq_false_iff, decide_eq_false_iff_not]
      simp only at hfz
      rcases hfz with hfz | hfz
      · left; omega
      · right; omega
    have hst : (store ((⟨g, o, none⟩ : Addr).add i) v).run P w = .ok () (w.setRow g (cur.setIfInBounds (o + i) v)) := by
      rw [hadd, run_store P w _ v _ (h1 v (by simp)), hcell]
      simp [hfro, setCell_eq_setRow w g (o + i) cur t fz v hg]
    have ih := run_storeCells_atM P g o t fz rest (i + 1) (cur.setIfInBounds (o + i) v) (w.setRow g (cur.setIfInBounds (o + i) v)) (setRow_heap w g cur _ t _ hg) (by simpa using hfz) (by simp at hl ⊢; omega) (fun x hx => h1 x (by simp [hx]))
    simp only [storeCells, Sem.run_bind, hst, Result.andThen_ok, ih, setRow_setRow]
    congr 3
    have e := list_seg_step cur.toList (o + i) v rest (by simp at hl ⊢; omega)
    simpa [Array.toList_setIfInBounds, Nat.add_assoc] using e
theorem run_append_room_stringM {P : Program} (w : World) (t u ty e : TypeId) (i : TypeInfo) (ht : P.underlying t = some (.slice e)) (hu : P.underlying u = some .string) (hi : P.info? e = some i) (hs1 : i.size = 1)
    (g sLen sCap : Nat) (cur : Array Value) (fz : Nat × Nat) (hg : w.heap[g]? = some (.cells cur e fz)) (hfz : cur.size ≤ fz.1 ∨ fz.2 = 0) (s : ByteArray)
    (hroom : sLen + s.size ≤ sCap) (hfit : sLen + s.size ≤ cur.size) :
    (Builtin.append_ #[t, u] ty #[.slice (some ⟨g, 0, none⟩) sLen sCap, .string s]).run P w =
      .ok (.slice (some ⟨g, 0, none⟩) (sLen + s.size) sCap) (w.setRow g (cur.toList.take sLen ++ strCells s ++ cur.toList.drop (sLen + s.size)).toArray) := by
  have hf := run_firstCells_string (P := P) w 1 s
  have hst := run_storeCells_atM P g sLen e fz (strCells s) 0 cur w hg hfz (by simpa [strCells_length] using hfit) (strCells_oneCell s)
  simp only [Nat.add_zero, strCells_length] at hst
  simp [Builtin.append_, run_underlying ht, run_underlying hu, sizeOf, typeInfo, hi, hs1, Builtin.lenOf, hroom, hf, Addr.add_lit, hst]
theorem run_append_own_stringM {P : Program} (w : World) (base : Nat) (t u ty e : TypeId) (i : TypeInfo) (ht : P.underlying t = some (.slice e)) (hu : P.underlying u = some .string) (hi : P.info? e = some i) (hz : i.zero = some (.int .u8 0))
    (hsize : i.size = 1) (hby : i.bytes = 1)
    (v : Value) (n : Nat) (xs : List Value) (hown : ownM w base e v n xs) (s : ByteArray)
    (h63 : n + s.size ≤ maxLen) (hbytes : n + s.size ≤ 140737488355328) (hbase : base ≤ w.heap.size) :
    ∃ v' w', (Builtin.append_ #[t, u] ty #[v, .string s]).run P w = .ok v' w' ∧ ownM w' base e v' (n + s.size) (xs ++ strCells s) ∧ w.grownBy w' v.ownBlock ∧ (∀ b, v'.ownBlock = some b → v.ownBlock = some b ∨ w.heap.size ≤ b) := by
  have hold := fun g (h : v.ownBlock = some g) => hown.cells h
  obtain ⟨hxl, g, cap, cur, fz, rfl, hbg, hg, hfz, hnc, hcm, hcs, htake⟩ := hown
  have hsmall : n + s.size ≤ 9223372036854775807 := by simp only [maxLen] at h63; omega
  have hlen : (xs ++ strCells s).length = n + s.size := by rw [List.length_append, hxl, strCells_length]
  by_cases hroom : n + s.size ≤ cap
  · have hr := run_append_room_stringM (P := P) w t u ty e i ht hu hi hsize g n cap cur fz hg hfz s hroom (by omega)
    have hsz : (cur.toList.take n ++ strCells s ++ cur.toList.drop (n + s.size)).toArray.size = cur.size := by
      simp only [List.size_toArray, List.length_append, List.length_take, List.length_drop, Array.length_toList, strCells_length]
      omega
    refine ⟨_, _, hr, ⟨hlen, g, cap, _, fz, rfl, hbg, setRow_heap w g cur _ e _ hg, by rw [hsz]; exact hfz, hroom, hcm, by rw [hsz]; exact hcs, ?_⟩, ⟨rfl, rfl, rfl, by simp, fun k _ hk => setRow_other w g k _ (fun e => hk (by simp [Value.ownBlock, e]))⟩, fun b hb => .inl hb⟩
    rw [htake, ← hlen]
    exact List.take_left
  · have hr := run_append_grow_string (P := P) w t u ty e i (.int .u8 0) ht hu hi hz ⟨g, 0, none⟩ n cap xs (by rw [hsize]; omega) (hold g rfl) s (by omega) (by omega) (by rw [hby]; exact growslice_fits (by omega) (by omega))
    have hge := grownCap_ge w (n + s.size) cap e
    have hcm2 : grownCap w (n + s.size) cap e ≤ maxLen := grownCap_le_maxLen w (n + s.size) cap e h63
    refine ⟨_, _, hr, ⟨hlen, w.heap.size, _, _, (0, 0), rfl, hbase, heap_alloc_new w.drew _, .inr rfl, hge, hcm2, ?_, ?_⟩, ⟨rfl, rfl, rfl, by simp, fun k hk _ => heap_alloc_old w.drew _ hk⟩, fun b hb => .inr (by simp only [Value.ownBlock, Option.some.injEq] at hb; omega)⟩
    · have hz1 : (Value.int IntKind.u8 0).cells.size = 1 := rfl
      simp only [Array.size_append, List.size_toArray, size_zeroCells, hz1, hxl, strCells_length]
      omega
    · simp only [Array.toList_append, List.append_assoc]
      rw [← List.append_assoc, ← hlen]
      exact List.take_left
theorem wpList_append_own_stringM {P : Program} {w : World} {ops : Array Oper} {rest : List Oper} {o : Oper} {a : Act} {Q : Exit → Act → World → Prop} (hgd : o.guard = none) (sl x : Operand) (t u : TypeId)
    (ho : o.op = .call { callee := .builtin .append, args := #[sl, x], argTypes := #[t, u] })
    (base : Nat) (e : TypeId) (i : TypeInfo) (ht : P.underlying t = some (.slice e)) (hu : P.underlying u = some .string) (hi : P.info? e = some i) (hz : i.zero = some (.int .u8 0))
    (hsize : i.size = 1) (hby : i.bytes = 1)
    (v : Value) (n : Nat) (xs : List Value) (hs : a.eval sl = v) (hown : ownM w base e v n xs) (s : ByteArray) (hx : a.eval x = .string s)
    (h63 : n + s.size ≤ maxLen) (hbytes : n + s.size ≤ 140737488355328) (hbase : base ≤ w.heap.size)
    (h : ∀ v' w', ownM w' base e v' (n + s.size) (xs ++ strCells s) → w.grownBy w' v.ownBlock → (∀ b, v'.ownBlock = some b → v.ownBlock = some b ∨ w.heap.size ≤ b) → wpList P ops Q rest (a.put o.dst v') w') : wpList P ops Q (o :: rest) a w := by
  refine wpList_plain hgd fun K hK => ?_
  obtain ⟨v', w', hr, h2, h3, h4⟩ := run_append_own_stringM (P := P) w base t u o.type e i ht hu hi hz hsize hby v n xs hown s h63 hbytes hbase
  unfold Oper.wp execOp
  simp only [ho, resolve, invoke, builtin, Sem.run_bind, Sem.run_pure, Result.andThen_ok, List.map_toArray, List.map_cons, List.map_nil, hs, hx, hr]
  exact hK _ _ (h v' w' h2 h3 h4)
theorem step_append_own_stringM {P : Program} {w : World} {ops : Array Oper} {o : Oper} {a : Act} {K : Act → World → Prop} {Q : Exit → Act → World → Prop} {E : Prop} (hgd : o.guard = none) (sl x : Operand) (t u : TypeId)
    (ho : o.op = .call { callee := .builtin .append, args := #[sl, x], argTypes := #[t, u] })
    (base : Nat) (e : TypeId) (i : TypeInfo) (ht : P.underlying t = some (.slice e)) (hu : P.underlying u = some .string) (hi : P.info? e = some i) (hz : i.zero = some (.int .u8 0))
    (hsize : i.size = 1) (hby : i.bytes = 1)
    (v : Value) (n : Nat) (xs : List Value) (hs : a.eval sl = v) (hown : ownM w base e v n xs) (s : ByteArray) (hx : a.eval x = .string s)
    (h63 : n + s.size ≤ maxLen) (hbytes : n + s.size ≤ 140737488355328) (hbase : base ≤ w.heap.size)
    (h : ∀ v' w', ownM w' base e v' (n + s.size) (xs ++ strCells s) → w.grownBy w' v.ownBlock → (∀ b, v'.ownBlock = some b → v.ownBlock = some b ∨ w.heap.size ≤ b) → K (a.put o.dst v') w') :
    if Region.wanted o (yielded ops a.tmps) = true then Oper.wp P o a w K Q else E := by
  have hwd : Region.wanted o (yielded ops a.tmps) = true := by simp [Region.wanted, hgd]
  rw [if_pos hwd]
  obtain ⟨v', w', hr, h2, h3, h4⟩ := run_append_own_stringM (P := P) w base t u o.type e i ht hu hi hz hsize hby v n xs hown s h63 hbytes hbase
  unfold Oper.wp execOp
  simp only [ho, resolve, invoke, builtin, Sem.run_bind, Sem.run_pure, Result.andThen_ok, List.map_toArray, List.map_cons, List.map_nil, hs, hx, hr]
  exact h v' w' h2 h3 h4
/-- what a conversion of a string makes -/
theorem ownM_made (w : World) (base : Nat) (e : TypeId) (s : ByteArray) (hb : base ≤ w.heap.size) (hs : s.size ≤ maxLen) :
    ownM (w.drew.alloc (.cells (bytesRow s (grownCap w s.size 0 e)) e ((bytesRow s (grownCap w s.size 0 e)).size, (bytesRow s (grownCap w s.size 0 e)).size + 1))) base e (.slice (some ⟨w.heap.size, 0, none⟩) s.size (grownCap w s.size 0 e)) s.size (strCells s) := by
  have hge := grownCap_ge w s.size 0 e
  have hcm := grownCap_le_maxLen w s.size 0 e hs
  refine ⟨strCells_length s, w.heap.size, _, _, _, rfl, hb, heap_alloc_new w.drew _, .inl (Nat.le_refl _), hge, hcm, ?_, ?_⟩
  · unfold bytesRow
    rw [Array.size_append, Array.size_map, Array.size_replicate]
    have e : s.data.size = s.size := rfl
    omega
  · unfold bytesRow strCells
    rw [Array.toList_append, Array.toList_map]
    exact List.take_left' (by rw [List.length_map, Array.length_toList]; rfl)
theorem strCells_app (s t : ByteArray) : strCells s ++ strCells t = strCells (s ++ t) := by
  unfold strCells
  rw [← List.map_append, ByteArray.data_append, Array.toList_append]
/-- back to a string -/
theorem conv_ownM {P : Program} {w : World} {B : Nat} {src e : TypeId} {v : Value} {n : Nat} {s : ByteArray} (hs : P.underlying src = some (.slice e)) (he : P.underlying e = some (.int .u8))
    (h : ownM w B e v n (strCells s)) : ∀ dst, P.underlying dst = some .string → (convert src dst v).run P w = .ok (.string s) w := by
  intro dst hd
  have hc := fun g (hg : v.ownBlock = some g) => h.cells hg
  obtain ⟨h1, g, cap, cur, fz, rfl, _, hg, _, _, _, _, htake⟩ := h
  have hl : (s.data.toList.map fun b => (b.toNat : Int)).length = n := by rw [List.length_map, ← h1, strCells, List.length_map]
  have hx := run_convert_bytes_arg (P := P) w src e hs he g 0 n cap (s.data.toList.map fun b => (b.toNat : Int)) hl (fun i hi => by
    have hi' : i < s.data.toList.length := by rw [← hl, List.length_map] at hi; exact hi
    have h2 := hc g rfl i (.int .u8 ((s.data.toList.map fun b => (b.toNat : Int)).getD i 0)) (by
      unfold strCells
      rw [List.getElem?_map, List.getElem?_eq_getElem hi']
      simp [List.getD, List.getElem?_map, List.getElem?_eq_getElem hi'])
    rw [add_none] at h2
    simpa using h2) dst hd
  rw [hx]
  congr 2
  unfold strOfNums
  apply ByteArray.ext
  apply Array.ext'
  simp [List.map_map, Function.comp_def]

end Go.Proofs.YtiehfobcbhgfkaaGreatDoor.om

namespace Go.Proofs.YtiehfobcbhgfkaaGreatDoor.sl
set_option maxRecDepth 20000
open Go.RowKit
open kit sum num burst hd fr recs sc pl om

theorem offL_take {h : Hd} {rs : List ByteArray} {k : Nat} (hk : k < rs.length) : (offL h rs).take (k + 1) = (offL h rs).take k ++ [((tx h rs k).size : Int)] := by
  rw [List.take_add_one, offL_at hk]
  rfl
theorem offL_wf {h : Hd} {rs : List ByteArray} (hn : rs.length ≤ 1000) : ∀ o ∈ offL h rs, i64 o := by
  intro o ho
  unfold offL at ho
  obtain ⟨i, hi, rfl⟩ := List.mem_map.1 ho
  have h1 := tx_le72 h rs i
  have h2 := List.mem_range.1 hi
  unfold i64
  omega
theorem specHeadTextL (v s b l : Int) (w : World) : Calls Tryz.prog 78 #[.agg #[.int .i64 v, .int .i64 s, .int .i64 b, .int .i64 l]] w fun e w' => e = .returned (.string (hdT ⟨v, s, b, l⟩)) ∧ Below w.heap.size w w' := specHeadText v s b l w
theorem offM_type {w : World} {B B' s n n' : Nat} {e e' : TypeId} {u v : Value} {xs ys : List Value} (hu : ownM w B e u n xs) (hv : w.ownsRow B' e' s v n' ys) (hne : e ≠ e') : Off u v := fun g h1 h2 => by
  obtain ⟨_, g1, c1, cur1, fz, rfl, _, k1, _⟩ := hu
  rcases hv.2 with ⟨rfl, _⟩ | ⟨g2, c2, cur2, rfl, _, k2, _⟩
  · simp [Value.ownBlock] at h2
  simp only [Value.ownBlock, Option.some.injEq] at h1 h2
  subst h1
  subst h2
  rw [k1] at k2
  simp only [Option.some.injEq] at k2
  injection k2 with _ h
  exact hne h
theorem ownM_grown {w w' : World} {B : Nat} {e : TypeId} {v u : Value} {n : Nat} {xs : List Value} (h : ownM w B e v n xs) (hg : w.grownBy w' u.ownBlock) (ho : Off v u) : ownM w' B e v n xs :=
  h.kept hg fun e => by
    obtain ⟨g, c, rfl, _⟩ := h.form
    exact ho g rfl (e.symm.trans rfl)
theorem Tryz.infoU8 : (Tryz.prog.info? 5).map (fun i => (i.zero, i.size, i.bytes)) = some (some (.int .u8 0), 1, 1) := by kernel_rfl
theorem Tryz.infoInt : (Tryz.prog.info? 3).map (fun i => (i.zero, i.size, i.bytes)) = some (some (.int .i64 0), 1, 8) := by kernel_rfl

theorem ownM_drew {w : World} {B : Nat} {e : TypeId} {v : Value} {n : Nat} {xs : List Value} (h : ownM w B e v n xs) : ownM w.drew B e v n xs := h
theorem own_drew {w : World} {B size : Nat} {e : TypeId} {v : Value} {n : Nat} {xs : List Value} (h : w.ownsRow B e size v n xs) : w.drew.ownsRow B e size v n xs := h
set_option maxHeartbeats 4000000 in
theorem specSeal (v s p l : Int) (a : Option Addr) (c n : Nat) (rs : List ByteArray) (w : World) (hm : n ≤ 1048576) (ha : strs.At w a n rs) :
    Calls Tryz.prog 31 #[.agg #[.int .i64 v, .int .i64 s, .int .i64 p, .int .i64 l], .slice a n c] w fun en w' => en = .returned (.string (slT ⟨v, s, p, l⟩ rs)) ∧ Below w.heap.size w w' := by
  have hlen := ha.1
  have B1 := (Below.refl w.heap.size w).alloc (Nat.le_refl _) (.cells #[.int .i64 v, .int .i64 s, .int .i64 p, .int .i64 l] 45)
  have bx := Box.new w #[.int .i64 v, .int .i64 s, .int .i64 p, .int .i64 l] 45
  obtain ⟨W, hW⟩ : ∃ W, W = w.alloc (.cells #[.int .i64 v, .int .i64 s, .int .i64 p, .int .i64 l] 45) := ⟨_, rfl⟩
  rw [← hW] at B1 bx
  have HA := Lib.hid (ha.below B1)
  have B1 := Lib.hid B1
  have BX := Lib.hid bx
  have HW := Lib.hid hW
  have x0 := bx.at 0 _ rfl
  have x1 := bx.at 1 _ rfl
  have x2 := bx.at 2 _ rfl
  have x3 := bx.at 3 _ rfl
  rw [hW] at x0 x1 x2 x3
  have CK := Lib.hid (specHeadOk v s p l W)
  clear bx hW ha
  cases hk : okH ⟨v, s, p, l⟩ with
  | false =>
    have HE := Lib.hid (slT_no (h := ⟨v, s, p, l⟩) (rs := rs) fun h => by have := h.1; rw [hk] at this; cases this)
    rw [hk] at CK
    clear hk
    go_enter Tryz.func31, Tryz.ntmps31
    go_wp2_with (fail)
    rw [← HW.out]
    refine CK.out.mono ?_
    rintro en w2 ⟨rfl, b2⟩
    go_wp2
    go_ret
    exact ⟨by rw [HE.out]; rfl, B1.out.trans (b2.mono B1.out.size)⟩
  | true =>
    have hs : 1 ≤ s ∧ s ≤ 20 ∧ 0 ≤ p ∧ p ≤ 1000000000 := by
      have h := okH_is.1 hk
      exact ⟨h.2.2.1, h.2.2.2.1, h.2.2.2.2.1, h.2.2.2.2.2.1⟩
    obtain ⟨s0, s1, p0, p1⟩ := hs
    rw [hk] at CK
    by_cases h1000 : n ≤ 1000
    · by_cases hmax : p + (n : Int) ≤ 1000000000
      · have k1 : ¬ (1000 : Int) < (n : Int) := by omega
        have k2 : ¬ (1000000000 : Int) < p + (n : Int) := by omega
        have HK := Lib.hid (fun (h : ∀ r ∈ rs, r.size ≤ 60) => (⟨hk, by omega, by rw [hlen]; exact hmax, h⟩ : okS ⟨v, s, p, l⟩ rs))
        have hN := Lib.hid (slT_no (h := ⟨v, s, p, l⟩) (rs := rs))
        obtain ⟨h, hh⟩ : ∃ h : Hd, h = ⟨v, s, p, l⟩ := ⟨_, rfl⟩
        have CT := Lib.hid (fun w => specHeadTextL v s p l w)
        have nT := hdT_size hk
        rw [← hh] at HK hN CT nT hk ⊢
        have HH := Lib.hid hh
        have ht0 : tx h rs 0 = hdT h := rfl
        obtain ⟨T0, hT0⟩ : ∃ T0, hdT h = T0 := ⟨_, rfl⟩
        rw [hT0] at CT nT ht0
        have kc := fun (w : World) => run_bytes_of_string (P := Tryz.prog) w 9 22 5 T0 Tryz.underlying9 Tryz.underlying22 Tryz.underlying5
        have HT0 := Lib.hid ht0
        clear hT0 hh ht0 hk
        obtain ⟨i0, hi, hz0, hz1, hz2⟩ := info_parts Tryz.infoU8
        obtain ⟨i1, gi, gz0, gz1, gz2⟩ := info_parts Tryz.infoInt
        go_enter Tryz.func31, Tryz.ntmps31
        go_wp2_with (fail)
        rw [← HW.out]
        refine CK.out.mono ?_
        rintro en w2 ⟨rfl, b2⟩
        have HA := Lib.hid (HA.out.below b2)
        have B2 := Lib.hid (B1.out.trans (b2.mono B1.out.size))
        have BX := Lib.hid (BX.out.below b2)
        clear b2 x0 x1 x2 x3
        have x0 := BX.out.at 0 _ rfl
        have x1 := BX.out.at 1 _ rfl
        have x2 := BX.out.at 2 _ rfl
        have x3 := BX.out.at 3 _ rfl
        go_wp2_with (fail)
        refine (CT.out _).mono ?_
        rintro en w3 ⟨rfl, b3⟩
        have HA := Lib.hid (HA.out.below b3)
        have B3 := Lib.hid (B2.out.trans (b3.mono B2.out.size))
        have BX := Lib.hid (BX.out.below b3)
        clear b3 x0 x1 x2 x3
        have g3 : w.heap.size < w3.heap.size := BX.out.lt
        have M0 := ownM_made w3 w3.heap.size 5 T0 (Nat.le_refl _) (by rw [nT]; decide)
        have kc3 := kc w3
        rw [nT] at M0 kc3
        clear kc
        obtain ⟨c0, hc0⟩ : ∃ c0, grownCap w3 24 0 5 = c0 := ⟨_, rfl⟩
        rw [hc0] at M0 kc3
        obtain ⟨A, hA⟩ : ∃ A, Obj.cells (bytesRow T0 c0) 5 ((bytesRow T0 c0).size, (bytesRow T0 c0).size + 1) = A := ⟨_, rfl⟩
        rw [hA] at M0 kc3
        have M0 : ownM (w3.alloc A) w3.heap.size 5 (.slice (some ⟨w3.heap.size, 0, none⟩) 24 c0) 24 (Lib.strCells T0) := M0
        have O0 : ((w3.alloc A).alloc (.cells #[] 3)).ownsRow w3.heap.size 3 1 (.slice (some ⟨(w3.alloc A).heap.size, 0, none⟩) 0 0) 0 [] := World.ownsRow_made _ _ _ (by simp) (by decide) rfl
        have M0 := M0.kept (World.grownBy_alloc (w3.alloc A) (.cells #[] 3) none) (by simp [Value.ownBlock])
        have b5 := ((Below.refl w3.heap.size w3).alloc (Nat.le_refl _) A).alloc (by simp) (.cells #[] 3)
        have z4 : (w3.alloc A).heap.size = w3.heap.size + 1 := by simp
        rw [z4] at O0
        have M0 := Lib.hid (ownM_drew M0)
        have O0 := Lib.hid (own_drew O0)
        have B0 := Lib.hid b5.drew
        clear hA b5 z4
        go_wp2
        clear kc3
        obtain ⟨W5, hW5⟩ : ∃ W5, W5 = ((w3.alloc A).alloc (.cells #[] 3)).drew := ⟨_, rfl⟩
        rw [← hW5] at M0 O0 B0 ⊢
        clear hW5 hc0
        go_loopw [5, 6, 7] (fun sv ov i wr => ∃ k : Nat, k ≤ n ∧ i = .int .i64 k ∧ Hid (∀ (j : Nat) (r : ByteArray), j < k → rs[j]? = some r → r.size ≤ 60) ∧ Hid (ownM wr w3.heap.size 5 sv (tx h rs k).size (Lib.strCells (tx h rs k))) ∧ Hid (wr.ownsRow w3.heap.size 3 1 ov k (((offL h rs).take k).map (Value.int .i64))) ∧ Hid (Below w3.heap.size w3 wr)) (fun _ _ i _ => n - (intOf i).toNat)
        case atStart => exact ⟨0, Nat.zero_le _, rfl, Lib.hid (fun j r hj => absurd hj (Nat.not_lt_zero _)), Lib.hid (by rw [HT0.out, nT]; exact M0.out), O0, B0⟩
        case round =>
          obtain ⟨k, hk, rfl, HS, HM, HO, hb⟩ := hrel
          have b0 := hb.out.size
          have htx := tx_le72 h rs k
          by_cases hlt : k < n
          · obtain ⟨x, hxk⟩ : ∃ x, rs[k]? = some x := ⟨_, List.getElem?_eq_getElem (by omega)⟩
            have HXK := Lib.hid hxk
            obtain ⟨gr, o, rfl, hgr, hx⟩ := HA.out.2.resolve_left (by omega)
            have c1 := (hb.out.cell (p := ⟨gr, o + k, none⟩) hgr).trans (hx k x hxk)
            have j0 : (0 : Int) ≤ (k : Int) := by omega
            have j1 : (k : Int) < (n : Int) := by omega
            by_cases h60 : x.size ≤ 60
            · have k60 : ¬ (60 : Int) < (x.size : Int) := by omega
              have HTN := Lib.hid (tx_next (h := h) hxk)
              have HOT := Lib.hid (offL_take (h := h) (rs := rs) (k := k) (by omega))
              have CF := Lib.hid (fun w => specFrame_any v (p + (k : Int)) x w (by omega))
              have hF := frT_le v (p + (k : Int)) x
              rw [show frT h.v (h.b + (k : Int)) x = frT v (p + (k : Int)) x by rw [HH.out]] at HTN
              obtain ⟨F, hFF⟩ : ∃ F, frT v (p + (k : Int)) x = F := ⟨_, rfl⟩
              rw [hFF] at HTN CF hF
              have hwr : IntKind.i64.wrap (p + (k : Int)) = p + (k : Int) := by rw [IntKind.wrap_i64]; omega
              have CF : Hid (∀ w : World, Calls Tryz.prog 79 #[.int .i64 v, .int .i64 (IntKind.i64.wrap (p + (k : Int))), .string x] w fun e w' => e = .returned (.string F) ∧ Below w.heap.size w w') := Lib.hid (fun w => by rw [hwr]; exact CF.out w)
              clear hwr
              obtain ⟨m, hm'⟩ : ∃ m, (tx h rs k).size = m := ⟨_, rfl⟩
              rw [hm'] at HOT htx
              have HM := HM
              rw [hm'] at HM
              have HMM := Lib.hid hm'
              obtain ⟨g1, c1', rfl, _, _, _⟩ := HM.out.form
              have HX3 := Lib.hid (BX.out.below hb.out)
              have hxcell := Lib.hid (hx k x hxk)
              clear hxk hx hFF hm'
              go_wp2_with (at_builtin; refine list_app3 (by rfl) (.tmp 40) (.tmp 43) 31 (by rfl) w3.heap.size wr 3 i1 (.int .i64 0) 8 Tryz.underlying31 gi gz0 gz1 gz2 (by rfl) _ k _ HO.out b0 [.int .i64 (m : Int)] 1 ?_ ?_ ?_ ?_ (by rfl) (by rfl) ?_ ?_; rfl; simp [Value.oneCell']; unfold maxLen; omega; omega; rfl; intro v4 w4 o4 g4)
              have hb4 : Below w3.heap.size w3 w4.drew := (hb.out.grown g4 b0 fun q hq => (own_block_ge HO.out q hq).1).drew
              have o4 : w4.drew.ownsRow w3.heap.size 3 1 v4 (k + 1) (((offL h rs).take k).map (Value.int .i64) ++ [.int .i64 (m : Int)]) := o4
              have HM4 := Lib.hid (ownM_drew (ownM_grown HM.out g4 (offM_type HM.out HO.out (by decide))))
              have HX4 := BX.out.below hb4
              have x0 : w4.drew.cell? ⟨w.heap.size, 0, none⟩ = some (.int .i64 v) := HX4.at 0 _ rfl
              have x2 : w4.drew.cell? ⟨w.heap.size, 2, none⟩ = some (.int .i64 p) := HX4.at 2 _ rfl
              have x4 : w4.drew.cell? ⟨gr, o + k, none⟩ = some (.string x) := (hb4.cell (p := ⟨gr, o + k, none⟩) hgr).trans hxcell.out
              have lt4 : w.heap.size < w4.drew.heap.size := HX4.lt
              have lt5 : gr < w4.drew.heap.size := Nat.lt_of_lt_of_le hgr hb4.size
              have HB4 := Lib.hid hb4
              have sz4 : w3.heap.size ≤ w4.drew.heap.size := hb4.size
              clear hb4 HX4 c1
              go_region_held3 (fun w' => w'.cell? ⟨w.heap.size, 0, none⟩ = some (.int .i64 v) ∧ w'.cell? ⟨w.heap.size, 2, none⟩ = some (.int .i64 p) ∧ w'.cell? ⟨gr, o + k, none⟩ = some (.string x)) (first | with_reducible exact ⟨x0, x2, x4⟩ | with_reducible exact ⟨d0, d2, d4⟩ | with_reducible exact ⟨f0, f2, f4⟩) (first | (go_at_call 79; with_reducible refine (CF.out _).mono ?_; rintro e w5 ⟨rfl, b5⟩; have d0 := (b5.cell (p := ⟨w.heap.size, 0, none⟩) lt4).trans x0; have d2 := (b5.cell (p := ⟨w.heap.size, 2, none⟩) lt4).trans x2; have d4 := (b5.cell (p := ⟨gr, o + k, none⟩) lt5).trans x4; have HM5 := Lib.hid (HM4.out.below b5); have HB5 := Lib.hid (HB4.out.trans (b5.mono HB4.out.size)); have HO5 := Lib.hid (own_below o4 b5)) | (refine step_append_own_stringM (by rfl) (.tmp 45) (.tmp 56) 22 9 (by rfl) w3.heap.size 5 i0 Tryz.underlying22 Tryz.underlying9 hi hz0 hz1 hz2 _ m _ (by rfl) HM5.out F (by rfl) ?_ ?_ ?_ ?_; unfold maxLen; omega; omega; exact HB5.out.size; intro v6 w6 o6 g6 b6; have HB6 := HB5.out.grown g6 HB5.out.size (fun q hq => (HM5.out.lt q hq).1); have HX6 := BX.out.below HB6; have f0 : w6.cell? ⟨w.heap.size, 0, none⟩ = some (.int .i64 v) := HX6.at 0 _ rfl; have f2 : w6.cell? ⟨w.heap.size, 2, none⟩ = some (.int .i64 p) := HX6.at 2 _ rfl; have f4 : w6.cell? ⟨gr, o + k, none⟩ = some (.string x) := (HB6.cell (p := ⟨gr, o + k, none⟩) hgr).trans hxcell.out))
              have HM6 : Hid (ownM w6 w3.heap.size 5 v6 (tx h rs (k + 1)).size (Lib.strCells (tx h rs (k + 1)))) := Lib.hid (by
                rw [HTN.out, ByteArray.size_append, HMM.out, ← strCells_app]
                exact o6)
              have HO6 := own_grown HO5.out g6 (fun g h1 h2 => offM_type HM5.out HO5.out (by decide) g h2 h1)
              have HO6 : Hid (w6.ownsRow w3.heap.size 3 1 v4 (k + 1) (((offL h rs).take (k + 1)).map (Value.int .i64))) := Lib.hid (by
                rw [HOT.out, List.map_append]
                exact HO6)
              have HB6 := Lib.hid HB6
              have HS6 : Hid (∀ (j : Nat) (r : ByteArray), j < k + 1 → rs[j]? = some r → r.size ≤ 60) := Lib.hid (fun j r hj hr => by
                by_cases e : j = k
                · subst e
                  rw [HXK.out] at hr
                  obtain rfl : x = r := by simpa using hr
                  exact h60
                · exact HS.out j r (by omega) hr)
              clear f0 f2 f4 d0 d2 d4 x0 x2 x4 o6 g6 b6 o4
              go_wp2
              go_roundw
              case rel => exact ⟨k + 1, by omega, by go_num, HS6, HM6, HO6, HB6⟩
              case measure => simp [intOf]; omega
            · have k60 : (60 : Int) < (x.size : Int) := by omega
              have HE := Lib.hid (hN.out fun hS => h60 (hS.2.2.2 x (List.mem_of_getElem? HXK.out)))
              clear hxk hx
              go_wp2
              go_ret
              exact ⟨by rw [HE.out]; rfl, B3.out.trans (hb.out.mono B3.out.size)⟩
          · obtain rfl : k = n := by omega
            have hall : ∀ r ∈ rs, r.size ≤ 60 := fun r hr => by
              obtain ⟨j, hj, e⟩ := List.getElem_of_mem hr
              exact HS.out j r (by omega) (by rw [List.getElem?_eq_getElem hj, e])
            have HE := Lib.hid (slT_yes (HK.out hall))
            have hft := ftT_le h (offL h rs) ((tx h rs k).size : Int)
            rw [offL_length, hlen] at hft
            rw [hlen] at HE
            have hend : (offL h rs).take k = offL h rs := List.take_of_length_le (by rw [offL_length, hlen]; exact Nat.le_refl _)
            rw [hend] at HO
            have hwf := Lib.hid (offL_wf (h := h) (rs := rs) (by omega))
            obtain ⟨ao, co, rfl, _, _, _⟩ := own_form HO.out
            have HAO := Lib.hid (ints.At.of_own HO.out)
            have CF := Lib.hid (fun (e : Int) w (hA : ints.At w ao k (offL h rs)) => specFoot v s p l e ao co k (offL h rs) w (by omega) hwf.out hA)
            rw [← HH.out] at CF
            have hb3 := BX.out.below hb.out
            have x0 := hb3.at 0 _ rfl
            have x1 := hb3.at 1 _ rfl
            have x2 := hb3.at 2 _ rfl
            have x3 := hb3.at 3 _ rfl
            obtain ⟨g1, c1', rfl, _, _, _⟩ := HM.out.form
            obtain ⟨T, hT⟩ : ∃ T, tx h rs k = T := ⟨_, rfl⟩
            rw [hT] at HM HE hft htx ⊢
            clear hend hT hb3 hall
            go_wp2_with (fail)
            refine (CF.out (T.size : Int) _ HAO.out).mono ?_
            rintro en w7 ⟨rfl, b7⟩
            have HM7 := Lib.hid (HM.out.below b7)
            have HB7 := Lib.hid (B3.out.trans ((hb.out.trans (b7.mono b0)).mono B3.out.size))
            have HB7' := Lib.hid (hb.out.trans (b7.mono b0))
            obtain ⟨Ft, hFt⟩ : ∃ F, ftT h (offL h rs) (T.size : Int) = F := ⟨_, rfl⟩
            rw [hFt] at HE hft ⊢
            clear hFt b7 x0 x1 x2 x3
            go_wp2_with (at_builtin; refine wpList_append_own_stringM (by rfl) (.tmp 58) (.tmp 63) 22 9 (by rfl) w3.heap.size 5 i0 Tryz.underlying22 Tryz.underlying9 hi hz0 hz1 hz2 _ T.size _ (by rfl) HM7.out Ft (by rfl) ?_ ?_ ?_ ?_; unfold maxLen; omega; omega; exact HB7'.out.size; intro v8 w8 o8 g8 b8; rw [strCells_app] at o8; have kcv := conv_ownM Tryz.underlying22 Tryz.underlying5 o8)
            go_ret
            exact ⟨by rw [HE.out]; rfl, HB7.out.grown g8 HB7.out.size fun q hq => by have := (HM7.out.lt q hq).1; have := B3.out.size; omega⟩
      · have k1 : ¬ (1000 : Int) < (n : Int) := by omega
        have k2 : (1000000000 : Int) < p + (n : Int) := by omega
        have HE := Lib.hid (slT_no (h := ⟨v, s, p, l⟩) (rs := rs) fun h => by have h3 := h.2.2.1; rw [hlen] at h3; exact hmax h3)
        clear hk hmax
        go_enter Tryz.func31, Tryz.ntmps31
        go_wp2_with (fail)
        rw [← HW.out]
        refine CK.out.mono ?_
        rintro en w2 ⟨rfl, b2⟩
        have BX := Lib.hid (BX.out.below b2)
        have B2 := Lib.hid (B1.out.trans (b2.mono B1.out.size))
        clear b2 x0 x1 x2 x3
        have x2 := BX.out.at 2 _ rfl
        go_wp2
        go_ret
        exact ⟨by rw [HE.out]; rfl, B2.out⟩
    · have k1 : (1000 : Int) < (n : Int) := by omega
      have HE := Lib.hid (slT_no (h := ⟨v, s, p, l⟩) (rs := rs) fun h => by have h3 := h.2.1; omega)
      clear hk
      go_enter Tryz.func31, Tryz.ntmps31
      go_wp2_with (fail)
      rw [← HW.out]
      refine CK.out.mono ?_
      rintro en w2 ⟨rfl, b2⟩
      go_wp2
      go_ret
      exact ⟨by rw [HE.out]; rfl, B1.out.trans (b2.mono B1.out.size)⟩

end Go.Proofs.YtiehfobcbhgfkaaGreatDoor.sl

namespace Go.Proofs.YtiehfobcbhgfkaaGreatDoor.sl
set_option maxRecDepth 20000
open Go.RowKit
open kit sum num burst hd fr recs sc pl om

def sH (b : ByteArray) : Hd := if isS b = true then hdOf b else ⟨0, 0, 0, 0⟩
def sR (b : ByteArray) : List ByteArray := if isS b = true then sc.recs b else []
/-- what is answered of a reading of a sealed file -/
def RsV (B : Nat) (w : World) (u : Value) (b : ByteArray) : Prop := ∃ v, u = .tuple #[.agg #[.int .i64 (sH b).v, .int .i64 (sH b).s, .int .i64 (sH b).b, .int .i64 (sH b).l], v, .bool (isS b)] ∧ w.ownsRow B 9 1 v (sR b).length ((sR b).map Value.string)
theorem RsV.form {B : Nat} {w : World} {u : Value} {b : ByteArray} (h : RsV B w u b) : ∃ a c, u = .tuple #[.agg #[.int .i64 (sH b).v, .int .i64 (sH b).s, .int .i64 (sH b).b, .int .i64 (sH b).l], .slice a (sR b).length c, .bool (isS b)] ∧ w.ownsRow B 9 1 (.slice a (sR b).length c) (sR b).length ((sR b).map Value.string) := by
  obtain ⟨v, rfl, ho⟩ := h
  obtain ⟨a, c, rfl, _, _, _⟩ := own_form ho
  exact ⟨a, c, rfl, ho⟩
end Go.Proofs.YtiehfobcbhgfkaaGreatDoor.sl

namespace Go.Proofs.YtiehfobcbhgfkaaGreatDoor.sl
set_option maxRecDepth 20000
open Go.RowKit
open kit sum num burst hd fr recs sc pl om

end Go.Proofs.YtiehfobcbhgfkaaGreatDoor.sl
