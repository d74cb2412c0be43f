/-
  The landed program's set of the numbers that some name stands for: addIds, namedIds.
-/
import Derived.Test.YtkibddcjogfklaaGreatDoorDrX
import Derived.Test.YtkibddcjogfklaaGreatDoorIkX
import Derived.Laws.IdiomCopy
namespace Go.Proofs.YtkibddcjogfklaaGreatDoor.ik
open Go.RowKit Go.Maps Go.WideMaps
open kit strs recs disk deed

/-- block b is a map that says true of the numbers of which f does -/
def MapI (w : World) (b n : Nat) (f : Int → Bool) : Prop := ∃ D : DataW Unit, w.ownsMap Tryz.prog 3 (plainElem Tryz.prog 4) b n D ∧ RepI D f
theorem MapI.kept {w w' : World} {b n : Nat} {f : Int → Bool} {row : Option Nat} (h : MapI w b n f) (hg : w.grownBy w' row) (hne : some b ≠ row) : MapI w' b n f := by
  obtain ⟨D, ho, hr⟩ := h
  exact ⟨D, ho.kept hg hne, hr⟩
theorem MapI.below {w w' : World} {b n : Nat} {f : Int → Bool} (h : MapI w b n f) (hb : Below w.heap.size w w') : MapI w' b n f := h.kept (row := none) (grown_of_below hb) (by simp)
theorem MapI.lt {w : World} {b n : Nat} {f : Int → Bool} (h : MapI w b n f) : b < w.heap.size := by
  obtain ⟨D, ho, _⟩ := h
  exact ho.lt
theorem MapI.mono {w : World} {b n n' : Nat} {f : Int → Bool} (h : MapI w b n f) (hn : n ≤ n') : MapI w b n' f := by
  obtain ⟨D, ho, hr⟩ := h
  exact ⟨D, ho.mono hn, hr⟩
theorem MapI.look {w : World} {b n : Nat} {f : Int → Bool} (h : MapI w b n f) {i : Int} (hi : (Lit.int .i64 i).wf = true) :
    (Instr.lookup 84 (.map (some b)) (.int .i64 i) false).run Tryz.prog w = .ok (.bool (f i)) w := by
  obtain ⟨D, ho, hr⟩ := h
  obtain ⟨v, ps, hrun, hv⟩ := ho.lookup lawI Tryz.underlying84 (zB _) (plainElem_bool Tryz.underlying4 false) (keyOf_int_mk Tryz.underlying3 hi)
  obtain ⟨c, rfl, hc⟩ := plainElem_bool_inv Tryz.underlying4 hv
  have hat := congrArg Prod.fst hc
  simp only [] at hat
  rw [hr.2] at hat
  have hc : f i = c := by
    cases e : f i with
    | false => rw [e] at hat; simpa using hat
    | true => rw [e] at hat; simpa using hat
  rw [hc]
  exact hrun
theorem grown_more {x y z : World} {row : Option Nat} (h : x.grownBy y row) (k : y.grownBy z row) : x.grownBy z row := h.andThen k fun _ e => .inr e

theorem steps_len {old l : List Ent} {st : List ByteArray} {k : Nat} (h : stepsTo old (st.take k) = some l) : l.length ≤ old.length + k := by
  have h1 := stepsTo_length _ _ _ h
  rw [List.length_take] at h1
  omega

end Go.Proofs.YtkibddcjogfklaaGreatDoor.ik

namespace Go.Proofs.YtkibddcjogfklaaGreatDoor.ik
open Go.RowKit Go.Maps Go.WideMaps
open kit strs recs disk deed

/-! ### rows cut short -/
def setL : List Value → Nat → List Value → List Value
  | xs, _, [] => xs
  | xs, k, v :: r => setL (xs.set k v) (k + 1) r
theorem setL_take : ∀ (vs xs : List Value) (k m : Nat), m ≤ k → (setL xs k vs).take m = xs.take m
  | [], _, _, _, _ => rfl
  | v :: r, xs, k, m, h => by
    rw [setL, setL_take r _ _ _ (by omega)]
    apply List.ext_getElem?
    intro j
    rw [List.getElem?_take, List.getElem?_take]
    split
    · rw [List.getElem?_set_ne (by omega)]
    · rfl
theorem own_setCells {B n c g : Nat} {e : TypeId} {size : Nat} : ∀ (vs : List Value) (k : Nat) (w : World) (xs : List Value), w.ownsRow B e size (.slice (some ⟨g, 0, none⟩) n c) n xs →
    (w.setCells g k vs).ownsRow B e size (.slice (some ⟨g, 0, none⟩) n c) n (setL xs k vs) ∧ w.grownBy (w.setCells g k vs) (some g)
  | [], _, w, _, h => ⟨h, grown_refl _ _⟩
  | v :: r, k, w, xs, h => by
    obtain ⟨h1, h2⟩ := h.stored k v
    obtain ⟨h3, h4⟩ := own_setCells r (k + 1) _ _ h1
    exact ⟨h3, grown_more h2 h4⟩
theorem own_shrink {B n c g i : Nat} {e : TypeId} {size : Nat} {w : World} {xs : List Value} (h : w.ownsRow B e size (.slice (some ⟨g, 0, none⟩) n c) n xs) (hi : i ≤ n) :
    w.ownsRow B e size (.slice (some ⟨g, 0, none⟩) i c) i (xs.take (i * size)) := by
  have h1 := h.1
  have hle : i * size ≤ n * size := Nat.mul_le_mul_right _ hi
  rcases h.2 with ⟨h', _⟩ | ⟨g', cap', cur, h', hb, hg, hnc, hcm, hcs, htake⟩
  · simp at h'
  · simp only [Value.slice.injEq, Option.some.injEq, Addr.mk.injEq, and_true, true_and] at h'
    obtain ⟨rfl, rfl⟩ := h'
    refine ⟨by rw [List.length_take]; omega, .inr ⟨g, c, cur, rfl, hb, hg, by omega, hcm, hcs, ?_⟩⟩
    rw [← htake, List.take_take, Nat.min_eq_left hle]
theorem run_clear_any {P : Program} (w : World) (t e ty : TypeId) (z : Value) (ht : P.underlying t = some (.slice e)) (hv : ∀ w, (zeroValue e).run P w = .ok z w) (b k n c : Nat) (hn : 0 < n)
    (hc : ∀ j, j < (Builtin.zeroCells z.cells n).toList.length → (w.cell? ⟨b, k + j, none⟩).isSome = true) (hf : ∀ j, w.frozen? ⟨b, k + j, none⟩ = false) (h1 : ∀ v ∈ (Builtin.zeroCells z.cells n).toList, v.oneCell' = true) :
    (Builtin.clear_ #[t] ty #[.slice (some ⟨b, k, none⟩) n c]).run P w = .ok (.tuple #[]) (w.setCells b k (Builtin.zeroCells z.cells n).toList) := by
  have hst := run_storeCells_cells (P := P) b k (Builtin.zeroCells z.cells n).toList 0 w (by simpa using hc) (fun j _ => by simp [hf j]) h1
  simp only [Nat.add_zero] at hst
  obtain ⟨m, rfl⟩ : ∃ m, n = m + 1 := ⟨n - 1, by omega⟩
  simp [Builtin.clear_, run_underlying ht, hv, hst]
theorem zero_one {z : Value} {n : Nat} (h : ∀ v ∈ z.cells, v.oneCell' = true) : ∀ v ∈ (Builtin.zeroCells z.cells n).toList, v.oneCell' = true := by
  intro v hv
  unfold Builtin.zeroCells at hv
  simp only [Array.toList_map, List.mem_map] at hv
  obtain ⟨i, hi, rfl⟩ := hv
  by_cases h0 : z.cells.size = 0
  · simp [h0] at hi
  · have hlt := Nat.mod_lt i (Nat.pos_of_ne_zero h0)
    rw [getElem!_pos z.cells (i % z.cells.size) hlt]
    exact h _ (Array.getElem_mem hlt)
theorem zero_len (z : Value) (n : Nat) : (Builtin.zeroCells z.cells n).toList.length = n * z.cells.size := by simp [Builtin.zeroCells]
theorem own_cell {B n c g j : Nat} {e : TypeId} {size : Nat} {w : World} {xs : List Value} (h : w.ownsRow B e size (.slice (some ⟨g, 0, none⟩) n c) n xs) (hj : j < n * size) : (w.cell? ⟨g, j, none⟩).isSome = true := by
  have hx : xs[j]? = some (xs[j]'(by rw [h.1]; exact hj)) := List.getElem?_eq_getElem _
  have := (own_cells h).2
  rcases this with h0 | ⟨b, off, hb, _, hc⟩
  · subst h0; simp at hj
  · simp only [Option.some.injEq, Addr.mk.injEq, and_true] at hb
    obtain ⟨rfl, rfl⟩ := hb
    have := hc j _ hx
    rw [Nat.zero_add] at this
    rw [this]
    rfl

/-! ### the first one that is struck -/
def ixOf {α : Type} (p : α → Bool) : List α → Option Nat
  | [] => none
  | x :: r => if p x = true then some 0 else (ixOf p r).map (· + 1)
theorem ixOf_yes {α : Type} {p : α → Bool} {xs : List α} {x : α} {k : Nat} (h : xs[k]? = some x) (e : p x = true) : ixOf p (xs.drop k) = some 0 := by rw [drop_cons h]; simp [ixOf, e]
theorem ixOf_no {α : Type} {p : α → Bool} {xs : List α} {x : α} {k : Nat} (h : xs[k]? = some x) (e : p x = false) : ixOf p (xs.drop k) = (ixOf p (xs.drop (k + 1))).map (· + 1) := by rw [drop_cons h]; simp [ixOf, e]
theorem ixOf_none {α : Type} {p : α → Bool} : ∀ {xs : List α}, ixOf p xs = none → xs.filter (fun x => !p x) = xs
  | [], _ => rfl
  | x :: r, h => by
    unfold ixOf at h
    cases hp : p x with
    | true => rw [hp] at h; cases h
    | false =>
      rw [hp] at h
      rw [List.filter_cons, if_pos (by simp [hp]), ixOf_none (by simpa using h)]
theorem ixOf_some {α : Type} {p : α → Bool} : ∀ {xs : List α} {k : Nat}, ixOf p xs = some k → k < xs.length ∧ (xs.take (k + 1)).filter (fun x => !p x) = xs.take k
  | [], k, h => by cases h
  | x :: r, k, h => by
    unfold ixOf at h
    cases hp : p x with
    | true =>
      rw [hp] at h
      simp only [if_true, Option.some.injEq] at h
      subst h
      simp [hp]
    | false =>
      rw [hp] at h
      cases hr : ixOf p r with
      | none => rw [hr] at h; cases h
      | some j =>
        rw [hr] at h
        simp only [Bool.false_eq_true, if_false, Option.map_some, Option.some.injEq] at h
        subst h
        obtain ⟨h1, h2⟩ := ixOf_some hr
        refine ⟨by simpa using h1, ?_⟩
        rw [List.take_succ_cons, List.take_succ_cons, List.filter_cons, if_pos (by simp [hp]), h2]
theorem take_set_same {α : Type} {ys : List α} {i : Nat} {v : α} (h : i < ys.length) : (ys.set i v).take (i + 1) = ys.take i ++ [v] := by
  rw [List.take_add_one, List.getElem?_set_self h]
  congr 1
  apply List.ext_getElem?
  intro j
  rw [List.getElem?_take, List.getElem?_take]
  split
  · rw [List.getElem?_set_ne (by omega)]
  · rfl
theorem drop_set_ahead {α : Type} {ys : List α} {i j : Nat} {v : α} (h : i < j) : (ys.set i v).drop j = ys.drop j := by
  apply List.ext_getElem?
  intro k
  rw [List.getElem?_drop, List.getElem?_drop, List.getElem?_set_ne (by omega)]
theorem at_drop {α : Type} {xs ys : List α} {j : Nat} (h : ys.drop j = xs.drop j) : ys[j]? = xs[j]? := by
  have := congrArg (fun l : List α => l[0]?) h
  simpa using this
theorem drop_next {α : Type} {xs ys : List α} {j : Nat} (h : ys.drop j = xs.drop j) : ys.drop (j + 1) = xs.drop (j + 1) := by
  rw [← List.drop_drop, ← List.drop_drop, h]
theorem filter_next {α : Type} {p : α → Bool} {xs : List α} {j : Nat} {x : α} (hx : xs[j]? = some x) : (xs.take (j + 1)).filter (fun x => !p x) = (xs.take j).filter (fun x => !p x) ++ (if p x = true then [] else [x]) := by
  rw [List.take_add_one, hx, List.filter_append]
  cases hp : p x <;> simp [hp]
theorem cellsE_take : ∀ (xs : List Ent) (i : Nat), (cellsE xs).take (i * 2) = cellsE (xs.take i)
  | [], i => by cases i <;> rfl
  | e :: r, 0 => rfl
  | e :: r, i + 1 => by
    rw [List.take_succ_cons, cellsE_cons, cellsE_cons, ← cellsE_take r i, show (i + 1) * 2 = i * 2 + 2 by omega]
    rfl
theorem cellsN_take : ∀ (xs : List Nod) (i : Nat), (cellsN xs).take (i * 3) = cellsN (xs.take i)
  | [], i => by cases i <;> rfl
  | e :: r, 0 => rfl
  | e :: r, i + 1 => by
    rw [List.take_succ_cons, cellsN_cons, cellsN_cons, ← cellsN_take r i, show (i + 1) * 3 = i * 3 + 3 by omega]
    rfl
theorem cell_but {w w' : World} {g j r : Nat} {v : Value} (h : w.cell? ⟨g, j, none⟩ = some v) (hg : w.grownBy w' (some r)) (hne : g ≠ r) : w'.cell? ⟨g, j, none⟩ = some v :=
  (World.cell?_of_block (a := ⟨g, j, none⟩) (hg.block g (World.block_lt_of_cell? w _ h) (fun e => hne (Option.some.inj e)))).trans h

/-! ### the two closures -/
end Go.Proofs.YtkibddcjogfklaaGreatDoor.ik

namespace Go.Proofs.YtkibddcjogfklaaGreatDoor.ik
open Go.RowKit Go.Maps Go.WideMaps
open kit strs recs disk deed kd

theorem names_wf {b n : Nat} {l : List Ent} {w : World} (h : MapE w b n l) : ∀ e ∈ l, e.1.size ≤ maxLen := fun e he => by
  obtain ⟨D, ho, hr, hs⟩ := h
  have hperm := hr.perm hs ho lawS Tryz.underlying9
  have := strKeys_le ho Tryz.underlying9 e.1.data.toList (hperm.subset (by unfold keysE; exact List.mem_map_of_mem he))
  rw [Array.length_toList] at this
  exact this
theorem idE_mem {l : List Ent} {e : Ent} (hs : Srt l) (h : e ∈ l) : idE l e.1 = e.2 := by
  unfold idE
  rw [mem_at hs h]
  rfl
theorem has_at {l : List Ent} {s : ByteArray} (h : hasE l s = true) : entAt l s = some (idE l s) := by
  unfold hasE at h
  unfold idE
  cases e : entAt l s with
  | none => rw [e] at h; cases h
  | some i => rfl
theorem has_no {l : List Ent} {s : ByteArray} (h : hasE l s = false) : entAt l s = none := by
  unfold hasE at h
  cases e : entAt l s with
  | none => rfl
  | some i => rw [e] at h; cases h

end Go.Proofs.YtkibddcjogfklaaGreatDoor.ik

namespace Go.Proofs.YtkibddcjogfklaaGreatDoor.ik
open Go.RowKit Go.Maps Go.WideMaps
open kit strs recs disk deed kd

/-- the same slice without its first element -/
theorem at_next {w : World} {g o n : Nat} {xs : List Ent} (h : AtE w (some ⟨g, o, none⟩) (n + 1) xs) : AtE w (some ⟨g, o + 2, none⟩) n (xs.drop 1) := by
  have hl := h.len
  refine ⟨by rw [cellsE_len, List.length_drop, hl, Nat.add_sub_cancel], ?_⟩
  rcases h.2 with h0 | ⟨b, off, hb, hlt, hc⟩
  · exact absurd h0 (by omega)
  · simp only [Option.some.injEq, Addr.mk.injEq, and_true] at hb
    obtain ⟨rfl, rfl⟩ := hb
    refine .inr ⟨g, o + 2, rfl, hlt, fun j x hx => ?_⟩
    have e : (cellsE xs)[2 + j]? = some x := by
      cases xs with
      | nil => simp at hl
      | cons y r =>
        rw [cellsE_cons]
        rw [show 2 + j = j + 1 + 1 by omega, List.getElem?_cons_succ, List.getElem?_cons_succ]
        exact hx
    have := hc (2 + j) x e
    rw [show o + (2 + j) = o + 2 + j by omega] at this
    exact this
theorem at_zero {w : World} {a : Option Addr} : AtE w a 0 [] := ⟨rfl, .inl rfl⟩
def lenV : Value → Nat
  | .slice _ n _ => n
  | _ => 0
theorem out_len {w : World} {B q : Nat} {v : Value} {out : List Ent} (h : w.ownsRow B 66 2 v q (cellsE out)) : q = out.length := by
  have := h.1
  rw [cellsE_len] at this
  omega
theorem block_new {w : World} {B q b : Nat} {v : Value} {xs : List Value} {size : Nat} {e : TypeId} (h : w.ownsRow B e size v q xs) (hb : b < B) : v.ownBlock ≠ some b := fun e => by
  have := (own_block_ge h b e).1
  omega

end Go.Proofs.YtkibddcjogfklaaGreatDoor.ik

namespace Go.Proofs.YtkibddcjogfklaaGreatDoor.ik
open Go.RowKit Go.Maps Go.WideMaps
open kit strs recs disk deed kd

theorem implBrought (n : Int) (m : Nat) (w : World) :
    Calls Tryz.prog 80 #[.int .i64 n, .int .i64 0, .int .i64 m] w fun e w' => e = .returned (.int .i64 (clampN n m : Nat)) ∧ w = w' := by
  have hm : ¬ (m : Int) < 0 := by omega
  by_cases h0 : n < 0
  · have HE := Lib.hid (show clampN n m = 0 by unfold clampN; rw [if_pos h0])
    go_enter Tryz.func80, Tryz.ntmps80
    go_wp2
    go_ret
    exact ⟨by rw [HE.out]; rfl, rfl⟩
  · by_cases h1 : (m : Int) < n
    · have HE := Lib.hid (show clampN n m = m by unfold clampN; rw [if_neg h0, if_pos h1])
      go_enter Tryz.func80, Tryz.ntmps80
      go_wp2
      go_ret
      exact ⟨by rw [HE.out]; rfl, rfl⟩
    · have HE := Lib.hid (show ((clampN n m : Nat) : Int) = n by unfold clampN; rw [if_neg h0, if_neg h1]; omega)
      go_enter Tryz.func80, Tryz.ntmps80
      go_wp2
      go_ret
      exact ⟨by rw [HE.out]; rfl, rfl⟩

end Go.Proofs.YtkibddcjogfklaaGreatDoor.ik
