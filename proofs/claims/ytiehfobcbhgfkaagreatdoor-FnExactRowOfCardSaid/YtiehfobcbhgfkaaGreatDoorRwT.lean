/-
  Helpers for FnRows and FnChained: lists compared that hold the same; what the program's functions on rows answer, in worlds where G holds; a box that holds a disk.
-/
import Derived.Test.YtiehfobcbhgfkaaGreatDoorKdX
import Derived.Test.YtiehfobcbhgfkaaGreatDoorRwMG
import Derived.Test.YtiehfobcbhgfkaaGreatDoorScXY
namespace Go.Proofs.YtiehfobcbhgfkaaGreatDoor.row
set_option maxRecDepth 20000
open Go.RowKit
open kit sum num burst hd fr recs sc disk kd nam

theorem sameSS {B B' : Nat} {u v : Value} {xs : List ByteArray} (w : World) (hn : xs.length ≤ 1048576) (hu : OwnSS B w u xs) (hv : OwnSS B' w v xs) :
    Calls Tryz.prog 16 #[u, v] w fun e w' => e = .returned (.bool true) ∧ Below w.heap.size w w' := by
  obtain ⟨n, hu⟩ := hu
  obtain ⟨m, hv⟩ := hv
  obtain ⟨a, c, rfl, e1, _, _⟩ := own_form hu
  obtain ⟨b, d, rfl, e2, _, _⟩ := own_form hv
  rw [List.length_map] at e1 e2
  subst e1 e2
  exact sc.same_any a b c d xs.length xs w hn (strs.At.of_own hu) (strs.At.of_own hv)
theorem sameII {B B' : Nat} {u v : Value} {xs : List Int} (w : World) (hn : xs.length ≤ maxLen) (hu : OwnI B w u xs) (hv : OwnI B' w v xs) :
    Calls Tryz.prog 18 #[u, v] w fun e w' => e = .returned (.bool true) ∧ Below w.heap.size w w' := by
  obtain ⟨n, hu⟩ := hu
  obtain ⟨m, hv⟩ := hv
  obtain ⟨a, c, rfl, e1, _, _⟩ := own_form hu
  obtain ⟨b, d, rfl, e2, _, _⟩ := own_form hv
  rw [List.length_map] at e1 e2
  subst e1 e2
  exact sc.sameInts_any a b c d xs.length xs w hn (ints.At.of_own hu) (ints.At.of_own hv)

theorem at_of_cells1 (w : World) (x : ByteArray) (t : TypeId) : strs.At (w.alloc (.cells #[.string x] t)) (some ⟨w.heap.size, 0, none⟩) 1 [x] := by
  refine ⟨rfl, .inr ⟨w.heap.size, 0, rfl, by simp, fun j y hy => ?_⟩⟩
  rw [cell_of_row _ _ _ _ _ _ (heap_alloc_new w _)]
  cases j with
  | zero => cases hy; rfl
  | succ j => cases hy

/-- a box that holds a disk -/
structure Held (w : World) (g : Nat) (c0 c1 c2 c3 : Value) (d : D) : Prop where
  box : disk.Box w g [c0, c1, c2, c3, .int .i64 d.room, .int .i64 d.next]
  is : IsDisk w (.agg #[c0, c1, c2, c3, .int .i64 d.room, .int .i64 d.next]) d
theorem Held.below {w w' : World} {g : Nat} {c0 c1 c2 c3 : Value} {d : D} (h : Held w g c0 c1 c2 c3 d) (hb : Below w.heap.size w w') : Held w' g c0 c1 c2 c3 d := ⟨h.box.below hb, h.is.below hb⟩
theorem Held.new {B : Nat} {w : World} {c0 c1 c2 c3 : Value} {d : D} (h : OwnDisk B w (.agg #[c0, c1, c2, c3, .int .i64 d.room, .int .i64 d.next]) d) : Held (w.alloc (.cells #[c0, c1, c2, c3, .int .i64 d.room, .int .i64 d.next] 28)) w.heap.size c0 c1 c2 c3 d :=
  ⟨disk.Box.new _ _ _, h.is.below ((Below.refl _ _).alloc (Nat.le_refl _) _)⟩

theorem recs_lt {d : D} {K : Nat} (h : bulk d ≤ K) (base : Int) : (sc.recs (tAt d base)).length ≤ K := by
  have h1 := recs_le (tAt d base)
  have h2 : (tAt d base).size ≤ K := by
    unfold tAt nodeAt
    split
    · exact Nat.zero_le _
    · split
      · exact Nat.zero_le _
      · next k _ =>
        cases e : d.nodes[k]? with
        | none => exact Nat.zero_le _
        | some n =>
          have hm : n.2.1 ∈ d.nodes.map (·.2.1) := List.mem_map.2 ⟨n, List.mem_of_getElem? e, rfl⟩
          have := tot_mem hm
          unfold bulk bulkN at h
          show n.2.1.size ≤ _
          omega
  omega
theorem flat_lt {d : D} {K : Nat} (h : bulk d ≤ K) : ∀ l : List Int, (flat d l).length ≤ K * l.length := by
  intro l
  induction l with
  | nil => exact Nat.le_refl _
  | cons x xs ih =>
    show (sc.recs (tAt d x) ++ flat d xs).length ≤ _
    rw [List.length_append, List.length_cons, Nat.mul_succ]
    have := recs_lt h x
    omega
theorem bulk_sm {K : Nat} {d : D} (h : deed.Sm K d) : bulk d ≤ 4 * K := by
  have h1 := h.n
  have h2 := h.e
  have h3 := h.o
  have h4 := h.s
  unfold bulk
  omega
theorem row_few {d : D} (h : deed.Sm 13000 d) : (rowOf d).length ≤ 1048576 := by
  have h1 := flat_lt (bulk_sm h) (chain d)
  have h2 := chain_length d
  rw [← flat_all]
  omega
theorem flat_few {d : D} (h : deed.Sm 13000 d) (k : Nat) : (flat d ((chain d).take k)).length ≤ 1048576 := by
  have h1 := flat_lt (bulk_sm h) ((chain d).take k)
  have h2 := chain_length d
  rw [List.length_take] at h1
  omega
theorem loose_few {d : D} (h : deed.Sm 13000 d) : (loose d).length ≤ 1048576 := by
  have h1 := List.length_filter_le (fun e : Ent => looseB (chain d) e.1) d.ents
  have h2 := bulk_sm h
  unfold bulk bulkE at h2
  rw [List.length_map] at h2
  unfold loose
  rw [List.length_map]
  omega
theorem bases_few {d : D} (h : deed.Sm 13000 d) : (bases d.ents).length ≤ maxLen := by
  have h1 := bases_le d.ents
  have h2 := bulk_sm h
  unfold bulk bulkE at h2
  rw [List.length_map] at h2
  unfold maxLen
  omega
theorem chain_few (d : D) : (chain d).length ≤ maxLen := by have := chain_length d; unfold maxLen; omega

/-- what impl's functions on rows answer that FnRows asks, in worlds where G holds -/
structure ImplR (G : World → Prop) : Prop where
  keep : ∀ w w' : World, G w → Below w.heap.size w w' → G w'
  bases : ∀ (v : Value) (d : D) (w : World), okD d → IsDisk w v d → G w → Calls Tryz.prog 20 #[v] w fun e w' => ∃ u, e = .returned u ∧ OwnI w.heap.size w' u (bases d.ents) ∧ Below w.heap.size w w'
  chain : ∀ (v : Value) (d : D) (w : World), okD d → IsDisk w v d → G w → Calls Tryz.prog 15 #[v] w fun e w' => ∃ u, e = .returned u ∧ OwnI w.heap.size w' u (chain d) ∧ Below w.heap.size w w'
  row : ∀ (v : Value) (d : D) (w : World), okD d → IsDisk w v d → G w → Calls Tryz.prog 14 #[v] w fun e w' => ∃ u, e = .returned u ∧ OwnSS w.heap.size w' u (rowOf d) ∧ Below w.heap.size w w'
  loose : ∀ (v : Value) (d : D) (w : World), okD d → IsDisk w v d → G w → Calls Tryz.prog 22 #[v] w fun e w' => ∃ u, e = .returned u ∧ OwnSS w.heap.size w' u (loose d) ∧ Below w.heap.size w w'
  text : ∀ (v : Value) (d : D) (base : Int) (w : World), 0 ≤ base → base ≤ 16777216 → okD d → IsDisk w v d → G w → Calls Tryz.prog 24 #[v, .int .i64 base] w fun e w' => e = .returned (.string (tAt d base)) ∧ Below w.heap.size w w'
  link : ∀ (v : Value) (d : D) (w : World), okD d → IsDisk w v d → G w → Calls Tryz.prog 32 #[v] w fun e w' => e = .returned (.int .i64 ((rowLink d : Nat) : Int)) ∧ Below w.heap.size w w'
/-- .. that FnChained asks -/
structure ImplC (G : World → Prop) : Prop where
  keep : ∀ w w' : World, G w → Below w.heap.size w w' → G w'
  texts : ∀ (v : Value) (d : D) (w : World), okD d → IsDisk w v d → G w → Calls Tryz.prog 34 #[v] w fun e w' => ∃ u, e = .returned u ∧ OwnSS w.heap.size w' u (texts d) ∧ Below w.heap.size w w'
  behind : ∀ (v : Value) (d : D) (base : Int) (w : World), okD d → IsDisk w v d → G w → Calls Tryz.prog 36 #[v, .int .i64 base] w fun e w' => ∃ u, e = .returned u ∧ OwnI w.heap.size w' u (behind d base) ∧ Below w.heap.size w w'

end Go.Proofs.YtiehfobcbhgfkaaGreatDoor.row
