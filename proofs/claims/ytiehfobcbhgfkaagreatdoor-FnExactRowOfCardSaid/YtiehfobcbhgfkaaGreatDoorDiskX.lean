/-
  Disks: what a value of such a struct holds; copies, equality, marks, how much.
-/
import Derived.Test.YtiehfobcbhgfkaaGreatDoorRecX
namespace Go.Proofs.YtiehfobcbhgfkaaGreatDoor.disk
set_option maxRecDepth 20000
open Go.ChangeShapes Go.WideShapes Go.RowKit Go.Deep
open kit strs recs

structure D where
  nodes : List Nod
  ents : List Ent
  old : List Ent
  steps : List ByteArray
  room : Int
  next : Int
/-- a value that holds this disk -/
def IsDisk (w : World) (v : Value) (d : D) : Prop :=
  ∃ (aN aE aO aS : Option Addr) (nN cN nE cE nO cO nS cS : Nat), v = .agg #[.slice aN nN cN, .slice aE nE cE, .slice aO nO cO, .slice aS nS cS, .int .i64 d.room, .int .i64 d.next] ∧
    AtN w aN nN d.nodes ∧ AtE w aE nE d.ents ∧ AtE w aO nO d.old ∧ At w aS nS d.steps
theorem IsDisk.below {w w' : World} {v : Value} {d : D} (h : IsDisk w v d) (hb : Below w.heap.size w w') : IsDisk w' v d := by
  obtain ⟨aN, aE, aO, aS, nN, cN, nE, cE, nO, cO, nS, cS, h0, h1, h2, h3, h4⟩ := h
  exact ⟨aN, aE, aO, aS, nN, cN, nE, cE, nO, cO, nS, cS, h0, h1.below hb, h2.below hb, h3.below hb, h4.below hb⟩
/-- its numbers are numbers, its texts and lists no longer than can be -/
def wfD (d : D) : Prop := wfN d.nodes ∧ wfE d.ents ∧ wfE d.old ∧ (∀ s ∈ d.steps, s.size ≤ maxLen) ∧ wfI d.room ∧ wfI d.next ∧ d.nodes.length ≤ maxLen ∧ d.ents.length ≤ maxLen ∧ d.old.length ≤ maxLen ∧ d.steps.length ≤ maxLen
/-- how much it is -/
def bulkN (d : D) : Nat := (d.nodes.map (·.2.1)).length + tot (d.nodes.map (·.2.1))
def bulkE (xs : List Ent) : Nat := (xs.map (·.1)).length + tot (xs.map (·.1))
def bulk (d : D) : Nat := bulkN d + bulkE d.ents + bulkE d.old + (d.steps.length + tot d.steps)

section
variable {H : Type} {enc : TypeId × Value → H} {w : World} {spare : Nat → Bool} {held : Bool}
end

/-! ### what a call leaves alone -/
/-- all blocks but those of S stay as they were -/
structure Only (w w' : World) (S : Nat → Prop) : Prop where
  os : w'.os = w.os
  tape : w'.tape = w.tape
  output : w'.output = w.output
  size : w.heap.size ≤ w'.heap.size
  block : ∀ k, k < w.heap.size → ¬ S k → w'.heap[k]? = w.heap[k]?
theorem Only.of_below {w w' : World} {S : Nat → Prop} (h : Below w.heap.size w w') : Only w w' S := ⟨h.os, h.tape, h.output, h.size, fun k hk _ => h.block k hk⟩
theorem Only.of_grown {w w' : World} {S : Nat → Prop} {row : Option Nat} (h : w.grownBy w' row) (hs : ∀ k, row = some k → S k) : Only w w' S :=
  ⟨h.os, h.tape, h.output, h.size, fun k hk hn => h.block k hk (fun e => hn (hs k e.symm))⟩
theorem Only.trans {a b c : World} {S : Nat → Prop} (h : Only a b S) (k : Only b c S) : Only a c S :=
  ⟨k.os.trans h.os, k.tape.trans h.tape, k.output.trans h.output, Nat.le_trans h.size k.size, fun i hi hn => (k.block i (Nat.lt_of_lt_of_le hi h.size) hn).trans (h.block i hi hn)⟩
theorem Only.imp {w w' : World} {S T : Nat → Prop} (h : Only w w' S) (hs : ∀ k, S k → T k) : Only w w' T := ⟨h.os, h.tape, h.output, h.size, fun k hk hn => h.block k hk (fun hS => hn (hs k hS))⟩
theorem Only.below {B : Nat} {w w' : World} {S : Nat → Prop} (h : Only w w' S) (hB : B ≤ w.heap.size) (hs : ∀ k, S k → B ≤ k) : Below B w w' :=
  ⟨h.os, h.tape, h.output, h.size, fun k hk => h.block k (by omega) (fun hS => by have := hs k hS; omega)⟩
/-- the blocks of the rows that a value leads to -/
def rows : Value → Nat → Prop
  | .agg cs, k => ∃ u ∈ cs.toList, u.ownBlock = some k
  | v, k => v.ownBlock = some k
theorem own_only {w w' : World} {B size : Nat} {e : TypeId} {v : Value} {n : Nat} {xs : List Value} {S : Nat → Prop} (h : w.ownsRow B e size v n xs) (o : Only w w' S) (hs : ∀ k, v.ownBlock = some k → ¬ S k) : w'.ownsRow B e size v n xs := by
  refine ⟨h.1, ?_⟩
  rcases h.2 with hn | ⟨g, cap, cur, rfl, hB, hh, rest⟩
  · exact .inl hn
  · exact .inr ⟨g, cap, cur, rfl, hB, by rw [o.block g (Array.getElem?_eq_some_iff.1 hh).1 (hs g rfl)]; exact hh, rest⟩
/-- a struct that lies in a block of its own -/
def Box (w : World) (g : Nat) (cs : List Value) : Prop := g < w.heap.size ∧ ∀ i v, cs[i]? = some v → w.cell? ⟨g, i, none⟩ = some v
theorem Box.new (w : World) (cs : Array Value) (t : TypeId) : Box (w.alloc (.cells cs t)) w.heap.size cs.toList :=
  ⟨by simp, fun i v h => by rw [cell_of_row _ _ _ _ _ _ (heap_alloc_new w _)]; simpa using h⟩
theorem Box.below {w w' : World} {g : Nat} {cs : List Value} (h : Box w g cs) (hb : Below w.heap.size w w') : Box w' g cs :=
  ⟨Nat.lt_of_lt_of_le h.1 hb.size, fun i v hi => (hb.cell (p := ⟨g, i, none⟩) h.1).trans (h.2 i v hi)⟩
theorem Box.only {w w' : World} {g : Nat} {cs : List Value} {S : Nat → Prop} (h : Box w g cs) (o : Only w w' S) (hg : ¬ S g) : Box w' g cs := by
  refine ⟨Nat.lt_of_lt_of_le h.1 o.size, fun i v hi => ?_⟩
  rw [← h.2 i v hi]
  unfold World.cell?
  rw [o.block g h.1 hg]
theorem Box.at {w : World} {g : Nat} {cs : List Value} (h : Box w g cs) (i : Nat) (v : Value) (hi : cs[i]? = some v) : w.cell? ⟨g, i, none⟩ = some v := h.2 i v hi

end Go.Proofs.YtiehfobcbhgfkaaGreatDoor.disk

namespace Go.Proofs.YtiehfobcbhgfkaaGreatDoor.disk
set_option maxRecDepth 20000
open Go.RowKit
open kit strs recs

/-- two rows in blocks of their own -/
def Off (u v : Value) : Prop := ∀ g, u.ownBlock = some g → v.ownBlock ≠ some g
/-- a disk in memory of its own, from block B on -/
def OwnDisk (B : Nat) (w : World) (v : Value) (d : D) : Prop :=
  ∃ (sN sE sO sS : Value) (nN nE nO nS : Nat), v = .agg #[sN, sE, sO, sS, .int .i64 d.room, .int .i64 d.next] ∧
    w.ownsRow B 87 3 sN nN (cellsN d.nodes) ∧ w.ownsRow B 71 2 sE nE (cellsE d.ents) ∧ w.ownsRow B 71 2 sO nO (cellsE d.old) ∧ w.ownsRow B 9 1 sS nS (d.steps.map Value.string) ∧
    Off sN sE ∧ Off sN sO ∧ Off sN sS ∧ Off sE sO ∧ Off sE sS ∧ Off sO sS
theorem OwnDisk.is {B : Nat} {w : World} {v : Value} {d : D} (h : OwnDisk B w v d) : IsDisk w v d := by
  obtain ⟨sN, sE, sO, sS, nN, nE, nO, nS, rfl, hN, hE, hO, hS, _⟩ := h
  obtain ⟨aN, cN, rfl, _, _⟩ := own_shape hN
  obtain ⟨aE, cE, rfl, _, _⟩ := own_shape hE
  obtain ⟨aO, cO, rfl, _, _⟩ := own_shape hO
  obtain ⟨aS, cS, rfl, _, _⟩ := own_shape hS
  exact ⟨aN, aE, aO, aS, nN, cN, nE, cE, nO, cO, nS, cS, rfl, own_cells hN, own_cells hE, own_cells hO, At.of_own hS⟩
theorem OwnDisk.base {B B' : Nat} {w : World} {v : Value} {d : D} (h : OwnDisk B w v d) (hB : B' ≤ B) : OwnDisk B' w v d := by
  obtain ⟨sN, sE, sO, sS, nN, nE, nO, nS, rfl, hN, hE, hO, hS, rest⟩ := h
  exact ⟨sN, sE, sO, sS, nN, nE, nO, nS, rfl, own_base hN hB, own_base hE hB, own_base hO hB, own_base hS hB, rest⟩
theorem OwnDisk.below {B : Nat} {w w' : World} {v : Value} {d : D} (h : OwnDisk B w v d) (hb : Below w.heap.size w w') : OwnDisk B w' v d := by
  obtain ⟨sN, sE, sO, sS, nN, nE, nO, nS, rfl, hN, hE, hO, hS, rest⟩ := h
  exact ⟨sN, sE, sO, sS, nN, nE, nO, nS, rfl, own_below hN hb, own_below hE hb, own_below hO hb, own_below hS hb, rest⟩
/-- a row stays as it was where another one is written -/
theorem OwnDisk.rows {B : Nat} {w : World} {v : Value} {d : D} (h : OwnDisk B w v d) : ∀ k, rows v k → B ≤ k ∧ k < w.heap.size := by
  obtain ⟨sN, sE, sO, sS, nN, nE, nO, nS, rfl, hN, hE, hO, hS, _⟩ := h
  rintro k ⟨u, hu, hk⟩
  simp only [List.mem_cons, List.not_mem_nil, or_false] at hu
  have one : ∀ {e : TypeId} {size n : Nat} {xs : List Value} {v : Value}, w.ownsRow B e size v n xs → v.ownBlock = some k → B ≤ k ∧ k < w.heap.size := fun h hk => by
    rcases h.2 with ⟨rfl, _⟩ | ⟨g', cap, cur, rfl, hB, hh, _⟩
    · simp [Value.ownBlock] at hk
    · simp only [Value.ownBlock, Option.some.injEq] at hk
      subst hk
      exact ⟨hB, (Array.getElem?_eq_some_iff.1 hh).1⟩
  rcases hu with rfl | rfl | rfl | rfl | rfl | rfl
  · exact one hN hk
  · exact one hE hk
  · exact one hO hk
  · exact one hS hk
  · simp [Value.ownBlock] at hk
  · simp [Value.ownBlock] at hk
theorem OwnDisk.only {B : Nat} {w w' : World} {v : Value} {d : D} {S : Nat → Prop} (h : OwnDisk B w v d) (o : Only w w' S) (hs : ∀ k, disk.rows v k → ¬ S k) : OwnDisk B w' v d := by
  obtain ⟨sN, sE, sO, sS, nN, nE, nO, nS, rfl, hN, hE, hO, hS, rest⟩ := h
  exact ⟨sN, sE, sO, sS, nN, nE, nO, nS, rfl, own_only hN o (fun k hk => hs k ⟨sN, by simp, hk⟩), own_only hE o (fun k hk => hs k ⟨sE, by simp, hk⟩), own_only hO o (fun k hk => hs k ⟨sO, by simp, hk⟩), own_only hS o (fun k hk => hs k ⟨sS, by simp, hk⟩), rest⟩
theorem own_grown {w w' : World} {B size : Nat} {e : TypeId} {v u : Value} {n : Nat} {xs : List Value} (h : w.ownsRow B e size v n xs) (hg : w.grownBy w' u.ownBlock) (ho : ∀ g, v.ownBlock = some g → u.ownBlock ≠ some g) : w'.ownsRow B e size v n xs := by
  refine ⟨h.1, ?_⟩
  rcases h.2 with hn | ⟨g, cap, cur, rfl, hB, hh, rest⟩
  · exact .inl hn
  · exact .inr ⟨g, cap, cur, rfl, hB, by rw [hg.block g (Array.getElem?_eq_some_iff.1 hh).1 (fun e => ho g rfl e.symm)]; exact hh, rest⟩
theorem own_block_ge {w : World} {B size : Nat} {e : TypeId} {v : Value} {n : Nat} {xs : List Value} (h : w.ownsRow B e size v n xs) (g : Nat) (hg : v.ownBlock = some g) : B ≤ g ∧ g < w.heap.size := by
  rcases h.2 with ⟨rfl, _⟩ | ⟨g', cap, cur, rfl, hB, hh, _⟩
  · simp [Value.ownBlock] at hg
  · simp only [Value.ownBlock, Option.some.injEq] at hg
    subst hg
    exact ⟨hB, (Array.getElem?_eq_some_iff.1 hh).1⟩
theorem cell_grown {w w' : World} {v : Value} {g j : Nat} (hg : w.grownBy w' v.ownBlock) (h : g < w.heap.size) (ho : v.ownBlock ≠ some g) : w'.cell? ⟨g, j, none⟩ = w.cell? ⟨g, j, none⟩ := by
  unfold World.cell?
  rw [hg.block g h (fun e => ho e.symm)]

/-! ### marks read -/
end Go.Proofs.YtiehfobcbhgfkaaGreatDoor.disk

namespace Go.Proofs.YtiehfobcbhgfkaaGreatDoor.disk
set_option maxRecDepth 20000
open Go.RowKit
open kit strs recs

/-! ### a copy -/
theorem own_setOther {w : World} {B size : Nat} {e : TypeId} {v : Value} {n : Nat} {xs : List Value} (h : w.ownsRow B e size v n xs) (g j : Nat) (u : Value) (hg : v.ownBlock ≠ some g) : (w.setCell ⟨g, j, none⟩ u).ownsRow B e size v n xs := by
  refine ⟨h.1, ?_⟩
  rcases h.2 with hn | ⟨g', cap, cur, rfl, hB, hh, rest⟩
  · exact .inl hn
  · exact .inr ⟨g', cap, cur, rfl, hB, by rw [heap_setCell_other _ _ _ _ (fun e => hg (by rw [e]; rfl))]; exact hh, rest⟩
/-! ### how much -/
end Go.Proofs.YtiehfobcbhgfkaaGreatDoor.disk
