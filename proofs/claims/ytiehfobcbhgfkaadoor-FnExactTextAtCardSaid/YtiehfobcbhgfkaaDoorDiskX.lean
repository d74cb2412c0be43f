/-
  Disks: what a value of such a struct holds; copies, equality, marks, how much.
-/
import Derived.Test.YtiehfobcbhgfkaaDoorRecX
namespace Go.Proofs.YtiehfobcbhgfkaaDoor.disk
set_option maxRecDepth 20000
open Go.ChangeShapes Go.WideShapes Go.RowKit Go.Deep
open kit strs recs

structure D where
  nodes : List Nod
  ents : List Ent
  old : List Ent
  steps : List ByteArray
  room : Int
  next : Int
/-- a value that holds this disk -/
def IsDisk (w : World) (v : Value) (d : D) : Prop :=
  ∃ (aN aE aO aS : Option Addr) (nN cN nE cE nO cO nS cS : Nat), v = .agg #[.slice aN nN cN, .slice aE nE cE, .slice aO nO cO, .slice aS nS cS, .int .i64 d.room, .int .i64 d.next] ∧
    AtN w aN nN d.nodes ∧ AtE w aE nE d.ents ∧ AtE w aO nO d.old ∧ At w aS nS d.steps
theorem IsDisk.below {w w' : World} {v : Value} {d : D} (h : IsDisk w v d) (hb : Below w.heap.size w w') : IsDisk w' v d := by
  obtain ⟨aN, aE, aO, aS, nN, cN, nE, cE, nO, cO, nS, cS, h0, h1, h2, h3, h4⟩ := h
  exact ⟨aN, aE, aO, aS, nN, cN, nE, cE, nO, cO, nS, cS, h0, h1.below hb, h2.below hb, h3.below hb, h4.below hb⟩
/-- its numbers are numbers, its texts and lists no longer than can be -/
def wfD (d : D) : Prop := wfN d.nodes ∧ wfE d.ents ∧ wfE d.old ∧ (∀ s ∈ d.steps, s.size ≤ maxLen) ∧ wfI d.room ∧ wfI d.next ∧ d.nodes.length ≤ maxLen ∧ d.ents.length ≤ maxLen ∧ d.old.length ≤ maxLen ∧ d.steps.length ≤ maxLen
/-- how much it is -/
def bulkN (d : D) : Nat := (d.nodes.map (·.2.1)).length + tot (d.nodes.map (·.2.1))
def bulkE (xs : List Ent) : Nat := (xs.map (·.1)).length + tot (xs.map (·.1))
def bulk (d : D) : Nat := bulkN d + bulkE d.ents + bulkE d.old + (d.steps.length + tot d.steps)

section
variable {H : Type} {enc : TypeId × Value → H} {w : World} {spare : Nat → Bool} {held : Bool}
theorem field1 {P : Program} {fs : Array Field} {n : Nat} {cs : List Value} {xs : List (DataW H × List MemPlace)} (hg : ∀ (i : Nat) (f : Field), fs[i]? = some f → DataW.trod enc P w 0 spare held n f.type ((cs.drop f.offset).take (P.cellsOf f.type)) = xs[i]?)
    (i : Nat) (f : Field) (hf : fs[i]? = some f) (ho : f.offset = i) (hc : P.cellsOf f.type = 1) (c : Value) (hcs : cs[i]? = some c) : DataW.trod enc P w 0 spare held n f.type [c] = xs[i]? := by
  have h := hg i f hf
  obtain ⟨h1, h2⟩ := List.getElem?_eq_some_iff.1 hcs
  rw [ho, hc, List.drop_eq_getElem_cons h1, h2] at h
  exact h
set_option maxRecDepth 1000000 in
theorem rd_D {r : Reach} {b0 : Nat} {v : Value} {d : DataW H} {p : List MemPlace} (hv : Value.okWide Tryd.prog w r b0 26 v) (h : DataW.Trod enc Tryd.prog w 0 spare held 26 v d p) :
    ∃ x : D, IsDisk w v x ∧ wfD x := by
  obtain ⟨cs, rfl, hsz⟩ := okWide_struct Tryd.underlying26 hv
  have h6 : Tryd.prog.cellsOf 26 = 6 := by kernel_rfl
  rw [h6] at hsz
  obtain ⟨l⟩ := cs
  match l, hsz with
  | [c0, c1, c2, c3, c4, c5], _ =>
    obtain ⟨fuel, hf⟩ := h
    obtain ⟨xs, n, _, _, _, hlen, hg⟩ := DataW.trod_struct Tryd.underlying26 hf
    match xs, hlen with
    | [y0, y1, y2, y3, y4, y5], _ =>
      have e0 : Tryd.prog.cellsOf 22 = 1 := by kernel_rfl
      have e1 : Tryd.prog.cellsOf 23 = 1 := by kernel_rfl
      have e2 : Tryd.prog.cellsOf 24 = 1 := by kernel_rfl
      have e3 : Tryd.prog.cellsOf 3 = 1 := by kernel_rfl
      have g0 : DataW.trod enc Tryd.prog w 0 spare held n 22 [c0] = some y0 := field1 hg 0 _ rfl rfl e0 c0 rfl
      have g1 : DataW.trod enc Tryd.prog w 0 spare held n 23 [c1] = some y1 := field1 hg 1 _ rfl rfl e1 c1 rfl
      have g2 : DataW.trod enc Tryd.prog w 0 spare held n 23 [c2] = some y2 := field1 hg 2 _ rfl rfl e1 c2 rfl
      have g3 : DataW.trod enc Tryd.prog w 0 spare held n 24 [c3] = some y3 := field1 hg 3 _ rfl rfl e2 c3 rfl
      have g4 : DataW.trod enc Tryd.prog w 0 spare held n 3 [c4] = some y4 := field1 hg 4 _ rfl rfl e3 c4 rfl
      have g5 : DataW.trod enc Tryd.prog w 0 spare held n 3 [c5] = some y5 := field1 hg 5 _ rfl rfl e3 c5 rfl
      obtain ⟨aN, nN, cN, zN, rfl_N, mN, hN, wN⟩ := rd_N (P := Tryd.prog) Tryd.underlying22 Tryd.underlying50 (by kernel_rfl) rfl rfl rfl (by kernel_rfl) (by kernel_rfl) (by kernel_rfl) (by kernel_rfl) (by kernel_rfl) (by kernel_rfl) g0
      obtain ⟨aE, nE, cE, zE, rfl_E, mE, hE, wE⟩ := rd_E (P := Tryd.prog) Tryd.underlying23 Tryd.underlying53 (by kernel_rfl) rfl rfl (by kernel_rfl) (by kernel_rfl) (by kernel_rfl) (by kernel_rfl) g1
      obtain ⟨aO, nO, cO, zO, rfl_O, mO, hO, wO⟩ := rd_E (P := Tryd.prog) Tryd.underlying23 Tryd.underlying53 (by kernel_rfl) rfl rfl (by kernel_rfl) (by kernel_rfl) (by kernel_rfl) (by kernel_rfl) g2
      obtain ⟨aS, nS, cS, zS, rfl_S, mS, hS, wS⟩ := rd_S (P := Tryd.prog) Tryd.underlying24 Tryd.underlying9 (by kernel_rfl) g3
      obtain ⟨r0, e4, _, w4⟩ := DataW.trod_int Tryd.underlying3 g4
      obtain ⟨r1, e5, _, w5⟩ := DataW.trod_int Tryd.underlying3 g5
      simp only [List.cons.injEq, and_true] at rfl_N rfl_E rfl_O rfl_S e4 e5
      subst rfl_N rfl_E rfl_O rfl_S e4 e5
      refine ⟨⟨zN, zE, zO, zS, r0, r1⟩, ⟨aN, aE, aO, aS, nN, cN, nE, cE, nO, cO, nS, cS, rfl, hN, hE, hO, hS⟩, wN, wE, wO, wS, wfI_of w4, wfI_of w5, ?_, ?_, ?_, ?_⟩
      · show zN.length ≤ maxLen; rw [hN.len]; exact mN
      · show zE.length ≤ maxLen; rw [hE.len]; exact mE
      · show zO.length ≤ maxLen; rw [hO.len]; exact mO
      · show zS.length ≤ maxLen; rw [hS.1]; exact mS
end

/-! ### what a call leaves alone -/
/-- all blocks but those of S stay as they were -/
structure Only (w w' : World) (S : Nat → Prop) : Prop where
  os : w'.os = w.os
  tape : w'.tape = w.tape
  output : w'.output = w.output
  size : w.heap.size ≤ w'.heap.size
  block : ∀ k, k < w.heap.size → ¬ S k → w'.heap[k]? = w.heap[k]?
theorem Only.of_below {w w' : World} {S : Nat → Prop} (h : Below w.heap.size w w') : Only w w' S := ⟨h.os, h.tape, h.output, h.size, fun k hk _ => h.block k hk⟩
theorem Only.of_grown {w w' : World} {S : Nat → Prop} {row : Option Nat} (h : w.grownBy w' row) (hs : ∀ k, row = some k → S k) : Only w w' S :=
  ⟨h.os, h.tape, h.output, h.size, fun k hk hn => h.block k hk (fun e => hn (hs k e.symm))⟩
theorem Only.trans {a b c : World} {S : Nat → Prop} (h : Only a b S) (k : Only b c S) : Only a c S :=
  ⟨k.os.trans h.os, k.tape.trans h.tape, k.output.trans h.output, Nat.le_trans h.size k.size, fun i hi hn => (k.block i (Nat.lt_of_lt_of_le hi h.size) hn).trans (h.block i hi hn)⟩
theorem Only.imp {w w' : World} {S T : Nat → Prop} (h : Only w w' S) (hs : ∀ k, S k → T k) : Only w w' T := ⟨h.os, h.tape, h.output, h.size, fun k hk hn => h.block k hk (fun hS => hn (hs k hS))⟩
theorem Only.below {B : Nat} {w w' : World} {S : Nat → Prop} (h : Only w w' S) (hB : B ≤ w.heap.size) (hs : ∀ k, S k → B ≤ k) : Below B w w' :=
  ⟨h.os, h.tape, h.output, h.size, fun k hk => h.block k (by omega) (fun hS => by have := hs k hS; omega)⟩
/-- the blocks of the rows that a value leads to -/
def rows : Value → Nat → Prop
  | .agg cs, k => ∃ u ∈ cs.toList, u.ownBlock = some k
  | v, k => v.ownBlock = some k
theorem rows_slice {a : Option Addr} {n c k : Nat} : rows (.slice a n c) k = ((Value.slice a n c).ownBlock = some k) := rfl
theorem own_only {w w' : World} {B size : Nat} {e : TypeId} {v : Value} {n : Nat} {xs : List Value} {S : Nat → Prop} (h : w.ownsRow B e size v n xs) (o : Only w w' S) (hs : ∀ k, v.ownBlock = some k → ¬ S k) : w'.ownsRow B e size v n xs := by
  refine ⟨h.1, ?_⟩
  rcases h.2 with hn | ⟨g, cap, cur, rfl, hB, hh, rest⟩
  · exact .inl hn
  · exact .inr ⟨g, cap, cur, rfl, hB, by rw [o.block g (Array.getElem?_eq_some_iff.1 hh).1 (hs g rfl)]; exact hh, rest⟩
/-- a struct that lies in a block of its own -/
def Box (w : World) (g : Nat) (cs : List Value) : Prop := g < w.heap.size ∧ ∀ i v, cs[i]? = some v → w.cell? ⟨g, i, none⟩ = some v
theorem Box.new (w : World) (cs : Array Value) (t : TypeId) : Box (w.alloc (.cells cs t)) w.heap.size cs.toList :=
  ⟨by simp, fun i v h => by rw [cell_of_row _ _ _ _ _ _ (heap_alloc_new w _)]; simpa using h⟩
theorem Box.below {w w' : World} {g : Nat} {cs : List Value} (h : Box w g cs) (hb : Below w.heap.size w w') : Box w' g cs :=
  ⟨Nat.lt_of_lt_of_le h.1 hb.size, fun i v hi => (hb.cell (p := ⟨g, i, none⟩) h.1).trans (h.2 i v hi)⟩
theorem Box.only {w w' : World} {g : Nat} {cs : List Value} {S : Nat → Prop} (h : Box w g cs) (o : Only w w' S) (hg : ¬ S g) : Box w' g cs := by
  refine ⟨Nat.lt_of_lt_of_le h.1 o.size, fun i v hi => ?_⟩
  rw [← h.2 i v hi]
  unfold World.cell?
  rw [o.block g h.1 hg]
theorem Box.at {w : World} {g : Nat} {cs : List Value} (h : Box w g cs) (i : Nat) (v : Value) (hi : cs[i]? = some v) : w.cell? ⟨g, i, none⟩ = some v := h.2 i v hi

end Go.Proofs.YtiehfobcbhgfkaaDoor.disk

namespace Go.Proofs.YtiehfobcbhgfkaaDoor.disk
set_option maxRecDepth 20000
open Go.RowKit
open kit strs recs

theorem bcell {W w1 : World} (hb : Below W.heap.size W w1) : (∀ b o, b < W.heap.size → w1.cell? ⟨b, o, none⟩ = W.cell? ⟨b, o, none⟩) ∧ (∀ b o, b < W.heap.size → w1.frozen? ⟨b, o, none⟩ = W.frozen? ⟨b, o, none⟩) :=
  ⟨fun b o h => hb.cell (p := ⟨b, o, none⟩) h, fun b o h => hb.frozen (p := ⟨b, o, none⟩) h⟩
/-- two rows in blocks of their own -/
def Off (u v : Value) : Prop := ∀ g, u.ownBlock = some g → v.ownBlock ≠ some g
/-- a disk in memory of its own, from block B on -/
def OwnDisk (B : Nat) (w : World) (v : Value) (d : D) : Prop :=
  ∃ (sN sE sO sS : Value) (nN nE nO nS : Nat), v = .agg #[sN, sE, sO, sS, .int .i64 d.room, .int .i64 d.next] ∧
    w.ownsRow B 54 3 sN nN (cellsN d.nodes) ∧ w.ownsRow B 61 2 sE nE (cellsE d.ents) ∧ w.ownsRow B 61 2 sO nO (cellsE d.old) ∧ w.ownsRow B 9 1 sS nS (d.steps.map Value.string) ∧
    Off sN sE ∧ Off sN sO ∧ Off sN sS ∧ Off sE sO ∧ Off sE sS ∧ Off sO sS
theorem OwnDisk.is {B : Nat} {w : World} {v : Value} {d : D} (h : OwnDisk B w v d) : IsDisk w v d := by
  obtain ⟨sN, sE, sO, sS, nN, nE, nO, nS, rfl, hN, hE, hO, hS, _⟩ := h
  obtain ⟨aN, cN, rfl, _, _⟩ := own_shape hN
  obtain ⟨aE, cE, rfl, _, _⟩ := own_shape hE
  obtain ⟨aO, cO, rfl, _, _⟩ := own_shape hO
  obtain ⟨aS, cS, rfl, _, _⟩ := own_shape hS
  exact ⟨aN, aE, aO, aS, nN, cN, nE, cE, nO, cO, nS, cS, rfl, own_cells hN, own_cells hE, own_cells hO, At.of_own hS⟩
theorem OwnDisk.base {B B' : Nat} {w : World} {v : Value} {d : D} (h : OwnDisk B w v d) (hB : B' ≤ B) : OwnDisk B' w v d := by
  obtain ⟨sN, sE, sO, sS, nN, nE, nO, nS, rfl, hN, hE, hO, hS, rest⟩ := h
  exact ⟨sN, sE, sO, sS, nN, nE, nO, nS, rfl, own_base hN hB, own_base hE hB, own_base hO hB, own_base hS hB, rest⟩
theorem OwnDisk.below {B : Nat} {w w' : World} {v : Value} {d : D} (h : OwnDisk B w v d) (hb : Below w.heap.size w w') : OwnDisk B w' v d := by
  obtain ⟨sN, sE, sO, sS, nN, nE, nO, nS, rfl, hN, hE, hO, hS, rest⟩ := h
  exact ⟨sN, sE, sO, sS, nN, nE, nO, nS, rfl, own_below hN hb, own_below hE hb, own_below hO hb, own_below hS hb, rest⟩
/-- a row stays as it was where another one is written -/
theorem OwnDisk.rows {B : Nat} {w : World} {v : Value} {d : D} (h : OwnDisk B w v d) : ∀ k, rows v k → B ≤ k ∧ k < w.heap.size := by
  obtain ⟨sN, sE, sO, sS, nN, nE, nO, nS, rfl, hN, hE, hO, hS, _⟩ := h
  rintro k ⟨u, hu, hk⟩
  simp only [List.mem_cons, List.not_mem_nil, or_false] at hu
  have one : ∀ {e : TypeId} {size n : Nat} {xs : List Value} {v : Value}, w.ownsRow B e size v n xs → v.ownBlock = some k → B ≤ k ∧ k < w.heap.size := fun h hk => by
    rcases h.2 with ⟨rfl, _⟩ | ⟨g', cap, cur, rfl, hB, hh, _⟩
    · simp [Value.ownBlock] at hk
    · simp only [Value.ownBlock, Option.some.injEq] at hk
      subst hk
      exact ⟨hB, (Array.getElem?_eq_some_iff.1 hh).1⟩
  rcases hu with rfl | rfl | rfl | rfl | rfl | rfl
  · exact one hN hk
  · exact one hE hk
  · exact one hO hk
  · exact one hS hk
  · simp [Value.ownBlock] at hk
  · simp [Value.ownBlock] at hk
theorem OwnDisk.only {B : Nat} {w w' : World} {v : Value} {d : D} {S : Nat → Prop} (h : OwnDisk B w v d) (o : Only w w' S) (hs : ∀ k, disk.rows v k → ¬ S k) : OwnDisk B w' v d := by
  obtain ⟨sN, sE, sO, sS, nN, nE, nO, nS, rfl, hN, hE, hO, hS, rest⟩ := h
  exact ⟨sN, sE, sO, sS, nN, nE, nO, nS, rfl, own_only hN o (fun k hk => hs k ⟨sN, by simp, hk⟩), own_only hE o (fun k hk => hs k ⟨sE, by simp, hk⟩), own_only hO o (fun k hk => hs k ⟨sO, by simp, hk⟩), own_only hS o (fun k hk => hs k ⟨sS, by simp, hk⟩), rest⟩
theorem own_grown {w w' : World} {B size : Nat} {e : TypeId} {v u : Value} {n : Nat} {xs : List Value} (h : w.ownsRow B e size v n xs) (hg : w.grownBy w' u.ownBlock) (ho : ∀ g, v.ownBlock = some g → u.ownBlock ≠ some g) : w'.ownsRow B e size v n xs := by
  refine ⟨h.1, ?_⟩
  rcases h.2 with hn | ⟨g, cap, cur, rfl, hB, hh, rest⟩
  · exact .inl hn
  · exact .inr ⟨g, cap, cur, rfl, hB, by rw [hg.block g (Array.getElem?_eq_some_iff.1 hh).1 (fun e => ho g rfl e.symm)]; exact hh, rest⟩
theorem own_block_ge {w : World} {B size : Nat} {e : TypeId} {v : Value} {n : Nat} {xs : List Value} (h : w.ownsRow B e size v n xs) (g : Nat) (hg : v.ownBlock = some g) : B ≤ g ∧ g < w.heap.size := by
  rcases h.2 with ⟨rfl, _⟩ | ⟨g', cap, cur, rfl, hB, hh, _⟩
  · simp [Value.ownBlock] at hg
  · simp only [Value.ownBlock, Option.some.injEq] at hg
    subst hg
    exact ⟨hB, (Array.getElem?_eq_some_iff.1 hh).1⟩
theorem below_grown {B : Nat} {w w' : World} {v : Value} (hg : w.grownBy w' v.ownBlock) (ho : ∀ g, v.ownBlock = some g → B ≤ g) (hB : B ≤ w.heap.size) : Below B w w' :=
  ⟨hg.os, hg.tape, hg.output, hg.size, fun k hk => hg.block k (by omega) (fun e => by have := ho k e.symm; omega)⟩
def marked (k : Nat) (d : D) : D :=
  { d with nodes := marksN k d.nodes.length, ents := marksE (k + 3 * d.nodes.length) d.ents.length, old := marksE (k + 3 * d.nodes.length + 2 * d.ents.length) d.old.length, steps := marks (k + 3 * d.nodes.length + 2 * d.ents.length + 2 * d.old.length) d.steps.length }
def marksUp (k : Nat) (d : D) : Nat := k + 3 * d.nodes.length + 2 * d.ents.length + 2 * d.old.length + d.steps.length
theorem cell_grown {w w' : World} {v : Value} {g j : Nat} (hg : w.grownBy w' v.ownBlock) (h : g < w.heap.size) (ho : v.ownBlock ≠ some g) : w'.cell? ⟨g, j, none⟩ = w.cell? ⟨g, j, none⟩ := by
  unfold World.cell?
  rw [hg.block g h (fun e => ho e.symm)]

/-! ### marks read -/
end Go.Proofs.YtiehfobcbhgfkaaDoor.disk

namespace Go.Proofs.YtiehfobcbhgfkaaDoor.disk
set_option maxRecDepth 20000
open Go.RowKit
open kit strs recs

set_option maxHeartbeats 400000 in
theorem eqStr_at (a b : Option Addr) (c d n : Nat) (xs : List ByteArray) (w : World) (hm : n ≤ maxLen) (ha : At w a n xs) (hb : At w b n xs) :
    Calls Tryd.prog 21 #[.slice a n c, .slice b n d] w fun e w' => e = .returned (.bool true) ∧ Below w.heap.size w w' := by
  unfold maxLen at hm
  have HA := Lib.hid ha
  have HB := Lib.hid hb
  clear ha hb
  go_enter Tryd.func21, Tryd.ntmps21
  go_wp2
  go_loopw [5] (fun i wr => ∃ k : Nat, k ≤ n ∧ i = .int .i64 k ∧ Below w.heap.size w wr) (fun i _ => n - (intOf i).toNat)
  case atStart => exact ⟨0, Nat.zero_le _, rfl, Below.refl _ _⟩
  case round =>
    obtain ⟨k, hk, rfl, hb⟩ := hrel
    by_cases hlt : k < n
    · obtain ⟨x, hxk⟩ : ∃ x, xs[k]? = some x := ⟨_, List.getElem?_eq_getElem (by rw [HA.out.1]; exact hlt)⟩
      obtain ⟨g, o, rfl, hg, hx0⟩ := (HA.out.below hb).2.resolve_left (by omega)
      obtain ⟨h, p, rfl, hh, hy0⟩ := (HB.out.below hb).2.resolve_left (by omega)
      have c1 := hx0 k x hxk
      have c2 := hy0 k x hxk
      have i0 : (0 : Int) ≤ (k : Int) := by omega
      have i1 : (k : Int) < (n : Int) := by omega
      clear hx0 hy0 hxk
      go_wp2
      go_quiet (fail)
      go_wp2
      go_roundw
      case rel => exact ⟨k + 1, by omega, by go_num, below_drewN hb _⟩
      case measure => simp [intOf]; omega
    · go_wp2
      go_ret
      exact ⟨rfl, hb⟩

set_option maxHeartbeats 400000 in
theorem eqDisk_same {u v : Value} {d : D} (w : World) (hd : marksUp 1 d ≤ 1000000000) (hu : IsDisk w u d) (hv : IsDisk w v d) :
    Calls Tryd.prog 8 #[u, v] w fun e w' => e = .returned (.bool true) ∧ Below w.heap.size w w' := by
  obtain ⟨aN, aE, aO, aS, nN, cN, nE, cE, nO, cO, nS, cS, rfl, hN, hE, hO, hS⟩ := hu
  obtain ⟨aN', aE', aO', aS', nN', cN', nE', cE', nO', cO', nS', cS', rfl, hN', hE', hO', hS'⟩ := hv
  obtain rfl : nN = nN' := by rw [← hN.len, ← hN'.len]
  obtain rfl : nE = nE' := by rw [← hE.len, ← hE'.len]
  obtain rfl : nO = nO' := by rw [← hO.len, ← hO'.len]
  obtain rfl : nS = nS' := by rw [← hS.1, ← hS'.1]
  unfold marksUp at hd
  rw [hN.len, hE.len, hO.len, hS.1] at hd
  have m1 : nN ≤ maxLen := by unfold maxLen; omega
  have m2 : nE ≤ maxLen := by unfold maxLen; omega
  have m3 : nO ≤ maxLen := by unfold maxLen; omega
  have m4 : nS ≤ maxLen := by unfold maxLen; omega
  clear hd
  have hWB : Below w.heap.size w ((w.alloc (.cells #[.slice aN nN cN, .slice aE nE cE, .slice aO nO cO, .slice aS nS cS, .int .i64 d.room, .int .i64 d.next] 32)).alloc (.cells #[.slice aN' nN cN', .slice aE' nE cE', .slice aO' nO cO', .slice aS' nS cS', .int .i64 d.room, .int .i64 d.next] 32)) := ((Below.refl _ _).alloc (Nat.le_refl _) _).alloc (by simp) _
  have A0 := Lib.hid (And.intro (hN.below hWB) (And.intro (hE.below hWB) (And.intro (hO.below hWB) (hS.below hWB))))
  have B0 := Lib.hid (And.intro (hN'.below hWB) (And.intro (hE'.below hWB) (And.intro (hO'.below hWB) (hS'.below hWB))))
  clear hN hE hO hS hN' hE' hO' hS' hWB
  go_enter Tryd.func8, Tryd.ntmps8
  go_wp2_with (fail)
  refine (eqNodeS_same _ _ _ _ _ _ _ m1 A0.out.1 B0.out.1).mono ?_
  rintro e w1 ⟨rfl, hb1⟩
  have A1 := Lib.hid (And.intro (A0.out.2.1.below hb1) (And.intro (A0.out.2.2.1.below hb1) (A0.out.2.2.2.below hb1)))
  have B1 := Lib.hid (And.intro (B0.out.2.1.below hb1) (And.intro (B0.out.2.2.1.below hb1) (B0.out.2.2.2.below hb1)))
  obtain ⟨hc1, hf1⟩ := bcell hb1
  have z1 : w.heap.size + 1 < w1.heap.size := by have := hb1.size; simp at this; omega
  have y1 : w.heap.size < w1.heap.size := by omega
  go_wp2_with (fail)
  refine (eqEntryS_same _ _ _ _ _ _ _ m2 A1.out.1 B1.out.1).mono ?_
  rintro e w2 ⟨rfl, hb2⟩
  have A2 := Lib.hid (And.intro (A1.out.2.1.below hb2) (A1.out.2.2.below hb2))
  have B2 := Lib.hid (And.intro (B1.out.2.1.below hb2) (B1.out.2.2.below hb2))
  obtain ⟨hc2, hf2⟩ := bcell hb2
  have z2 : w.heap.size + 1 < w2.heap.size := Nat.lt_of_lt_of_le z1 hb2.size
  have y2 : w.heap.size < w2.heap.size := by omega
  go_wp2_with (fail)
  refine (eqEntryS_same _ _ _ _ _ _ _ m3 A2.out.1 B2.out.1).mono ?_
  rintro e w3 ⟨rfl, hb3⟩
  have A3 := Lib.hid (A2.out.2.below hb3)
  have B3 := Lib.hid (B2.out.2.below hb3)
  obtain ⟨hc3, hf3⟩ := bcell hb3
  have z3 : w.heap.size + 1 < w3.heap.size := Nat.lt_of_lt_of_le z2 hb3.size
  have y3 : w.heap.size < w3.heap.size := by omega
  go_wp2_with (fail)
  refine (eqStr_at _ _ _ _ _ _ _ m4 A3.out B3.out).mono ?_
  rintro e w4 ⟨rfl, hb4⟩
  obtain ⟨hc4, hf4⟩ := bcell hb4
  go_wp2
  go_ret
  exact ⟨rfl, ((((((Below.refl _ _).alloc (Nat.le_refl _) _).alloc (by simp) _).trans (hb1.mono (by simp; omega))).trans (hb2.mono (by omega))).trans (hb3.mono (by omega))).trans (hb4.mono (by omega))⟩

/-! ### a copy -/
theorem own_setOther {w : World} {B size : Nat} {e : TypeId} {v : Value} {n : Nat} {xs : List Value} (h : w.ownsRow B e size v n xs) (g j : Nat) (u : Value) (hg : v.ownBlock ≠ some g) : (w.setCell ⟨g, j, none⟩ u).ownsRow B e size v n xs := by
  refine ⟨h.1, ?_⟩
  rcases h.2 with hn | ⟨g', cap, cur, rfl, hB, hh, rest⟩
  · exact .inl hn
  · exact .inr ⟨g', cap, cur, rfl, hB, by rw [heap_setCell_other _ _ _ _ (fun e => hg (by rw [e]; rfl))]; exact hh, rest⟩
theorem off_slices {g h : Nat} {n c m d : Nat} (hne : g ≠ h) : Off (.slice (some ⟨g, 0, none⟩) n c) (.slice (some ⟨h, 0, none⟩) m d) := fun k hk e => by
  simp only [Value.ownBlock, Option.some.injEq] at hk e
  omega

set_option maxHeartbeats 400000 in
theorem toDisk_any {v : Value} {d : D} (w : World) (hb : bulk d ≤ 1048576) (hv : IsDisk w v d) :
    Calls Tryd.prog 6 #[v] w fun e w' => ∃ u, e = .returned u ∧ OwnDisk w.heap.size w' u d ∧ Below w.heap.size w w' := by
  obtain ⟨aN, aE, aO, aS, nN, cN, nE, cE, nO, cO, nS, cS, rfl, hN, hE, hO, hS⟩ := hv
  unfold bulk bulkN bulkE at hb
  simp only [List.length_map] at hb
  rw [hN.len, hE.len, hO.len, hS.1] at hb
  have m1 : nN ≤ 1048576 := by omega
  have m2 : nE ≤ 1048576 := by omega
  have m3 : nO ≤ 1048576 := by omega
  have m4 : nS ≤ 1048576 := by omega
  clear hb
  have hN := Lib.hid hN
  have hE := Lib.hid hE
  have hO := Lib.hid hO
  have hS := Lib.hid hS
  go_enter Tryd.func6, Tryd.ntmps6
  go_wp2_with (fail)
  have q0 : Below w.heap.size w (((w.alloc (.cells #[.slice aN nN cN, .slice aE nE cE, .slice aO nO cO, .slice aS nS cS, .int .i64 d.room, .int .i64 d.next] 26)).alloc (.cells #[.slice none 0 0, .slice none 0 0, .slice none 0 0, .slice none 0 0, .int .i64 0, .int .i64 0] 32)).alloc (.cells #[.slice none 0 0, .slice none 0 0, .slice none 0 0, .slice none 0 0, .int .i64 0, .int .i64 0] 32)) := (((Below.refl _ _).alloc (Nat.le_refl _) _).alloc (by simp) _).alloc (by simp; omega) _
  refine (toNodeS_any _ _ _ _ _ m1 (hN.out.below q0)).mono ?_
  rintro e w1 ⟨rfl, hr1, hb1⟩
  have Q1 := Lib.hid (q0.trans (hb1.mono q0.size))
  have R1 := Lib.hid (own_base (show w1.ownsRow (w.heap.size + 1 + 1 + 1) 54 3 (.slice (some ⟨w.heap.size + 1 + 1 + 1, 0, none⟩) nN nN) nN (cellsN d.nodes) by simpa using hr1) (show w.heap.size ≤ w.heap.size + 1 + 1 + 1 by omega))
  have z1 : w.heap.size + 3 < w1.heap.size := by have := (own_block_ge hr1 _ rfl).2; simp at this; omega
  obtain ⟨hc1, hf1⟩ := bcell hb1
  clear q0 hr1 hb1
  go_wp2_with (fail)
  have q1 : Below w.heap.size w (w1.setCell ⟨w.heap.size + 1 + 1, 0, none⟩ (.slice (some ⟨w.heap.size + 1 + 1 + 1, 0, none⟩) nN nN)) := Q1.out.setCell (by simp; omega) _
  refine (toEntryS_any _ _ _ _ _ m2 (hE.out.below q1)).mono ?_
  rintro e w2 ⟨rfl, hr2, hb2⟩
  have Q2 := Lib.hid (q1.trans (hb2.mono q1.size))
  have R2 := Lib.hid (own_base hr2 q1.size)
  have R1 := Lib.hid (own_below (own_setOther R1.out (w.heap.size + 1 + 1) 0 (.slice (some ⟨w.heap.size + 1 + 1 + 1, 0, none⟩) nN nN) (by simp [Value.ownBlock])) hb2)
  obtain ⟨g2, eg2⟩ : ∃ g, g = (w1.setCell ⟨w.heap.size + 1 + 1, 0, none⟩ (.slice (some ⟨w.heap.size + 1 + 1 + 1, 0, none⟩) nN nN)).heap.size := ⟨_, rfl⟩
  have hg2 : w.heap.size + 3 < g2 ∧ g2 < w2.heap.size := ⟨by rw [eg2]; simpa using z1, by rw [eg2]; exact (own_block_ge hr2 _ rfl).2⟩
  obtain ⟨hc2, hf2⟩ := bcell hb2
  rw [← eg2] at R2 hc2 hf2 ⊢
  clear q1 hr2 hb2 eg2
  have y1 : w.heap.size < g2 := by omega
  have y2 : w.heap.size + 1 < g2 := by omega
  have y3 : w.heap.size + 1 + 1 < g2 := by omega
  go_wp2_with (fail)
  have q2 : Below w.heap.size w (w2.setCell ⟨w.heap.size + 1 + 1, 1, none⟩ (.slice (some ⟨g2, 0, none⟩) nE nE)) := Q2.out.setCell (by simp; omega) _
  refine (toEntryS_any _ _ _ _ _ m3 (hO.out.below q2)).mono ?_
  rintro e w3 ⟨rfl, hr3, hb3⟩
  have Q3 := Lib.hid (q2.trans (hb3.mono q2.size))
  have R3 := Lib.hid (own_base hr3 q2.size)
  have R1 := Lib.hid (own_below (own_setOther R1.out (w.heap.size + 1 + 1) 1 (.slice (some ⟨g2, 0, none⟩) nE nE) (by simp [Value.ownBlock])) hb3)
  have R2 := Lib.hid (own_below (own_setOther R2.out (w.heap.size + 1 + 1) 1 (.slice (some ⟨g2, 0, none⟩) nE nE) (by simp [Value.ownBlock]; omega)) hb3)
  obtain ⟨g3, eg3⟩ : ∃ g, g = (w2.setCell ⟨w.heap.size + 1 + 1, 1, none⟩ (.slice (some ⟨g2, 0, none⟩) nE nE)).heap.size := ⟨_, rfl⟩
  have hg3 : g2 < g3 ∧ g3 < w3.heap.size := ⟨by rw [eg3]; simpa using hg2.2, by rw [eg3]; exact (own_block_ge hr3 _ rfl).2⟩
  obtain ⟨hc3, hf3⟩ := bcell hb3
  rw [← eg3] at R3 hc3 hf3 ⊢
  clear q2 hr3 hb3 eg3
  have y4 : w.heap.size < g3 := by omega
  have y5 : w.heap.size + 1 < g3 := by omega
  have y6 : w.heap.size + 1 + 1 < g3 := by omega
  go_wp2_with (fail)
  have q3 : Below w.heap.size w (w3.setCell ⟨w.heap.size + 1 + 1, 2, none⟩ (.slice (some ⟨g3, 0, none⟩) nO nO)) := Q3.out.setCell (by simp; omega) _
  refine (to_any _ _ _ _ _ m4 (hS.out.below q3)).mono ?_
  rintro e w4 ⟨rfl, hr4, hb4⟩
  have Q4 := Lib.hid (q3.trans (hb4.mono q3.size))
  have R4 := Lib.hid (own_base hr4 q3.size)
  have R1 := Lib.hid (own_below (own_setOther R1.out (w.heap.size + 1 + 1) 2 (.slice (some ⟨g3, 0, none⟩) nO nO) (by simp [Value.ownBlock])) hb4)
  have R2 := Lib.hid (own_below (own_setOther R2.out (w.heap.size + 1 + 1) 2 (.slice (some ⟨g3, 0, none⟩) nO nO) (by simp [Value.ownBlock]; omega)) hb4)
  have R3 := Lib.hid (own_below (own_setOther R3.out (w.heap.size + 1 + 1) 2 (.slice (some ⟨g3, 0, none⟩) nO nO) (by simp [Value.ownBlock]; omega)) hb4)
  obtain ⟨g4, eg4⟩ : ∃ g, g = (w3.setCell ⟨w.heap.size + 1 + 1, 2, none⟩ (.slice (some ⟨g3, 0, none⟩) nO nO)).heap.size := ⟨_, rfl⟩
  have hg4 : g3 < g4 ∧ g4 < w4.heap.size := ⟨by rw [eg4]; simpa using hg3.2, by rw [eg4]; exact (own_block_ge hr4 _ rfl).2⟩
  obtain ⟨hc4, hf4⟩ := bcell hb4
  rw [← eg4] at R4 hc4 hf4 ⊢
  clear q3 hr4 hb4 eg4
  have y7 : w.heap.size < g4 := by omega
  have y8 : w.heap.size + 1 < g4 := by omega
  have y9 : w.heap.size + 1 + 1 < g4 := by omega
  go_wp2
  refine bodyPost_ret (v := .agg #[.slice (some ⟨w.heap.size + 1 + 1 + 1, 0, none⟩) nN nN, .slice (some ⟨g2, 0, none⟩) nE nE, .slice (some ⟨g3, 0, none⟩) nO nO, .slice (some ⟨g4, 0, none⟩) nS nS, .int .i64 d.room, .int .i64 d.next]) (by simp [results, Tryd.results6, go_sem, hc1, hc2, hc3, hc4, y2, y5, y8]) rfl ⟨_, rfl, ?_, ?_⟩
  · refine ⟨_, _, _, _, nN, nE, nO, nS, rfl, ?_, ?_, ?_, ?_, off_slices (by omega), off_slices (by omega), off_slices (by omega), off_slices (by omega), off_slices (by omega), off_slices (by omega)⟩
    · iterate 9 refine own_setOther ?_ _ _ _ (by first | (simp [Value.ownBlock]; done) | (simp [Value.ownBlock]; omega))
      exact R1.out
    · iterate 9 refine own_setOther ?_ _ _ _ (by first | (simp [Value.ownBlock]; done) | (simp [Value.ownBlock]; omega))
      exact R2.out
    · iterate 9 refine own_setOther ?_ _ _ _ (by first | (simp [Value.ownBlock]; done) | (simp [Value.ownBlock]; omega))
      exact R3.out
    · iterate 9 refine own_setOther ?_ _ _ _ (by first | (simp [Value.ownBlock]; done) | (simp [Value.ownBlock]; omega))
      exact R4.out
  · iterate 9 refine Below.setCell ?_ (by first | (simp; done) | (simp; omega)) _
    exact Q4.out

/-! ### how much -/
theorem szI_yes {left : Nat} {xs : List ByteArray} {m : Nat} (h : xs.length + tot xs + m = left) : szI left xs = (m : Int) := by
  unfold szI
  rw [if_pos (by omega)]
  omega
theorem szI_no {left : Nat} {xs : List ByteArray} (h : left < xs.length + tot xs) : szI left xs = -1 := if_neg (by omega)
theorem wfN_sz {xs : List Nod} (h : wfN xs) : ∀ e ∈ xs, e.2.1.size ≤ 9223372036854775807 := fun e he => by have := (h e he).2.1; unfold maxLen at this; omega
theorem wfE_sz {xs : List Ent} (h : wfE xs) : ∀ e ∈ xs, e.1.size ≤ 9223372036854775807 := fun e he => by have := (h e he).1; unfold maxLen at this; omega
/-- the rest, or less than nothing -/
def Left (left : Nat) (b : Nat) (w : World) (e : Ending) (w' : World) : Prop := (if b ≤ left then e = .returned (.int .i64 ((left - b : Nat) : Int)) else e = .returned (.int .i64 (-1))) ∧ Below w.heap.size w w'

set_option maxHeartbeats 1000000 in
theorem szDisk_any {v : Value} {d : D} (left : Nat) (w : World) (hl : left ≤ 1048576) (hd : wfD d) (hv : IsDisk w v d) :
    Calls Tryd.prog 4 #[v, .int .i64 left] w (Left left (bulk d) w) := by
  obtain ⟨aN, aE, aO, aS, nN, cN, nE, cE, nO, cO, nS, cS, rfl, hN, hE, hO, hS⟩ := hv
  obtain ⟨w1, w2, w3, w4, _, _, m1, m2, m3, m4⟩ := hd
  rw [hN.len] at m1
  rw [hE.len] at m2
  rw [hO.len] at m3
  rw [hS.1] at m4
  unfold maxLen at m1 m2 m3 m4
  have hWB : Below w.heap.size w (w.alloc (.cells #[.slice aN nN cN, .slice aE nE cE, .slice aO nO cO, .slice aS nS cS, .int .i64 d.room, .int .i64 d.next] 26)) := (Below.refl _ _).alloc (Nat.le_refl _) _
  have C1 := Lib.hid (fun (l : Nat) (h : l ≤ 1048576) => szNodeS_any aN cN nN l d.nodes _ h (by omega) (hN.below hWB) (wfN_sz w1))
  have hEb := Lib.hid (hE.below hWB)
  have hOb := Lib.hid (hO.below hWB)
  have hSb := Lib.hid (hS.below hWB)
  have W2 := Lib.hid (wfE_sz w2)
  have W3 := Lib.hid (wfE_sz w3)
  have W4 := Lib.hid (show ∀ s ∈ d.steps, s.size ≤ 9223372036854775807 from fun s hs => by have := w4 s hs; unfold maxLen at this; omega)
  obtain ⟨b1, e1⟩ : ∃ b, b = (d.nodes.map (·.2.1)).length + tot (d.nodes.map (·.2.1)) := ⟨_, rfl⟩
  obtain ⟨b2, e2⟩ : ∃ b, b = (d.ents.map (·.1)).length + tot (d.ents.map (·.1)) := ⟨_, rfl⟩
  obtain ⟨b3, e3⟩ : ∃ b, b = (d.old.map (·.1)).length + tot (d.old.map (·.1)) := ⟨_, rfl⟩
  obtain ⟨b4, e4⟩ : ∃ b, b = d.steps.length + tot d.steps := ⟨_, rfl⟩
  have hbulk : bulk d = b1 + b2 + b3 + b4 := by unfold bulk bulkN bulkE; rw [e1, e2, e3, e4]
  rw [hbulk]
  clear hbulk w1 w2 w3 w4 hN hE hO hS hWB
  have E1 := Lib.hid e1
  have E2 := Lib.hid e2
  have E3 := Lib.hid e3
  have E4 := Lib.hid e4
  clear e1 e2 e3 e4
  go_enter Tryd.func4, Tryd.ntmps4
  go_wp2_with (fail)
  refine (C1.out left hl).mono ?_
  rintro e w1 ⟨he, hb1⟩
  have z1 : w.heap.size < w1.heap.size := by have := hb1.size; first | omega | (simp at this; omega)
  obtain ⟨hc1, hf1⟩ := bcell hb1
  by_cases h1 : left < b1
  · rw [szI_no (by rw [← E1.out]; omega)] at he
    subst he
    have bx := Lib.hid (show ¬ (b1 + b2 + b3 + b4 ≤ left) by
      try have := HR1.out
      try have := HR2.out
      omega)
    clear h1
    go_wp2
    go_ret
    exact ⟨by rw [if_neg bx.out]; rfl, (((Below.refl _ _).alloc (Nat.le_refl _) _).trans (hb1.mono (by simp)))⟩
  obtain ⟨r1, hr1⟩ : ∃ r, b1 + r = left := ⟨left - b1, by omega⟩
  rw [szI_yes (m := r1) (by rw [← E1.out]; exact hr1)] at he
  subst he
  have hE1 := Lib.hid (hEb.out.below hb1)
  have hO1 := Lib.hid (hOb.out.below hb1)
  have hS1 := Lib.hid (hSb.out.below hb1)
  have l1 : r1 ≤ 1048576 := by omega
  have HR1 := Lib.hid hr1
  clear h1 hr1
  go_wp2_with (fail)
  refine (szEntryS_any _ _ _ r1 _ _ (by omega) (by omega) hE1.out W2.out).mono ?_
  rintro e w2 ⟨he, hb2⟩
  have z2 : w.heap.size < w2.heap.size := by have := hb2.size; first | omega | (simp at this; omega)
  obtain ⟨hc2, hf2⟩ := bcell hb2
  by_cases h2 : r1 < b2
  · rw [szI_no (by rw [← E2.out]; omega)] at he
    subst he
    have bx := Lib.hid (show ¬ (b1 + b2 + b3 + b4 ≤ left) by
      try have := HR1.out
      try have := HR2.out
      omega)
    clear h2
    go_wp2
    go_ret
    exact ⟨by rw [if_neg bx.out]; rfl, ((((Below.refl _ _).alloc (Nat.le_refl _) _).trans (hb1.mono (by simp))).trans (hb2.mono (by omega)))⟩
  obtain ⟨r2, hr2⟩ : ∃ r, b2 + r = r1 := ⟨r1 - b2, by omega⟩
  rw [szI_yes (m := r2) (by rw [← E2.out]; exact hr2)] at he
  subst he
  have hO2 := Lib.hid (hO1.out.below hb2)
  have hS2 := Lib.hid (hS1.out.below hb2)
  have l2 : r2 ≤ 1048576 := by omega
  have HR2 := Lib.hid hr2
  clear h2 hr2
  go_wp2_with (fail)
  refine (szEntryS_any _ _ _ r2 _ _ (by omega) (by omega) hO2.out W3.out).mono ?_
  rintro e w3 ⟨he, hb3⟩
  have z3 : w.heap.size < w3.heap.size := by have := hb3.size; first | omega | (simp at this; omega)
  obtain ⟨hc3, hf3⟩ := bcell hb3
  by_cases h3 : r2 < b3
  · rw [szI_no (by rw [← E3.out]; omega)] at he
    subst he
    have bx := Lib.hid (show ¬ (b1 + b2 + b3 + b4 ≤ left) by
      try have := HR1.out
      try have := HR2.out
      omega)
    clear h3
    go_wp2
    go_ret
    exact ⟨by rw [if_neg bx.out]; rfl, (((((Below.refl _ _).alloc (Nat.le_refl _) _).trans (hb1.mono (by simp))).trans (hb2.mono (by omega))).trans (hb3.mono (by omega)))⟩
  obtain ⟨r3, hr3⟩ : ∃ r, b3 + r = r2 := ⟨r2 - b3, by omega⟩
  rw [szI_yes (m := r3) (by rw [← E3.out]; exact hr3)] at he
  subst he
  have hS3 := Lib.hid (hS2.out.below hb3)
  have l3 : r3 ≤ 1048576 := by omega
  have HR3 := Lib.hid hr3
  clear h3 hr3
  go_wp2_with (fail)
  refine (sz_any _ _ _ r3 _ _ l3 (by omega) hS3.out W4.out).mono ?_
  rintro e w4 ⟨he, rfl⟩
  by_cases h4 : r3 < b4
  · have bx := Lib.hid (show ¬ (b1 + b2 + b3 + b4 ≤ left) by have := HR1.out; have := HR2.out; have := HR3.out; omega)
    rw [szI_no (by rw [← E4.out]; omega)] at he
    subst he
    clear h4
    go_wp2
    go_ret
    exact ⟨by rw [if_neg bx.out]; rfl, (((((Below.refl _ _).alloc (Nat.le_refl _) _).trans (hb1.mono (by simp))).trans (hb2.mono (by omega))).trans (hb3.mono (by omega)))⟩
  · obtain ⟨r4, hr4⟩ : ∃ r, b4 + r = r3 := ⟨r3 - b4, by omega⟩
    rw [szI_yes (m := r4) (by rw [← E4.out]; exact hr4)] at he
    subst he
    have bx := Lib.hid (show b1 + b2 + b3 + b4 ≤ left ∧ left - (b1 + b2 + b3 + b4) = r4 by have := HR1.out; have := HR2.out; have := HR3.out; omega)
    clear h4 hr4
    go_wp2
    go_ret
    exact ⟨by rw [if_pos bx.out.1, bx.out.2]; rfl, (((((Below.refl _ _).alloc (Nat.le_refl _) _).trans (hb1.mono (by simp))).trans (hb2.mono (by omega))).trans (hb3.mono (by omega)))⟩

end Go.Proofs.YtiehfobcbhgfkaaDoor.disk
