/-
  Disks: what a value of such a struct holds; copies, equality, marks, how much.
-/
import Derived.Test.YtdacdbidennjhaaRecR
namespace Go.Proofs.Ytdacdbidennjhaa.disk
open Go.ChangeShapes Go.WideShapes Go.RowKit Go.Deep
open kit strs recs

structure D where
  nodes : List Nod
  ents : List Ent
  old : List Ent
  steps : List ByteArray
  room : Int
  next : Int
/-- a value that holds this disk -/
def IsDisk (w : World) (v : Value) (d : D) : Prop :=
  ∃ (aN aE aO aS : Option Addr) (nN cN nE cE nO cO nS cS : Nat), v = .agg #[.slice aN nN cN, .slice aE nE cE, .slice aO nO cO, .slice aS nS cS, .int .i64 d.room, .int .i64 d.next] ∧
    AtN w aN nN d.nodes ∧ AtE w aE nE d.ents ∧ AtE w aO nO d.old ∧ At w aS nS d.steps
theorem IsDisk.below {w w' : World} {v : Value} {d : D} (h : IsDisk w v d) (hb : Below w.heap.size w w') : IsDisk w' v d := by
  obtain ⟨aN, aE, aO, aS, nN, cN, nE, cE, nO, cO, nS, cS, h0, h1, h2, h3, h4⟩ := h
  exact ⟨aN, aE, aO, aS, nN, cN, nE, cE, nO, cO, nS, cS, h0, h1.below hb, h2.below hb, h3.below hb, h4.below hb⟩
/-- its numbers are numbers, its texts and lists no longer than can be -/
def wfD (d : D) : Prop := wfN d.nodes ∧ wfE d.ents ∧ wfE d.old ∧ (∀ s ∈ d.steps, s.size ≤ maxLen) ∧ wfI d.room ∧ wfI d.next ∧ d.nodes.length ≤ maxLen ∧ d.ents.length ≤ maxLen ∧ d.old.length ≤ maxLen ∧ d.steps.length ≤ maxLen
/-- how much it is -/
def bulkN (d : D) : Nat := (d.nodes.map (·.2.1)).length + tot (d.nodes.map (·.2.1))
def bulkE (xs : List Ent) : Nat := (xs.map (·.1)).length + tot (xs.map (·.1))
def bulk (d : D) : Nat := bulkN d + bulkE d.ents + bulkE d.old + (d.steps.length + tot d.steps)

section
variable {H : Type} {enc : TypeId × Value → H} {w : World} {spare : Nat → Bool} {held : Bool}
theorem field1 {P : Program} {fs : Array Field} {n : Nat} {cs : List Value} {xs : List (DataW H × List MemPlace)} (hg : ∀ (i : Nat) (f : Field), fs[i]? = some f → DataW.trod enc P w 0 spare held n f.type ((cs.drop f.offset).take (P.cellsOf f.type)) = xs[i]?)
    (i : Nat) (f : Field) (hf : fs[i]? = some f) (ho : f.offset = i) (hc : P.cellsOf f.type = 1) (c : Value) (hcs : cs[i]? = some c) : DataW.trod enc P w 0 spare held n f.type [c] = xs[i]? := by
  have h := hg i f hf
  obtain ⟨h1, h2⟩ := List.getElem?_eq_some_iff.1 hcs
  rw [ho, hc, List.drop_eq_getElem_cons h1, h2] at h
  exact h
set_option maxRecDepth 1000000 in
theorem rd_D {r : Reach} {b0 : Nat} {v : Value} {d : DataW H} {p : List MemPlace} (hv : Value.okWide Try.prog w r b0 26 v) (h : DataW.Trod enc Try.prog w 0 spare held 26 v d p) :
    ∃ x : D, IsDisk w v x ∧ wfD x := by
  obtain ⟨cs, rfl, hsz⟩ := okWide_struct Try.underlying26 hv
  have h6 : Try.prog.cellsOf 26 = 6 := by kernel_rfl
  rw [h6] at hsz
  obtain ⟨l⟩ := cs
  match l, hsz with
  | [c0, c1, c2, c3, c4, c5], _ =>
    obtain ⟨fuel, hf⟩ := h
    obtain ⟨xs, n, _, _, _, hlen, hg⟩ := DataW.trod_struct Try.underlying26 hf
    match xs, hlen with
    | [y0, y1, y2, y3, y4, y5], _ =>
      have e0 : Try.prog.cellsOf 22 = 1 := by kernel_rfl
      have e1 : Try.prog.cellsOf 23 = 1 := by kernel_rfl
      have e2 : Try.prog.cellsOf 24 = 1 := by kernel_rfl
      have e3 : Try.prog.cellsOf 3 = 1 := by kernel_rfl
      have g0 : DataW.trod enc Try.prog w 0 spare held n 22 [c0] = some y0 := field1 hg 0 _ rfl rfl e0 c0 rfl
      have g1 : DataW.trod enc Try.prog w 0 spare held n 23 [c1] = some y1 := field1 hg 1 _ rfl rfl e1 c1 rfl
      have g2 : DataW.trod enc Try.prog w 0 spare held n 23 [c2] = some y2 := field1 hg 2 _ rfl rfl e1 c2 rfl
      have g3 : DataW.trod enc Try.prog w 0 spare held n 24 [c3] = some y3 := field1 hg 3 _ rfl rfl e2 c3 rfl
      have g4 : DataW.trod enc Try.prog w 0 spare held n 3 [c4] = some y4 := field1 hg 4 _ rfl rfl e3 c4 rfl
      have g5 : DataW.trod enc Try.prog w 0 spare held n 3 [c5] = some y5 := field1 hg 5 _ rfl rfl e3 c5 rfl
      obtain ⟨aN, nN, cN, zN, rfl_N, mN, hN, wN⟩ := rd_N (P := Try.prog) Try.underlying22 Try.underlying49 (by kernel_rfl) rfl rfl rfl (by kernel_rfl) (by kernel_rfl) (by kernel_rfl) (by kernel_rfl) (by kernel_rfl) (by kernel_rfl) g0
      obtain ⟨aE, nE, cE, zE, rfl_E, mE, hE, wE⟩ := rd_E (P := Try.prog) Try.underlying23 Try.underlying51 (by kernel_rfl) rfl rfl (by kernel_rfl) (by kernel_rfl) (by kernel_rfl) (by kernel_rfl) g1
      obtain ⟨aO, nO, cO, zO, rfl_O, mO, hO, wO⟩ := rd_E (P := Try.prog) Try.underlying23 Try.underlying51 (by kernel_rfl) rfl rfl (by kernel_rfl) (by kernel_rfl) (by kernel_rfl) (by kernel_rfl) g2
      obtain ⟨aS, nS, cS, zS, rfl_S, mS, hS, wS⟩ := rd_S (P := Try.prog) Try.underlying24 Try.underlying9 (by kernel_rfl) g3
      obtain ⟨r0, e4, _, w4⟩ := DataW.trod_int Try.underlying3 g4
      obtain ⟨r1, e5, _, w5⟩ := DataW.trod_int Try.underlying3 g5
      simp only [List.cons.injEq, and_true] at rfl_N rfl_E rfl_O rfl_S e4 e5
      subst rfl_N rfl_E rfl_O rfl_S e4 e5
      refine ⟨⟨zN, zE, zO, zS, r0, r1⟩, ⟨aN, aE, aO, aS, nN, cN, nE, cE, nO, cO, nS, cS, rfl, hN, hE, hO, hS⟩, wN, wE, wO, wS, wfI_of w4, wfI_of w5, ?_, ?_, ?_, ?_⟩
      · show zN.length ≤ maxLen; rw [hN.len]; exact mN
      · show zE.length ≤ maxLen; rw [hE.len]; exact mE
      · show zO.length ≤ maxLen; rw [hO.len]; exact mO
      · show zS.length ≤ maxLen; rw [hS.1]; exact mS
end

/-! ### what a call leaves alone -/
/-- all blocks but those of S stay as they were -/
structure Only (w w' : World) (S : Nat → Prop) : Prop where
  os : w'.os = w.os
  tape : w'.tape = w.tape
  output : w'.output = w.output
  size : w.heap.size ≤ w'.heap.size
  block : ∀ k, k < w.heap.size → ¬ S k → w'.heap[k]? = w.heap[k]?
theorem Only.of_below {w w' : World} {S : Nat → Prop} (h : Below w.heap.size w w') : Only w w' S := ⟨h.os, h.tape, h.output, h.size, fun k hk _ => h.block k hk⟩
theorem Only.of_grown {w w' : World} {S : Nat → Prop} {row : Option Nat} (h : w.grownBy w' row) (hs : ∀ k, row = some k → S k) : Only w w' S :=
  ⟨h.os, h.tape, h.output, h.size, fun k hk hn => h.block k hk (fun e => hn (hs k e.symm))⟩
theorem Only.trans {a b c : World} {S : Nat → Prop} (h : Only a b S) (k : Only b c S) : Only a c S :=
  ⟨k.os.trans h.os, k.tape.trans h.tape, k.output.trans h.output, Nat.le_trans h.size k.size, fun i hi hn => (k.block i (Nat.lt_of_lt_of_le hi h.size) hn).trans (h.block i hi hn)⟩
theorem Only.imp {w w' : World} {S T : Nat → Prop} (h : Only w w' S) (hs : ∀ k, S k → T k) : Only w w' T := ⟨h.os, h.tape, h.output, h.size, fun k hk hn => h.block k hk (fun hS => hn (hs k hS))⟩
theorem Only.below {B : Nat} {w w' : World} {S : Nat → Prop} (h : Only w w' S) (hB : B ≤ w.heap.size) (hs : ∀ k, S k → B ≤ k) : Below B w w' :=
  ⟨h.os, h.tape, h.output, h.size, fun k hk => h.block k (by omega) (fun hS => by have := hs k hS; omega)⟩
/-- the blocks of the rows that a value leads to -/
def rows : Value → Nat → Prop
  | .agg cs, k => ∃ u ∈ cs.toList, u.ownBlock = some k
  | v, k => v.ownBlock = some k
theorem rows_slice {a : Option Addr} {n c k : Nat} : rows (.slice a n c) k = ((Value.slice a n c).ownBlock = some k) := rfl
theorem own_only {w w' : World} {B size : Nat} {e : TypeId} {v : Value} {n : Nat} {xs : List Value} {S : Nat → Prop} (h : w.ownsRow B e size v n xs) (o : Only w w' S) (hs : ∀ k, v.ownBlock = some k → ¬ S k) : w'.ownsRow B e size v n xs := by
  refine ⟨h.1, ?_⟩
  rcases h.2 with hn | ⟨g, cap, cur, rfl, hB, hh, rest⟩
  · exact .inl hn
  · exact .inr ⟨g, cap, cur, rfl, hB, by rw [o.block g (Array.getElem?_eq_some_iff.1 hh).1 (hs g rfl)]; exact hh, rest⟩
/-- a struct that lies in a block of its own -/
def Box (w : World) (g : Nat) (cs : List Value) : Prop := g < w.heap.size ∧ ∀ i v, cs[i]? = some v → w.cell? ⟨g, i, none⟩ = some v
theorem Box.new (w : World) (cs : Array Value) (t : TypeId) : Box (w.alloc (.cells cs t)) w.heap.size cs.toList :=
  ⟨by simp, fun i v h => by rw [cell_of_row _ _ _ _ _ _ (heap_alloc_new w _)]; simpa using h⟩
theorem Box.below {w w' : World} {g : Nat} {cs : List Value} (h : Box w g cs) (hb : Below w.heap.size w w') : Box w' g cs :=
  ⟨Nat.lt_of_lt_of_le h.1 hb.size, fun i v hi => (hb.cell (p := ⟨g, i, none⟩) h.1).trans (h.2 i v hi)⟩
theorem Box.only {w w' : World} {g : Nat} {cs : List Value} {S : Nat → Prop} (h : Box w g cs) (o : Only w w' S) (hg : ¬ S g) : Box w' g cs := by
  refine ⟨Nat.lt_of_lt_of_le h.1 o.size, fun i v hi => ?_⟩
  rw [← h.2 i v hi]
  unfold World.cell?
  rw [o.block g h.1 hg]
theorem Box.at {w : World} {g : Nat} {cs : List Value} (h : Box w g cs) (i : Nat) (v : Value) (hi : cs[i]? = some v) : w.cell? ⟨g, i, none⟩ = some v := h.2 i v hi

end Go.Proofs.Ytdacdbidennjhaa.disk
