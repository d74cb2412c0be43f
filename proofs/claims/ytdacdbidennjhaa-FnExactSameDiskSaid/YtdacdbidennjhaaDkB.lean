/-
  Contracts of spec's disks: NodeAt, UsedOn, FileNames, ReadFile.
-/
import Derived.Test.YtdacdbidennjhaaDkA
namespace Go.Proofs.Ytdacdbidennjhaa.disk
open Go.RowKit
open kit strs recs

def nodeV : Option Nod → Value
  | none => .agg #[.int .i64 0, .string { data := #[] }, .int .i64 0]
  | some n => .agg #[.int .i64 n.1, .string n.2.1, .int .i64 n.2.2]
def nodeR (o : Option Nod) : Value := .tuple #[nodeV o, .bool o.isSome]
theorem nodeV_form (o : Option Nod) : ∃ (i : Int) (s : ByteArray) (j : Int), nodeV o = .agg #[.int .i64 i, .string s, .int .i64 j] := by
  cases o with
  | none => exact ⟨_, _, _, rfl⟩
  | some n => exact ⟨_, _, _, rfl⟩
theorem disk_box {w : World} {v : Value} {d : D} (h : IsDisk w v d) (t : TypeId) : ∃ cs : Array Value, v = .agg cs ∧ IsDisk (w.alloc (.cells cs t)) v d := by
  have hb := h
  obtain ⟨aN, aE, aO, aS, n, cN, nE, cE, nO, cO, nS, cS, rfl, _⟩ := h
  exact ⟨_, rfl, hb.below ((Below.refl _ _).alloc (Nat.le_refl _) _)⟩

def textR (o : Option Nod) : ByteArray := match o with | none => { data := #[] } | some n => n.2.1
theorem nodeV_text (o : Option Nod) : ∃ i j, nodeV o = .agg #[.int .i64 i, .string (textR o), .int .i64 j] := by
  cases o with
  | none => exact ⟨_, _, rfl⟩
  | some n => exact ⟨_, _, rfl⟩
/-- a list of texts in memory of its own -/
def OwnStrs (B : Nat) (w : World) (v : Value) (xs : List ByteArray) : Prop := ∃ n, w.ownsRow B 9 1 v n (xs.map Value.string)
def NamesR (d : D) (w : World) (e : Ending) (w' : World) : Prop := ∃ v, e = .returned v ∧ OwnStrs w.heap.size w' v (names d.ents) ∧ Below w.heap.size w w'
end Go.Proofs.Ytdacdbidennjhaa.disk
