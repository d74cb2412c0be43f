/-
  Contract of spec.ReadPlaces.
-/
import Derived.Test.YtpibemlganeacaaGreatDoorPlP
import Derived.Test.YtpibemlganeacaaGreatDoorAppB
namespace Go.Proofs.YtpibemlganeacaaGreatDoor.pl
set_option maxRecDepth 20000
open Go.RowKit
open kit sum num burst hd fr recs sc

/-- what is answered of a reading of places -/
def RdP (o : Option (List Plc × Nat)) (w : World) (e : Ending) (w' : World) : Prop :=
  (∃ v, e = .returned (.tuple #[v, .int .i64 ((match o with | none => 0 | some x => x.2 : Nat) : Int), .bool o.isSome]) ∧ OwnP w.heap.size w' v (match o with | none => [] | some x => x.1)) ∧ Below w.heap.size w w'
theorem RdP.no {o : Option (List Plc × Nat)} {w w' : World} {v : Value} (h : o = none) (hv : OwnP w.heap.size w' v []) (hb : Below w.heap.size w w') : RdP o w (.returned (.tuple #[v, .int .i64 0, .bool false])) w' := by
  subst h
  exact ⟨⟨v, rfl, hv⟩, hb⟩
theorem RdP.yes {o : Option (List Plc × Nat)} {w w' : World} {v : Value} {xs : List Plc} {q : Nat} (h : o = some (xs, q)) (hv : OwnP w.heap.size w' v xs) (hb : Below w.heap.size w w') : RdP o w (.returned (.tuple #[v, .int .i64 (q : Int), .bool true])) w' := by
  subst h
  exact ⟨⟨v, rfl, hv⟩, hb⟩
theorem rv_in {b : ByteArray} {a n m : Nat} (h : rv (nats b a) = some (n, m)) : a + m ≤ b.size ∧ n ≤ 1000000000 ∧ m ≤ 5 := by
  obtain ⟨h1, h2, h3⟩ := rv_some h
  have h4 := (rd_len 5 _ _ _ h1).1
  have h5 := (rd_len 5 _ _ _ h1).2
  rw [nats_length] at h4
  exact ⟨by omega, h2, by omega⟩

theorem own_setBox {w : World} {B size g j : Nat} {e : TypeId} {v : Value} {n : Nat} {xs : List Value} {u : Value} (h : w.ownsRow B e size v n xs) (hg : ∀ q, v.ownBlock = some q → q ≠ g) : (w.setCell ⟨g, j, none⟩ u).ownsRow B e size v n xs := own_setOther h g j u fun e => hg g e rfl

end Go.Proofs.YtpibemlganeacaaGreatDoor.pl
