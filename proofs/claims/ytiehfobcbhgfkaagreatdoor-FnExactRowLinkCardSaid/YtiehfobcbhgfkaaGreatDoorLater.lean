/-
  A region that draws its order, whose own operations only read and whose callees leave all old memory as it was: one walk of the lexical order serves every order.
-/
import Derived.Test.YtiehfobcbhgfkaaGreatDoorKit
import Derived.Deep.QuietTactic
import Derived.BigQuiet
namespace Go.Proofs.YtiehfobcbhgfkaaGreatDoor.kit
set_option maxRecDepth 20000
open Go.RowKit

/-- a world in which all that was there in W is as it was -/
def Later (W : World) := { w' : World // Below W.heap.size W w' }
instance laterSome (W : World) : Nonempty (Later W) := ⟨⟨W, Below.refl _ _⟩⟩
theorem wp_region_later {P : Program} {id : Nat} {Q : Exit → Act → World → Prop} {a : Act} {W : World} {l : List Oper} (hm : P.follows .mixedOrders = true) (hB : Region.lexB .any l.toArray = true)
    (h : wpQuiet P l.toArray (fun w' => ∃ x : Later W, w' = x.val) (fun a' => ∀ w', (∃ x : Later W, w' = x.val) → Q .normal a' w') l a) : (Code.region id l.toArray true).wp P Q a W :=
  wp_region_quiet (C := fun w' => ∃ x : Later W, w' = x.val) hm hB ⟨⟨_, (Below.refl W.heap.size W).drew⟩, rfl⟩ (by simpa using h)
theorem Later.cell {W : World} {g i : Nat} {v : Value} (h : W.cell? ⟨g, i, none⟩ = some v) (hg : g < W.heap.size) : ∀ x : Later W, x.val.cell? ⟨g, i, none⟩ = some v := fun x => (x.2.cell (p := ⟨g, i, none⟩) hg).trans h
/-- a contract met in a later world -/
theorem Calls.later {P : Program} {f : FuncId} {args : Array Value} {W : World} {v : Value} {x : Later W} (h : Calls P f args x.val fun e w' => e = .returned v ∧ Below x.val.heap.size x.val w') :
    Calls P f args x.val fun e w'' => e = .returned v ∧ ∃ y : Later W, w'' = y.val :=
  h.mono fun _ w'' ⟨h1, h2⟩ => ⟨h1, ⟨w'', x.2.trans (h2.mono x.2.size)⟩, rfl⟩
theorem Calls.later_same {P : Program} {f : FuncId} {args : Array Value} {W : World} {v : Value} {x : Later W} (h : Calls P f args x.val fun e w' => e = .returned v ∧ x.val = w') :
    Calls P f args x.val fun e w'' => e = .returned v ∧ ∃ y : Later W, w'' = y.val :=
  h.mono fun _ _ ⟨h1, h2⟩ => ⟨h1, x, h2.symm⟩

end Go.Proofs.YtiehfobcbhgfkaaGreatDoor.kit
