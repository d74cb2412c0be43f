/-
  Contracts of the draws of the sums' arguments: any number, a text of at most 39 bytes.
-/
import Derived.Test.YthnpeecfianplaaDrawT
namespace Go.Proofs.Ythnpeecfianplaa.draw
open Go.RowKit
open kit

/-- any number -/
def PostI (c : Nat) (a : Option Addr) (len cap : Nat) (w : World) (e : Ending) (w' : World) : Prop :=
  (∃ x : Int, e = .returned (.int .i64 x)) ∧ Cur w' c a len cap ∧ w.grownBy w' (some c)
/-- a text of at most 39 bytes -/
def PostOf (w : World) (e : Ending) (w' : World) : Prop := (∃ s : ByteArray, s.size ≤ 39 ∧ e = .returned (.string s)) ∧ Below w.heap.size w w'
theorem below_of (w w1 w2 : World) (b1 : Below w.heap.size w w1) (g : w1.grownBy w2 (some w.heap.size)) : Below w.heap.size w w2 :=
  b1.grown g b1.size (fun k hk => by injection hk with hk; omega)
/-- a number, and such a text -/
def PostMore (w : World) (e : Ending) (w' : World) : Prop := (∃ (x : Int) (s : ByteArray), s.size ≤ 39 ∧ e = .returned (.tuple #[.int .i64 x, .string s])) ∧ Below w.heap.size w w'
end Go.Proofs.Ythnpeecfianplaa.draw
