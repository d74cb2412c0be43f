/-
  Contracts of the spec's functions on what is scanned.
-/
import Derived.Test.YtiehfobcbhgfkaaDoorScP
import Derived.Test.YtiehfobcbhgfkaaDoorHdL
namespace Go.Proofs.YtiehfobcbhgfkaaDoor.sc
set_option maxRecDepth 20000
open Go.RowKit
open kit sum num burst hd fr

def linkN (b : ByteArray) : Nat := lkL (hdOf b).l.toNat (recs b)
def goesB (b : ByteArray) (base link : Int) : Bool := (rdH b).isSome && (hdOf b).b == base && (hdOf b).l == link
def tailT (b : ByteArray) : ByteArray := b.extract (endN b) b.size
def openB (b : ByteArray) : Bool := (rdH b).isSome && (endN b : Int) == (b.size : Int)
theorem hdOf_link (b : ByteArray) : 0 ≤ (hdOf b).l ∧ (hdOf b).l ≤ 4294967295 := by
  cases e : rdH b with
  | none => rw [hdOf_none e]; exact ⟨by decide, by decide⟩
  | some h =>
    have := okH_is.1 (rdH_some e).2.1
    rw [hdOf_some e]
    omega
theorem hdOf_base (b : ByteArray) : 0 ≤ (hdOf b).b ∧ (hdOf b).b ≤ 1000000000 := by
  cases e : rdH b with
  | none => rw [hdOf_none e]; exact ⟨by decide, by decide⟩
  | some h =>
    have := okH_is.1 (rdH_some e).2.1
    rw [hdOf_some e]
    omega

end Go.Proofs.YtiehfobcbhgfkaaDoor.sc
