/-
  Contracts of the spec's functions on what is scanned.
-/
import Derived.Test.YtpibemlganeacaaDoorScP
import Derived.Test.YtpibemlganeacaaDoorHdY
namespace Go.Proofs.YtpibemlganeacaaDoor.sc
set_option maxRecDepth 20000
open Go.RowKit
open kit sum num burst hd fr

theorem field_recs (k m : Bool) (v s bb l e : Int) (a a2 : Option Addr) (n c n2 c2 : Nat) (w : World) : (Instr.field 37 (.agg #[.bool k, .int .i64 v, .int .i64 s, .int .i64 bb, .int .i64 l, .slice a n c, .slice a2 n2 c2, .int .i64 e, .bool m]) 2).run Tryd.prog w = .ok (.slice a n c) w := by rfl
theorem field_end (k m : Bool) (v s bb l e : Int) (a a2 : Option Addr) (n c n2 c2 : Nat) (w : World) : (Instr.field 37 (.agg #[.bool k, .int .i64 v, .int .i64 s, .int .i64 bb, .int .i64 l, .slice a n c, .slice a2 n2 c2, .int .i64 e, .bool m]) 4).run Tryd.prog w = .ok (.int .i64 e) w := by rfl
def linkN (b : ByteArray) : Nat := lkL (hdOf b).l.toNat (recs b)
def goesB (b : ByteArray) (base link : Int) : Bool := (rdH b).isSome && (hdOf b).b == base && (hdOf b).l == link
def tailT (b : ByteArray) : ByteArray := b.extract (endN b) b.size
def openB (b : ByteArray) : Bool := (rdH b).isSome && (endN b : Int) == (b.size : Int)
theorem hdOf_link (b : ByteArray) : 0 ≤ (hdOf b).l ∧ (hdOf b).l ≤ 4294967295 := by
  cases e : rdH b with
  | none => rw [hdOf_none e]; exact ⟨by decide, by decide⟩
  | some h =>
    have := okH_is.1 (rdH_some e).2.1
    rw [hdOf_some e]
    omega
theorem hdOf_base (b : ByteArray) : 0 ≤ (hdOf b).b ∧ (hdOf b).b ≤ 1000000000 := by
  cases e : rdH b with
  | none => rw [hdOf_none e]; exact ⟨by decide, by decide⟩
  | some h =>
    have := okH_is.1 (rdH_some e).2.1
    rw [hdOf_some e]
    omega

end Go.Proofs.YtpibemlganeacaaDoor.sc
