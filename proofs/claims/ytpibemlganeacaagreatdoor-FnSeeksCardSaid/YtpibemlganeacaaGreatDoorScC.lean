/-
  Contracts of the spec's functions on what is scanned.
-/
import Derived.Test.YtpibemlganeacaaGreatDoorScP
import Derived.Test.YtpibemlganeacaaGreatDoorHdY
namespace Go.Proofs.YtpibemlganeacaaGreatDoor.sc
set_option maxRecDepth 20000
open Go.RowKit
open kit sum num burst hd fr

theorem field_recs (k m : Bool) (v s bb l e : Int) (a a2 : Option Addr) (n c n2 c2 : Nat) (w : World) : (Instr.field 51 (.agg #[.bool k, .int .i64 v, .int .i64 s, .int .i64 bb, .int .i64 l, .slice a n c, .slice a2 n2 c2, .int .i64 e, .bool m]) 2).run Tryz.prog w = .ok (.slice a n c) w := by rfl
theorem field_end (k m : Bool) (v s bb l e : Int) (a a2 : Option Addr) (n c n2 c2 : Nat) (w : World) : (Instr.field 51 (.agg #[.bool k, .int .i64 v, .int .i64 s, .int .i64 bb, .int .i64 l, .slice a n c, .slice a2 n2 c2, .int .i64 e, .bool m]) 4).run Tryz.prog w = .ok (.int .i64 e) w := by rfl
def linkN (b : ByteArray) : Nat := lkL (hdOf b).l.toNat (recs b)
def goesB (b : ByteArray) (base link : Int) : Bool := (rdH b).isSome && (hdOf b).b == base && (hdOf b).l == link
def tailT (b : ByteArray) : ByteArray := b.extract (endN b) b.size
def openB (b : ByteArray) : Bool := (rdH b).isSome && (endN b : Int) == (b.size : Int)
theorem hdOf_link (b : ByteArray) : 0 ≤ (hdOf b).l ∧ (hdOf b).l ≤ 4294967295 := by
  cases e : rdH b with
  | none => rw [hdOf_none e]; exact ⟨by decide, by decide⟩
  | some h =>
    have := okH_is.1 (rdH_some e).2.1
    rw [hdOf_some e]
    omega
theorem hdOf_base (b : ByteArray) : 0 ≤ (hdOf b).b ∧ (hdOf b).b ≤ 1000000000 := by
  cases e : rdH b with
  | none => rw [hdOf_none e]; exact ⟨by decide, by decide⟩
  | some h =>
    have := okH_is.1 (rdH_some e).2.1
    rw [hdOf_some e]
    omega

set_option maxHeartbeats 1000000 in
theorem specRecords (b : ByteArray) (w : World) (hm : b.size ≤ 1048576) :
    Calls Tryz.prog 20 #[.string b] w fun e w' => (∃ v, e = .returned v ∧ w'.ownsRow w.heap.size 9 1 v (recs b).length ((recs b).map Value.string)) ∧ Below w.heap.size w w' := by
  have CS := Lib.hid (fun w => specScan b w hm)

  go_enter Tryz.func20, Tryz.ntmps20
  go_wp2_with fail
  refine (CS.out _).mono ?_
  rintro e w1 ⟨⟨v, rfl, R, O, rfl, oR, oO⟩, b1⟩
  obtain ⟨a, c, rfl, hlen, _, hf⟩ := own_form oR
  obtain ⟨aO, cO, rfl, _, _, _⟩ := own_form oO
  have HO := Lib.hid oR
  have hfd := fun (w : World) => field_recs (rdH b).isSome (marked b) (hdOf b).v (hdOf b).s (hdOf b).b (hdOf b).l (endN b : Int) a aO (recs b).length c (recs b).length cO w
  clear oR oO hf hlen
  go_wp2
  go_ret
  exact ⟨⟨_, rfl, HO.out⟩, b1⟩

end Go.Proofs.YtpibemlganeacaaGreatDoor.sc
