/-
  Contract of impl.HeadText.
-/
import Derived.Test.YtideejpopneplaaHdI
namespace Go.Proofs.Ytideejpopneplaa.hd
set_option maxRecDepth 20000
open Go.RowKit
open kit sum num burst

theorem implFixL (n k : Int) (w : World) : Calls Try.prog 57 #[.int .i64 n, .int .i64 k] w fun e w' => e = .returned (.string (fxI n k)) ∧ Below w.heap.size w w' := implFix_any n k w

end Go.Proofs.Ytideejpopneplaa.hd

namespace Go.Proofs.Ytideejpopneplaa.hd
set_option maxRecDepth 20000
open Go.RowKit
open kit sum num burst

/-- what is answered of a reading -/
def hdV : Option Hd → Value
  | none => .agg #[.int .i64 0, .int .i64 0, .int .i64 0, .int .i64 0]
  | some h => .agg #[.int .i64 h.v, .int .i64 h.s, .int .i64 h.b, .int .i64 h.l]
def hdR (o : Option Hd) : Value := .tuple #[hdV o, .bool o.isSome]
/-- the parts of a reading in bytes -/
theorem rf1 (b : ByteArray) (a : Nat) (ai : Int) (e : ai = a) (h : a + 1 ≤ b.size) : rfAt b ai 1 = .tuple #[.int .i64 ((valF b a 1 : Nat) : Int), .bool true] := e ▸ rfAt_in b a 1 (by omega) (by omega) h (below8 b a 1 (by omega))
theorem rf4 (b : ByteArray) (a : Nat) (ai : Int) (e : ai = a) (h : a + 4 ≤ b.size) : rfAt b ai 4 = .tuple #[.int .i64 ((valF b a 4 : Nat) : Int), .bool true] := e ▸ rfAt_in b a 4 (by omega) (by omega) h (below8 b a 4 (by omega))
def top (b : ByteArray) : Bool := decide (valF b 8 8 < 9223372036854775808)
def basI (b : ByteArray) : Int := if valF b 8 8 < 9223372036854775808 then ((valF b 8 8 : Nat) : Int) else 0
theorem rf8 (b : ByteArray) (h : 24 ≤ b.size) : rfAt b 8 8 = .tuple #[.int .i64 (basI b), .bool (top b)] := by
  unfold basI top
  by_cases hv : valF b 8 8 < 9223372036854775808
  · rw [if_pos hv, decide_eq_true hv]
    exact rfAt_in b 8 8 (by omega) (by omega) (by omega) hv
  · rw [if_neg hv, decide_eq_false hv]
    exact rfAt_big b 8 8 hv
theorem fields_is (b : ByteArray) : fields b = ⟨(valF b 4 1 : Nat), (valF b 5 1 : Nat), basI b, (valF b 16 4 : Nat)⟩ := rfl

theorem zero_cells (w : World) : Four (w.alloc (.cells #[.int .i64 0, .int .i64 0, .int .i64 0, .int .i64 0] 42)) w.heap.size (.int .i64 0) (.int .i64 0) (.int .i64 0) (.int .i64 0) := Four.new w _ _ _ _ _
theorem hd_frozen {w w' : World} {g : Nat} (h : ∀ j, w.frozen? ⟨g, j, none⟩ = false) (hg : g < w.heap.size) (hb : Below w.heap.size w w') : ∀ j, w'.frozen? ⟨g, j, none⟩ = false := fun j => (hb.frozen (p := ⟨g, j, none⟩) hg).trans (h j)

end Go.Proofs.Ytideejpopneplaa.hd

namespace Go.Proofs.Ytideejpopneplaa.hd
set_option maxRecDepth 20000
open Go.RowKit
open kit sum num burst

theorem val_one (b : ByteArray) (a : Nat) (h : a < b.size) : valF b a 1 = b[a].toNat := by
  unfold valF
  have e := List.take_add_one (l := nats b a) (i := 0)
  rw [nats_get b a 0 (by omega)] at e
  rw [e]
  simp [val]

end Go.Proofs.Ytideejpopneplaa.hd
