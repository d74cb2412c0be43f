/-
  Contracts of spec's heads: HeadOk, HeadText.
-/
import Derived.Test.YtiehfobcbhgfkaaDoorMathX
import Derived.Test.YtiehfobcbhgfkaaDoorNumX
import Derived.Test.YtiehfobcbhgfkaaDoorSumX
import Derived.Test.YtiehfobcbhgfkaaDoorLater
import Derived.Test.YtiehfobcbhgfkaaDoorNumY
import Derived.Deep.RegionHeld3
namespace Go.Proofs.YtiehfobcbhgfkaaDoor.hd
set_option maxRecDepth 20000
open Go.RowKit
open kit sum num burst

/-- the four cells of a box -/
def Four (w : World) (g : Nat) (a b c d : Value) : Prop := g < w.heap.size ∧ w.cell? ⟨g, 0, none⟩ = some a ∧ w.cell? ⟨g, 1, none⟩ = some b ∧ w.cell? ⟨g, 2, none⟩ = some c ∧ w.cell? ⟨g, 3, none⟩ = some d
theorem Four.new (w : World) (a b c d : Value) (t : TypeId) : Four (w.alloc (.cells #[a, b, c, d] t)) w.heap.size a b c d :=
  ⟨by simp, by simp, by simp, by simp, by simp⟩
theorem Four.below {w w' : World} {g : Nat} {a b c d : Value} (h : Four w g a b c d) (hb : Below w.heap.size w w') : Four w' g a b c d :=
  ⟨Nat.lt_of_lt_of_le h.1 hb.size, (hb.cell (p := ⟨g, 0, none⟩) h.1).trans h.2.1, (hb.cell (p := ⟨g, 1, none⟩) h.1).trans h.2.2.1, (hb.cell (p := ⟨g, 2, none⟩) h.1).trans h.2.2.2.1, (hb.cell (p := ⟨g, 3, none⟩) h.1).trans h.2.2.2.2⟩
theorem more_moreI (s : Int) (t : ByteArray) : more s t = moreI s t := rfl
theorem more_zero (t : ByteArray) : more 0 t = sumT t := by
  unfold more sumT sumMore
  rw [show low 0 = 0 from rfl, Nat.zero_xor]

end Go.Proofs.YtiehfobcbhgfkaaDoor.hd

namespace Go.Proofs.YtiehfobcbhgfkaaDoor.hd
set_option maxRecDepth 20000
open Go.RowKit
open kit sum num burst

/-- the fields brought into their limits: a right head's stay as they are -/
theorem br_in {n a b : Int} (h1 : a ≤ n) (h2 : n ≤ b) : br n a b = n := by unfold br; rw [if_neg (by omega), if_neg (by omega)]
theorem br_out {n a b : Int} (hab : a ≤ b) (h : ¬ (a ≤ n ∧ n ≤ b)) : ¬ n = br n a b := by
  unfold br
  split
  · omega
  · split
    · omega
    · omega

end Go.Proofs.YtiehfobcbhgfkaaDoor.hd

namespace Go.Proofs.YtiehfobcbhgfkaaDoor.hd
set_option maxRecDepth 20000
open Go.RowKit
open kit sum num burst

end Go.Proofs.YtiehfobcbhgfkaaDoor.hd

namespace Go.Proofs.YtiehfobcbhgfkaaDoor.hd
set_option maxRecDepth 20000
open Go.RowKit
open kit sum num burst

/-- what is answered of a reading -/
def hdV : Option Hd → Value
  | none => .agg #[.int .i64 0, .int .i64 0, .int .i64 0, .int .i64 0]
  | some h => .agg #[.int .i64 h.v, .int .i64 h.s, .int .i64 h.b, .int .i64 h.l]
def hdR (o : Option Hd) : Value := .tuple #[hdV o, .bool o.isSome]
/-- the parts of a reading in bytes -/
theorem rf1 (b : ByteArray) (a : Nat) (ai : Int) (e : ai = a) (h : a + 1 ≤ b.size) : rfAt b ai 1 = .tuple #[.int .i64 ((valF b a 1 : Nat) : Int), .bool true] := e ▸ rfAt_in b a 1 (by omega) (by omega) h (below8 b a 1 (by omega))
theorem rf4 (b : ByteArray) (a : Nat) (ai : Int) (e : ai = a) (h : a + 4 ≤ b.size) : rfAt b ai 4 = .tuple #[.int .i64 ((valF b a 4 : Nat) : Int), .bool true] := e ▸ rfAt_in b a 4 (by omega) (by omega) h (below8 b a 4 (by omega))
def top (b : ByteArray) : Bool := decide (valF b 8 8 < 9223372036854775808)
def basI (b : ByteArray) : Int := if valF b 8 8 < 9223372036854775808 then ((valF b 8 8 : Nat) : Int) else 0
theorem rf8 (b : ByteArray) (h : 24 ≤ b.size) : rfAt b 8 8 = .tuple #[.int .i64 (basI b), .bool (top b)] := by
  unfold basI top
  by_cases hv : valF b 8 8 < 9223372036854775808
  · rw [if_pos hv, decide_eq_true hv]
    exact rfAt_in b 8 8 (by omega) (by omega) (by omega) hv
  · rw [if_neg hv, decide_eq_false hv]
    exact rfAt_big b 8 8 hv
theorem fields_is (b : ByteArray) : fields b = ⟨(valF b 4 1 : Nat), (valF b 5 1 : Nat), basI b, (valF b 16 4 : Nat)⟩ := rfl

theorem hd_frozen {w w' : World} {g : Nat} (h : ∀ j, w.frozen? ⟨g, j, none⟩ = false) (hg : g < w.heap.size) (hb : Below w.heap.size w w') : ∀ j, w'.frozen? ⟨g, j, none⟩ = false := fun j => (hb.frozen (p := ⟨g, j, none⟩) hg).trans (h j)

end Go.Proofs.YtiehfobcbhgfkaaDoor.hd

namespace Go.Proofs.YtiehfobcbhgfkaaDoor.hd
set_option maxRecDepth 20000
open Go.RowKit
open kit sum num burst

theorem val_one (b : ByteArray) (a : Nat) (h : a < b.size) : valF b a 1 = b[a].toNat := by
  unfold valF
  have e := List.take_add_one (l := nats b a) (i := 0)
  rw [nats_get b a 0 (by omega)] at e
  rw [e]
  simp [val]

end Go.Proofs.YtiehfobcbhgfkaaDoor.hd
