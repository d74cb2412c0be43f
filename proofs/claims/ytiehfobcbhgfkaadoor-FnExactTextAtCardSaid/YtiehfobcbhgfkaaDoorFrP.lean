/-
  Contracts of spec's frames: FrameText, FrameSize, EndMark.
-/
import Derived.Test.YtiehfobcbhgfkaaDoorMathX
import Derived.Test.YtiehfobcbhgfkaaDoorNumX
import Derived.Test.YtiehfobcbhgfkaaDoorSumX
namespace Go.Proofs.YtiehfobcbhgfkaaDoor.fr
set_option maxRecDepth 20000
open Go.RowKit
open kit sum num burst hd

theorem sum_zero (t : ByteArray) : more 0 t = sumT t := by
  unfold more sumT sumMore
  rw [show low 0 = 0 from rfl, Nat.zero_xor]
/-- what is not right -/
theorem okV_bad {v p : Int} (h : okV v p = false) : (v < 1 ∨ 2 < v) ∨ (1 ≤ v ∧ v ≤ 2 ∧ (p < 0 ∨ 1000000000 < p)) := by
  have := okV_no.1 h
  omega

end Go.Proofs.YtiehfobcbhgfkaaDoor.fr

namespace Go.Proofs.YtiehfobcbhgfkaaDoor.fr
set_option maxRecDepth 20000
open Go.RowKit
open kit sum num burst hd

/-- what is answered of a reading -/
def frR : Option (ByteArray × Nat) → Value
  | none => .tuple #[.string { data := #[] }, .int .i64 0, .bool false]
  | some x => .tuple #[.string x.1, .int .i64 (x.2 : Int), .bool true]
theorem frR_form (o : Option (ByteArray × Nat)) : ∃ (t : ByteArray) (q : Int) (k : Bool), frR o = .tuple #[.string t, .int .i64 q, .bool k] := by
  cases o with
  | none => exact ⟨_, _, _, rfl⟩
  | some x => exact ⟨_, _, _, rfl⟩
/-- the first reading, as it is used -/
theorem len_old {b : ByteArray} {a : Nat} : (lenF 1 b a = none ∧ rvAt b (a : Int) = no2) ∨ ∃ n m : Nat, lenF 1 b a = some (n, a + m) ∧ m ≤ 5 ∧ n ≤ 1000000000 ∧ rvAt b (a : Int) = .tuple #[.int .i64 (n : Int), .int .i64 ((a + m : Nat) : Int), .bool true] := by
  cases h : rv (nats b a) with
  | none => exact .inl ⟨by unfold lenF; rw [if_pos rfl, h]; rfl, rvAt_none b a h⟩
  | some x =>
    obtain ⟨n, m⟩ := x
    obtain ⟨h1, h2, h3⟩ := rv_some h
    refine .inr ⟨n, m, by unfold lenF; rw [if_pos rfl, h]; rfl, by have := vb_length 4 n; omega, h2, rvAt_some b a n m h⟩
theorem rv_any (b : ByteArray) (a : Int) : ∃ (n q : Int) (k : Bool), rvAt b a = .tuple #[.int .i64 n, .int .i64 q, .bool k] := by
  unfold rvAt
  split
  · split
    · exact ⟨_, _, _, rfl⟩
    · exact ⟨_, _, _, rfl⟩
  · exact ⟨_, _, _, rfl⟩
theorem len_new {b : ByteArray} {a : Nat} : (lenF 2 b a = none ∧ rfAt b (a : Int) 4 = no1) ∨ ∃ n : Nat, lenF 2 b a = some (n, a + 8) ∧ n < 4294967296 ∧ rfAt b (a : Int) 4 = .tuple #[.int .i64 (n : Int), .bool true] := by
  have e2 : ¬ (2 : Int) = 1 := by decide
  by_cases h : a + 4 ≤ b.size
  · have h4 := val_lt ((nats b a).take 4) fun c hc => nats_byte b a c (List.mem_of_mem_take hc)
    have hl : ((nats b a).take 4).length = 4 := by rw [List.length_take, nats_length]; omega
    have e4 : (256 : Nat) ^ 4 = 4294967296 := by decide
    rw [hl, e4] at h4
    refine .inr ⟨valF b a 4, by unfold lenF; rw [if_neg e2, if_pos h], h4, rfAt_in b a 4 (by omega) (by omega) h (below8 b a 4 (by omega))⟩
  · refine .inl ⟨by unfold lenF; rw [if_neg e2, if_neg h], rfAt_out b a 4 (by omega)⟩
theorem rdN_none {v p : Int} {b : ByteArray} {a : Nat} (h : lenF v b a = none) : rdN v p b a = none := by unfold rdN; rw [h]
theorem rdN_no {v p : Int} {b : ByteArray} {a n q : Nat} (h : lenF v b a = some (n, q)) (hc : ¬ (n ≤ 60 ∧ q + n ≤ b.size ∧ a + (frT v p (b.extract q (q + n))).size ≤ b.size ∧ b.extract a (a + (frT v p (b.extract q (q + n))).size) = frT v p (b.extract q (q + n)))) : rdN v p b a = none := by
  unfold rdN
  rw [h]
  exact if_neg hc
theorem rdN_yes {v p : Int} {b : ByteArray} {a n q : Nat} (h : lenF v b a = some (n, q)) (hc : n ≤ 60 ∧ q + n ≤ b.size ∧ a + (frT v p (b.extract q (q + n))).size ≤ b.size ∧ b.extract a (a + (frT v p (b.extract q (q + n))).size) = frT v p (b.extract q (q + n))) : rdN v p b a = some (b.extract q (q + n), a + (frT v p (b.extract q (q + n))).size) := by
  unfold rdN
  rw [h]
  exact if_pos hc

end Go.Proofs.YtiehfobcbhgfkaaDoor.fr
