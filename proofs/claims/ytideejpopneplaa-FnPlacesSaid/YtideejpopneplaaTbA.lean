/-
  Contract of spec.TurnBits.
-/
import Derived.Test.YtideejpopneplaaMathX
import Derived.Test.YtideejpopneplaaNumX
import Derived.Test.YtideejpopneplaaSumX
import Derived.Laws.IdiomStrings
import Derived.Lib.BufferMore
namespace Go.Proofs.Ytideejpopneplaa.burst
set_option maxRecDepth 20000
open Go.RowKit
open kit sum num

/-! ### plain facts -/
/-- the lowest 32 bits, bit by bit -/
theorem low_bit (x : Int) (i : Nat) (hi : i < 32) : x / 2 ^ i % 2 = 1 ↔ (low x).testBit i = true := by
  obtain ⟨k, hk⟩ : ∃ k, 32 = i + (k + 1) := ⟨31 - i, by omega⟩
  have hp : (0 : Int) < 2 ^ i := Int.pow_pos (by decide)
  have h32 : (4294967296 : Int) = 2 ^ i * (2 * 2 ^ k) := by
    have h1 : (4294967296 : Int) = 2 ^ 32 := by decide
    rw [h1, hk, Int.pow_add, Int.pow_succ]
    rw [Int.mul_comm (2 ^ k) 2]
  have hx : x = x % 4294967296 + 2 ^ i * (2 * (2 ^ k * (x / 4294967296))) := by
    have h1 := Int.emod_add_mul_ediv x 4294967296
    rw [h32, Int.mul_assoc, Int.mul_assoc, ← h32] at h1
    exact h1.symm
  have h1 : x / 2 ^ i % 2 = (x % 4294967296) / 2 ^ i % 2 := by
    conv => lhs; rw [hx]
    rw [Int.add_mul_ediv_left _ _ (by omega), Int.add_mul_emod_self_left]
  rw [h1, low_eq, Nat.testBit_eq_decide_div_mod_eq, decide_eq_true_iff]
  have e : ((low x : Nat) : Int) / 2 ^ i = ((low x / 2 ^ i : Nat) : Int) := by push_cast; rfl
  rw [e]
  omega
theorem shl_one (t : Nat) (h : t < 8) : Op.shift .shl .u8 1 .u64 (t : Int) = pure (.int .u8 ((2 ^ t : Nat) : Int)) := by
  rw [shift_shl .u8 .u64 1 (t : Int) (by omega) (by show _ ≤ (8 : Int); omega), Int.toNat_natCast]
  have h2 : 2 ^ t < 256 := by
    have := Nat.pow_lt_pow_right (show 1 < 2 by omega) h
    have e : (2 : Nat) ^ 8 = 256 := by decide
    omega
  have e : (1 : Int) * 2 ^ t = ((2 ^ t : Nat) : Int) := by rw [Int.one_mul]; push_cast; rfl
  have e2 : IntKind.u8.wrap ((2 ^ t : Nat) : Int) = ((2 ^ t : Nat) : Int) := by
    obtain ⟨q, hq⟩ : ∃ q, 2 ^ t = q := ⟨_, rfl⟩
    rw [hq] at h2 ⊢
    rw [IntKind.wrap_u8]
    omega
  rw [e, e2]
theorem pow_byte (t : Nat) (h : t < 8) : 2 ^ t < 256 := by
  have := Nat.pow_lt_pow_right (show 1 < 2 by omega) h
  have e : (2 : Nat) ^ 8 = 256 := by decide
  omega

/-- a row of bytes in block b, whatever is behind -/
def Rw (w : World) (b : Nat) (xs : List Nat) : Prop :=
  ∃ (C : Array Value) (k : Nat), w.heap[b]? = some (.cells C 5 (k, k + 1)) ∧ xs.length ≤ k ∧ xs.length ≤ C.size ∧ ∀ (j x : Nat), xs[j]? = some x → C[j]? = some (Value.int .u8 (x : Int))
theorem Rw.lt {w : World} {b : Nat} {xs : List Nat} (h : Rw w b xs) : b < w.heap.size := by
  obtain ⟨C, k, h1, _⟩ := h
  exact (Array.getElem?_eq_some_iff.1 h1).1
theorem Rw.cell {w : World} {b j x : Nat} {xs : List Nat} (h : Rw w b xs) (hx : xs[j]? = some x) : w.cell? ⟨b, j, none⟩ = some (.int .u8 (x : Int)) := by
  obtain ⟨C, k, h1, _, _, h4⟩ := h
  rw [cell_of_row w b j C 5 _ h1]
  exact h4 j x hx
theorem Rw.frozen {w : World} {b j : Nat} {xs : List Nat} (h : Rw w b xs) (hj : j < xs.length) : w.frozen? ⟨b, j, none⟩ = false := by
  obtain ⟨C, k, h1, h2, _⟩ := h
  unfold World.frozen?
  rw [h1]
  simp
  omega
theorem Rw.set {w : World} {b j x : Nat} {xs : List Nat} (h : Rw w b xs) (hj : j < xs.length) : Rw (w.setCell ⟨b, j, none⟩ (.int .u8 (x : Int))) b (xs.set j x) := by
  obtain ⟨C, k, h1, h2, h3, h4⟩ := h
  refine ⟨C.setIfInBounds j (.int .u8 (x : Int)), k, Go.Lib.heap_setCell_same h1 _, by rw [List.length_set]; exact h2, by rw [List.length_set, Array.size_setIfInBounds]; exact h3, fun i y hy => ?_⟩
  rw [Array.getElem?_setIfInBounds]
  rw [List.getElem?_set] at hy
  by_cases e : j = i
  · rw [if_pos e] at hy ⊢
    rw [if_pos hj] at hy
    rw [if_pos (by omega)]
    obtain rfl : x = y := by simpa using hy
    rfl
  · rw [if_neg e] at hy ⊢
    exact h4 i y hy
theorem Rw.new (w : World) (s : ByteArray) (cap : Nat) : Rw (w.drew.alloc (.cells (bytesRow s cap) 5 ((bytesRow s cap).size, (bytesRow s cap).size + 1))) w.heap.size (nats s 0) := by
  have hl : (nats s 0).length = s.size := by rw [nats_length]; omega
  have hs : s.size ≤ (bytesRow s cap).size := by
    unfold bytesRow
    rw [Array.size_append, Array.size_map]
    show s.data.size ≤ _
    omega
  refine ⟨_, _, ?_, by rw [hl]; exact hs, by rw [hl]; exact hs, fun j x hx => ?_⟩
  · show (w.heap.push _)[w.heap.size]? = _
    simp
  · have hj : j < s.size := by have := (List.getElem?_eq_some_iff.1 hx).1; omega
    have h2 := nats_get s 0 j (by omega)
    rw [h2] at hx
    unfold bytesRow
    rw [Array.getElem?_append_left (by rw [Array.size_map]; exact hj), Array.getElem?_map, Array.getElem?_eq_getElem (by exact hj)]
    simp only [Option.some.injEq] at hx
    rw [← hx]
    simp only [Nat.zero_add]
    rfl

/-- what is answered -/
def turnI (b : ByteArray) (at_ bits : Int) : ByteArray := if at_ < 0 then b else turn b at_.toNat (low bits)

theorem bur_stay {n a m z : Nat} (h : ¬ (m.testBit z = true ∧ a + z < 8 * n)) : bur n a (m % 2 ^ (z + 1)) = bur n a (m % 2 ^ z) := by
  rw [bur_next, if_neg h, Nat.xor_zero]
theorem bur_turn {n a m z : Nat} (h1 : m.testBit z = true) (h2 : a + z < 8 * n) : bur n a (m % 2 ^ (z + 1)) = bur n a (m % 2 ^ z) ^^^ 2 ^ (a + z) := by
  rw [bur_next, if_pos ⟨h1, h2⟩]

end Go.Proofs.Ytideejpopneplaa.burst
