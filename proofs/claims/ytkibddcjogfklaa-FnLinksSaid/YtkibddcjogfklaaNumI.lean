/-
  Contracts of impl.VarSize, impl.VarText, impl.ReadVar (the landed code's).
-/
import Derived.Test.YtkibddcjogfklaaNumC
namespace Go.Proofs.Ytkibddcjogfklaa.num
open Go.RowKit
open kit

/-! ### plain facts -/
theorem vb_front (k n : Nat) (h : n < 128 ^ (k + 1)) : (∀ i, i + 1 < (vb k n).length → (vb k n)[i]? = some (n / 128 ^ i % 128 + 128)) ∧ (vb k n)[(vb k n).length - 1]? = some (n / 128 ^ ((vb k n).length - 1)) ∧ n / 128 ^ ((vb k n).length - 1) < 128 := by
  induction k generalizing n with
  | zero =>
    rw [vb_low 0 n (by simpa using h)]
    exact ⟨fun i hi => by simp at hi, by simp, by simpa using h⟩
  | succ k ih =>
    by_cases hn : n < 128
    · rw [vb_low _ n hn]
      exact ⟨fun i hi => by simp at hi, by simp, by simpa using hn⟩
    · obtain ⟨h1, h2, h3⟩ := ih (n / 128) (by rw [Nat.pow_succ] at h; omega)
      have hp := vb_length_pos k (n / 128)
      have e : ∀ i, n / 128 / 128 ^ i = n / 128 ^ (i + 1) := fun i => by rw [Nat.div_div_eq_div_mul, Nat.mul_comm, ← Nat.pow_succ]
      rw [vb_high k n hn, List.length_cons]
      obtain ⟨L, hL⟩ : ∃ L, (vb k (n / 128)).length = L + 1 := ⟨(vb k (n / 128)).length - 1, by omega⟩
      rw [hL] at h1 h2 h3 ⊢
      rw [show L + 1 + 1 - 1 = L + 1 by omega]
      rw [show L + 1 - 1 = L by omega] at h2 h3
      rw [e] at h2 h3
      refine ⟨fun i hi => ?_, by simpa using h2, h3⟩
      cases i with
      | zero => simp
      | succ i => rw [← e]; simpa using h1 i (by omega)
theorem vb_made (n L : Nat) (h : n ≤ 1000000000) (hL : (vb 4 n).length = L) (ys : List Int) (hy : ys.length = L) (hg : ∀ i, i < L → ys[i]? = some ((n / 128 ^ i % 128 + 128 : Nat) : Int)) :
    strOfNums (ys.set (L - 1) ((n / 128 ^ (L - 1) % 128 : Nat) : Int)) = vt n := by
  obtain ⟨h1, h2, h3⟩ := vb_front 4 n (lt128 h)
  have hp := vb_length_pos 4 n
  rw [hL] at h1 h2 h3 hp
  have e : ys.set (L - 1) ((n / 128 ^ (L - 1) % 128 : Nat) : Int) = (vb 4 n).map fun (c : Nat) => (c : Int) := by
    apply List.ext_getElem?
    intro i
    rw [List.getElem?_map, List.getElem?_set]
    by_cases hi : i + 1 < L
    · rw [if_neg (by omega), hg i (by omega), h1 i hi]
      rfl
    · by_cases hi2 : i = L - 1
      · rw [if_pos hi2.symm, if_pos (by omega), hi2, h2, Nat.mod_eq_of_lt h3]
        rfl
      · rw [if_neg (fun e => hi2 e.symm), List.getElem?_eq_none (by omega), List.getElem?_eq_none (by omega)]
        rfl
  rw [e, txt_nums]
  rfl
theorem set_pre (g : Nat → Int) (ys : List Int) (k L : Nat) (hl : ys.length = L) (hk : k < L) (h : ∀ i, i < k → ys[i]? = some (g i)) : ∀ i, i < k + 1 → (ys.set k (g k))[i]? = some (g i) := by
  intro i hi
  rw [List.getElem?_set]
  by_cases hik : k = i
  · rw [if_pos hik, if_pos (by omega), hik]
  · rw [if_neg hik]
    exact h i (by omega)
theorem or8u' : ∀ a : Fin 256, bits BinOp.or IntKind.u8 (a.val : Int) 128 = ((a.val % 128 + 128 : Nat) : Int) := by decide +kernel
theorem or8u (a : Nat) (h : a < 256) : bits BinOp.or IntKind.u8 (a : Int) 128 = ((a % 128 + 128 : Nat) : Int) := or8u' ⟨a, h⟩
theorem shr7 (n i : Nat) (hi : i < 5) : Op.shift .shr .i64 (n : Int) .i64 ((7 * i : Nat) : Int) = pure (.int .i64 ((n / 128 ^ i : Nat) : Int)) := by
  rw [shift_shr .i64 .i64 (n : Int) ((7 * i : Nat) : Int) (by omega) (by show _ ≤ (64 : Int); omega), Int.toNat_natCast, ← pow7]
  push_cast
  rfl
theorem shl7i (s i : Nat) (hs : s < 128) (hi : i < 5) : Op.shift .shl .i64 (s : Int) .i64 ((7 * i : Nat) : Int) = pure (.int .i64 ((128 ^ i * s : Nat) : Int)) := by
  rw [shift_shl .i64 .i64 (s : Int) ((7 * i : Nat) : Int) (by omega) (by show _ ≤ (64 : Int); omega), Int.toNat_natCast]
  have hp := pow_le5 hi
  have e : (s : Int) * 2 ^ (7 * i) = ((128 ^ i * s : Nat) : Int) := by
    rw [← pow7]
    push_cast
    exact Int.mul_comm _ _
  have hl : 128 ^ i * s ≤ 268435456 * 127 := Nat.mul_le_mul hp (by omega)
  rw [e, wrap64 _ (by omega)]

/-! ### impl.VarSize -/
/-! ### impl.VarText -/
end Go.Proofs.Ytkibddcjogfklaa.num
