/-
  Plain facts on ReadDecimal: which texts are numerals, and which number each is.
-/
import Derived.Lib.ItoaNum
import Derived.Lib.Atoi
import Derived.Lib.AtoiAll
import Derived.Lib.AtoiTie
namespace Go.Proofs.YtkibddcjogfklaaGreatDoor.rd
open Go

theorem decFrom_append : ∀ (a b : List UInt8) (acc : Nat), Lib.decFrom acc (a ++ b) = (Lib.decFrom acc a).bind fun m => Lib.decFrom m b
  | [], _, _ => rfl
  | c :: r, b, acc => by
    simp only [List.cons_append, Lib.decFrom]
    cases Lib.digitVal c with
    | none => rfl
    | some d => exact decFrom_append r b _
theorem digit_byte (d : Nat) (h : d < 10) : Lib.digitVal (UInt8.ofNat (48 + d)) = some d := by
  have h1 : (UInt8.ofNat (48 + d)).toNat = 48 + d := by simp; omega
  unfold Lib.digitVal
  rw [h1, if_pos (by omega)]
  simp
theorem decFrom_digits : ∀ (f n : Nat), n ≤ f → Lib.decFrom 0 (Lib.decDigits n) = some n
  | f, n, h => by
    rw [Lib.decDigits]
    by_cases h10 : n < 10
    · rw [dif_pos h10]
      simp only [Lib.decFrom, digit_byte n h10, Nat.zero_mul, Nat.zero_add]
    · rw [dif_neg h10, decFrom_append]
      cases f with
      | zero => omega
      | succ f =>
        rw [decFrom_digits f (n / 10) (by omega)]
        simp only [Option.bind_some, Lib.decFrom, digit_byte (n % 10) (by omega)]
        rw [show n / 10 * 10 + n % 10 = n by omega]
theorem digits_len : ∀ (k n : Nat), n < 10 ^ (k + 1) → (Lib.decDigits n).length ≤ k + 1
  | 0, n, h => by
    rw [Lib.decDigits, dif_pos (by simpa using h)]
    simp
  | k + 1, n, h => by
    rw [Lib.decDigits]
    by_cases h10 : n < 10
    · rw [dif_pos h10]
      simp
    · rw [dif_neg h10]
      have := digits_len k (n / 10) (Nat.div_lt_of_lt_mul (by rw [Nat.mul_comm, ← Nat.pow_succ]; exact h))
      simp
      omega
theorem digits_ne (n : Nat) : Lib.decDigits n ≠ [] := by
  rw [Lib.decDigits]
  split
  · simp
  · simp
theorem decFrom_lt : ∀ (l : List UInt8) (acc n k : Nat), acc < 10 ^ k → Lib.decFrom acc l = some n → n < 10 ^ (k + l.length)
  | [], acc, n, k, h, e => by
    simp only [Lib.decFrom, Option.some.injEq] at e
    subst e
    exact h
  | c :: r, acc, n, k, h, e => by
    simp only [Lib.decFrom] at e
    cases hd : Lib.digitVal c with
    | none => rw [hd] at e; cases e
    | some d =>
      rw [hd] at e
      have hd9 : d ≤ 9 := by
        unfold Lib.digitVal at hd
        split at hd
        · injection hd with hd
          omega
        · cases hd
      have := decFrom_lt r (acc * 10 + d) n (k + 1) (by rw [Nat.pow_succ]; omega) e
      rw [List.length_cons, show k + (r.length + 1) = k + 1 + r.length by omega]
      exact this

/-- the number that a text spells as Decimal writes it, up to MaxNumber -/
def RD (l : List UInt8) : Option Nat := (Lib.decFrom 0 l).bind fun n => if n ≤ 1000000000 ∧ Lib.decDigits n = l then some n else none
theorem rd_some {l : List UInt8} {n : Nat} : RD l = some n ↔ n ≤ 1000000000 ∧ Lib.decDigits n = l := by
  constructor
  · intro h
    unfold RD at h
    cases hd : Lib.decFrom 0 l with
    | none => rw [hd] at h; cases h
    | some m =>
      rw [hd] at h
      simp only [Option.bind_some] at h
      split at h
      · rename_i hc
        injection h with h
        subst h
        exact hc
      · cases h
  · rintro ⟨h1, rfl⟩
    unfold RD
    rw [decFrom_digits n n (Nat.le_refl _)]
    simp [h1]
theorem rd_long {l : List UInt8} (h : 10 < l.length) : RD l = none := by
  cases hr : RD l with
  | none => rfl
  | some n =>
    obtain ⟨h1, h2⟩ := rd_some.1 hr
    have := digits_len 9 n (by have : (10 : Nat) ^ (9 + 1) = 10000000000 := by decide
                               omega)
    rw [h2] at this
    omega
/-- a byte that is no digit -/
theorem rd_bad {l : List UInt8} {k : Nat} {c : UInt8} (hk : l[k]? = some c) (hc : Lib.digitVal c = none) : RD l = none := by
  have hl : l = l.take k ++ c :: l.drop (k + 1) := by
    have hlt : k < l.length := by
      rcases Nat.lt_or_ge k l.length with h | h
      · exact h
      · rw [List.getElem?_eq_none h] at hk; cases hk
    rw [List.getElem?_eq_getElem hlt] at hk
    injection hk with hk
    rw [← hk, List.getElem_cons_drop, List.take_append_drop]
  have : Lib.decFrom 0 l = none := by
    rw [hl, decFrom_append]
    cases Lib.decFrom 0 (l.take k) with
    | none => rfl
    | some m => simp [Lib.decFrom, hc]
  unfold RD
  rw [this]
  rfl
theorem rd_of {l : List UInt8} {n : Nat} (h : Lib.decFrom 0 l = some n) : RD l = if n ≤ 1000000000 ∧ Lib.decDigits n = l then some n else none := by
  unfold RD
  rw [h]
  rfl

/-- what Atoi says of such a text -/
theorem atoi_digits (n : Nat) (h : n ≤ 1000000000) : Lib.atoiAll (Lib.decDigits n) = .ok (n : Int) := by
  have hlen := digits_len 9 n (by have : (10 : Nat) ^ (9 + 1) = 10000000000 := by decide
                                  omega)
  rw [Lib.atoiAll_short _ (by omega)]
  have hd := decFrom_digits n n (Nat.le_refl _)
  cases hl : Lib.decDigits n with
  | nil => exact absurd hl (digits_ne n)
  | cons c r =>
    rw [hl] at hd
    have hc : Lib.digitVal c ≠ none := by
      intro h0
      simp [Lib.decFrom, h0] at hd
    have hc2 : 48 ≤ c.toNat := by
      unfold Lib.digitVal at hc
      split at hc
      · rename_i h1
        exact h1.1
      · exact absurd rfl hc
    have h45 : (c == 45) = false := by
      rw [beq_eq_false_iff_ne]
      intro e
      subst e
      have : (45 : UInt8).toNat = 45 := rfl
      omega
    have h43 : (c == 43) = false := by
      rw [beq_eq_false_iff_ne]
      intro e
      subst e
      have : (43 : UInt8).toNat = 43 := rfl
      omega
    simp only [Lib.atoi, h45, h43, Bool.false_eq_true, if_false, Lib.decNat, List.isEmpty_cons, hd, Option.map_some]
    rfl

end Go.Proofs.YtkibddcjogfklaaGreatDoor.rd
