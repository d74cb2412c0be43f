/-
  Plain facts on bits that are turned: a sum's register over bytes is that of one number; a burst within 32 bits never leaves it as it was.
-/
import Derived.Test.YtbgkdngeingmnaaSumMath
import Derived.Test.YtbgkdngeingmnaaNumMath
namespace Go.Proofs.Ytbgkdngeingmnaa.burst
set_option maxRecDepth 20000
open Go
open sum num

/-! ### a register over bytes -/
def FN (x : Nat) (l : List Nat) : Nat := l.foldl (fun x c => stN 8 (x ^^^ c)) x
theorem F_nats (x : Nat) (b : ByteArray) : F x b.data.toList = FN x (nats b 0) := by
  unfold F FN nats
  rw [List.drop_zero, List.foldl_map]
theorem FN_append (x : Nat) (l r : List Nat) : FN x (l ++ r) = FN (FN x l) r := by simp [FN]
theorem join_byte (c v : Nat) (hc : c < 256) : c + 256 * v = c ^^^ (256 * v) := by
  have h := split_byte (c + 256 * v)
  rw [show (c + 256 * v) % 256 = c by omega, show (c + 256 * v) / 256 = v by omega] at h
  exact h
theorem FN_val : ∀ (l : List Nat) (x : Nat), (∀ c ∈ l, c < 256) → FN x l = stN (8 * l.length) (x ^^^ val l)
  | [], x, _ => by simp [FN, val, stN]
  | c :: r, x, h => by
    show FN (stN 8 (x ^^^ c)) r = _
    rw [FN_val r _ fun y hy => h y (List.mem_cons_of_mem _ hy), List.length_cons, show 8 * (r.length + 1) = 8 + 8 * r.length by omega, stN_add]
    congr 1
    show _ = stN 8 (x ^^^ (c + 256 * val r))
    rw [join_byte c _ (h c List.mem_cons_self), ← Nat.xor_assoc, stN_xor 8 (x ^^^ c), show 256 * val r = 2 ^ 8 * val r from rfl, stN_pow]
theorem st_ne {x : Nat} (h : x < 4294967296) (h0 : x ≠ 0) : st x ≠ 0 := by
  unfold st
  split
  · intro e
    have h2 : x / 2 = 2197175160 := by
      have := xor_back (x / 2) 2197175160
      rw [e, Nat.zero_xor] at this
      exact this.symm
    omega
  · omega
theorem stN_ne {x : Nat} (h : x < 4294967296) (h0 : x ≠ 0) : ∀ k, stN k x ≠ 0
  | 0 => h0
  | k + 1 => st_ne (stN_lt h k) (stN_ne h h0 k)
theorem xor_eq_zero {a b : Nat} (h : a ^^^ b = 0) : a = b := by
  have := xor_back a b
  rw [h, Nat.zero_xor] at this
  exact this.symm

/-! ### a text with its own sum behind -/
theorem residue (l : List Nat) (x : Nat) (hx : x < 4294967296) (hl : ∀ c ∈ l, c < 256) : FN x (l ++ fb 4 (FN x l ^^^ 4294967295)) = stN 32 4294967295 := by
  have hF : FN x l < 4294967296 := by
    rw [← nats_txt l hl, ← F_nats]
    exact F_lt _ _ hx
  have hS := xor_lt hF (show 4294967295 < 4294967296 by decide)
  rw [FN_append, FN_val _ _ (fb_byte 4 _), fb_length, val_fb 4 _ (by have : (256 : Nat) ^ 4 = 4294967296 := by decide
                                                                     omega), ← Nat.xor_assoc, Nat.xor_self, Nat.zero_xor]
theorem same_reg {a b : List Nat} {x : Nat} (ha : ∀ c ∈ a, c < 256) (hb : ∀ c ∈ b, c < 256) (hl : a.length = b.length) (h : FN x a = FN x b) : stN (8 * a.length) (val a ^^^ val b) = 0 := by
  rw [FN_val a x ha, FN_val b x hb, ← hl, stN_xor, stN_xor] at h
  rw [stN_xor]
  have h2 : stN (8 * a.length) (val a) = stN (8 * a.length) (val b) := by
    have h3 : stN (8 * a.length) x ^^^ (stN (8 * a.length) x ^^^ stN (8 * a.length) (val a)) = stN (8 * a.length) x ^^^ (stN (8 * a.length) x ^^^ stN (8 * a.length) (val b)) := by rw [h]
    rw [← Nat.xor_assoc, ← Nat.xor_assoc, Nat.xor_self, Nat.zero_xor, Nat.zero_xor] at h3
    exact h3
  rw [h2, Nat.xor_self]

/-! ### a burst -/
/-- the bits of m, turned from the bit 'at' on, of n bytes -/
def bur (n at_ m : Nat) : Nat := (m * 2 ^ at_) % 2 ^ (8 * n)
theorem bur_form {n at_ m : Nat} (h : at_ < 8 * n) : bur n at_ m = 2 ^ at_ * (m % 2 ^ (8 * n - at_)) := by
  unfold bur
  rw [Nat.mul_comm m, show 8 * n = at_ + (8 * n - at_) by omega, Nat.pow_add, Nat.mul_mod_mul_left]
  congr 3
  omega
theorem bur_over {n at_ m : Nat} (h : 8 * n ≤ at_) : bur n at_ m = 0 := by
  unfold bur
  rw [show at_ = 8 * n + (at_ - 8 * n) by omega, Nat.pow_add, Nat.mul_comm, Nat.mul_assoc]
  exact Nat.mul_mod_right _ _
theorem bur_lt (n at_ m : Nat) : bur n at_ m < 2 ^ (8 * n) := Nat.mod_lt _ (Nat.two_pow_pos _)
theorem bur_reg {n at_ m : Nat} (hm : m < 4294967296) (h : bur n at_ m ≠ 0) : stN (8 * n) (bur n at_ m) ≠ 0 := by
  by_cases ha : at_ < 8 * n
  · rw [bur_form ha] at h ⊢
    obtain ⟨k, hk⟩ : ∃ k, 8 * n - at_ = k := ⟨_, rfl⟩
    rw [hk] at h ⊢
    rw [show 8 * n = at_ + k by omega, stN_add, stN_pow]
    refine stN_ne (Nat.lt_of_le_of_lt (Nat.mod_le _ _) hm) ?_ k
    intro e
    rw [e, Nat.mul_zero] at h
    exact h rfl
  · exact absurd (bur_over (by omega)) h
theorem bur_odd {n at_ m : Nat} (ha : at_ < 8 * n) (hm : m % 2 = 1) : bur n at_ m ≠ 0 := by
  rw [bur_form ha]
  obtain ⟨k, hk⟩ : ∃ k, 8 * n - at_ = k + 1 := ⟨8 * n - at_ - 1, by omega⟩
  rw [hk]
  have h1 : m % 2 ^ (k + 1) % 2 = 1 := by
    rw [Nat.mod_mod_of_dvd _ (by rw [Nat.pow_succ]; exact Nat.dvd_mul_left _ _)]
    exact hm
  have h2 := Nat.two_pow_pos at_
  intro e
  rcases Nat.mul_eq_zero.1 e with e | e
  · omega
  · rw [e] at h1; simp at h1

/-! ### a text of which bits are turned -/
def turn (b : ByteArray) (at_ m : Nat) : ByteArray := txt (fb b.size (val (nats b 0) ^^^ bur b.size at_ m))
theorem turn_size (b : ByteArray) (at_ m : Nat) : (turn b at_ m).size = b.size := by unfold turn; rw [txt_size, fb_length]
theorem turn_nats (b : ByteArray) (at_ m : Nat) : nats (turn b at_ m) 0 = fb b.size (val (nats b 0) ^^^ bur b.size at_ m) := nats_txt _ (fb_byte _ _)
theorem pow256 (n : Nat) : 256 ^ n = 2 ^ (8 * n) := by rw [Nat.pow_mul]
theorem val_nats_lt (b : ByteArray) : val (nats b 0) < 2 ^ (8 * b.size) := by
  have h := val_lt (nats b 0) (nats_byte b 0)
  rw [nats_length, Nat.sub_zero, pow256] at h
  exact h
theorem turn_val (b : ByteArray) (at_ m : Nat) : val (nats (turn b at_ m) 0) = val (nats b 0) ^^^ bur b.size at_ m := by
  rw [turn_nats, val_fb]
  rw [pow256]
  exact Nat.xor_lt_two_pow (val_nats_lt b) (bur_lt _ _ _)
/-- two texts of which each ends in its own sum are not a burst apart -/
theorem no_burst {a b : ByteArray} {la lb : List Nat} {x at_ m : Nat} (hx : x < 4294967296) (ha : nats a 0 = la ++ fb 4 (FN x la ^^^ 4294967295)) (hb : nats b 0 = lb ++ fb 4 (FN x lb ^^^ 4294967295)) (hm : m < 4294967296) (h0 : bur a.size at_ m ≠ 0)
    (h : b = turn a at_ m) : False := by
  have hA := nats_byte a 0
  have hB := nats_byte b 0
  have r1 := residue la x hx fun c hc => hA c (by rw [ha]; exact List.mem_append_left _ hc)
  have r2 := residue lb x hx fun c hc => hB c (by rw [hb]; exact List.mem_append_left _ hc)
  rw [← ha] at r1
  rw [← hb] at r2
  have hl : (nats a 0).length = (nats b 0).length := by rw [nats_length, nats_length, h, turn_size]
  have hz := same_reg hA hB hl (r1.trans r2.symm)
  rw [h, turn_val, ← Nat.xor_assoc, Nat.xor_self, Nat.zero_xor, nats_length, Nat.sub_zero] at hz
  exact bur_reg hm h0 hz

/-! ### bit by bit -/
theorem val_set : ∀ (l : List Nat) (k c t : Nat), (∀ x ∈ l, x < 256) → l[k]? = some c → t < 8 → val (l.set k (c ^^^ 2 ^ t)) = val l ^^^ 2 ^ (8 * k + t)
  | [], k, c, t, _, h, _ => by simp at h
  | x :: r, 0, c, t, hl, h, ht => by
    obtain rfl : x = c := by simpa using h
    have hc := hl x List.mem_cons_self
    have h2 : x ^^^ 2 ^ t < 256 := Nat.xor_lt_two_pow (n := 8) hc (Nat.pow_lt_pow_right (by omega) ht)
    show (x ^^^ 2 ^ t) + 256 * val r = (x + 256 * val r) ^^^ 2 ^ (8 * 0 + t)
    rw [join_byte _ _ h2, join_byte _ _ hc, Nat.mul_zero, Nat.zero_add, Nat.xor_assoc, Nat.xor_assoc, Nat.xor_comm (2 ^ t)]
  | x :: r, k + 1, c, t, hl, h, ht => by
    have hc := hl x List.mem_cons_self
    have ih := val_set r k c t (fun y hy => hl y (List.mem_cons_of_mem _ hy)) (by simpa using h) ht
    show x + 256 * val (r.set k (c ^^^ 2 ^ t)) = (x + 256 * val r) ^^^ 2 ^ (8 * (k + 1) + t)
    rw [ih, join_byte _ _ hc, join_byte _ _ hc, Nat.xor_assoc]
    congr 1
    have e := Nat.shiftLeft_xor_distrib (a := val r) (b := 2 ^ (8 * k + t)) (i := 8)
    simp only [Nat.shiftLeft_eq] at e
    rw [show (2 : Nat) ^ 8 = 256 from rfl] at e
    rw [Nat.mul_comm 256, e, Nat.mul_comm 256, show 8 * (k + 1) + t = (8 * k + t) + 8 by omega, Nat.pow_add 2 (8 * k + t) 8]
theorem set_byte {l : List Nat} {k c t : Nat} (hl : ∀ x ∈ l, x < 256) (hc : c < 256) (ht : t < 8) : ∀ x ∈ l.set k (c ^^^ 2 ^ t), x < 256 := by
  intro x hx
  rcases List.mem_or_eq_of_mem_set hx with h | rfl
  · exact hl x h
  · exact Nat.xor_lt_two_pow (n := 8) hc (Nat.pow_lt_pow_right (by omega) ht)
theorem bur_next (n at_ m i : Nat) : bur n at_ (m % 2 ^ (i + 1)) = bur n at_ (m % 2 ^ i) ^^^ (if m.testBit i = true ∧ at_ + i < 8 * n then 2 ^ (at_ + i) else 0) := by
  apply Nat.eq_of_testBit_eq
  intro j
  unfold bur
  rw [Nat.testBit_xor, Nat.testBit_mod_two_pow, Nat.testBit_mod_two_pow, Nat.testBit_mul_two_pow, Nat.testBit_mul_two_pow, Nat.testBit_mod_two_pow, Nat.testBit_mod_two_pow]
  by_cases hj : j = at_ + i
  · subst hj
    rw [show at_ + i - at_ = i by omega]
    by_cases h8 : at_ + i < 8 * n
    · cases hb : m.testBit i
      · simp
      · simp [h8]
    · simp [h8]
  · have hz : (if m.testBit i = true ∧ at_ + i < 8 * n then 2 ^ (at_ + i) else 0).testBit j = false := by
      split
      · rw [Nat.testBit_two_pow]; simp; omega
      · simp
    rw [hz, Bool.xor_false]
    by_cases h1 : at_ ≤ j
    · by_cases h2 : j - at_ < i
      · have h3 : j - at_ < i + 1 := by omega
        simp [h2, h3]
      · have h3 : ¬ j - at_ < i + 1 := by omega
        simp [h2, h3]
    · simp [h1]
theorem bur_zero (n at_ m : Nat) : bur n at_ (m % 2 ^ 0) = 0 := by unfold bur; simp [Nat.mod_one]
theorem fb_val : ∀ (l : List Nat), (∀ c ∈ l, c < 256) → fb l.length (val l) = l
  | [], _ => rfl
  | c :: r, h => by
    have hc := h c List.mem_cons_self
    show (c + 256 * val r) % 256 :: fb r.length ((c + 256 * val r) / 256) = c :: r
    rw [show (c + 256 * val r) % 256 = c by omega, show (c + 256 * val r) / 256 = val r by omega, fb_val r fun x hx => h x (List.mem_cons_of_mem _ hx)]

end Go.Proofs.Ytbgkdngeingmnaa.burst
