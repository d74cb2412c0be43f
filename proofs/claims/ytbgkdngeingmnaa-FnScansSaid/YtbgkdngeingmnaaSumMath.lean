/-
  Plain facts on sums of 32 bits: one step, eight steps, a text; what is linear in them; the model's bit operations as Nat's own.
-/
import Derived.Laws.BitsLemmas
namespace Go.Proofs.Ytbgkdngeingmnaa.sum
set_option maxRecDepth 20000
open Go

/-! ### the steps -/
def st (x : Nat) : Nat := if x % 2 = 1 then (x / 2) ^^^ 2197175160 else x / 2
def stN : Nat → Nat → Nat
  | 0, x => x
  | k + 1, x => st (stN k x)
theorem stN_add (a b x : Nat) : stN (a + b) x = stN b (stN a x) := by
  induction b with
  | zero => rfl
  | succ b ih => rw [show a + (b + 1) = (a + b) + 1 from rfl]; simp only [stN]; rw [ih]

theorem xor_lt {a b : Nat} (ha : a < 4294967296) (hb : b < 4294967296) : a ^^^ b < 4294967296 := Nat.xor_lt_two_pow (n := 32) ha hb
theorem st_lt {x : Nat} (h : x < 4294967296) : st x < 4294967296 := by
  unfold st
  split
  · exact xor_lt (by omega) (by decide)
  · omega
theorem stN_lt {x : Nat} (h : x < 4294967296) : ∀ k, stN k x < 4294967296
  | 0 => h
  | k + 1 => st_lt (stN_lt h k)

theorem xor_mod2 (x y : Nat) : (x ^^^ y) % 2 = (x % 2 + y % 2) % 2 := by
  have h := Nat.xor_mod_two_pow (a := x) (b := y) (n := 1)
  rw [show 2 ^ 1 = 2 from rfl] at h
  rw [h]
  rcases Nat.mod_two_eq_zero_or_one x with hx | hx <;> rcases Nat.mod_two_eq_zero_or_one y with hy | hy <;> rw [hx, hy] <;> rfl
theorem xor_div2 (x y : Nat) : (x ^^^ y) / 2 = (x / 2) ^^^ (y / 2) := by
  have h := Nat.shiftRight_xor_distrib (a := x) (b := y) (i := 1)
  simpa [Nat.shiftRight_eq_div_pow] using h
theorem st_xor (x y : Nat) : st (x ^^^ y) = st x ^^^ st y := by
  unfold st
  rw [xor_mod2, xor_div2]
  rcases Nat.mod_two_eq_zero_or_one x with hx | hx <;> rcases Nat.mod_two_eq_zero_or_one y with hy | hy <;> rw [hx, hy]
  · simp
  · simp [Nat.xor_assoc]
  · simp only [Nat.reduceAdd, Nat.reduceMod, if_true]
    rw [if_neg (by decide), Nat.xor_assoc, Nat.xor_assoc, Nat.xor_comm (y / 2)]
  · simp only [Nat.reduceAdd, Nat.reduceMod, if_true]
    rw [if_neg (by decide)]
    rw [Nat.xor_assoc, Nat.xor_comm 2197175160, Nat.xor_assoc, Nat.xor_self, Nat.xor_zero]
theorem stN_xor (k x y : Nat) : stN k (x ^^^ y) = stN k x ^^^ stN k y := by
  induction k with
  | zero => rfl
  | succ k ih => simp only [stN]; rw [ih, st_xor]

/-! ### eight steps by the table -/
theorem st_even (w : Nat) : st (2 * w) = w := by
  unfold st
  rw [if_neg (by omega)]
  omega
theorem stN_pow : ∀ (k w : Nat), stN k (2 ^ k * w) = w
  | 0, w => by simp [stN]
  | k + 1, w => by
    rw [show k + 1 = 1 + k by omega, stN_add]
    have h : stN 1 (2 ^ (1 + k) * w) = 2 ^ k * w := by
      show st (2 ^ (1 + k) * w) = _
      rw [show 2 ^ (1 + k) * w = 2 * (2 ^ k * w) by rw [Nat.pow_add, Nat.pow_one, Nat.mul_assoc]]
      exact st_even _
    rw [h, stN_pow k w]
theorem split_byte (v : Nat) : v = (v % 256) ^^^ (256 * (v / 256)) := by
  have h := Nat.two_pow_add_eq_or_of_lt (i := 8) (b := v % 256) (by omega) (v / 256)
  have hx : (256 * (v / 256)) ||| (v % 256) = (v % 256) ^^^ (256 * (v / 256)) := by
    apply Nat.eq_of_testBit_eq
    intro i
    rw [Nat.testBit_or, Nat.testBit_xor]
    by_cases hi : i < 8
    · have : (256 * (v / 256)).testBit i = false := by
        rw [show (256 : Nat) = 2 ^ 8 by rfl, Nat.testBit_two_pow_mul]
        simp
        omega
      rw [this]
      simp
    · have : (v % 256).testBit i = false := by
        apply Nat.testBit_lt_two_pow
        have : (2 : Nat) ^ 8 ≤ 2 ^ i := Nat.pow_le_pow_right (by omega) (by omega)
        have h2 : v % 256 < 256 := Nat.mod_lt _ (by omega)
        have h3 : (2 : Nat) ^ 8 = 256 := by decide
        omega
      rw [this]
      simp
  rw [← hx, show (256 : Nat) = 2 ^ 8 by rfl, ← h]
  omega
theorem st8_table (v : Nat) : stN 8 v = stN 8 (v % 256) ^^^ (v / 256) := by
  conv => lhs; rw [split_byte v]
  rw [stN_xor, show 256 * (v / 256) = 2 ^ 8 * (v / 256) by rfl, stN_pow]
theorem xor_div256 (x c : Nat) (h : c < 256) : (x ^^^ c) / 256 = x / 256 := by
  have h2 := Nat.shiftRight_xor_distrib (a := x) (b := c) (i := 8)
  simp only [Nat.shiftRight_eq_div_pow, show (2 : Nat) ^ 8 = 256 by rfl] at h2
  rw [h2, Nat.div_eq_of_lt h, Nat.xor_zero]

/-! ### a text -/
def F (x : Nat) (l : List UInt8) : Nat := l.foldl (fun x c => stN 8 (x ^^^ c.toNat)) x
theorem F_snoc (x : Nat) (l : List UInt8) (c : UInt8) : F x (l ++ [c]) = stN 8 (F x l ^^^ c.toNat) := by simp [F]
theorem F_append (x : Nat) (l r : List UInt8) : F x (l ++ r) = F (F x l) r := by simp [F]
theorem byte_lt (c : UInt8) : c.toNat < 4294967296 := by have := c.toNat_lt; omega
theorem F_lt : ∀ (l : List UInt8) (x : Nat), x < 4294967296 → F x l < 4294967296
  | [], _, h => h
  | c :: r, _, h => F_lt r _ (stN_lt (xor_lt h (byte_lt c)) 8)
theorem F_xor : ∀ (l : List UInt8) (x y : Nat), F (x ^^^ y) l = F x l ^^^ stN (8 * l.length) y
  | [], _, _ => rfl
  | c :: r, x, y => by
    show F (stN 8 (x ^^^ y ^^^ c.toNat)) r = F (stN 8 (x ^^^ c.toNat)) r ^^^ _
    rw [Nat.xor_assoc, Nat.xor_comm y, ← Nat.xor_assoc, stN_xor, F_xor r, List.length_cons, show 8 * (r.length + 1) = 8 + 8 * r.length by omega, stN_add]

/-- SumMore -/
def sumMore (s : Nat) (l : List UInt8) : Nat := F (s ^^^ 4294967295) l ^^^ 4294967295
theorem xor_back (x m : Nat) : x ^^^ m ^^^ m = x := by rw [Nat.xor_assoc, Nat.xor_self, Nat.xor_zero]
theorem sumMore_lt {s : Nat} (h : s < 4294967296) (l : List UInt8) : sumMore s l < 4294967296 := xor_lt (F_lt l _ (xor_lt h (by decide))) (by decide)
/-- the sum of two texts is that of the second from that of the first on -/
theorem sumMore_append (s : Nat) (l r : List UInt8) : sumMore s (l ++ r) = sumMore (sumMore s l) r := by
  unfold sumMore
  rw [xor_back, F_append]
/-- the sum of two texts out of both sums -/
theorem sumMore_joined (l r : List UInt8) : sumMore 0 (l ++ r) = stN (8 * r.length) (sumMore 0 l) ^^^ sumMore 0 r := by
  rw [sumMore_append]
  show F (sumMore 0 l ^^^ 4294967295) r ^^^ 4294967295 = _
  rw [Nat.xor_comm (sumMore 0 l), F_xor, Nat.xor_assoc, Nat.xor_comm (stN _ _), ← Nat.xor_assoc, Nat.xor_comm, show sumMore 0 r = F 4294967295 r ^^^ 4294967295 by unfold sumMore; rw [Nat.zero_xor]]

/-! ### the model's bits -/
theorem wrap_in (n : Nat) (h : n < 9223372036854775808) : IntKind.i64.wrap (n : Int) = n := by
  rw [IntKind.wrap_i64]
  omega
theorem ofInt_toNat (x : Int) : (BitVec.ofInt IntKind.i64.bits x).toNat = (x % 18446744073709551616).toNat := by
  rw [BitVec.toNat_ofInt]
  rfl
theorem and_mask (x : Int) (i : Nat) (hi : i ≤ 62) : bits BinOp.and IntKind.i64 x ((2 ^ i - 1 : Nat) : Int) = (x % (2 ^ i : Nat)) := by
  have hp : (2 : Nat) ^ i ≤ 2 ^ 62 := Nat.pow_le_pow_right (by omega) hi
  have hpos : 0 < (2 : Nat) ^ i := Nat.two_pow_pos i
  have h62 : (2 : Nat) ^ 62 = 4611686018427387904 := by decide
  unfold bits
  simp only [BitVec.toNat_and]
  rw [ofInt_toNat, ofInt_toNat]
  have hm : (((2 ^ i - 1 : Nat) : Int) % 18446744073709551616).toNat = 2 ^ i - 1 := by omega
  rw [hm, Nat.and_two_pow_sub_one_eq_mod]
  have hlt : (x % 18446744073709551616).toNat % 2 ^ i < 2 ^ i := Nat.mod_lt _ hpos
  rw [wrap_in _ (by omega)]
  have hd : ((2 ^ i : Nat) : Int) ∣ ((18446744073709551616 : Nat) : Int) := by
    rw [show (18446744073709551616 : Nat) = 2 ^ 64 by decide]
    exact Int.natCast_dvd_natCast.2 (Nat.pow_dvd_pow 2 (by omega))
  rw [Int.natCast_emod, Int.toNat_of_nonneg (by omega)]
  exact Int.emod_emod_of_dvd x hd
theorem and32 (x : Int) : bits BinOp.and IntKind.i64 x 4294967295 = x % 4294967296 := and_mask x 32 (by omega)
theorem and8 (x : Int) : bits BinOp.and IntKind.i64 x 255 = x % 256 := and_mask x 8 (by omega)
theorem and1 (x : Int) : bits BinOp.and IntKind.i64 x 1 = x % 2 := and_mask x 1 (by omega)
theorem xor_nat (a b : Nat) (ha : a < 4294967296) (hb : b < 4294967296) : bits BinOp.xor IntKind.i64 (a : Int) (b : Int) = ((a ^^^ b : Nat) : Int) := by
  have hx := xor_lt ha hb
  unfold bits
  simp only [BitVec.toNat_xor]
  rw [ofInt_toNat, ofInt_toNat]
  rw [show ((a : Int) % 18446744073709551616).toNat = a by omega, show ((b : Int) % 18446744073709551616).toNat = b by omega]
  exact wrap_in _ (by omega)

theorem xor_u32 (a b : Nat) (ha : a < 4294967296) (hb : b < 4294967296) : bits BinOp.xor IntKind.u32 (a : Int) (b : Int) = ((a ^^^ b : Nat) : Int) := by
  have hx := xor_lt ha hb
  unfold bits
  simp only [BitVec.toNat_xor, BitVec.toNat_ofInt]
  rw [show ((a : Int) % ((2 ^ IntKind.u32.bits : Nat) : Int)).toNat = a by show ((a : Int) % 4294967296).toNat = a; omega, show ((b : Int) % ((2 ^ IntKind.u32.bits : Nat) : Int)).toNat = b by show ((b : Int) % 4294967296).toNat = b; omega, IntKind.wrap_u32]
  omega
theorem xor8_lt {a b : Nat} (ha : a < 256) (hb : b < 256) : a ^^^ b < 256 := Nat.xor_lt_two_pow (n := 8) ha hb
theorem xor_u8 (a b : Nat) (ha : a < 256) (hb : b < 256) : bits BinOp.xor IntKind.u8 (a : Int) (b : Int) = ((a ^^^ b : Nat) : Int) := by
  have hx := xor8_lt ha hb
  unfold bits
  simp only [BitVec.toNat_xor, BitVec.toNat_ofInt]
  rw [show ((a : Int) % ((2 ^ IntKind.u8.bits : Nat) : Int)).toNat = a by show ((a : Int) % 256).toNat = a; omega, show ((b : Int) % ((2 ^ IntKind.u8.bits : Nat) : Int)).toNat = b by show ((b : Int) % 256).toNat = b; omega, IntKind.wrap_u8]
  omega
theorem and1_u32 (a : Nat) (ha : a < 4294967296) : bits BinOp.and IntKind.u32 (a : Int) 1 = (a : Int) % 2 := by
  unfold bits
  simp only [BitVec.toNat_and, BitVec.toNat_ofInt]
  rw [show ((a : Int) % ((2 ^ IntKind.u32.bits : Nat) : Int)).toNat = a by show ((a : Int) % 4294967296).toNat = a; omega, show ((1 : Int) % ((2 ^ IntKind.u32.bits : Nat) : Int)).toNat = 2 ^ 1 - 1 by decide, Nat.and_two_pow_sub_one_eq_mod, IntKind.wrap_u32]
  omega
theorem xor_mod256 (x c : Nat) (h : c < 256) : (x ^^^ c) % 256 = (x % 256) ^^^ c := by
  have h2 := Nat.xor_mod_two_pow (a := x) (b := c) (n := 8)
  rw [show (2 : Nat) ^ 8 = 256 by rfl] at h2
  rw [h2, Nat.mod_eq_of_lt h]

end Go.Proofs.Ytbgkdngeingmnaa.sum
