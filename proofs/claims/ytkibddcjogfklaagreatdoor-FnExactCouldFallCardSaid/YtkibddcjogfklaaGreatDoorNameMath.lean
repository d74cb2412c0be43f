/-
  Plain facts on names of files: 8 digits to the base 16, what a name is read as, which names are right, names in order.
-/
import Derived.Test.YtkibddcjogfklaaGreatDoorNumMath
import Derived.Laws.Strings
namespace Go.Proofs.YtkibddcjogfklaaGreatDoor.nam
open Go
open num

/-! ### digits -/
def figN (d : Nat) : Nat := if d < 10 then 48 + d else 87 + d
def hexd : Nat → Nat → List Nat
  | 0, _ => []
  | k + 1, n => hexd k (n / 16) ++ [figN (n % 16)]
theorem hexd_length (k n : Nat) : (hexd k n).length = k := by
  induction k generalizing n with
  | zero => rfl
  | succ k ih => simp [hexd, ih]
theorem figN_lt (d : Nat) (h : d < 16) : figN d < 256 := by unfold figN; split <;> omega
theorem hexd_byte (k n : Nat) : ∀ c ∈ hexd k n, c < 256 := by
  induction k generalizing n with
  | zero => simp [hexd]
  | succ k ih =>
    intro c hc
    rcases List.mem_append.1 hc with hc | hc
    · exact ih _ c hc
    · obtain rfl : c = figN (n % 16) := by simpa using hc
      exact figN_lt _ (by omega)
/-- a digit's value -/
def hdig (c : Nat) : Option Nat := if 48 ≤ c ∧ c ≤ 57 then some (c - 48) else if 97 ≤ c ∧ c ≤ 102 then some (c - 87) else none
theorem hdig_fig (d : Nat) (h : d < 16) : hdig (figN d) = some d := by
  unfold hdig figN
  split
  · split
    · simp
    · omega
  · split
    · omega
    · split
      · simp
      · omega
theorem hdig_lt (c d : Nat) (h : hdig c = some d) : d < 16 := by
  unfold hdig at h
  split at h
  · simp at h; omega
  · split at h
    · simp at h; omega
    · simp at h
def hstep (o : Option Nat) (c : Nat) : Option Nat := o.bind fun v => (hdig c).map fun d => 16 * v + d
def hval (l : List Nat) : Option Nat := l.foldl hstep (some 0)
theorem hval_snoc (l : List Nat) (c : Nat) : hval (l ++ [c]) = hstep (hval l) c := by simp [hval]
theorem hval_hexd (k n : Nat) (h : n < 16 ^ k) : hval (hexd k n) = some n := by
  induction k generalizing n with
  | zero => simp at h; subst h; rfl
  | succ k ih =>
    rw [hexd, hval_snoc, ih (n / 16) (by rw [Nat.pow_succ] at h; omega)]
    unfold hstep
    rw [Option.bind_some, hdig_fig _ (by omega)]
    simp only [Option.map_some, Option.some.injEq]
    omega
theorem hval_lt (l : List Nat) : ∀ v, hval l = some v → v < 16 ^ l.length := by
  have : ∀ (l : List Nat) (u v : Nat) (k : Nat), u < 16 ^ k → l.foldl hstep (some u) = some v → v < 16 ^ (k + l.length) := by
    intro l
    induction l with
    | nil => intro u v k hu h; simp at h; subst h; simpa using hu
    | cons c r ih =>
      intro u v k hu h
      rw [List.foldl_cons] at h
      cases hs : hstep (some u) c with
      | none =>
        rw [hs] at h
        have : ∀ l : List Nat, l.foldl hstep none = none := by
          intro l
          induction l with
          | nil => rfl
          | cons c r ih => exact ih
        rw [this] at h
        cases h
      | some x =>
        rw [hs] at h
        have hx : x < 16 ^ (k + 1) := by
          unfold hstep at hs
          rw [Option.bind_some] at hs
          cases hd : hdig c with
          | none => simp [hd] at hs
          | some d =>
            have := hdig_lt c d hd
            simp only [hd, Option.map_some, Option.some.injEq] at hs
            rw [Nat.pow_succ]
            omega
        have := ih x v (k + 1) hx h
        rw [List.length_cons]
        rw [show k + (r.length + 1) = k + 1 + r.length by omega]
        exact this
  intro v h
  have := this l 0 v 0 (by simp) h
  simpa using this
theorem hval_none (l : List Nat) (i c : Nat) (hc : l[i]? = some c) (h : hdig c = none) : hval l = none := by
  have hn : ∀ l : List Nat, l.foldl hstep none = none := by
    intro l
    induction l with
    | nil => rfl
    | cons c r ih => exact ih
  unfold hval
  generalize (some 0 : Option Nat) = o
  induction l generalizing i o with
  | nil => simp at hc
  | cons x r ih =>
    rw [List.foldl_cons]
    cases i with
    | zero =>
      simp only [List.getElem?_cons_zero, Option.some.injEq] at hc
      subst hc
      have : hstep o x = none := by unfold hstep; rw [h]; cases o <;> rfl
      rw [this, hn]
    | succ i => exact ih (i := i) (by simpa using hc) _

/-! ### the names -/
def seg (n : Nat) : ByteArray := txt ([115] ++ hexd 8 n ++ [46, 115, 101, 103])
def segI (n : Int) : ByteArray := if 0 ≤ n ∧ n ≤ 1000000000 then seg n.toNat else { data := #[] }
def tmpI (n : Int) : ByteArray := if 0 ≤ n ∧ n ≤ 1000000000 then seg n.toNat ++ { data := #[46, 116, 109, 112] } else { data := #[] }
theorem segI_in (n : Nat) (h : n ≤ 1000000000) : segI (n : Int) = seg n := if_pos (by omega)
theorem segI_out (n : Int) (h : ¬ (0 ≤ n ∧ n ≤ 1000000000)) : segI n = { data := #[] } := if_neg h
theorem tmpI_in (n : Nat) (h : n ≤ 1000000000) : tmpI (n : Int) = seg n ++ { data := #[46, 116, 109, 112] } := if_pos (by omega)
theorem tmpI_out (n : Int) (h : ¬ (0 ≤ n ∧ n ≤ 1000000000)) : tmpI n = { data := #[] } := if_neg h
theorem seg_size (n : Nat) : (seg n).size = 13 := by
  unfold seg
  rw [txt_size]
  simp [hexd_length]
theorem tmp_size (n : Nat) : (seg n ++ { data := #[46, 116, 109, 112] }).size = 17 := by
  rw [ByteArray.size_append, seg_size]
  rfl
theorem segI_size (n : Int) : (segI n).size ≤ 13 := by
  unfold segI
  split
  · rw [seg_size]; exact Nat.le_refl _
  · exact Nat.zero_le _
theorem tmpI_size (n : Int) : (tmpI n).size ≤ 17 := by
  unfold tmpI
  split
  · rw [tmp_size]; exact Nat.le_refl _
  · exact Nat.zero_le _
theorem seg_nats (n : Nat) : nats (seg n) 0 = [115] ++ hexd 8 n ++ [46, 115, 101, 103] := by
  unfold seg
  apply nats_txt
  intro c hc
  simp only [List.mem_append, List.mem_cons, List.not_mem_nil, or_false] at hc
  rcases hc with (rfl | hc) | rfl | rfl | rfl | rfl
  · decide
  · exact hexd_byte _ _ c hc
  · decide
  · decide
  · decide
  · decide
theorem nats_one (b : ByteArray) : nats b 1 = (nats b 0).drop 1 := by
  unfold nats
  rw [← List.map_drop, List.drop_drop]
theorem seg_digits (n : Nat) : (nats (seg n) 1).take 8 = hexd 8 n := by
  rw [nats_one, seg_nats]
  show (hexd 8 n ++ [46, 115, 101, 103]).take 8 = _
  rw [List.take_append_of_le_length (by rw [hexd_length]; exact Nat.le_refl _), List.take_of_length_le (by rw [hexd_length]; exact Nat.le_refl _)]
theorem tmp_digits (n : Nat) : (nats (seg n ++ { data := #[46, 116, 109, 112] }) 1).take 8 = hexd 8 n := by
  rw [nats_append _ _ 1 (by rw [seg_size]; omega), List.take_append_of_le_length (by rw [nats_length, seg_size]; omega), seg_digits]

/-! ### what a name is read as -/
def rn (b : ByteArray) : Int × Int := if b.size < 13 ∨ 17 < b.size then (0, 0) else
  match hval ((nats b 1).take 8) with
  | none => (0, 0)
  | some n => if segI (n : Int) = b then (1, (n : Int)) else if tmpI (n : Int) = b then (2, (n : Int)) else (0, 0)
theorem rn_size (b : ByteArray) (h : b.size < 13 ∨ 17 < b.size) : rn b = (0, 0) := if_pos h
theorem rn_digits (b : ByteArray) (h : hval ((nats b 1).take 8) = none) : rn b = (0, 0) := by
  unfold rn
  split
  · rfl
  · rw [h]
theorem rn_seg (b : ByteArray) (n : Nat) (h0 : ¬ (b.size < 13 ∨ 17 < b.size)) (h : hval ((nats b 1).take 8) = some n) (h1 : segI (n : Int) = b) : rn b = (1, (n : Int)) := by
  unfold rn
  rw [if_neg h0, h]
  exact if_pos h1
theorem rn_tmp (b : ByteArray) (n : Nat) (h0 : ¬ (b.size < 13 ∨ 17 < b.size)) (h : hval ((nats b 1).take 8) = some n) (h1 : ¬ segI (n : Int) = b) (h2 : tmpI (n : Int) = b) : rn b = (2, (n : Int)) := by
  unfold rn
  rw [if_neg h0, h]
  show (if segI (n : Int) = b then _ else _) = _
  rw [if_neg h1]
  exact if_pos h2
theorem rn_other (b : ByteArray) (n : Nat) (h : hval ((nats b 1).take 8) = some n) (h1 : ¬ segI (n : Int) = b) (h2 : ¬ tmpI (n : Int) = b) : rn b = (0, 0) := by
  unfold rn
  split
  · rfl
  · rw [h]
    show (if segI (n : Int) = b then _ else _) = _
    rw [if_neg h1]
    exact if_neg h2
theorem rn_of_seg (n : Nat) (h : n ≤ 1000000000) : rn (segI (n : Int)) = (1, (n : Int)) := by
  have e : (16 : Nat) ^ 8 = 4294967296 := by decide
  rw [segI_in n h]
  exact rn_seg _ n (by rw [seg_size]; omega) (by rw [seg_digits, hval_hexd 8 n (by omega)]) (segI_in n h)
theorem rn_of_tmp (n : Nat) (h : n ≤ 1000000000) : rn (tmpI (n : Int)) = (2, (n : Int)) := by
  have e : (16 : Nat) ^ 8 = 4294967296 := by decide
  rw [tmpI_in n h]
  refine rn_tmp _ n (by rw [tmp_size]; omega) (by rw [tmp_digits, hval_hexd 8 n (by omega)]) ?_ (tmpI_in n h)
  rw [segI_in n h]
  intro e
  have := congrArg ByteArray.size e
  rw [seg_size, tmp_size] at this
  omega
/-- a name that is neither -/
theorem rn_none (b : ByteArray) (h : ∀ n : Nat, n ≤ 1000000000 → segI (n : Int) ≠ b ∧ tmpI (n : Int) ≠ b) : rn b = (0, 0) := by
  by_cases hs : b.size < 13 ∨ 17 < b.size
  · exact rn_size b hs
  · cases hv : hval ((nats b 1).take 8) with
    | none => exact rn_digits b hv
    | some n =>
      by_cases hn : n ≤ 1000000000
      · exact rn_other b n hv (h n hn).1 (h n hn).2
      · have hz : ({ data := #[] } : ByteArray).size = 0 := rfl
        refine rn_other b n hv ?_ ?_
        · rw [segI_out _ (by omega)]
          intro e
          rw [← e] at hs
          omega
        · rw [tmpI_out _ (by omega)]
          intro e
          rw [← e] at hs
          omega

/-! ### which names are right -/
def okc (c : Nat) : Bool := decide (97 ≤ c ∧ c ≤ 122) || decide (48 ≤ c ∧ c ≤ 57) || c == 46 || c == 45
def nok (b : ByteArray) : Bool := (nats b 0).all okc && decide (1 ≤ b.size ∧ b.size ≤ 20)
theorem nok_bad (b : ByteArray) (i c : Nat) (hc : (nats b 0)[i]? = some c) (h : okc c = false) : nok b = false := by
  unfold nok
  rw [Bool.and_eq_false_iff]
  left
  rw [List.all_eq_false]
  exact ⟨c, List.mem_of_getElem? hc, by simp [h]⟩
theorem nok_size (b : ByteArray) (h : ¬ (1 ≤ b.size ∧ b.size ≤ 20)) : nok b = false := by
  unfold nok
  rw [Bool.and_eq_false_iff]
  right
  simpa using h
theorem nok_all (b : ByteArray) (h : (nats b 0).all okc = true) (h2 : 1 ≤ b.size ∧ b.size ≤ 20) : nok b = true := by
  unfold nok
  rw [h]
  simpa using h2
theorem okc_fig (d : Nat) (h : d < 16) : okc (figN d) = true := by
  have : ∀ d : Fin 16, okc (figN d.val) = true := by decide
  exact this ⟨d, h⟩
theorem hexd_ok (k n : Nat) : (hexd k n).all okc = true := by
  induction k generalizing n with
  | zero => rfl
  | succ k ih => rw [hexd, List.all_append, ih]; simp [okc_fig (n % 16) (by omega)]
theorem nok_seg (n : Nat) (h : n ≤ 1000000000) : nok (segI (n : Int)) = true := by
  rw [segI_in n h]
  refine nok_all _ ?_ (by rw [seg_size]; omega)
  rw [seg_nats, List.all_append, List.all_append, hexd_ok]
  decide
theorem nok_tmp (n : Nat) (h : n ≤ 1000000000) : nok (tmpI (n : Int)) = true := by
  rw [tmpI_in n h]
  refine nok_all _ ?_ (by rw [tmp_size]; omega)
  rw [nats_append _ _ 0 (Nat.zero_le _), List.all_append, seg_nats, List.all_append, List.all_append, hexd_ok]
  decide

end Go.Proofs.YtkibddcjogfklaaGreatDoor.nam
