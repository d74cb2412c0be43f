/-
  Plain facts on the list of where what stands, on the trailer and on the foot: what is written, what is read, that the one comes back from the other.
-/
import Derived.Test.YtbgkdngeingmnaaFrMath
namespace Go.Proofs.Ytbgkdngeingmnaa.pl
set_option maxRecDepth 20000
open Go
open sum num burst hd fr

/-! ### places -/
def i64 (x : Int) : Prop := -9223372036854775808 ≤ x ∧ x ≤ 9223372036854775807
def plFrom (s : Nat) : Nat → List Int → List (Int × Int)
  | _, [] => []
  | i, o :: os => if i % s = 0 then ((i : Int), o) :: plFrom s (i + 1) os else plFrom s (i + 1) os
def plN (s : Int) (os : List Int) : List (Int × Int) := if 1 ≤ s then plFrom s.toNat 0 os else []
theorem plN_no {s : Int} {os : List Int} (h : ¬ 1 ≤ s) : plN s os = [] := if_neg h
theorem plN_nil (s : Int) : plN s [] = [] := by unfold plN; split <;> rfl
theorem plFrom_snoc (s : Nat) (os : List Int) (o : Int) : ∀ i, plFrom s i (os ++ [o]) = plFrom s i os ++ (if (i + os.length) % s = 0 then [(((i + os.length : Nat) : Int), o)] else []) := by
  induction os with
  | nil =>
    intro i
    show (if i % s = 0 then _ else _) = _
    rw [List.length_nil, Nat.add_zero]
    show _ = [] ++ _
    rw [List.nil_append]
    rfl
  | cons x xs ih =>
    intro i
    show (if i % s = 0 then _ :: plFrom s (i + 1) (xs ++ [o]) else plFrom s (i + 1) (xs ++ [o])) = (if i % s = 0 then _ :: plFrom s (i + 1) xs else plFrom s (i + 1) xs) ++ _
    rw [ih, List.length_cons, show i + 1 + xs.length = i + (xs.length + 1) by omega]
    split
    · rw [List.cons_append]
    · rfl
theorem plN_take {s : Int} {os : List Int} {k : Nat} {o : Int} (hs : 1 ≤ s) (h : os[k]? = some o) : plN s (os.take (k + 1)) = plN s (os.take k) ++ (if k % s.toNat = 0 then [((k : Int), o)] else []) := by
  have hl : k < os.length := (List.getElem?_eq_some_iff.1 h).1
  unfold plN
  rw [if_pos hs, if_pos hs, List.take_add_one, h, Option.toList_some, plFrom_snoc, List.length_take, Nat.min_eq_left (by omega), Nat.zero_add]
theorem snoc_ind {P : List Int → Prop} (h0 : P []) (h1 : ∀ l x, P l → P (l ++ [x])) : ∀ l, P l := fun l => by
  rw [← List.reverse_reverse l]
  induction l.reverse with
  | nil => exact h0
  | cons x xs ih =>
    rw [List.reverse_cons]
    exact h1 _ _ ih
theorem plFrom_all (s : Nat) (hs : 1 ≤ s) (os : List Int) : (plFrom s 0 os).length = (os.length + s - 1) / s ∧ ∀ i c, (plFrom s 0 os)[i]? = some c → c.1 = ((i * s : Nat) : Int) ∧ os[i * s]? = some c.2 := by
  induction os using snoc_ind with
  | h0 => exact ⟨by show 0 = (0 + s - 1) / s; rw [Nat.div_eq_of_lt (by omega)], fun i c h => by simp [plFrom] at h⟩
  | h1 os o ih =>
    obtain ⟨h1, h2⟩ := ih
    have e1 : (os ++ [o]).length = os.length + (0 + 1) := by rw [List.length_append, List.length_cons, List.length_nil]
    rw [plFrom_snoc, Nat.zero_add, e1]
    by_cases hk : os.length % s = 0
    · rw [if_pos hk]
      obtain ⟨q, hq⟩ : ∃ q, os.length = s * q := ⟨os.length / s, by have := Nat.div_add_mod os.length s; omega⟩
      have hlen : (plFrom s 0 os).length = q := by
        rw [h1, hq, show s * q + s - 1 = (s - 1) + s * q by omega, Nat.add_mul_div_left _ _ (by omega), Nat.div_eq_of_lt (by omega), Nat.zero_add]
      refine ⟨?_, fun i c hc => ?_⟩
      · rw [List.length_append, List.length_cons, List.length_nil, hlen, hq, show s * q + (0 + 1) + s - 1 = s * (q + 1) by rw [Nat.mul_add]; omega, Nat.mul_div_cancel_left _ (by omega)]
      · by_cases hi : i < (plFrom s 0 os).length
        · rw [List.getElem?_append_left hi] at hc
          obtain ⟨e1, e2⟩ := h2 i c hc
          exact ⟨e1, by rw [List.getElem?_append_left (List.getElem?_eq_some_iff.1 e2).1]; exact e2⟩
        · have hl : i < (plFrom s 0 os ++ [((os.length : Int), o)]).length := (List.getElem?_eq_some_iff.1 hc).1
          rw [List.length_append, List.length_cons, List.length_nil] at hl
          obtain rfl : i = q := by omega
          rw [List.getElem?_append_right (by omega), hlen, Nat.sub_self] at hc
          simp only [List.getElem?_cons_zero, Option.some.injEq] at hc
          subst hc
          have e : i * s = os.length := by rw [hq, Nat.mul_comm]
          exact ⟨by rw [e], by rw [e, List.getElem?_append_right (Nat.le_refl _), Nat.sub_self]; rfl⟩
    · rw [if_neg hk, List.append_nil]
      refine ⟨?_, fun i c hc => ?_⟩
      · rw [h1]
        have hm := Nat.div_add_mod os.length s
        have hlt := Nat.mod_lt os.length (show 0 < s by omega)
        generalize os.length / s = q at hm
        generalize os.length % s = m at hm hlt hk
        rw [← hm, show s * q + m + s - 1 = (m - 1) + s * (q + 1) by rw [Nat.mul_add]; omega, show s * q + m + (0 + 1) + s - 1 = m + s * (q + 1) by rw [Nat.mul_add]; omega, Nat.add_mul_div_left _ _ (by omega), Nat.add_mul_div_left _ _ (by omega), Nat.div_eq_of_lt (show m - 1 < s by omega), Nat.div_eq_of_lt hlt]
      · obtain ⟨e1, e2⟩ := h2 i c hc
        exact ⟨e1, by rw [List.getElem?_append_left (List.getElem?_eq_some_iff.1 e2).1]; exact e2⟩
theorem plFrom_le (s : Nat) (os : List Int) : ∀ i, (plFrom s i os).length ≤ os.length := by
  induction os with
  | nil => intro i; exact Nat.le_refl _
  | cons x xs ih =>
    intro i
    show (if i % s = 0 then _ :: plFrom s (i + 1) xs else plFrom s (i + 1) xs).length ≤ _
    have := ih (i + 1)
    split <;> simp only [List.length_cons] <;> omega
theorem plN_le (s : Int) (os : List Int) : (plN s os).length ≤ os.length := by
  unfold plN
  split
  · exact plFrom_le _ _ _
  · exact Nat.zero_le _
theorem plN_at {s : Int} {os : List Int} {i : Nat} {c : Int × Int} (h : (plN s os)[i]? = some c) : 1 ≤ s ∧ c.1 = ((i * s.toNat : Nat) : Int) ∧ os[i * s.toNat]? = some c.2 := by
  unfold plN at h
  split at h
  · next hs => exact ⟨hs, (plFrom_all s.toNat (by omega) os).2 i c h⟩
  · simp at h

/-! ### the text of places -/
/-- by how much it is above, -1 when it is not, or goes round -/
def less (a b : Int) : Int := if a < b ∨ 9223372036854775807 < a - b then -1 else a - b
theorem vtI_nul {n : Int} : vtI n = nul ↔ ¬ (0 ≤ n ∧ n ≤ 1000000000) := by
  constructor
  · intro h hn
    obtain ⟨m, rfl⟩ := Int.eq_ofNat_of_zero_le hn.1
    rw [vtI_in m (by omega)] at h
    have h2 := vt_size m
    rw [h] at h2
    have := vb_length_pos 4 m
    have h3 : nul.size = 0 := rfl
    omega
  · intro h
    exact vtI_out n h
def plGo (s : ByteArray) (l : Int × Int) : List (Int × Int) → ByteArray
  | [] => s
  | x :: xs => if vtI (less x.1 l.1) = nul ∨ vtI (less x.2 l.2) = nul then nul else plGo (s ++ vtI (less x.1 l.1) ++ vtI (less x.2 l.2)) x xs
def plT (xs : List (Int × Int)) : ByteArray := plGo (vtI (xs.length : Int)) (0, 0) xs
theorem plGo_bad {s : ByteArray} {l x : Int × Int} {xs : List (Int × Int)} (h : vtI (less x.1 l.1) = nul ∨ vtI (less x.2 l.2) = nul) : plGo s l (x :: xs) = nul := if_pos h
theorem plGo_next {s : ByteArray} {l x : Int × Int} {xs : List (Int × Int)} (h : ¬ (vtI (less x.1 l.1) = nul ∨ vtI (less x.2 l.2) = nul)) : plGo s l (x :: xs) = plGo (s ++ vtI (less x.1 l.1) ++ vtI (less x.2 l.2)) x xs := if_neg h
theorem plGo_size (xs : List (Int × Int)) : ∀ (s : ByteArray) (l : Int × Int), (plGo s l xs).size ≤ s.size + 10 * xs.length := by
  induction xs with
  | nil => intro s l; exact Nat.le_refl _
  | cons x xs ih =>
    intro s l
    by_cases h : vtI (less x.1 l.1) = nul ∨ vtI (less x.2 l.2) = nul
    · rw [plGo_bad h]; exact Nat.zero_le _
    · rw [plGo_next h]
      have h1 := ih (s ++ vtI (less x.1 l.1) ++ vtI (less x.2 l.2)) x
      have h2 := vtI_size (less x.1 l.1)
      have h3 := vtI_size (less x.2 l.2)
      rw [ByteArray.size_append, ByteArray.size_append] at h1
      rw [List.length_cons]
      omega
theorem plT_size (xs : List (Int × Int)) : (plT xs).size ≤ 5 + 10 * xs.length := by
  have h1 := plGo_size xs (vtI (xs.length : Int)) (0, 0)
  have h2 := vtI_size (xs.length : Int)
  unfold plT
  omega

/-! ### reading places -/
def rpGo (b : ByteArray) : Nat → Nat → Int × Int → List (Int × Int) → Option (List (Int × Int) × Nat)
  | 0, pos, _, acc => some (acc, pos)
  | n + 1, pos, l, acc =>
    match rv (nats b pos) with
    | none => none
    | some x =>
      match rv (nats b (pos + x.2)) with
      | none => none
      | some y => rpGo b n (pos + x.2 + y.2) (l.1 + x.1, l.2 + y.1) (acc ++ [(l.1 + x.1, l.2 + y.1)])
theorem rpGo_first {b : ByteArray} {n pos : Nat} {l : Int × Int} {acc : List (Int × Int)} (h : rv (nats b pos) = none) : rpGo b (n + 1) pos l acc = none := by
  show (match rv (nats b pos) with | none => none | some x => _) = _
  rw [h]
theorem rpGo_second {b : ByteArray} {n pos : Nat} {l : Int × Int} {acc : List (Int × Int)} {x : Nat × Nat} (h : rv (nats b pos) = some x) (h2 : rv (nats b (pos + x.2)) = none) : rpGo b (n + 1) pos l acc = none := by
  show (match rv (nats b pos) with | none => none | some x => _) = _
  rw [h]
  show (match rv (nats b (pos + x.2)) with | none => none | some y => _) = _
  rw [h2]
theorem rpGo_next {b : ByteArray} {n pos : Nat} {l : Int × Int} {acc : List (Int × Int)} {x y : Nat × Nat} (h : rv (nats b pos) = some x) (h2 : rv (nats b (pos + x.2)) = some y) : rpGo b (n + 1) pos l acc = rpGo b n (pos + x.2 + y.2) (l.1 + x.1, l.2 + y.1) (acc ++ [(l.1 + x.1, l.2 + y.1)]) := by
  show (match rv (nats b pos) with | none => none | some x => _) = _
  rw [h]
  show (match rv (nats b (pos + x.2)) with | none => none | some y => _) = _
  rw [h2]
def rdP (b : ByteArray) (a : Int) : Option (List (Int × Int) × Nat) :=
  if 0 ≤ a then
    match rv (nats b a.toNat) with
    | none => none
    | some x => if x.1 ≤ 1000 then rpGo b x.1 (a.toNat + x.2) (0, 0) [] else none
  else none
theorem rdP_neg {b : ByteArray} {a : Int} (h : a < 0) : rdP b a = none := if_neg (by omega)
theorem rdP_none {b : ByteArray} {a : Nat} (h : rv (nats b a) = none) : rdP b (a : Int) = none := by
  unfold rdP
  rw [if_pos (by omega), Int.toNat_natCast, h]
theorem rdP_many {b : ByteArray} {a : Nat} {x : Nat × Nat} (h : rv (nats b a) = some x) (hx : ¬ x.1 ≤ 1000) : rdP b (a : Int) = none := by
  unfold rdP
  rw [if_pos (by omega), Int.toNat_natCast, h]
  exact if_neg hx
theorem rdP_in {b : ByteArray} {a : Nat} {x : Nat × Nat} (h : rv (nats b a) = some x) (hx : x.1 ≤ 1000) : rdP b (a : Int) = rpGo b x.1 (a + x.2) (0, 0) [] := by
  unfold rdP
  rw [if_pos (by omega), Int.toNat_natCast, h]
  exact if_pos hx
theorem rv_at {n : Nat} (h : n ≤ 1000000000) (p r : ByteArray) : rv (nats (p ++ (vtI (n : Int) ++ r)) p.size) = some (n, (vtI (n : Int)).size) := by
  rw [nats_append p _ p.size (Nat.le_refl _), nats_over p p.size (Nat.le_refl _), List.nil_append, nats_app0, vtI_in n h, nats_vt n h, rv_vt n h, vt_size]
theorem app_assoc (x y z : ByteArray) : x ++ y ++ z = x ++ (y ++ z) := ByteArray.append_assoc
theorem less_in {a b : Int} (h : 0 ≤ less a b) : a = b + less a b := by
  unfold less at h ⊢
  split at h
  · omega
  · next hc => rw [if_neg hc]; omega
/-- what is written behind s comes back -/
theorem rpGo_plGo (xs : List (Int × Int)) : ∀ (s : ByteArray) (l : Int × Int), s ≠ nul → plGo s l xs ≠ nul → ∃ t, plGo s l xs = s ++ t ∧ ∀ (p z : ByteArray) (acc : List (Int × Int)), rpGo (p ++ (t ++ z)) xs.length p.size l acc = some (acc ++ xs, p.size + t.size) := by
  induction xs with
  | nil =>
    intro s l _ _
    refine ⟨nul, ?_, fun p z acc => ?_⟩
    · show s = _
      exact ByteArray.append_empty.symm
    · show some (acc, p.size) = _
      rw [List.append_nil]
      rfl
  | cons x xs ih =>
    intro s l hs hT
    by_cases h : vtI (less x.1 l.1) = nul ∨ vtI (less x.2 l.2) = nul
    · exact absurd (plGo_bad h) hT
    · rw [plGo_next h] at hT ⊢
      have h1 : 0 ≤ less x.1 l.1 ∧ less x.1 l.1 ≤ 1000000000 := by
        by_cases hc : 0 ≤ less x.1 l.1 ∧ less x.1 l.1 ≤ 1000000000
        · exact hc
        · exact absurd (.inl (vtI_nul.2 hc)) h
      have h2 : 0 ≤ less x.2 l.2 ∧ less x.2 l.2 ≤ 1000000000 := by
        by_cases hc : 0 ≤ less x.2 l.2 ∧ less x.2 l.2 ≤ 1000000000
        · exact hc
        · exact absurd (.inr (vtI_nul.2 hc)) h
      have e1 := less_in h1.1
      have e2 := less_in h2.1
      obtain ⟨m, hm⟩ := Int.eq_ofNat_of_zero_le h1.1
      obtain ⟨k, hk⟩ := Int.eq_ofNat_of_zero_le h2.1
      rw [hm] at hT e1 h1 ⊢
      rw [hk] at hT e2 h2 ⊢
      have hs' : s ++ vtI (m : Int) ++ vtI (k : Int) ≠ nul := fun e => by
        have e3 := congrArg ByteArray.size e
        rw [ByteArray.size_append, ByteArray.size_append] at e3
        have e4 : nul.size = 0 := rfl
        have e5 : s.size = 0 := by omega
        exact hs (ByteArray.size_eq_zero_iff.1 e5)
      obtain ⟨t, ht, hr⟩ := ih _ x hs' hT
      refine ⟨vtI (m : Int) ++ (vtI (k : Int) ++ t), ?_, fun p z acc => ?_⟩
      · rw [ht, app_assoc, app_assoc]
      · have r1 : rv (nats (p ++ (vtI (m : Int) ++ (vtI (k : Int) ++ t) ++ z)) p.size) = some (m, (vtI (m : Int)).size) := by
          rw [app_assoc]
          exact rv_at (by omega) p _
        have r2 : rv (nats (p ++ (vtI (m : Int) ++ (vtI (k : Int) ++ t) ++ z)) (p.size + (vtI (m : Int)).size)) = some (k, (vtI (k : Int)).size) := by
          rw [app_assoc, ← app_assoc p, app_assoc (vtI (k : Int)), ← ByteArray.size_append]
          exact rv_at (by omega) _ _
        rw [List.length_cons, rpGo_next r1 r2]
        have r3 := hr (p ++ vtI (m : Int) ++ vtI (k : Int)) z (acc ++ [x])
        rw [ByteArray.size_append, ByteArray.size_append] at r3
        rw [show (l.1 + ((m, (vtI (m : Int)).size) : Nat × Nat).1, l.2 + ((k, (vtI (k : Int)).size) : Nat × Nat).1) = x from by rw [← e1, ← e2]]
        show rpGo _ xs.length (p.size + (vtI (m : Int)).size + (vtI (k : Int)).size) x _ = _
        rw [show p ++ (vtI (m : Int) ++ (vtI (k : Int) ++ t) ++ z) = p ++ vtI (m : Int) ++ vtI (k : Int) ++ (t ++ z) by simp only [app_assoc], r3]
        simp only [ByteArray.size_append, List.append_assoc, List.cons_append, List.nil_append, Nat.add_assoc]
/-- places come back from their bytes, whatever is ahead and behind -/
theorem rdP_plT {xs : List (Int × Int)} (hn : xs.length ≤ 1000) (hT : plT xs ≠ nul) (p z : ByteArray) : rdP (p ++ (plT xs ++ z)) (p.size : Int) = some (xs, p.size + (plT xs).size) := by
  have h0 : vtI (xs.length : Int) ≠ nul := fun e => (vtI_nul.1 e) ⟨by omega, by omega⟩
  obtain ⟨t, ht, hr⟩ := rpGo_plGo xs (vtI (xs.length : Int)) (0, 0) h0 hT
  have ht' : plT xs = vtI (xs.length : Int) ++ t := ht
  rw [ht']
  have r1 : rv (nats (p ++ (vtI (xs.length : Int) ++ t ++ z)) p.size) = some (xs.length, (vtI (xs.length : Int)).size) := by
    rw [app_assoc]
    exact rv_at (by omega) p _
  rw [rdP_in r1 hn]
  have r3 := hr (p ++ vtI (xs.length : Int)) z []
  rw [show p ++ (vtI (xs.length : Int) ++ t ++ z) = p ++ vtI (xs.length : Int) ++ (t ++ z) by simp only [app_assoc]]
  rw [ByteArray.size_append] at r3
  show rpGo _ xs.length (p.size + (vtI (xs.length : Int)).size) (0, 0) [] = _
  rw [r3, List.nil_append, ByteArray.size_append, Nat.add_assoc]

/-! ### the trailer -/
def idx : ByteArray := { data := #[73, 68, 88, 33] }
def noTr (a b c d : Int) : Prop := fxI a 4 = nul ∨ fxI b 4 = nul ∨ fxI c 4 = nul ∨ fxI d 4 = nul
instance (a b c d : Int) : Decidable (noTr a b c d) := by unfold noTr; infer_instance
def trT (a b c d : Int) : ByteArray := if noTr a b c d then nul else fxI a 4 ++ fxI b 4 ++ fxI c 4 ++ fxI d 4 ++ idx
theorem trT_no {a b c d : Int} (h : noTr a b c d) : trT a b c d = nul := if_pos h
theorem trT_yes {a b c d : Int} (h : ¬ noTr a b c d) : trT a b c d = fxI a 4 ++ fxI b 4 ++ fxI c 4 ++ fxI d 4 ++ idx := if_neg h
theorem fx_nul {n : Int} : fxI n 4 = nul ↔ ¬ (0 ≤ n ∧ n < 4294967296) := by
  have e4 : (256 : Nat) ^ 4 = 4294967296 := by decide
  constructor
  · intro h hn
    have h2 := fx4_size (n := n.toNat) (by omega)
    unfold fx4 at h2
    rw [show ((n.toNat : Nat) : Int) = n by omega, h] at h2
    exact absurd h2 (by decide)
  · intro h
    by_cases h0 : n < 0
    · exact fxI_out n 4 (.inl h0)
    · obtain ⟨m, rfl⟩ := Int.eq_ofNat_of_zero_le (show 0 ≤ n by omega)
      exact fxI_big m 4 (by rw [e4]; omega)
theorem trT_in {a b c d : Nat} (h1 : a < 4294967296) (h2 : b < 4294967296) (h3 : c < 4294967296) (h4 : d < 4294967296) : trT a b c d = fx4 a ++ fx4 b ++ fx4 c ++ fx4 d ++ idx := by
  refine trT_yes fun h => ?_
  rcases h with h | h | h | h
  all_goals exact (fx_nul.1 h) ⟨by omega, by omega⟩
theorem trT_nats {a b c d : Nat} (h1 : a < 4294967296) (h2 : b < 4294967296) (h3 : c < 4294967296) (h4 : d < 4294967296) : nats (trT a b c d) 0 = fb 4 a ++ fb 4 b ++ fb 4 c ++ fb 4 d ++ [73, 68, 88, 33] := by
  rw [trT_in h1 h2 h3 h4, nats_app0, nats_app0, nats_app0, nats_app0, fx4_nats h1, fx4_nats h2, fx4_nats h3, fx4_nats h4]
  rfl
theorem trT_parts {a b c d : Int} (h : trT a b c d ≠ nul) : (0 ≤ a ∧ a < 4294967296) ∧ (0 ≤ b ∧ b < 4294967296) ∧ (0 ≤ c ∧ c < 4294967296) ∧ (0 ≤ d ∧ d < 4294967296) := by
  have hn : ¬ noTr a b c d := fun e => h (trT_no e)
  have key : ∀ x : Int, fxI x 4 ≠ nul → 0 ≤ x ∧ x < 4294967296 := fun x hx => by
    by_cases hc : 0 ≤ x ∧ x < 4294967296
    · exact hc
    · exact absurd (fx_nul.2 hc) hx
  exact ⟨key a fun e => hn (.inl e), key b fun e => hn (.inr (.inl e)), key c fun e => hn (.inr (.inr (.inl e))), key d fun e => hn (.inr (.inr (.inr e)))⟩
theorem trT_size {a b c d : Int} (h : trT a b c d ≠ nul) : (trT a b c d).size = 20 := by
  obtain ⟨⟨a0, a1⟩, ⟨b0, b1⟩, ⟨c0, c1⟩, d0, d1⟩ := trT_parts h
  obtain ⟨a, rfl⟩ := Int.eq_ofNat_of_zero_le a0
  obtain ⟨b, rfl⟩ := Int.eq_ofNat_of_zero_le b0
  obtain ⟨c, rfl⟩ := Int.eq_ofNat_of_zero_le c0
  obtain ⟨d, rfl⟩ := Int.eq_ofNat_of_zero_le d0
  rw [nats_size, trT_nats (by omega) (by omega) (by omega) (by omega)]
  simp [fb_length]
theorem tr20 {a b c d : Int} (ha : 0 ≤ a ∧ a < 4294967296) (hb : 0 ≤ b ∧ b < 4294967296) (hc : 0 ≤ c ∧ c < 4294967296) (hd : 0 ≤ d ∧ d < 4294967296) : (trT a b c d).size = 20 := by
  obtain ⟨a, rfl⟩ := Int.eq_ofNat_of_zero_le ha.1
  obtain ⟨b, rfl⟩ := Int.eq_ofNat_of_zero_le hb.1
  obtain ⟨c, rfl⟩ := Int.eq_ofNat_of_zero_le hc.1
  obtain ⟨d, rfl⟩ := Int.eq_ofNat_of_zero_le hd.1
  rw [nats_size, trT_nats (by omega) (by omega) (by omega) (by omega)]
  simp [fb_length]
theorem trT_le (a b c d : Int) : (trT a b c d).size ≤ 20 := by
  by_cases h : trT a b c d = nul
  · rw [h]; exact Nat.zero_le _
  · rw [trT_size h]; exact Nat.le_refl _
def rdT (b : ByteArray) : Option (Nat × Nat × Nat × Nat) := if 20 ≤ b.size ∧ b.extract (b.size - 4) b.size = idx then some (valF b (b.size - 20) 4, valF b (b.size - 16) 4, valF b (b.size - 12) 4, valF b (b.size - 8) 4) else none
theorem rdT_no {b : ByteArray} (h : ¬ (20 ≤ b.size ∧ b.extract (b.size - 4) b.size = idx)) : rdT b = none := if_neg h
theorem rdT_yes {b : ByteArray} (h : 20 ≤ b.size) (h2 : b.extract (b.size - 4) b.size = idx) : rdT b = some (valF b (b.size - 20) 4, valF b (b.size - 16) 4, valF b (b.size - 12) 4, valF b (b.size - 8) 4) := if_pos ⟨h, h2⟩
theorem valF_lt (b : ByteArray) (a : Nat) : valF b a 4 < 4294967296 := by
  have h4 := val_lt ((nats b a).take 4) fun c hc => nats_byte b a c (List.mem_of_mem_take hc)
  have hl : ((nats b a).take 4).length ≤ 4 := by rw [List.length_take]; omega
  have e4 : (256 : Nat) ^ 4 = 4294967296 := by decide
  have := Nat.pow_le_pow_right (show 0 < 256 by omega) hl
  unfold valF
  omega
theorem fb_valF {b : ByteArray} {a : Nat} (h : a + 4 ≤ b.size) : fb 4 (valF b a 4) = (nats b a).take 4 := by
  have e := fb_val ((nats b a).take 4) fun c hc => nats_byte b a c (List.mem_of_mem_take hc)
  rw [List.length_take, nats_length, Nat.min_eq_left (by omega)] at e
  exact e
theorem cut4 {n : Nat} (l m r : List Nat) (h : l.length = n) (h4 : m.length = 4) : ((l ++ (m ++ r)).drop n).take 4 = m := by
  rw [List.drop_append_of_le_length (by omega), List.drop_of_length_le (by omega), List.nil_append, List.take_append_of_le_length (by omega), List.take_of_length_le (by omega)]
/-- a trailer that stands at the end is read -/
theorem rdT_trT {a b c d : Nat} (h1 : a < 4294967296) (h2 : b < 4294967296) (h3 : c < 4294967296) (h4 : d < 4294967296) (x : ByteArray) : rdT (x ++ trT a b c d) = some (a, b, c, d) := by
  have hn := trT_nats h1 h2 h3 h4
  have hs : (trT a b c d).size = 20 := by rw [nats_size, hn]; simp [fb_length]
  obtain ⟨T, hT⟩ : ∃ T, trT (a : Int) b c d = T := ⟨_, rfl⟩
  rw [hT] at hn hs ⊢
  have hN : ∀ k, nats (x ++ T) (x.size + k) = (nats T 0).drop k := fun k => by
    rw [nats_drop, nats_append x T x.size (Nat.le_refl _), nats_over x x.size (Nat.le_refl _), List.nil_append]
  have hsz : (x ++ T).size = x.size + 20 := by rw [ByteArray.size_append, hs]
  have key : ∀ k n, n < 4294967296 → ((nats T 0).drop k).take 4 = fb 4 n → valF (x ++ T) (x.size + k) 4 = n := fun k n hlt e => by
    unfold valF
    rw [hN, e, val_fb4 hlt]
  have L := fb_length 4
  rw [rdT_yes (by omega) (by
    rw [show (x ++ T).size - 4 = x.size + 16 by omega, show (x ++ T).size = x.size + 16 + 4 by omega]
    refine ext_of ?_
    rw [hN, hn]
    simp [List.drop_append, fb_length]
    rfl)]
  rw [show (x ++ T).size - 20 = x.size + 0 by omega, show (x ++ T).size - 16 = x.size + 4 by omega, show (x ++ T).size - 12 = x.size + 8 by omega, show (x ++ T).size - 8 = x.size + 12 by omega]
  have k0 := key 0 a h1 (by rw [hn]; simpa only [List.append_assoc, List.nil_append] using cut4 (n := 0) [] (fb 4 a) (fb 4 b ++ (fb 4 c ++ (fb 4 d ++ [73, 68, 88, 33]))) rfl (L a))
  have k4 := key 4 b h2 (by rw [hn]; simpa only [List.append_assoc] using cut4 (fb 4 a) (fb 4 b) (fb 4 c ++ (fb 4 d ++ [73, 68, 88, 33])) (L a) (L b))
  have k8 := key 8 c h3 (by rw [hn]; simpa only [List.append_assoc] using cut4 (fb 4 a ++ fb 4 b) (fb 4 c) (fb 4 d ++ [73, 68, 88, 33]) (by rw [List.length_append, L, L]) (L c))
  have k12 := key 12 d h4 (by rw [hn]; simpa only [List.append_assoc] using cut4 (fb 4 a ++ fb 4 b ++ fb 4 c) (fb 4 d) [73, 68, 88, 33] (by rw [List.length_append, List.length_append, L, L, L]) (L d))
  rw [k0, k4, k8, k12]
/-- what is read at the end is the trailer of it -/
theorem trT_rdT {b : ByteArray} {x : Nat × Nat × Nat × Nat} (h : rdT b = some x) : 20 ≤ b.size ∧ b.extract (b.size - 20) b.size = trT x.1 x.2.1 x.2.2.1 x.2.2.2 ∧ x.1 < 4294967296 ∧ x.2.1 < 4294967296 ∧ x.2.2.1 < 4294967296 ∧ x.2.2.2 < 4294967296 := by
  unfold rdT at h
  split at h
  · next hc =>
    obtain ⟨h20, hi⟩ := hc
    simp only [Option.some.injEq] at h
    subst h
    refine ⟨h20, ?_, valF_lt _ _, valF_lt _ _, valF_lt _ _, valF_lt _ _⟩
    rw [show b.extract (b.size - 20) b.size = b.extract (b.size - 20) (b.size - 20 + 20) by congr 1; omega]
    refine ext_of ?_
    rw [trT_nats (valF_lt _ _) (valF_lt _ _) (valF_lt _ _) (valF_lt _ _), fb_valF (by omega), fb_valF (by omega), fb_valF (by omega), fb_valF (by omega)]
    rw [show b.extract (b.size - 4) b.size = b.extract (b.size - 4) (b.size - 4 + 4) by congr 1; omega] at hi
    have h4 := ext_to hi
    rw [show b.size - 4 = b.size - 20 + 16 by omega] at h4
    rw [show b.size - 16 = b.size - 20 + 4 by omega, show b.size - 12 = b.size - 20 + 8 by omega, show b.size - 8 = b.size - 20 + 12 by omega]
    rw [nats_drop b (b.size - 20) 4, nats_drop b (b.size - 20) 8, nats_drop b (b.size - 20) 12]
    rw [nats_drop b (b.size - 20) 16] at h4
    have e : ([73, 68, 88, 33] : List Nat) = nats idx 0 := rfl
    rw [e, ← h4]
    generalize nats b (b.size - 20) = l
    rw [show (20 : Nat) = 4 + (4 + (4 + (4 + 4))) from rfl, List.take_add, List.take_add, List.take_add, List.take_add]
    simp only [List.drop_drop, List.append_assoc]
  · cases h

/-! ### the foot -/
def fbody (h : Hd) (os : List Int) (e : Int) : ByteArray := emT h.v (h.b + (os.length : Int)) ++ plT (plN h.s os) ++ (trT e (os.length : Int) h.s 0).extract 0 12
def noFt (h : Hd) (os : List Int) (e : Int) : Prop := emT h.v (h.b + (os.length : Int)) = nul ∨ plT (plN h.s os) = nul ∨ trT e (os.length : Int) h.s 0 = nul
instance (h : Hd) (os : List Int) (e : Int) : Decidable (noFt h os e) := by unfold noFt; infer_instance
def ftT (h : Hd) (os : List Int) (e : Int) : ByteArray := if okH h = true ∧ ¬ noFt h os e then emT h.v (h.b + (os.length : Int)) ++ plT (plN h.s os) ++ trT e (os.length : Int) h.s (sumT (fbody h os e) : Nat) else nul
theorem ftT_no {h : Hd} {os : List Int} {e : Int} (hk : okH h = false) : ftT h os e = nul := if_neg fun x => by rw [hk] at x; exact absurd x.1 (by decide)
theorem ftT_bad {h : Hd} {os : List Int} {e : Int} (hk : noFt h os e) : ftT h os e = nul := if_neg fun x => x.2 hk
theorem ftT_yes {h : Hd} {os : List Int} {e : Int} (hk : okH h = true) (hn : ¬ noFt h os e) : ftT h os e = emT h.v (h.b + (os.length : Int)) ++ plT (plN h.s os) ++ trT e (os.length : Int) h.s (sumT (fbody h os e) : Nat) := if_pos ⟨hk, hn⟩
theorem ftT_le (h : Hd) (os : List Int) (e : Int) : (ftT h os e).size ≤ 33 + 10 * os.length := by
  by_cases hk : okH h = true ∧ ¬ noFt h os e
  · rw [ftT_yes hk.1 hk.2, ByteArray.size_append, ByteArray.size_append]
    have h1 := emT_le h.v (h.b + (os.length : Int))
    have h2 := plT_size (plN h.s os)
    have h3 := plN_le h.s os
    have h4 := trT_le e (os.length : Int) h.s (sumT (fbody h os e) : Nat)
    omega
  · rw [show ftT h os e = nul from if_neg hk]
    exact Nat.zero_le _
/-- a foot tells where its frames end, how many there are, the stride and its sum -/
theorem rdT_ftT {h : Hd} {os : List Int} {e : Int} (hf : ftT h os e ≠ nul) : okH h = true ∧ ∃ m : Nat, e = m ∧ rdT (ftT h os e) = some (m, os.length, h.s.toNat, sumT (fbody h os e)) ∧ 20 ≤ (ftT h os e).size ∧ (ftT h os e).extract 0 ((ftT h os e).size - 8) = fbody h os e := by
  by_cases hk : okH h = true ∧ ¬ noFt h os e
  · refine ⟨hk.1, ?_⟩
    obtain ⟨_, _, s0, s1, _⟩ := okH_is.1 hk.1
    have ht : trT e (os.length : Int) h.s 0 ≠ nul := fun x => hk.2 (.inr (.inr x))
    obtain ⟨⟨a0, a1⟩, ⟨b0, b1⟩, ⟨c0, c1⟩, _⟩ := trT_parts ht
    obtain ⟨m, rfl⟩ := Int.eq_ofNat_of_zero_le a0
    obtain ⟨s, hs⟩ := Int.eq_ofNat_of_zero_le c0
    have hsum := sumT_lt (fbody h os m)
    refine ⟨m, rfl, ?_⟩
    have e0 : nats (trT (m : Int) (os.length : Int) (s : Int) 0) 0 = fb 4 m ++ fb 4 os.length ++ fb 4 s ++ fb 4 0 ++ [73, 68, 88, 33] := trT_nats (a := m) (b := os.length) (c := s) (d := 0) (by omega) (by omega) (by omega) (by omega)
    have e1 := trT_nats (a := m) (b := os.length) (c := s) (d := sumT (fbody h os m)) (by omega) (by omega) (by omega) hsum
    have hF : ftT h os m = emT h.v (h.b + (os.length : Int)) ++ plT (plN h.s os) ++ trT m (os.length : Int) s (sumT (fbody h os m) : Nat) := by rw [ftT_yes hk.1 hk.2, hs]
    have h20 : (trT (m : Int) (os.length : Int) s (sumT (fbody h os m) : Nat)).size = 20 := by rw [nats_size, e1]; simp [fb_length]
    have hsz : (ftT h os m).size = (emT h.v (h.b + (os.length : Int)) ++ plT (plN h.s os)).size + 20 := by rw [hF, ByteArray.size_append, h20]
    refine ⟨?_, by omega, ?_⟩
    · rw [hF, rdT_trT (by omega) (by omega) (by omega) hsum, hs]
      rfl
    · rw [hsz, show fbody h os m = emT h.v (h.b + (os.length : Int)) ++ plT (plN h.s os) ++ (trT m (os.length : Int) s 0).extract 0 12 by unfold fbody; rw [hs]]
      rw [hF]
      generalize emT h.v (h.b + (os.length : Int)) ++ plT (plN h.s os) = X
      rw [show X.size + 20 - 8 = 0 + (X.size + 12) by omega]
      refine ext_of ?_
      have e2 : nats ((trT (m : Int) (os.length : Int) s 0).extract 0 (0 + 12)) 0 = (nats (trT (m : Int) (os.length : Int) s 0) 0).take 12 := nats_extract _ 0 12
      rw [nats_app0, nats_app0, show (12 : Nat) = 0 + 12 from rfl, e2, e0, e1, List.take_append, List.take_of_length_le (by rw [nats_length]; omega), nats_length]
      congr 1
      rw [show X.size + (0 + 12) - (X.size - 0) = 12 by omega]
      simp [fb_length, List.take_append]
  · exact absurd (if_neg hk) hf

end Go.Proofs.Ytbgkdngeingmnaa.pl
