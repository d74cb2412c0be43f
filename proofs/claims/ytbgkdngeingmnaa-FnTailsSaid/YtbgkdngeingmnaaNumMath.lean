/-
  Plain facts on numbers in bytes: 7 bits a byte, and so many bytes; what is written, what is read, and that the one comes back from the other.
-/
import Derived.Laws.BytesArg
import Derived.Laws.BitsLemmas
import Derived.Laws.Entries
namespace Go.Proofs.Ytbgkdngeingmnaa.num
set_option maxRecDepth 20000
open Go

/-! ### 7 bits a byte -/
def vb : Nat → Nat → List Nat
  | 0, n => [n]
  | k + 1, n => if n < 128 then [n] else (n % 128 + 128) :: vb k (n / 128)
theorem vb_low (k n : Nat) (h : n < 128) : vb k n = [n] := by
  cases k with
  | zero => rfl
  | succ k => exact if_pos h
theorem vb_high (k n : Nat) (h : ¬ n < 128) : vb (k + 1) n = (n % 128 + 128) :: vb k (n / 128) := if_neg h
theorem vb_length_pos (k n : Nat) : 0 < (vb k n).length := by
  cases k with
  | zero => simp [vb]
  | succ k => unfold vb; split <;> simp
theorem vb_length (k n : Nat) : (vb k n).length ≤ k + 1 := by
  induction k generalizing n with
  | zero => simp [vb]
  | succ k ih =>
    unfold vb
    split
    · simp
    · simp only [List.length_cons]; have := ih (n / 128); omega
theorem vb_byte (k n : Nat) (h : n < 128 ^ (k + 1)) : ∀ c ∈ vb k n, c < 256 := by
  induction k generalizing n with
  | zero => intro c hc; simp [vb] at hc; subst hc; simp at h; omega
  | succ k ih =>
    unfold vb
    split
    · intro c hc; simp at hc; omega
    · intro c hc
      rcases List.mem_cons.1 hc with rfl | hc
      · omega
      · exact ih (n / 128) (by rw [Nat.pow_succ] at h; omega) c hc

/-- what is read: the number, and how many bytes -/
def rd : Nat → List Nat → Option (Nat × Nat)
  | 0, _ => none
  | _ + 1, [] => none
  | k + 1, c :: r => if c < 128 then some (c, 1) else (rd k r).map fun p => (c % 128 + 128 * p.1, p.2 + 1)
theorem rd_vb (k n : Nat) (h : n < 128 ^ (k + 1)) (r : List Nat) : rd (k + 1) (vb k n ++ r) = some (n, (vb k n).length) := by
  induction k generalizing n with
  | zero =>
    have : n < 128 := by simpa using h
    simp [vb, rd, this]
  | succ k ih =>
    by_cases hl : n < 128
    · rw [vb_low _ _ hl]
      simp [rd, hl]
    · rw [vb_high k n hl, List.cons_append, rd, if_neg (by omega), ih (n / 128) (by rw [Nat.pow_succ] at h; omega)]
      simp only [Option.map_some, List.length_cons, Option.some.injEq, Prod.mk.injEq, and_true]
      omega
theorem rd_pos (k : Nat) (l : List Nat) (v m : Nat) (h : rd k l = some (v, m)) : 0 < m := by
  cases k with
  | zero => simp [rd] at h
  | succ k =>
    cases l with
    | nil => simp [rd] at h
    | cons c r =>
      unfold rd at h
      split at h
      · simp only [Option.some.injEq, Prod.mk.injEq] at h
        omega
      · cases hr : rd k r with
        | none => simp [hr] at h
        | some p =>
          simp only [hr, Option.map_some, Option.some.injEq, Prod.mk.injEq] at h
          omega
theorem lt128 {n : Nat} (h : n ≤ 1000000000) : n < 128 ^ (4 + 1) := by
  have : (128 : Nat) ^ (4 + 1) = 34359738368 := by decide
  omega
/-- what is read with as many bytes as it is written in is what is written -/
theorem rd_take (k j : Nat) (l : List Nat) (hb : ∀ c ∈ l, c < 256) : ∀ v m, rd k l = some (v, m) → (vb j v).length = m → l.take m = vb j v := by
  induction k generalizing l j with
  | zero => intro v m h; simp [rd] at h
  | succ k ih =>
    intro v m h hm
    cases l with
    | nil => simp [rd] at h
    | cons c r =>
      unfold rd at h
      split at h
      · next hc =>
        simp only [Option.some.injEq, Prod.mk.injEq] at h
        obtain ⟨rfl, rfl⟩ := h
        rw [vb_low _ _ hc]
        rfl
      · next hc =>
        cases hr : rd k r with
        | none => simp [hr] at h
        | some p =>
          simp only [hr, Option.map_some, Option.some.injEq, Prod.mk.injEq] at h
          obtain ⟨rfl, rfl⟩ := h
          have hc2 : c < 256 := hb c (by simp)
          have hp := rd_pos k r p.1 p.2 hr
          cases j with
          | zero =>
            simp only [vb, List.length_cons, List.length_nil] at hm
            omega
          | succ j =>
            by_cases hl : c % 128 + 128 * p.1 < 128
            · rw [vb_low _ _ hl] at hm
              simp only [List.length_cons, List.length_nil] at hm
              omega
            · rw [vb_high j _ hl] at hm ⊢
              simp only [List.length_cons, Nat.add_right_cancel_iff] at hm
              rw [show (c % 128 + 128 * p.1) / 128 = p.1 by omega] at hm ⊢
              rw [List.take_succ_cons, ih j r (fun x hx => hb x (by simp [hx])) p.1 p.2 hr hm]
              congr 1
              omega

/-! ### a reading, byte by byte: i of them gone, z what they come to -/
def Gone (l : List Nat) (i z : Nat) : Prop := z < 128 ^ i ∧ rd 5 l = (rd (5 - i) (l.drop i)).map fun p => (z + 128 ^ i * p.1, p.2 + i)
theorem gone_zero (l : List Nat) : Gone l 0 0 := by
  refine ⟨by decide, ?_⟩
  cases h : rd 5 l <;> simp [h]
theorem gone_next {l : List Nat} {i z c : Nat} (h : Gone l i z) (hi : i < 5) (hc : l[i]? = some c) (h1 : 128 ≤ c) : Gone l (i + 1) (z + 128 ^ i * (c % 128)) := by
  obtain ⟨hz, h⟩ := h
  have hlt : i < l.length := (List.getElem?_eq_some_iff.1 hc).1
  have hd : l.drop i = c :: l.drop (i + 1) := by
    rw [List.drop_eq_getElem_cons hlt]
    congr 1
    exact (List.getElem?_eq_some_iff.1 hc).2
  refine ⟨?_, ?_⟩
  · have h3 : c % 128 ≤ 127 := by omega
    have h4 := Nat.mul_le_mul_left (128 ^ i) h3
    rw [Nat.pow_succ]
    omega
  · rw [h, hd, show 5 - i = (5 - (i + 1)) + 1 by omega, rd, if_neg (by omega)]
    cases hr : rd (5 - (i + 1)) (l.drop (i + 1)) with
    | none => rfl
    | some p =>
      simp only [Option.map_some, Option.some.injEq, Prod.mk.injEq]
      refine ⟨?_, by omega⟩
      rw [Nat.mul_add, ← Nat.mul_assoc, ← Nat.pow_succ, Nat.add_assoc]
theorem gone_stop {l : List Nat} {i z c : Nat} (h : Gone l i z) (hi : i < 5) (hc : l[i]? = some c) (h1 : c < 128) : rd 5 l = some (z + 128 ^ i * c, i + 1) := by
  obtain ⟨hz, h⟩ := h
  have hlt : i < l.length := (List.getElem?_eq_some_iff.1 hc).1
  have hd : l.drop i = c :: l.drop (i + 1) := by
    rw [List.drop_eq_getElem_cons hlt]
    congr 1
    exact (List.getElem?_eq_some_iff.1 hc).2
  rw [h, hd, show 5 - i = (5 - (i + 1)) + 1 by omega, rd, if_pos h1]
  simp only [Option.map_some, Option.some.injEq, Prod.mk.injEq, true_and]
  omega
theorem gone_end {l : List Nat} {i z : Nat} (h : Gone l i z) (hi : 5 ≤ i ∨ l.length ≤ i) : rd 5 l = none := by
  rw [h.2]
  rcases hi with hi | hi
  · rw [show 5 - i = 0 by omega]
    rfl
  · rw [List.drop_eq_nil_of_le hi]
    cases 5 - i <;> rfl

/-! ### texts -/
def nats (b : ByteArray) (a : Nat) : List Nat := (b.data.toList.drop a).map UInt8.toNat
theorem nats_length (b : ByteArray) (a : Nat) : (nats b a).length = b.size - a := by simp [nats]
theorem nats_byte (b : ByteArray) (a : Nat) : ∀ c ∈ nats b a, c < 256 := by
  intro c hc
  obtain ⟨x, _, rfl⟩ := List.mem_map.1 hc
  exact x.toNat_lt
theorem nats_get (b : ByteArray) (a i : Nat) (h : a + i < b.size) : (nats b a)[i]? = some (b[a + i].toNat) := by
  unfold nats
  rw [List.getElem?_map, List.getElem?_drop, List.getElem?_eq_getElem (by simpa using h)]
  rfl
/-- the text of some bytes -/
def txt (l : List Nat) : ByteArray := ⟨(l.map UInt8.ofNat).toArray⟩
theorem txt_size (l : List Nat) : (txt l).size = l.length := by simp [txt, ByteArray.size]
theorem txt_nil : txt [] = { data := #[] } := rfl
theorem txt_append (l r : List Nat) : txt (l ++ r) = txt l ++ txt r := by
  apply ByteArray.ext
  simp [txt, ByteArray.data_append]
theorem txt_nums (xs : List Nat) : strOfNums (xs.map fun (c : Nat) => (c : Int)) = txt xs := by
  unfold strOfNums txt
  rw [List.map_map]
  congr 2
theorem nats_txt (l : List Nat) (h : ∀ c ∈ l, c < 256) : nats (txt l) 0 = l := by
  unfold nats txt
  rw [List.drop_zero]
  show (l.map UInt8.ofNat).map UInt8.toNat = l
  rw [List.map_map]
  conv => rhs; rw [← List.map_id l]
  apply List.map_congr_left
  intro c hc
  show (UInt8.ofNat c).toNat = c
  have := h c hc
  rw [UInt8.toNat_ofNat']
  omega
theorem txt_nats (b : ByteArray) (a m : Nat) : b.extract a (a + m) = txt ((nats b a).take m) := by
  apply ByteArray.ext
  rw [ByteArray.data_extract]
  apply Array.ext'
  rw [Array.toList_extract]
  unfold txt nats
  simp only [List.map_take, List.map_map, List.map_drop]
  rw [List.extract_eq_take_drop, Nat.add_sub_cancel_left]
  congr 2
  conv => lhs; rw [← List.map_id b.data.toList]
  apply List.map_congr_left
  intro c _
  show c = UInt8.ofNat c.toNat
  rw [UInt8.ofNat_toNat]
theorem nats_extract (b : ByteArray) (a m : Nat) : nats (b.extract a (a + m)) 0 = (nats b a).take m := by
  rw [txt_nats, nats_txt]
  intro c hc
  exact nats_byte b a c (List.mem_of_mem_take hc)
theorem nats_append (s t : ByteArray) (a : Nat) (h : a ≤ s.size) : nats (s ++ t) a = nats s a ++ nats t 0 := by
  unfold nats
  rw [ByteArray.data_append, Array.toList_append, List.drop_append_of_le_length (by simpa using h), List.map_append, List.drop_zero]
theorem nats_over (b : ByteArray) (a : Nat) (h : b.size ≤ a) : nats b a = [] := by
  unfold nats
  rw [List.drop_eq_nil_of_le (by simpa using h)]
  rfl

/-! ### a number of 7 bits a byte as a text, and back -/
def vt (n : Nat) : ByteArray := txt (vb 4 n)
theorem vt_size (n : Nat) : (vt n).size = (vb 4 n).length := txt_size _
def vtI (n : Int) : ByteArray := if 0 ≤ n ∧ n ≤ 1000000000 then vt n.toNat else { data := #[] }
theorem vtI_in (n : Nat) (h : n ≤ 1000000000) : vtI (n : Int) = vt n := by
  unfold vtI
  rw [if_pos (by omega)]
  rfl
theorem vtI_out (n : Int) (h : ¬ (0 ≤ n ∧ n ≤ 1000000000)) : vtI n = { data := #[] } := if_neg h
theorem vtI_size (n : Int) : (vtI n).size ≤ 5 := by
  unfold vtI
  split
  · rw [vt_size]; exact vb_length 4 _
  · exact Nat.zero_le _
theorem nats_vt (n : Nat) (h : n ≤ 1000000000) : nats (vt n) 0 = vb 4 n := nats_txt _ (vb_byte 4 n (lt128 h))
def rv (l : List Nat) : Option (Nat × Nat) := (rd 5 l).bind fun p => if p.1 ≤ 1000000000 ∧ (vb 4 p.1).length = p.2 then some p else none
theorem rv_none {l : List Nat} (h : rd 5 l = none) : rv l = none := by unfold rv; rw [h]; rfl
theorem rv_yes {l : List Nat} {v m : Nat} (h : rd 5 l = some (v, m)) (h1 : v ≤ 1000000000) (h2 : (vb 4 v).length = m) : rv l = some (v, m) := by
  unfold rv; rw [h]; exact if_pos ⟨h1, h2⟩
theorem rv_no {l : List Nat} {v m : Nat} (h : rd 5 l = some (v, m)) (h1 : ¬ (v ≤ 1000000000 ∧ (vb 4 v).length = m)) : rv l = none := by
  unfold rv; rw [h]; exact if_neg h1
theorem rv_some {l : List Nat} {v m : Nat} (h : rv l = some (v, m)) : rd 5 l = some (v, m) ∧ v ≤ 1000000000 ∧ (vb 4 v).length = m := by
  unfold rv at h
  cases hr : rd 5 l with
  | none => simp [hr] at h
  | some p =>
    simp only [hr, Option.bind_some] at h
    split at h
    · next hc =>
      simp only [Option.some.injEq] at h
      subst h
      exact ⟨rfl, hc⟩
    · simp at h
theorem rv_vt (n : Nat) (h : n ≤ 1000000000) (r : List Nat) : rv (vb 4 n ++ r) = some (n, (vb 4 n).length) :=
  rv_yes (rd_vb 4 n (lt128 h) r) h rfl
theorem rd_len (k : Nat) (l : List Nat) (v m : Nat) (h : rd k l = some (v, m)) : m ≤ l.length ∧ 0 < m ∧ m ≤ k := by
  induction k generalizing l v m with
  | zero => simp [rd] at h
  | succ k ih =>
    cases l with
    | nil => simp [rd] at h
    | cons c r =>
      unfold rd at h
      split at h
      · simp only [Option.some.injEq, Prod.mk.injEq] at h
        obtain ⟨_, rfl⟩ := h
        simp
      · cases hr : rd k r with
        | none => simp [hr] at h
        | some p =>
          simp only [hr, Option.map_some, Option.some.injEq, Prod.mk.injEq] at h
          obtain ⟨_, rfl⟩ := h
          have := ih r p.1 p.2 hr
          simp only [List.length_cons]
          omega
theorem rv_cut {b : ByteArray} {a v m : Nat} (h : rv (nats b a) = some (v, m)) : b.extract a (a + m) = vt v := by
  obtain ⟨h1, h2, h3⟩ := rv_some h
  rw [txt_nats, rd_take 5 4 _ (nats_byte b a) v m h1 h3]
  rfl
/-- the comparison that a reading makes: what is there is what would be written -/
theorem cut_iff {b : ByteArray} {a v m : Nat} (h : rd 5 (nats b a) = some (v, m)) : vt v = b.extract a (a + m) ↔ (vb 4 v).length = m := by
  have hl := rd_len 5 _ _ _ h
  rw [nats_length] at hl
  constructor
  · intro e
    rw [← vt_size, e, ByteArray.size_extract]
    omega
  · intro e
    rw [txt_nats, rd_take 5 4 _ (nats_byte b a) v m h e]
    rfl
def no2 : Value := .tuple #[.int .i64 0, .int .i64 0, .bool false]
def rvAt (b : ByteArray) (a : Int) : Value := if 0 ≤ a then
    match rv (nats b a.toNat) with
    | some p => .tuple #[.int .i64 (p.1 : Int), .int .i64 (a + (p.2 : Int)), .bool true]
    | none => no2
  else no2
theorem rvAt_neg (b : ByteArray) (a : Int) (h : a < 0) : rvAt b a = no2 := if_neg (by omega)
theorem rvAt_none (b : ByteArray) (a : Nat) (h : rv (nats b a) = none) : rvAt b (a : Int) = no2 := by
  unfold rvAt
  rw [if_pos (by omega), Int.toNat_natCast, h]
theorem rvAt_some (b : ByteArray) (a v m : Nat) (h : rv (nats b a) = some (v, m)) : rvAt b (a : Int) = .tuple #[.int .i64 (v : Int), .int .i64 ((a + m : Nat) : Int), .bool true] := by
  unfold rvAt
  rw [if_pos (by omega), Int.toNat_natCast, h]
  rfl
theorem rvAt_over (b : ByteArray) (a : Int) (h : (b.size : Int) ≤ a) : rvAt b a = no2 := by
  obtain ⟨n, rfl⟩ := Int.eq_ofNat_of_zero_le (show 0 ≤ a by omega)
  exact rvAt_none b n (by rw [nats_over b n (by omega)]; rfl)

/-! ### so many bytes -/
def fb : Nat → Nat → List Nat
  | 0, _ => []
  | k + 1, n => n % 256 :: fb k (n / 256)
theorem fb_length (k n : Nat) : (fb k n).length = k := by
  induction k generalizing n with
  | zero => rfl
  | succ k ih => simp [fb, ih]
theorem fb_byte (k n : Nat) : ∀ c ∈ fb k n, c < 256 := by
  induction k generalizing n with
  | zero => simp [fb]
  | succ k ih =>
    intro c hc
    rcases List.mem_cons.1 hc with rfl | hc
    · omega
    · exact ih _ c hc
theorem fb_snoc (k n : Nat) : fb (k + 1) n = fb k n ++ [n / 256 ^ k % 256] := by
  induction k generalizing n with
  | zero => simp [fb]
  | succ k ih =>
    show n % 256 :: fb (k + 1) (n / 256) = n % 256 :: (fb k (n / 256) ++ _)
    rw [ih, Nat.div_div_eq_div_mul, Nat.pow_succ, Nat.mul_comm]
def val : List Nat → Nat
  | [] => 0
  | c :: r => c + 256 * val r
theorem val_lt (l : List Nat) (h : ∀ c ∈ l, c < 256) : val l < 256 ^ l.length := by
  induction l with
  | nil => simp [val]
  | cons c r ih =>
    have h1 := h c (by simp)
    have h2 := ih fun x hx => h x (by simp [hx])
    simp only [val, List.length_cons, Nat.pow_succ]
    omega
theorem val_fb (k n : Nat) (h : n < 256 ^ k) : val (fb k n) = n := by
  induction k generalizing n with
  | zero => simp at h; subst h; rfl
  | succ k ih =>
    simp only [fb, val]
    rw [ih (n / 256) (by rw [Nat.pow_succ] at h; omega)]
    omega
theorem val_append (l r : List Nat) : val (l ++ r) = val l + 256 ^ l.length * val r := by
  induction l with
  | nil => simp [val]
  | cons c l ih =>
    simp only [List.cons_append, val, ih, List.length_cons, Nat.pow_succ]
    rw [Nat.mul_add, Nat.mul_comm (256 ^ l.length) 256, Nat.mul_assoc]
    omega
theorem val_drop (l : List Nat) (i c : Nat) (h : l[i]? = some c) : val (l.drop i) = c + 256 * val (l.drop (i + 1)) := by
  have hlt : i < l.length := (List.getElem?_eq_some_iff.1 h).1
  rw [List.drop_eq_getElem_cons hlt, (List.getElem?_eq_some_iff.1 h).2]
  rfl
def fxI (n w : Int) : ByteArray := if 0 ≤ n ∧ 1 ≤ w ∧ w ≤ 8 ∧ n.toNat < 256 ^ w.toNat then txt (fb w.toNat n.toNat) else { data := #[] }
theorem fxI_in (n w : Nat) (h1 : 1 ≤ w) (h2 : w ≤ 8) (h : n < 256 ^ w) : fxI (n : Int) (w : Int) = txt (fb w n) := by
  unfold fxI
  rw [if_pos ⟨by omega, by omega, by omega, h⟩]
  rfl
theorem fxI_big (n w : Nat) (h : ¬ n < 256 ^ w) : fxI (n : Int) (w : Int) = { data := #[] } := if_neg fun e => h e.2.2.2
theorem fxI_out (n w : Int) (h : n < 0 ∨ w < 1 ∨ 8 < w) : fxI n w = { data := #[] } := if_neg fun e => by omega
theorem fxI_size (n w : Int) : (fxI n w).size ≤ 8 := by
  unfold fxI
  split
  · next h => rw [txt_size, fb_length]; omega
  · exact Nat.zero_le _
def no1 : Value := .tuple #[.int .i64 0, .bool false]
def rfAt (b : ByteArray) (a w : Int) : Value :=
  if 1 ≤ w ∧ w ≤ 8 ∧ 0 ≤ a ∧ a + w ≤ b.size ∧ val ((nats b a.toNat).take w.toNat) < 9223372036854775808 then
    .tuple #[.int .i64 ((val ((nats b a.toNat).take w.toNat) : Nat) : Int), .bool true]
  else no1
theorem rfAt_out (b : ByteArray) (a w : Int) (h : w < 1 ∨ 8 < w ∨ a < 0 ∨ (b.size : Int) < a + w) : rfAt b a w = no1 := if_neg fun e => by omega
theorem rfAt_big (b : ByteArray) (a w : Nat) (h : ¬ val ((nats b a).take w) < 9223372036854775808) : rfAt b (a : Int) (w : Int) = no1 := if_neg fun e => h e.2.2.2.2
theorem rfAt_in (b : ByteArray) (a w : Nat) (h1 : 1 ≤ w) (h2 : w ≤ 8) (h3 : a + w ≤ b.size) (h : val ((nats b a).take w) < 9223372036854775808) :
    rfAt b (a : Int) (w : Int) = .tuple #[.int .i64 ((val ((nats b a).take w) : Nat) : Int), .bool true] := if_pos ⟨by omega, by omega, by omega, by omega, h⟩
theorem rfAt_fx (n w : Nat) (h1 : 1 ≤ w) (h2 : w ≤ 8) (h : n < 256 ^ w) (h3 : n < 9223372036854775808) (s r : ByteArray) :
    rfAt (s ++ (fxI (n : Int) (w : Int) ++ r)) (s.size : Int) (w : Int) = .tuple #[.int .i64 (n : Int), .bool true] := by
  rw [fxI_in n w h1 h2 h]
  have e : (nats (s ++ (txt (fb w n) ++ r)) s.size).take w = fb w n := by
    rw [nats_append s _ s.size (Nat.le_refl _), nats_over s s.size (Nat.le_refl _), List.nil_append, nats_append _ _ 0 (Nat.zero_le _), nats_txt _ (fb_byte w n), List.take_append_of_le_length (by rw [fb_length]; exact Nat.le_refl _), List.take_of_length_le (by rw [fb_length]; exact Nat.le_refl _)]
  have hv := val_fb w n h
  rw [rfAt_in _ s.size w h1 h2 (by rw [ByteArray.size_append, ByteArray.size_append, txt_size, fb_length]; omega) (by rw [e, hv]; exact h3), e, hv]
theorem rvAt_vt (n : Nat) (h : n ≤ 1000000000) (s r : ByteArray) :
    rvAt (s ++ (vtI (n : Int) ++ r)) (s.size : Int) = .tuple #[.int .i64 (n : Int), .int .i64 ((s.size + (vtI (n : Int)).size : Nat) : Int), .bool true] := by
  have e : nats (s ++ (vtI (n : Int) ++ r)) s.size = vb 4 n ++ nats r 0 := by
    rw [vtI_in n h, nats_append s _ s.size (Nat.le_refl _), nats_over s s.size (Nat.le_refl _), List.nil_append, nats_append _ _ 0 (Nat.zero_le _), nats_vt n h]
  rw [rvAt_some _ s.size n (vb 4 n).length (by rw [e]; exact rv_vt n h _), vtI_in n h, vt_size]

end Go.Proofs.Ytbgkdngeingmnaa.num
