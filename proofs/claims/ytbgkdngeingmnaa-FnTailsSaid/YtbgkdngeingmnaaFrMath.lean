/-
  Plain facts on frames of both forms: what is written, what is read, that the one comes back from the other, and that a burst makes one of the newer form none.
-/
import Derived.Test.YtbgkdngeingmnaaHdMath
namespace Go.Proofs.Ytbgkdngeingmnaa.fr
set_option maxRecDepth 20000
open Go
open sum num burst hd

/-! ### bursts in a part of a text -/
theorem val_take (l : List Nat) (k : Nat) (hl : ∀ c ∈ l, c < 256) (hk : k ≤ l.length) : val (l.take k) = val l % 2 ^ (8 * k) := by
  have h := val_append (l.take k) (l.drop k)
  rw [List.take_append_drop] at h
  have h1 := val_lt (l.take k) fun c hc => hl c (List.mem_of_mem_take hc)
  rw [List.length_take, Nat.min_eq_left hk] at h h1
  rw [pow256] at h h1
  rw [h, Nat.add_mul_mod_self_left, Nat.mod_eq_of_lt h1]
theorem val_drop8 (l : List Nat) (k : Nat) (hl : ∀ c ∈ l, c < 256) (hk : k ≤ l.length) : val (l.drop k) = val l / 2 ^ (8 * k) := by
  have h := val_append (l.take k) (l.drop k)
  rw [List.take_append_drop] at h
  have h1 := val_lt (l.take k) fun c hc => hl c (List.mem_of_mem_take hc)
  rw [List.length_take, Nat.min_eq_left hk] at h h1
  rw [pow256] at h h1
  rw [h, Nat.add_mul_div_left _ _ (Nat.two_pow_pos _), Nat.div_eq_of_lt h1, Nat.zero_add]
theorem bur_mod {n k at_ m : Nat} (hk : k ≤ n) : bur n at_ m % 2 ^ (8 * k) = bur k at_ m := by
  unfold bur
  exact Nat.mod_mod_of_dvd _ (Nat.pow_dvd_pow 2 (by omega))
theorem bur_div {n k at_ m : Nat} (hk : k ≤ n) (ha : 8 * k ≤ at_) : bur n at_ m / 2 ^ (8 * k) = bur (n - k) (at_ - 8 * k) m := by
  unfold bur
  rw [show 2 ^ (8 * n) = 2 ^ (8 * k) * 2 ^ (8 * (n - k)) by rw [← Nat.pow_add]; congr 1; omega, show 2 ^ at_ = 2 ^ (8 * k) * 2 ^ (at_ - 8 * k) by rw [← Nat.pow_add]; congr 1; omega]
  rw [show m * (2 ^ (8 * k) * 2 ^ (at_ - 8 * k)) = 2 ^ (8 * k) * (m * 2 ^ (at_ - 8 * k)) by rw [Nat.mul_left_comm], Nat.mul_mod_mul_left, Nat.mul_div_cancel_left _ (Nat.two_pow_pos _)]
/-- two rows of bytes of which each ends in its own sum, from the same register on, are not a burst apart -/
theorem no_burstL {la lb : List Nat} {x at_ m n : Nat} (hx : x < 4294967296) (ha : ∀ c ∈ la, c < 256) (hb : ∀ c ∈ lb, c < 256) (hla : la.length + 4 = n) (hlb : lb.length + 4 = n) (hm : m < 4294967296) (h0 : bur n at_ m ≠ 0)
    (h : val (lb ++ fb 4 (FN x lb ^^^ 4294967295)) = val (la ++ fb 4 (FN x la ^^^ 4294967295)) ^^^ bur n at_ m) : False := by
  have r1 := residue la x hx ha
  have r2 := residue lb x hx hb
  have hA : ∀ c ∈ la ++ fb 4 (FN x la ^^^ 4294967295), c < 256 := fun c hc => by
    rcases List.mem_append.1 hc with h | h
    · exact ha c h
    · exact fb_byte _ _ c h
  have hB : ∀ c ∈ lb ++ fb 4 (FN x lb ^^^ 4294967295), c < 256 := fun c hc => by
    rcases List.mem_append.1 hc with h | h
    · exact hb c h
    · exact fb_byte _ _ c h
  have hz := same_reg hA hB (by rw [List.length_append, List.length_append, fb_length, fb_length]; omega) (r1.trans r2.symm)
  rw [h, ← Nat.xor_assoc, Nat.xor_self, Nat.zero_xor, List.length_append, fb_length, hla] at hz
  exact bur_reg hm h0 hz
theorem turn_take {b : ByteArray} {at_ m k : Nat} (hk : k ≤ b.size) : val ((nats (turn b at_ m) 0).take k) = val ((nats b 0).take k) ^^^ bur k at_ m := by
  have h1 : (nats (turn b at_ m) 0).length = b.size := by rw [nats_length, turn_size]; omega
  have h2 : (nats b 0).length = b.size := by rw [nats_length]; omega
  rw [val_take _ k (nats_byte _ 0) (by omega), val_take _ k (nats_byte _ 0) (by omega), turn_val, Nat.xor_mod_two_pow, bur_mod hk]
theorem turn_drop {b : ByteArray} {at_ m k : Nat} (hk : k ≤ b.size) (ha : 8 * k ≤ at_) : val ((nats (turn b at_ m) 0).drop k) = val ((nats b 0).drop k) ^^^ bur (b.size - k) (at_ - 8 * k) m := by
  have h1 : (nats (turn b at_ m) 0).length = b.size := by rw [nats_length, turn_size]; omega
  have h2 : (nats b 0).length = b.size := by rw [nats_length]; omega
  rw [val_drop8 _ k (nats_byte _ 0) (by omega), val_drop8 _ k (nats_byte _ 0) (by omega), turn_val, ← bur_div hk ha]
  have e := Nat.shiftRight_xor_distrib (a := val (nats b 0)) (b := bur b.size at_ m) (i := 8 * k)
  simpa [Nat.shiftRight_eq_div_pow] using e
theorem bytes_of_val {a b : List Nat} (ha : ∀ c ∈ a, c < 256) (hb : ∀ c ∈ b, c < 256) (hl : a.length = b.length) (h : val a = val b) : a = b := by
  rw [← fb_val a ha, ← fb_val b hb, hl, h]

/-! ### frames -/
def okV (v p : Int) : Bool := decide (1 ≤ v ∧ v ≤ 2 ∧ 0 ≤ p ∧ p ≤ 1000000000)
theorem okV_is {v p : Int} : okV v p = true ↔ (1 ≤ v ∧ v ≤ 2 ∧ 0 ≤ p ∧ p ≤ 1000000000) := decide_eq_true_iff
theorem okV_no {v p : Int} : okV v p = false ↔ ¬ (1 ≤ v ∧ v ≤ 2 ∧ 0 ≤ p ∧ p ≤ 1000000000) := decide_eq_false_iff_not
def fx4 (n : Nat) : ByteArray := fxI (n : Int) 4
def fx8 (p : Int) : ByteArray := fxI p 8
/-- what stands ahead of a record of the newer form, its size (or what marks the end) being s -/
def hdr (p : Int) (s : Nat) : ByteArray := fx4 s ++ fx4 (sumT (fx8 p ++ fx4 s))
def frO (r : ByteArray) : ByteArray := vtI (r.size : Int) ++ r ++ fx4 (sumT r)
def frN (p : Int) (r : ByteArray) : ByteArray := fx4 r.size ++ fx4 (sumT (fx8 p ++ fx4 r.size)) ++ r ++ fx4 (sumT r)
def frT (v p : Int) (r : ByteArray) : ByteArray := if okV v p = true ∧ r.size ≤ 60 then (if v = 1 then frO r else frN p r) else nul
theorem frT_no {v p : Int} {r : ByteArray} (h : ¬ (okV v p = true ∧ r.size ≤ 60)) : frT v p r = nul := if_neg h
theorem frT_old {p : Int} {r : ByteArray} (h : okV 1 p = true) (hr : r.size ≤ 60) : frT 1 p r = frO r := by unfold frT; rw [if_pos ⟨h, hr⟩, if_pos rfl]
theorem frT_new {p : Int} {r : ByteArray} (h : okV 2 p = true) (hr : r.size ≤ 60) : frT 2 p r = frN p r := by unfold frT; rw [if_pos ⟨h, hr⟩, if_neg (by decide)]
theorem okV_two {v p : Int} (h : okV v p = true) : v = 1 ∨ v = 2 := by have := okV_is.1 h; omega

theorem fx4_nats {n : Nat} (h : n < 4294967296) : nats (fx4 n) 0 = fb 4 n := by
  have e4 : (256 : Nat) ^ 4 = 4294967296 := by decide
  have b4 : fxI (n : Int) 4 = txt (fb 4 n) := fxN (k := 4) (by omega) (by omega) (by simp) (by omega)
  unfold fx4
  rw [b4, nats_txt _ (fb_byte 4 _)]
theorem fx4_size {n : Nat} (h : n < 4294967296) : (fx4 n).size = 4 := by rw [nats_size, fx4_nats h, fb_length]
theorem fx8_nats {p : Int} (h0 : 0 ≤ p) (h1 : p ≤ 1000000000) : nats (fx8 p) 0 = fb 8 p.toNat := by
  have e8 : (256 : Nat) ^ 8 = 18446744073709551616 := by decide
  have b8 : fxI p 8 = txt (fb 8 p.toNat) := fxN (k := 8) (by omega) h0 rfl (by omega)
  unfold fx8
  rw [b8, nats_txt _ (fb_byte 8 _)]
theorem fx8_size {p : Int} (h0 : 0 ≤ p) (h1 : p ≤ 1000000000) : (fx8 p).size = 8 := by rw [nats_size, fx8_nats h0 h1, fb_length]
/-- the register behind the place -/
def reg (p : Int) : Nat := FN 4294967295 (fb 8 p.toNat)
theorem reg_lt (p : Int) : reg p < 4294967296 := by
  unfold reg
  rw [← nats_txt _ (fb_byte 8 _), ← F_nats]
  exact F_lt _ _ (by decide)
theorem hsum {p : Int} {s : Nat} (h0 : 0 ≤ p) (h1 : p ≤ 1000000000) (hs : s < 4294967296) : sumT (fx8 p ++ fx4 s) = FN (reg p) (fb 4 s) ^^^ 4294967295 := by
  rw [sumT_nats, nats_app0, fx8_nats h0 h1, fx4_nats hs, FN_append]
  rfl
theorem hdr_nats {p : Int} {s : Nat} (h0 : 0 ≤ p) (h1 : p ≤ 1000000000) (hs : s < 4294967296) : nats (hdr p s) 0 = fb 4 s ++ fb 4 (FN (reg p) (fb 4 s) ^^^ 4294967295) := by
  unfold hdr
  rw [nats_app0, fx4_nats hs, fx4_nats (sumT_lt _), hsum h0 h1 hs]
theorem hdr_size {p : Int} {s : Nat} (h0 : 0 ≤ p) (h1 : p ≤ 1000000000) (hs : s < 4294967296) : (hdr p s).size = 8 := by rw [nats_size, hdr_nats h0 h1 hs, List.length_append, fb_length, fb_length]
theorem frN_nats {p : Int} {r : ByteArray} (h0 : 0 ≤ p) (h1 : p ≤ 1000000000) (hr : r.size ≤ 60) : nats (frN p r) 0 = (fb 4 r.size ++ fb 4 (FN (reg p) (fb 4 r.size) ^^^ 4294967295)) ++ (nats r 0 ++ fb 4 (FN 4294967295 (nats r 0) ^^^ 4294967295)) := by
  have h := hdr_nats (p := p) (s := r.size) h0 h1 (by omega)
  unfold hdr at h
  unfold frN
  rw [nats_app0, nats_app0, h, fx4_nats (sumT_lt _), sumT_nats, List.append_assoc]
theorem frN_size {p : Int} {r : ByteArray} (h0 : 0 ≤ p) (h1 : p ≤ 1000000000) (hr : r.size ≤ 60) : (frN p r).size = 12 + r.size := by
  rw [nats_size, frN_nats h0 h1 hr]
  simp only [List.length_append, fb_length, nats_length]
  omega
theorem frO_size {r : ByteArray} (hr : r.size ≤ 60) : (frO r).size = 5 + r.size := by
  unfold frO
  rw [ByteArray.size_append, ByteArray.size_append, fx4_size (sumT_lt _), vtI_in _ (by omega), vt_size, vb_low 4 _ (by omega)]
  simp only [List.length_cons, List.length_nil]
  omega
theorem frT_size {v p : Int} {r : ByteArray} (h : okV v p = true) (hr : r.size ≤ 60) : (frT v p r).size = (if v = 1 then 5 else 12) + r.size := by
  obtain ⟨h1, h2, h3, h4⟩ := okV_is.1 h
  rcases okV_two h with rfl | rfl
  · rw [frT_old h hr, frO_size hr, if_pos rfl]
  · rw [frT_new h hr, frN_size h3 h4 hr, if_neg (by decide)]
theorem frT_le (v p : Int) (r : ByteArray) : (frT v p r).size ≤ 72 := by
  by_cases h : okV v p = true ∧ r.size ≤ 60
  · rw [frT_size h.1 h.2]
    split <;> omega
  · rw [frT_no h]; exact Nat.zero_le _

/-! ### reading -/
theorem txt_self (t : ByteArray) : txt (nats t 0) = t := by
  have h := txt_nats t 0 t.size
  rw [Nat.zero_add, List.take_of_length_le (by rw [nats_length]; omega)] at h
  rw [← h]
  apply ByteArray.ext
  rw [ByteArray.data_extract]
  apply Array.ext'
  rw [Array.toList_extract, List.extract_eq_take_drop, List.drop_zero, Nat.sub_zero, List.take_of_length_le (show t.data.toList.length ≤ t.size from Nat.le_refl _)]
theorem ext_of {b t : ByteArray} {a k : Nat} (h : (nats b a).take k = nats t 0) : b.extract a (a + k) = t := by rw [txt_nats, h, txt_self]
theorem ext_to {b t : ByteArray} {a k : Nat} (h : b.extract a (a + k) = t) : (nats b a).take k = nats t 0 := by rw [← h, nats_extract]
theorem nats_drop (b : ByteArray) (a k : Nat) : nats b (a + k) = (nats b a).drop k := by
  rw [nats_from b (a + k), nats_from b a, List.drop_drop]
/-- how long the record is, and where it begins -/
def lenF (v : Int) (b : ByteArray) (a : Nat) : Option (Nat × Nat) := if v = 1 then (rv (nats b a)).map fun x => (x.1, a + x.2) else if a + 4 ≤ b.size then some (valF b a 4, a + 8) else none
def rdN (v p : Int) (b : ByteArray) (a : Nat) : Option (ByteArray × Nat) :=
  match lenF v b a with
  | none => none
  | some x => if x.1 ≤ 60 ∧ x.2 + x.1 ≤ b.size ∧ a + (frT v p (b.extract x.2 (x.2 + x.1))).size ≤ b.size ∧ b.extract a (a + (frT v p (b.extract x.2 (x.2 + x.1))).size) = frT v p (b.extract x.2 (x.2 + x.1)) then some (b.extract x.2 (x.2 + x.1), a + (frT v p (b.extract x.2 (x.2 + x.1))).size) else none
def rdF (v p : Int) (b : ByteArray) (a : Int) : Option (ByteArray × Nat) := if okV v p = true ∧ 0 ≤ a ∧ a ≤ b.size then rdN v p b a.toNat else none
theorem rdF_out {v p : Int} {b : ByteArray} {a : Int} (h : ¬ (okV v p = true ∧ 0 ≤ a ∧ a ≤ b.size)) : rdF v p b a = none := if_neg h
theorem rdF_in {v p : Int} {b : ByteArray} {a : Nat} (h : okV v p = true) (ha : a ≤ b.size) : rdF v p b (a : Int) = rdN v p b a := by
  unfold rdF
  rw [if_pos ⟨h, by omega, by omega⟩, Int.toNat_natCast]
theorem rdN_some {v p : Int} {b r : ByteArray} {a q : Nat} (h : rdN v p b a = some (r, q)) : r.size ≤ 60 ∧ q = a + (frT v p r).size ∧ q ≤ b.size ∧ b.extract a q = frT v p r := by
  unfold rdN at h
  split at h
  · cases h
  · next x hx =>
    split at h
    · next hc =>
      obtain ⟨h1, h2, h3, h4⟩ := hc
      simp only [Option.some.injEq, Prod.mk.injEq] at h
      obtain ⟨rfl, rfl⟩ := h
      refine ⟨by rw [ByteArray.size_extract]; omega, rfl, h3, h4⟩
    · cases h
theorem frT_nats {v p : Int} {r : ByteArray} (h : okV v p = true) (hr : r.size ≤ 60) : nats (frT v p r) 0 = (if v = 1 then [r.size] else fb 4 r.size ++ fb 4 (FN (reg p) (fb 4 r.size) ^^^ 4294967295)) ++ (nats r 0 ++ fb 4 (FN 4294967295 (nats r 0) ^^^ 4294967295)) := by
  obtain ⟨h1, h2, h3, h4⟩ := okV_is.1 h
  rcases okV_two h with rfl | rfl
  · rw [frT_old h hr, if_pos rfl]
    unfold frO
    rw [nats_app0, nats_app0, vtI_in _ (by omega), nats_vt _ (by omega), vb_low 4 _ (by omega), fx4_nats (sumT_lt _), sumT_nats, List.append_assoc]
  · rw [frT_new h hr, if_neg (by decide), frN_nats h3 h4 hr]
theorem val_fb4 {n : Nat} (h : n < 4294967296) : val (fb 4 n) = n := by
  have e4 : (256 : Nat) ^ 4 = 4294967296 := by decide
  exact val_fb 4 n (by omega)
/-- a frame that stands there is read -/
theorem rdN_of {v p : Int} {b r : ByteArray} {a : Nat} (hv : okV v p = true) (hr : r.size ≤ 60) (hs : a + (frT v p r).size ≤ b.size) (he : b.extract a (a + (frT v p r).size) = frT v p r) : rdN v p b a = some (r, a + (frT v p r).size) := by
  have hb := ext_to he
  obtain ⟨rest, hrest⟩ : ∃ rest, nats b a = nats (frT v p r) 0 ++ rest := ⟨(nats b a).drop (frT v p r).size, by rw [← hb, List.take_append_drop]⟩
  have hfr := frT_nats hv hr
  have hsz := frT_size hv hr
  have hrn : (nats r 0).length = r.size := by rw [nats_length]; omega
  have two := okV_two hv
  have key : lenF v b a = some (r.size, a + (if v = 1 then 1 else 8)) ∧ b.extract (a + (if v = 1 then 1 else 8)) (a + (if v = 1 then 1 else 8) + r.size) = r := by
    rcases two with rfl | rfl
    · simp only [if_pos] at hfr ⊢
      rw [hfr] at hrest
      constructor
      · unfold lenF
        rw [if_pos rfl, hrest, List.append_assoc]
        have h1 := rv_vt r.size (by omega) ((nats r 0 ++ fb 4 (FN 4294967295 (nats r 0) ^^^ 4294967295)) ++ rest)
        rw [vb_low 4 _ (by omega)] at h1
        rw [h1]
        rfl
      · refine ext_of ?_
        rw [nats_drop, hrest, List.append_assoc, List.append_assoc]
        rw [List.drop_append_of_le_length (by simp), show ([r.size] : List Nat).drop 1 = [] from rfl, List.nil_append, List.take_append_of_le_length (by omega), List.take_of_length_le (by omega)]
    · have e2 : ¬ (2 : Int) = 1 := by decide
      simp only [if_neg e2] at hfr hsz ⊢
      rw [hfr] at hrest
      constructor
      · unfold lenF
        rw [if_neg e2, if_pos (by omega)]
        unfold valF
        rw [hrest, List.append_assoc, List.append_assoc, List.take_append_of_le_length (by rw [fb_length]; omega), List.take_of_length_le (by rw [fb_length]; omega), val_fb4 (by omega)]
      · refine ext_of ?_
        rw [nats_drop, hrest, List.append_assoc, List.drop_append_of_le_length (by simp [fb_length]), List.drop_of_length_le (by simp [fb_length]), List.nil_append, List.append_assoc, List.take_append_of_le_length (by omega), List.take_of_length_le (by omega)]
  have hle : a + (if v = 1 then 1 else 8) + r.size ≤ b.size := by
    rw [hsz] at hs
    by_cases e : v = 1
    · rw [if_pos e] at hs ⊢; omega
    · rw [if_neg e] at hs ⊢; omega
  unfold rdN
  rw [key.1]
  show (if _ then _ else _) = _
  rw [key.2, if_pos ⟨hr, hle, hs, he⟩]
theorem rdF_some {v p : Int} {b r : ByteArray} {a : Int} {q : Nat} (h : rdF v p b a = some (r, q)) : okV v p = true ∧ 0 ≤ a ∧ a ≤ b.size ∧ r.size ≤ 60 ∧ q = a.toNat + (frT v p r).size ∧ q ≤ b.size ∧ b.extract a.toNat q = frT v p r := by
  unfold rdF at h
  split at h
  · next hc =>
    obtain ⟨h1, h2, h3, h4⟩ := rdN_some h
    exact ⟨hc.1, hc.2.1, hc.2.2, h1, h2, h3, h4⟩
  · cases h
theorem app_extract (s t r : ByteArray) : (s ++ (t ++ r)).extract s.size (s.size + t.size) = t := by
  refine ext_of ?_
  rw [nats_append s _ s.size (Nat.le_refl _), nats_over s s.size (Nat.le_refl _), List.nil_append, nats_app0, List.take_append_of_le_length (by rw [nats_length]; omega), List.take_of_length_le (by rw [nats_length]; omega)]
/-- a record comes back from its frame, whatever is ahead and behind -/
theorem rdF_frT {v p : Int} {r : ByteArray} (hv : okV v p = true) (hr : r.size ≤ 60) (s z : ByteArray) : rdF v p (s ++ (frT v p r ++ z)) (s.size : Int) = some (r, s.size + (frT v p r).size) := by
  rw [rdF_in hv (by rw [ByteArray.size_append]; omega)]
  refine rdN_of hv hr (by rw [ByteArray.size_append, ByteArray.size_append]; omega) ?_
  exact app_extract s (frT v p r) z

/-! ### bursts -/
/-- what is read of the newer form begins as the record's head says -/
theorem rdF_head {p : Int} {b r : ByteArray} {q : Nat} (h : rdF 2 p b 0 = some (r, q)) : (0 ≤ p ∧ p ≤ 1000000000) ∧ r.size ≤ 60 ∧ 12 + r.size ≤ b.size ∧ (nats b 0).take (12 + r.size) = (fb 4 r.size ++ fb 4 (FN (reg p) (fb 4 r.size) ^^^ 4294967295)) ++ (nats r 0 ++ fb 4 (FN 4294967295 (nats r 0) ^^^ 4294967295)) := by
  obtain ⟨hv, _, _, hr, hq, hqs, he⟩ := rdF_some h
  obtain ⟨_, _, h3, h4⟩ := okV_is.1 hv
  rw [show (0 : Int).toNat = 0 from rfl, Nat.zero_add] at hq
  rw [frT_new hv hr] at hq he
  have hs := frN_size h3 h4 hr
  refine ⟨⟨h3, h4⟩, hr, by omega, ?_⟩
  rw [← frN_nats h3 h4 hr, ← hs, ← hq]
  have h1 := ext_to (b := b) (a := 0) (k := q) (t := frN p r) (by rw [Nat.zero_add]; exact he)
  exact h1
theorem hdr_byte (p : Int) (s : Nat) : ∀ c ∈ fb 4 s ++ fb 4 (FN (reg p) (fb 4 s) ^^^ 4294967295), c < 256 := fun c hc => by
  rcases List.mem_append.1 hc with h | h
  · exact fb_byte _ _ c h
  · exact fb_byte _ _ c h
/-- a head of the newer form of which bits are turned is none -/
theorem hdr_burst {p : Int} {s s' at_ m : Nat} {t z : ByteArray} (hts : 8 ≤ t.size) (ht : (nats t 0).take 8 = fb 4 s ++ fb 4 (FN (reg p) (fb 4 s) ^^^ 4294967295))
    (hb : (nats (turn t at_ m ++ z) 0).take 8 = fb 4 s' ++ fb 4 (FN (reg p) (fb 4 s') ^^^ 4294967295)) (hm : m < 4294967296) (h0 : bur 8 at_ m ≠ 0) : False := by
  rw [nats_app0, List.take_append_of_le_length (by rw [nats_length, turn_size]; omega)] at hb
  have h := turn_take (b := t) (at_ := at_) (m := m) (k := 8) hts
  rw [hb, ht] at h
  exact no_burstL (reg_lt p) (fb_byte 4 s) (fb_byte 4 s') (n := 8) (by rw [fb_length]) (by rw [fb_length]) hm h0 h
theorem take8 {l : List Nat} {n : Nat} {x y : List Nat} (hx : x.length = 8) (hn : 8 ≤ n) (h : l.take n = x ++ y) : l.take 8 = x := by
  have h1 : (l.take n).take 8 = l.take 8 := by rw [List.take_take, Nat.min_eq_left hn]
  rw [← h1, h, List.take_append_of_le_length (by omega), List.take_of_length_le (by omega)]
theorem hdr_len (p : Int) (s : Nat) : (fb 4 s ++ fb 4 (FN (reg p) (fb 4 s) ^^^ 4294967295)).length = 8 := by rw [List.length_append, fb_length, fb_length]
theorem bur_low {n at_ m : Nat} (ha : at_ < 8 * n) (hm : m % 2 = 1) : bur n at_ m ≠ 0 := bur_odd ha hm
/-- a frame of the newer form of which bits within 32 in a row are turned is none, whatever is behind -/
theorem frame_burst {p : Int} {r z : ByteArray} {at_ m : Nat} (h0 : 0 ≤ p) (h1 : p ≤ 1000000000) (hr : r.size ≤ 60) (ha : at_ < 8 * (12 + r.size)) (hm : m < 4294967296) (hodd : m % 2 = 1) : rdF 2 p (turn (frN p r) at_ m ++ z) 0 = none := by
  cases e : rdF 2 p (turn (frN p r) at_ m ++ z) 0 with
  | none => rfl
  | some x =>
    exfalso
    obtain ⟨r', q⟩ := x
    obtain ⟨_, hr', hs', hn⟩ := rdF_head e
    have hs := frN_size h0 h1 hr
    have hfr := frN_nats h0 h1 hr
    have hT : (nats (frN p r) 0).take 8 = fb 4 r.size ++ fb 4 (FN (reg p) (fb 4 r.size) ^^^ 4294967295) := by
      rw [hfr, List.take_append_of_le_length (by rw [hdr_len]; omega), List.take_of_length_le (by rw [hdr_len]; omega)]
    have hB := take8 (hdr_len p r'.size) (by omega) hn
    by_cases h64 : at_ < 64
    · exact hdr_burst (by omega) hT hB hm (bur_odd (by omega) hodd)
    · have hz : bur 8 at_ m = 0 := bur_over (by omega)
      have htk := turn_take (b := frN p r) (at_ := at_) (m := m) (k := 8) (by omega)
      rw [hz, Nat.xor_zero] at htk
      have hB2 := hB
      rw [nats_app0, List.take_append_of_le_length (by rw [nats_length, turn_size]; omega)] at hB2
      rw [hB2, hT] at htk
      have hsame := bytes_of_val (hdr_byte p r'.size) (hdr_byte p r.size) (by rw [hdr_len, hdr_len]) htk
      have hlen : r'.size = r.size := by
        have h4 := congrArg (List.take 4) hsame
        rw [List.take_append_of_le_length (by rw [fb_length]; omega), List.take_append_of_le_length (by rw [fb_length]; omega), List.take_of_length_le (by rw [fb_length]; omega), List.take_of_length_le (by rw [fb_length]; omega)] at h4
        rw [← val_fb4 (n := r'.size) (by omega), ← val_fb4 (n := r.size) (by omega), h4]
      have hd := turn_drop (b := frN p r) (at_ := at_) (m := m) (k := 8) (by omega) (by omega)
      have hrn : (nats r 0).length = r.size := by rw [nats_length]; omega
      have hrn' : (nats r' 0).length = r'.size := by rw [nats_length]; omega
      have e1 : (nats (frN p r) 0).drop 8 = nats r 0 ++ fb 4 (FN 4294967295 (nats r 0) ^^^ 4294967295) := by
        rw [hfr, List.drop_append_of_le_length (by rw [hdr_len]; omega), List.drop_of_length_le (by rw [hdr_len]; omega), List.nil_append]
      have e2 : (nats (turn (frN p r) at_ m) 0).drop 8 = nats r' 0 ++ fb 4 (FN 4294967295 (nats r' 0) ^^^ 4294967295) := by
        have h2 := congrArg (List.drop 8) hn
        rw [List.drop_append_of_le_length (by rw [hdr_len]; omega), List.drop_of_length_le (l := fb 4 r'.size ++ _) (by rw [hdr_len]; omega), List.nil_append] at h2
        rw [nats_app0, List.take_append_of_le_length (by rw [nats_length, turn_size]; omega), List.take_of_length_le (by rw [nats_length, turn_size]; omega)] at h2
        exact h2
      rw [e1, e2, hs, show 12 + r.size - 8 = r.size + 4 by omega] at hd
      exact no_burstL (n := r.size + 4) (by decide) (nats_byte r 0) (nats_byte r' 0) (by omega) (by omega) hm (bur_odd (by omega) hodd) hd

/-! ### the mark behind the last one -/
def markO : ByteArray := { data := #[255, 255, 255, 255, 15] }
def emT (v p : Int) : ByteArray := if okV v p = true then (if v = 1 then markO else hdr p 4294967295) else nul
theorem emT_no {v p : Int} (h : okV v p = false) : emT v p = nul := if_neg (by rw [h]; decide)
theorem emT_old {p : Int} (h : okV 1 p = true) : emT 1 p = markO := by unfold emT; rw [if_pos h, if_pos rfl]
theorem emT_new {p : Int} (h : okV 2 p = true) : emT 2 p = hdr p 4294967295 := by unfold emT; rw [if_pos h, if_neg (by decide)]
theorem emT_size {v p : Int} (h : okV v p = true) : (emT v p).size = if v = 1 then 5 else 8 := by
  obtain ⟨h1, h2, h3, h4⟩ := okV_is.1 h
  rcases okV_two h with rfl | rfl
  · rw [emT_old h, if_pos rfl]; rfl
  · rw [emT_new h, if_neg (by decide), hdr_size h3 h4 (by decide)]
theorem emT_le (v p : Int) : (emT v p).size ≤ 8 := by
  cases h : okV v p with
  | true => rw [emT_size h]; split <;> omega
  | false => rw [emT_no h]; exact Nat.zero_le _
def mkAt (v p : Int) (b : ByteArray) (a : Int) : Bool := okV v p && decide (0 ≤ a ∧ a + (emT v p).size ≤ b.size ∧ b.extract a.toNat (a.toNat + (emT v p).size) = emT v p)
theorem mkAt_no1 {v p : Int} {b : ByteArray} {a : Int} (h : okV v p = false) : mkAt v p b a = false := by unfold mkAt; rw [h]; rfl
theorem mkAt_out {v p : Int} {b : ByteArray} {a : Int} (h : ¬ (0 ≤ a ∧ a + (emT v p).size ≤ b.size)) : mkAt v p b a = false := by
  unfold mkAt
  rw [decide_eq_false (fun k => h ⟨k.1, k.2.1⟩), Bool.and_false]
theorem mkAt_in {v p : Int} {b : ByteArray} {a : Nat} (hv : okV v p = true) (h : a + (emT v p).size ≤ b.size) : mkAt v p b (a : Int) = decide (b.extract a (a + (emT v p).size) = emT v p) := by
  unfold mkAt
  rw [hv, Bool.true_and, Int.toNat_natCast]
  by_cases e : b.extract a (a + (emT v p).size) = emT v p
  · rw [decide_eq_true e, decide_eq_true ⟨by omega, by omega, e⟩]
  · rw [decide_eq_false e, decide_eq_false (fun k => e k.2.2)]
theorem hdr_one {p : Int} {s s' : Nat} (hs : s < 4294967296) (hs' : s' < 4294967296) (h : fb 4 s' ++ fb 4 (FN (reg p) (fb 4 s') ^^^ 4294967295) = fb 4 s ++ fb 4 (FN (reg p) (fb 4 s) ^^^ 4294967295)) : s' = s := by
  have h4 := congrArg (List.take 4) h
  rw [List.take_append_of_le_length (by rw [fb_length]; omega), List.take_append_of_le_length (by rw [fb_length]; omega), List.take_of_length_le (by rw [fb_length]; omega), List.take_of_length_le (by rw [fb_length]; omega)] at h4
  rw [← val_fb4 hs', ← val_fb4 hs, h4]
theorem mark_frame {p : Int} {z : ByteArray} (h0 : 0 ≤ p) (h1 : p ≤ 1000000000) : rdF 2 p (hdr p 4294967295 ++ z) 0 = none := by
  cases e : rdF 2 p (hdr p 4294967295 ++ z) 0 with
  | none => rfl
  | some x =>
    exfalso
    obtain ⟨r', q⟩ := x
    obtain ⟨_, hr', _, hn⟩ := rdF_head e
    have hB := take8 (hdr_len p r'.size) (by omega) hn
    have hh := hdr_nats h0 h1 (show 4294967295 < 4294967296 by decide)
    rw [nats_app0, List.take_append_of_le_length (by rw [hh, hdr_len]; omega), List.take_of_length_le (by rw [hh, hdr_len]; omega), hh] at hB
    have := hdr_one (by omega) (by decide) hB
    omega
theorem torn_frame {p : Int} {z : ByteArray} {at_ m : Nat} (h0 : 0 ≤ p) (h1 : p ≤ 1000000000) (ha : at_ < 64) (hm : m < 4294967296) (hodd : m % 2 = 1) : rdF 2 p (turn (hdr p 4294967295) at_ m ++ z) 0 = none := by
  cases e : rdF 2 p (turn (hdr p 4294967295) at_ m ++ z) 0 with
  | none => rfl
  | some x =>
    exfalso
    obtain ⟨r', q⟩ := x
    obtain ⟨_, hr', _, hn⟩ := rdF_head e
    have hB := take8 (hdr_len p r'.size) (by omega) hn
    have hh := hdr_nats h0 h1 (show 4294967295 < 4294967296 by decide)
    have hs := hdr_size h0 h1 (show 4294967295 < 4294967296 by decide)
    exact hdr_burst (s := 4294967295) (by omega) (by rw [hh, List.take_of_length_le (by rw [hdr_len]; omega)]) hB hm (bur_odd (by omega) hodd)
theorem mark_there {p : Int} (h0 : 0 ≤ p) (h1 : p ≤ 1000000000) : mkAt 2 p (hdr p 4294967295) 0 = true := by
  have hv : okV 2 p = true := okV_is.2 ⟨by omega, by omega, h0, h1⟩
  have e := emT_new hv
  have h := mkAt_in (b := hdr p 4294967295) (a := 0) hv (by rw [e]; omega)
  rw [show ((0 : Nat) : Int) = 0 from rfl] at h
  rw [h, decide_eq_true_iff, e]
  exact ext_of (List.take_of_length_le (by rw [nats_length]; omega))
theorem mark_read {p : Int} {b : ByteArray} (h0 : 0 ≤ p) (h1 : p ≤ 1000000000) (h : mkAt 2 p b 0 = true) : 8 ≤ b.size ∧ (nats b 0).take 8 = fb 4 4294967295 ++ fb 4 (FN (reg p) (fb 4 4294967295) ^^^ 4294967295) := by
  have hv : okV 2 p = true := okV_is.2 ⟨by omega, by omega, h0, h1⟩
  have hs := emT_size hv
  rw [if_neg (by decide)] at hs
  unfold mkAt at h
  rw [Bool.and_eq_true, decide_eq_true_iff, hs, emT_new hv] at h
  refine ⟨by omega, ?_⟩
  rw [← hdr_nats h0 h1 (by decide)]
  have h2 := h.2.2.2
  rw [show (0 : Int).toNat = 0 from rfl] at h2
  exact ext_to h2
theorem torn_mark {p : Int} {at_ m : Nat} (h0 : 0 ≤ p) (h1 : p ≤ 1000000000) (ha : at_ < 64) (hm : m < 4294967296) (hodd : m % 2 = 1) : mkAt 2 p (turn (hdr p 4294967295) at_ m) 0 = false := by
  cases e : mkAt 2 p (turn (hdr p 4294967295) at_ m) 0 with
  | false => rfl
  | true =>
    exfalso
    obtain ⟨_, hB⟩ := mark_read h0 h1 e
    have hh := hdr_nats h0 h1 (show 4294967295 < 4294967296 by decide)
    have hs := hdr_size h0 h1 (show 4294967295 < 4294967296 by decide)
    have hB2 : (nats (turn (hdr p 4294967295) at_ m ++ nul) 0).take 8 = fb 4 4294967295 ++ fb 4 (FN (reg p) (fb 4 4294967295) ^^^ 4294967295) := by
      rw [nats_app0, List.take_append_of_le_length (by rw [nats_length, turn_size]; omega)]
      exact hB
    exact hdr_burst (s := 4294967295) (by omega) (by rw [hh, List.take_of_length_le (by rw [hdr_len]; omega)]) hB2 hm (bur_odd (by omega) hodd)
theorem bent_mark {p : Int} {r : ByteArray} {at_ m : Nat} (h0 : 0 ≤ p) (h1 : p ≤ 1000000000) (hr : r.size ≤ 60) (hm : m < 4294967296) (hodd : m % 2 = 1) : mkAt 2 p (turn (frN p r) at_ m) 0 = false := by
  cases e : mkAt 2 p (turn (frN p r) at_ m) 0 with
  | false => rfl
  | true =>
    exfalso
    obtain ⟨_, hB⟩ := mark_read h0 h1 e
    have hs := frN_size h0 h1 hr
    have hfr := frN_nats h0 h1 hr
    have hT : (nats (frN p r) 0).take 8 = fb 4 r.size ++ fb 4 (FN (reg p) (fb 4 r.size) ^^^ 4294967295) := by
      rw [hfr, List.take_append_of_le_length (by rw [hdr_len]; omega), List.take_of_length_le (by rw [hdr_len]; omega)]
    by_cases h64 : at_ < 64
    · have hB2 : (nats (turn (frN p r) at_ m ++ nul) 0).take 8 = fb 4 4294967295 ++ fb 4 (FN (reg p) (fb 4 4294967295) ^^^ 4294967295) := by
        rw [nats_app0, List.take_append_of_le_length (by rw [nats_length, turn_size]; omega)]
        exact hB
      exact hdr_burst (by omega) hT hB2 hm (bur_odd (by omega) hodd)
    · have htk := turn_take (b := frN p r) (at_ := at_) (m := m) (k := 8) (by omega)
      rw [bur_over (by omega), Nat.xor_zero, hB, hT] at htk
      have hsame := bytes_of_val (hdr_byte p 4294967295) (hdr_byte p r.size) (by rw [hdr_len, hdr_len]) htk
      have := hdr_one (by omega) (by decide) hsame
      omega
theorem mark_old : mkAt 1 0 ({ data := #[97, 255, 255, 255, 255, 15] } : ByteArray) 1 = true := by
  have hv : okV 1 0 = true := by decide
  have h := mkAt_in (b := { data := #[97, 255, 255, 255, 255, 15] }) (a := 1) hv (by rw [emT_old hv]; decide)
  rw [show ((1 : Nat) : Int) = 1 from rfl] at h
  rw [h, decide_eq_true_iff, emT_old hv]
  rfl

/-! ### one place alone -/
theorem stN_inj {x y k : Nat} (hx : x < 4294967296) (hy : y < 4294967296) (h : stN k x = stN k y) : x = y := by
  have h1 : stN k (x ^^^ y) = 0 := by rw [stN_xor, h, Nat.xor_self]
  by_cases e : x ^^^ y = 0
  · exact xor_eq_zero e
  · exact absurd h1 (stN_ne (xor_lt hx hy) e k)
theorem reg_inj {p p' : Int} (h0 : 0 ≤ p) (h1 : p ≤ 1000000000) (h0' : 0 ≤ p') (h1' : p' ≤ 1000000000) (h : reg p = reg p') : p = p' := by
  have e8 : (256 : Nat) ^ 8 = 18446744073709551616 := by decide
  unfold reg at h
  rw [FN_val _ _ (fb_byte 8 _), FN_val _ _ (fb_byte 8 _), fb_length, fb_length, val_fb 8 _ (by omega), val_fb 8 _ (by omega)] at h
  have h2 := stN_inj (xor_lt (by decide) (by omega)) (xor_lt (by decide) (by omega)) h
  have h3 : p.toNat = p'.toNat := by
    have h4 : 4294967295 ^^^ (4294967295 ^^^ p.toNat) = 4294967295 ^^^ (4294967295 ^^^ p'.toNat) := by rw [h2]
    rw [← Nat.xor_assoc, ← Nat.xor_assoc, Nat.xor_self, Nat.zero_xor, Nat.zero_xor] at h4
    exact h4
  omega
theorem other_place {p p' : Int} {r z : ByteArray} (h0 : 0 ≤ p) (h1 : p ≤ 1000000000) (hr : r.size ≤ 60) (hne : p ≠ p') : rdF 2 p' (frN p r ++ z) 0 = none := by
  cases e : rdF 2 p' (frN p r ++ z) 0 with
  | none => rfl
  | some x =>
    exfalso
    obtain ⟨r', q⟩ := x
    obtain ⟨⟨h0', h1'⟩, hr', _, hn⟩ := rdF_head e
    have hB := take8 (hdr_len p' r'.size) (by omega) hn
    have hs := frN_size h0 h1 hr
    have hfr := frN_nats h0 h1 hr
    rw [nats_app0, List.take_append_of_le_length (by rw [nats_length]; omega), hfr, List.take_append_of_le_length (by rw [hdr_len]; omega), List.take_of_length_le (by rw [hdr_len]; omega)] at hB
    have a4 : fb 4 r.size = fb 4 r'.size := by
      have h4 := congrArg (List.take 4) hB
      rw [List.take_append_of_le_length (by rw [fb_length]; omega), List.take_append_of_le_length (by rw [fb_length]; omega), List.take_of_length_le (by rw [fb_length]; omega), List.take_of_length_le (by rw [fb_length]; omega)] at h4
      exact h4
    rw [a4] at hB
    have h5 := List.append_cancel_left hB
    have l1 : FN (reg p) (fb 4 r'.size) < 4294967296 := by
      rw [FN_val _ _ (fb_byte 4 _)]
      exact stN_lt (xor_lt (reg_lt p) (by rw [val_fb4 (by omega)]; omega)) _
    have l2 : FN (reg p') (fb 4 r'.size) < 4294967296 := by
      rw [FN_val _ _ (fb_byte 4 _)]
      exact stN_lt (xor_lt (reg_lt p') (by rw [val_fb4 (by omega)]; omega)) _
    have h6 : FN (reg p) (fb 4 r'.size) ^^^ 4294967295 = FN (reg p') (fb 4 r'.size) ^^^ 4294967295 := by
      rw [← val_fb4 (xor_lt l1 (by decide)), ← val_fb4 (xor_lt l2 (by decide)), h5]
    have h7 : FN (reg p) (fb 4 r'.size) = FN (reg p') (fb 4 r'.size) := by
      have := xor_back (FN (reg p) (fb 4 r'.size)) 4294967295
      rw [h6, xor_back] at this
      exact this.symm
    rw [FN_val _ _ (fb_byte 4 _), FN_val _ _ (fb_byte 4 _)] at h7
    have hv4 : val (fb 4 r'.size) < 4294967296 := by rw [val_fb4 (by omega)]; omega
    have h8 := stN_inj (xor_lt (reg_lt p) hv4) (xor_lt (reg_lt p') hv4) h7
    have h9 : reg p = reg p' := by
      rw [← xor_back (reg p) (val (fb 4 r'.size)), h8, xor_back]
    exact hne (reg_inj h0 h1 h0' h1' h9)

end Go.Proofs.Ytbgkdngeingmnaa.fr
