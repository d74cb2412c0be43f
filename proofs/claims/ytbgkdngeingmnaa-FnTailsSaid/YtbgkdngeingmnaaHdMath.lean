/-
  Plain facts on heads: what is written, what is read, that the one comes back from the other, and that a burst makes it none.
-/
import Derived.Test.YtbgkdngeingmnaaBurst
namespace Go.Proofs.Ytbgkdngeingmnaa.hd
set_option maxRecDepth 20000
open Go
open sum num burst

structure Hd where
  v : Int
  s : Int
  b : Int
  l : Int

def okH (h : Hd) : Bool := decide (1 ≤ h.v ∧ h.v ≤ 2 ∧ 1 ≤ h.s ∧ h.s ≤ 20 ∧ 0 ≤ h.b ∧ h.b ≤ 1000000000 ∧ 0 ≤ h.l ∧ h.l ≤ 4294967295)
theorem okH_is {h : Hd} : okH h = true ↔ (1 ≤ h.v ∧ h.v ≤ 2 ∧ 1 ≤ h.s ∧ h.s ≤ 20 ∧ 0 ≤ h.b ∧ h.b ≤ 1000000000 ∧ 0 ≤ h.l ∧ h.l ≤ 4294967295) := decide_eq_true_iff
theorem okH_no {h : Hd} : okH h = false ↔ ¬ (1 ≤ h.v ∧ h.v ≤ 2 ∧ 1 ≤ h.s ∧ h.s ≤ 20 ∧ 0 ≤ h.b ∧ h.b ≤ 1000000000 ∧ 0 ≤ h.l ∧ h.l ≤ 4294967295) := decide_eq_false_iff_not
def magic : ByteArray := { data := #[83, 69, 71, 77] }
def gap : ByteArray := { data := #[0, 0] }
def nul : ByteArray := { data := #[] }
def body (h : Hd) : ByteArray := magic ++ fxI h.v 1 ++ fxI h.s 1 ++ gap ++ fxI h.b 8 ++ fxI h.l 4
/-- the sum of a text -/
def sumT (t : ByteArray) : Nat := F 4294967295 t.data.toList ^^^ 4294967295
theorem sumT_lt (t : ByteArray) : sumT t < 4294967296 := xor_lt (F_lt _ _ (by decide)) (by decide)
theorem sumT_nats (t : ByteArray) : sumT t = FN 4294967295 (nats t 0) ^^^ 4294967295 := by unfold sumT; rw [F_nats]
def hdT (h : Hd) : ByteArray := if okH h = true then body h ++ fxI ((sumT (body h) : Nat) : Int) 4 else nul
theorem hdT_ok {h : Hd} (k : okH h = true) : hdT h = body h ++ fxI ((sumT (body h) : Nat) : Int) 4 := if_pos k
theorem hdT_no {h : Hd} (k : okH h = false) : hdT h = nul := if_neg (by rw [k]; decide)

theorem fx1 {n : Int} {m : Nat} (h0 : 0 ≤ n) (h1 : n ≤ 255) (e : n.toNat = m) : fxI n 1 = txt [m % 256] := by
  obtain ⟨k, rfl⟩ := Int.eq_ofNat_of_zero_le h0
  have e' : k = m := by simpa using e
  subst e'
  exact fxI_in k 1 (by omega) (by omega) (by omega)
theorem fxN {n : Int} {m k : Nat} (hk : 1 ≤ k ∧ k ≤ 8) (h0 : 0 ≤ n) (e : n.toNat = m) (h1 : m < 256 ^ k) : fxI n (k : Int) = txt (fb k m) := by
  obtain ⟨j, rfl⟩ := Int.eq_ofNat_of_zero_le h0
  have e' : j = m := by simpa using e
  subst e'
  exact fxI_in j k hk.1 hk.2 h1
theorem nats_app0 (s t : ByteArray) : nats (s ++ t) 0 = nats s 0 ++ nats t 0 := nats_append s t 0 (Nat.zero_le _)
theorem nats_magic : nats magic 0 = [83, 69, 71, 77] := rfl
theorem nats_gap : nats gap 0 = [0, 0] := rfl
/-- the bytes of a head, but its sum -/
def bl (v s b l : Nat) : List Nat := [83, 69, 71, 77, v % 256, s % 256, 0, 0] ++ (fb 8 b ++ fb 4 l)
theorem bl_length (v s b l : Nat) : (bl v s b l).length = 20 := by simp [bl, fb_length]
theorem body_nats {h : Hd} (k : okH h = true) : nats (body h) 0 = bl h.v.toNat h.s.toNat h.b.toNat h.l.toNat := by
  obtain ⟨h1, h2, h3, h4, h5, h6, h7, h8⟩ := okH_is.1 k
  have e8 : (256 : Nat) ^ 8 = 18446744073709551616 := by decide
  have e4 : (256 : Nat) ^ 4 = 4294967296 := by decide
  have b8 : fxI h.b 8 = txt (fb 8 h.b.toNat) := fxN (k := 8) (by omega) h5 rfl (by omega)
  have b4 : fxI h.l 4 = txt (fb 4 h.l.toNat) := fxN (k := 4) (by omega) h7 rfl (by omega)
  unfold body bl
  rw [fx1 (by omega) (by omega) rfl, fx1 (by omega) (by omega) rfl, b8, b4]
  simp only [nats_app0, nats_magic, nats_gap]
  rw [nats_txt _ (fb_byte 8 _), nats_txt _ (fb_byte 4 _), nats_txt _ (by intro c hc; simp at hc; omega), nats_txt _ (by intro c hc; simp at hc; omega)]
  simp
theorem hdT_nats {h : Hd} (k : okH h = true) : nats (hdT h) 0 = bl h.v.toNat h.s.toNat h.b.toNat h.l.toNat ++ fb 4 (sumT (body h)) := by
  have e4 : (256 : Nat) ^ 4 = 4294967296 := by decide
  have hs := sumT_lt (body h)
  have b4 : fxI ((sumT (body h) : Nat) : Int) 4 = txt (fb 4 (sumT (body h))) := fxN (k := 4) (by omega) (by omega) (by simp) (by omega)
  rw [hdT_ok k, b4, nats_app0, body_nats k, nats_txt _ (fb_byte 4 _)]
theorem hdT_reg {h : Hd} (k : okH h = true) : nats (hdT h) 0 = nats (body h) 0 ++ fb 4 (FN 4294967295 (nats (body h) 0) ^^^ 4294967295) := by
  rw [hdT_nats k, ← sumT_nats, body_nats k]
theorem nats_size (b : ByteArray) : b.size = (nats b 0).length := by rw [nats_length]; omega
theorem hdT_size {h : Hd} (k : okH h = true) : (hdT h).size = 24 := by
  rw [nats_size, hdT_nats k, List.length_append, bl_length, fb_length]
theorem hdT_le (h : Hd) : (hdT h).size ≤ 24 := by
  cases k : okH h with
  | true => rw [hdT_size k]; exact Nat.le_refl _
  | false => rw [hdT_no k]; exact Nat.zero_le _
theorem hdT_empty (h : Hd) : hdT h = nul ↔ okH h = false := by
  constructor
  · intro e
    cases k : okH h with
    | true => have := hdT_size k; rw [e] at this; exact absurd this (by decide)
    | false => rfl
  · exact hdT_no
theorem body_size {h : Hd} (k : okH h = true) : (body h).size = 20 := by rw [nats_size, body_nats k, bl_length]

/-! ### reading -/
def valF (b : ByteArray) (a k : Nat) : Nat := val ((nats b a).take k)
theorem nats_from (b : ByteArray) (a : Nat) : nats b a = (nats b 0).drop a := by unfold nats; rw [List.drop_zero, List.map_drop]
def fields (b : ByteArray) : Hd := ⟨(valF b 4 1 : Nat), (valF b 5 1 : Nat), if valF b 8 8 < 9223372036854775808 then (valF b 8 8 : Nat) else 0, (valF b 16 4 : Nat)⟩
theorem fld_hdT {h : Hd} (k : okH h = true) (r : ByteArray) : valF (hdT h ++ r) 4 1 = h.v.toNat ∧ valF (hdT h ++ r) 5 1 = h.s.toNat ∧ valF (hdT h ++ r) 8 8 = h.b.toNat ∧ valF (hdT h ++ r) 16 4 = h.l.toNat := by
  obtain ⟨h1, h2, h3, h4, h5, h6, h7, h8⟩ := okH_is.1 k
  have e8 : (256 : Nat) ^ 8 = 18446744073709551616 := by decide
  have e4 : (256 : Nat) ^ 4 = 4294967296 := by decide
  have v8 := val_fb 8 h.b.toNat (by omega)
  have v4 := val_fb 4 h.l.toNat (by omega)
  have v1 : val [h.v.toNat % 256] = h.v.toNat := by simp only [val]; omega
  have v2 : val [h.s.toNat % 256] = h.s.toNat := by simp only [val]; omega
  unfold valF
  rw [nats_from _ 4, nats_from _ 5, nats_from _ 8, nats_from _ 16, nats_app0, hdT_nats k]
  unfold bl
  have l8 := fb_length 8 h.b.toNat
  have l4 := fb_length 4 h.l.toNat
  refine ⟨?_, ?_, ?_, ?_⟩
  · simpa using v1
  · simpa using v2
  · simp only [List.append_assoc, List.cons_append, List.nil_append, List.drop_succ_cons, List.drop_zero]
    rw [List.take_append_of_le_length (by omega), List.take_of_length_le (by omega)]
    exact v8
  · simp only [List.append_assoc, List.cons_append, List.nil_append, List.drop_succ_cons]
    rw [List.drop_append_of_le_length (by omega), List.drop_of_length_le (by omega), List.nil_append, List.take_append_of_le_length (by omega), List.take_of_length_le (by omega)]
    exact v4
theorem fields_hdT {h : Hd} (k : okH h = true) (r : ByteArray) : fields (hdT h ++ r) = h := by
  obtain ⟨h1, h2, h3, h4, h5, h6, h7, h8⟩ := okH_is.1 k
  obtain ⟨e1, e2, e3, e4⟩ := fld_hdT k r
  unfold fields
  rw [e1, e2, e3, e4, if_pos (by omega)]
  obtain ⟨v, s, b, l⟩ := h
  simp only [Hd.mk.injEq]
  simp only at h1 h3 h5 h7
  omega
def rdH (b : ByteArray) : Option Hd := if b.size < 24 then none else if hdT (fields b) = b.extract 0 24 then some (fields b) else none
theorem cut_ext (b : ByteArray) : b.extract 0 24 ++ b.extract 24 b.size = b := by
  apply ByteArray.ext
  rw [ByteArray.data_append, ByteArray.data_extract, ByteArray.data_extract]
  apply Array.ext'
  rw [Array.toList_append, Array.toList_extract, Array.toList_extract, List.extract_eq_take_drop, List.extract_eq_take_drop]
  simp only [Nat.sub_zero, List.drop_zero]
  rw [List.take_of_length_le (l := List.drop 24 _) (by rw [List.length_drop]; exact Nat.le_refl _), List.take_append_drop]
theorem rdH_short {b : ByteArray} (h : b.size < 24) : rdH b = none := if_pos h
theorem ok_of_cut {b : ByteArray} {h : Hd} (hs : ¬ b.size < 24) (e : hdT h = b.extract 0 24) : okH h = true := by
  cases k : okH h with
  | true => rfl
  | false =>
    rw [hdT_no k] at e
    have e2 : nul.size = (b.extract 0 24).size := by rw [e]
    rw [ByteArray.size_extract] at e2
    have : nul.size = 0 := rfl
    omega
theorem rdH_cut {b : ByteArray} {h : Hd} (hs : ¬ b.size < 24) (e : hdT h = b.extract 0 24) : rdH b = some h ∧ fields b = h ∧ valF b 8 8 < 9223372036854775808 := by
  have k := ok_of_cut hs e
  obtain ⟨h1, h2, h3, h4, h5, h6, h7, h8⟩ := okH_is.1 k
  have hb : b = hdT h ++ b.extract 24 b.size := by rw [e]; exact (cut_ext b).symm
  have hf : fields b = h := by rw [hb]; exact fields_hdT k _
  have h9 : valF b 8 8 = h.b.toNat := by rw [hb]; exact (fld_hdT k _).2.2.1
  refine ⟨?_, hf, by omega⟩
  unfold rdH
  rw [if_neg hs, hf, if_pos e]
theorem rdH_no {b : ByteArray} (h : ¬ hdT (fields b) = b.extract 0 24) : rdH b = none := by
  by_cases hs : b.size < 24
  · exact rdH_short hs
  · unfold rdH
    rw [if_neg hs, if_neg h]
theorem rdH_big {b : ByteArray} (h : ¬ valF b 8 8 < 9223372036854775808) (hs : ¬ b.size < 24) : rdH b = none := rdH_no fun e => h (rdH_cut hs e).2.2
theorem rdH_some {b : ByteArray} {h : Hd} (e : rdH b = some h) : ¬ b.size < 24 ∧ okH h = true ∧ hdT h = b.extract 0 24 := by
  unfold rdH at e
  split at e
  · cases e
  · next hs =>
    split at e
    · next hc =>
      obtain rfl : fields b = h := by simpa using e
      exact ⟨hs, ok_of_cut hs hc, hc⟩
    · cases e
theorem rdH_hdT {h : Hd} (k : okH h = true) (r : ByteArray) : rdH (hdT h ++ r) = some h := by
  have hs := hdT_size k
  refine (rdH_cut (by rw [ByteArray.size_append]; omega) ?_).1
  apply ByteArray.ext
  rw [ByteArray.data_extract, ByteArray.data_append]
  apply Array.ext'
  rw [Array.toList_extract, Array.toList_append, List.extract_eq_take_drop, List.drop_zero, Nat.sub_zero, List.take_append_of_le_length (by show 24 ≤ (hdT h).size; omega), List.take_of_length_le (by show (hdT h).size ≤ 24; omega)]
theorem extract_all {b : ByteArray} (h : b.size = 24) : b.extract 0 24 = b := by
  apply ByteArray.ext
  rw [ByteArray.data_extract]
  apply Array.ext'
  rw [Array.toList_extract, List.extract_eq_take_drop, List.drop_zero, Nat.sub_zero, List.take_of_length_le (by show b.size ≤ 24; omega)]
/-- a head of which bits within 32 in a row are turned is none -/
theorem rdH_turn {g : Hd} {at_ m : Nat} (k : okH g = true) (hm : m < 4294967296) (h0 : bur 24 at_ m ≠ 0) : rdH (turn (hdT g) at_ m) = none := by
  cases e : rdH (turn (hdT g) at_ m) with
  | none => rfl
  | some h =>
    obtain ⟨_, kh, hc⟩ := rdH_some e
    rw [extract_all (by rw [turn_size, hdT_size k])] at hc
    exact (no_burst (by decide) (hdT_reg k) (hdT_reg kh) hm (by rw [hdT_size k]; exact h0) hc).elim

/-! ### links -/
/-- SumMore of any number -/
def moreI (s : Int) (t : ByteArray) : Nat := sumMore (s % 4294967296).toNat t.data.toList
def lkM (n : Int) (r : ByteArray) : Nat := moreI n (fxI (r.size : Int) 4 ++ r)
def lkL (n : Nat) (rs : List ByteArray) : Nat := rs.foldl (fun n r => lkM (n : Int) r) n
theorem lkL_next {rs : List ByteArray} {k n : Nat} {r : ByteArray} (h : rs[k]? = some r) : lkL n (rs.take (k + 1)) = lkM (lkL n (rs.take k) : Nat) r := by
  unfold lkL
  rw [List.take_add_one, h, List.foldl_append]
  rfl
theorem lkL_append (n : Nat) (a b : List ByteArray) : lkL n (a ++ b) = lkL (lkL n a) b := by unfold lkL; rw [List.foldl_append]
theorem moreI_lt (s : Int) (t : ByteArray) : moreI s t < 4294967296 := sumMore_lt (by omega) _
theorem lkM_lt (s : Int) (t : ByteArray) : lkM s t < 4294967296 := moreI_lt _ _

end Go.Proofs.Ytbgkdngeingmnaa.hd
