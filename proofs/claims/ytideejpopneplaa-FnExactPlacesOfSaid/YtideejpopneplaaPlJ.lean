/-
  Plain facts on parts laid together: no text where a part is empty; the text of places, the trailer and the foot as such.
-/
import Derived.Test.YtideejpopneplaaMathX
import Derived.Lib.Join
namespace Go.Proofs.Ytideejpopneplaa.pl
set_option maxRecDepth 20000
open Go
open sum num burst hd fr

def cat : List ByteArray → ByteArray
  | [] => nul
  | x :: xs => x ++ cat xs
instance memDec (L : List ByteArray) : Decidable (nul ∈ L) := decidable_of_iff (∃ x ∈ L, x = nul) ⟨fun ⟨_, h, e⟩ => e ▸ h, fun h => ⟨_, h, rfl⟩⟩
def jn (L : List ByteArray) : ByteArray := if nul ∈ L then nul else cat L
theorem jn_bad {L : List ByteArray} (h : nul ∈ L) : jn L = nul := if_pos h
theorem jn_good {L : List ByteArray} (h : ¬ nul ∈ L) : jn L = cat L := if_neg h
theorem cat_flat : ∀ L : List ByteArray, (cat L).data.toList = (L.map (·.data.toList)).flatten
  | [] => rfl
  | x :: xs => by
    show (x ++ cat xs).data.toList = _
    rw [ByteArray.data_append, Array.toList_append, cat_flat xs]
    rfl
theorem cat_join (L : List ByteArray) : Lib.join (L.map (·.data.toList)) nul.data.toList = (cat L).data.toList := by
  rw [cat_flat]
  cases L with
  | nil => rfl
  | cons x xs =>
    rw [List.map_cons, Lib.join_cons, List.flatten_cons]
    unfold Lib.joinTail
    congr 2
    show List.map (fun y => [] ++ y) _ = _
    simp
theorem cat_le {M : Nat} : ∀ L : List ByteArray, (∀ x ∈ L, x.size ≤ M) → (cat L).size ≤ L.length * M
  | [], _ => Nat.zero_le _
  | x :: xs, h => by
    show (x ++ cat xs).size ≤ _
    have h1 := h x (List.mem_cons_self ..)
    have h2 := cat_le xs fun y hy => h y (List.mem_cons_of_mem _ hy)
    rw [ByteArray.size_append, List.length_cons, Nat.add_mul]
    omega

/-! ### places -/
def wl (a b : Int) : Int := (a - b + 9223372036854775808) % 18446744073709551616 - 9223372036854775808
theorem vt_wl {a b : Int} (ha : i64 a) (h0 : 0 ≤ b) (h1 : b ≤ 4611686018427387904) : vtI (wl a b) = vtI (less a b) := by
  unfold i64 at ha
  by_cases hw : a - b < -9223372036854775808
  · have e1 : wl a b = a - b + 18446744073709551616 := by unfold wl; omega
    have e2 : less a b = -1 := if_pos (.inl (by omega))
    rw [vtI_nul.2 (by rw [e1]; omega), vtI_nul.2 (by rw [e2]; omega)]
  · have e1 : wl a b = a - b := by unfold wl; omega
    by_cases h2 : a < b
    · have e2 : less a b = -1 := if_pos (.inl h2)
      rw [vtI_nul.2 (by rw [e1]; omega), vtI_nul.2 (by rw [e2]; omega)]
    · have e2 : less a b = a - b := if_neg (by omega)
      rw [e1, e2]
def pd : Int × Int → List (Int × Int) → List ByteArray
  | _, [] => []
  | l, x :: xs => vtI (wl x.1 l.1) :: vtI (wl x.2 l.2) :: pd x xs
theorem pd_drop {xs : List (Int × Int)} {k : Nat} {x l : Int × Int} (h : xs[k]? = some x) : pd l (xs.drop k) = vtI (wl x.1 l.1) :: vtI (wl x.2 l.2) :: pd x (xs.drop (k + 1)) := by
  have hl : k < xs.length := (List.getElem?_eq_some_iff.1 h).1
  rw [List.drop_eq_getElem_cons hl]
  have e : xs[k] = x := (List.getElem?_eq_some_iff.1 h).2
  rw [e]
  rfl
theorem pd_size (xs : List (Int × Int)) : ∀ l, ∀ x ∈ pd l xs, x.size ≤ 5 := by
  induction xs with
  | nil => intro l x hx; cases hx
  | cons y ys ih =>
    intro l x hx
    rcases List.mem_cons.1 hx with rfl | hx
    · exact vtI_size _
    · rcases List.mem_cons.1 hx with rfl | hx
      · exact vtI_size _
      · exact ih y x hx
theorem pd_len (xs : List (Int × Int)) : ∀ l, (pd l xs).length = 2 * xs.length := by
  induction xs with
  | nil => intro l; rfl
  | cons y ys ih =>
    intro l
    show (pd y ys).length + 1 + 1 = _
    rw [ih, List.length_cons]
    omega
theorem plGo_pd (xs : List (Int × Int)) : ∀ (s : ByteArray) (l : Int × Int) (K : Int), (∀ e ∈ xs, i64 e.1 ∧ i64 e.2) → 0 ≤ l.1 → 0 ≤ l.2 → l.1 ≤ K → l.2 ≤ K → K + (xs.length : Int) * 1000000000 ≤ 4611686018427387904 → plGo s l xs = if nul ∈ pd l xs then nul else s ++ cat (pd l xs) := by
  induction xs with
  | nil =>
    intro s l K _ _ _ _ _ _
    rw [if_neg (by intro h; cases h)]
    show s = s ++ nul
    exact ByteArray.append_empty.symm
  | cons x xs ih =>
    intro s l K hw h1 h2 h3 h4 hK
    rw [List.length_cons] at hK
    obtain ⟨w1, w2⟩ := hw x (List.mem_cons_self ..)
    have e1 := vt_wl w1 h1 (by omega)
    have e2 := vt_wl w2 h2 (by omega)
    show _ = if nul ∈ vtI (wl x.1 l.1) :: vtI (wl x.2 l.2) :: pd x xs then nul else s ++ (vtI (wl x.1 l.1) ++ (vtI (wl x.2 l.2) ++ cat (pd x xs)))
    rw [e1, e2]
    by_cases hb : vtI (less x.1 l.1) = nul ∨ vtI (less x.2 l.2) = nul
    · rw [plGo_bad hb, if_pos]
      rcases hb with hb | hb
      · rw [hb]; exact List.mem_cons_self ..
      · rw [hb]; exact List.mem_cons_of_mem _ (List.mem_cons_self ..)
    · have key : ∀ n, ¬ vtI n = nul → 0 ≤ n ∧ n ≤ 1000000000 := fun n hn => by
        by_cases hc : 0 ≤ n ∧ n ≤ 1000000000
        · exact hc
        · exact absurd (vtI_nul.2 hc) hn
      have n1 : ¬ vtI (less x.1 l.1) = nul := fun e => hb (.inl e)
      have n2 : ¬ vtI (less x.2 l.2) = nul := fun e => hb (.inr e)
      have k1 := key _ n1
      have k2 := key _ n2
      have f1 := less_in k1.1
      have f2 := less_in k2.1
      rw [plGo_next hb, ih _ x (K + 1000000000) (fun e he => hw e (List.mem_cons_of_mem _ he)) (by omega) (by omega) (by omega) (by omega) (by push_cast at hK; omega)]
      have hm : nul ∈ vtI (less x.1 l.1) :: vtI (less x.2 l.2) :: pd x xs ↔ nul ∈ pd x xs := by
        constructor
        · intro h
          rcases List.mem_cons.1 h with h | h
          · exact absurd h.symm n1
          · rcases List.mem_cons.1 h with h | h
            · exact absurd h.symm n2
            · exact h
        · exact fun h => List.mem_cons_of_mem _ (List.mem_cons_of_mem _ h)
      by_cases hp : nul ∈ pd x xs
      · rw [if_pos hp, if_pos (hm.2 hp)]
      · rw [if_neg hp, if_neg fun h => hp (hm.1 h), app_assoc, app_assoc]
theorem plT_jn {xs : List (Int × Int)} (hl : xs.length ≤ 1048576) (hw : ∀ e ∈ xs, i64 e.1 ∧ i64 e.2) : plT xs = jn (vtI (xs.length : Int) :: pd (0, 0) xs) := by
  unfold plT
  have h0 : ¬ vtI (xs.length : Int) = nul := fun e => (vtI_nul.1 e) ⟨by omega, by omega⟩
  rw [plGo_pd xs _ (0, 0) 0 hw (Int.le_refl _) (Int.le_refl _) (Int.le_refl _) (Int.le_refl _) (by omega)]
  unfold jn
  have hm : nul ∈ vtI (xs.length : Int) :: pd (0, 0) xs ↔ nul ∈ pd (0, 0) xs := by
    constructor
    · intro h
      rcases List.mem_cons.1 h with h | h
      · exact absurd h.symm h0
      · exact h
    · exact fun h => List.mem_cons_of_mem _ h
  by_cases hp : nul ∈ pd (0, 0) xs
  · rw [if_pos hp, if_pos (hm.2 hp)]
  · rw [if_neg hp, if_neg fun h => hp (hm.1 h)]
    rfl

/-! ### the trailer -/
theorem cat3 (x y z : ByteArray) : cat [x, y, z] = x ++ y ++ z := by
  show x ++ (y ++ (z ++ nul)) = _
  rw [show z ++ nul = z from ByteArray.append_empty, app_assoc]
theorem mem3 {n x y z : ByteArray} : n ∈ [x, y, z] ↔ n = x ∨ n = y ∨ n = z := by simp
theorem idx_full : ¬ nul = idx := fun h => absurd (congrArg ByteArray.size h) (by decide)
def ahT (a b c : Int) : ByteArray := jn [fxI a 4, fxI b 4, fxI c 4]
theorem ahT_no {a b c : Int} (h : fxI a 4 = nul ∨ fxI b 4 = nul ∨ fxI c 4 = nul) : ahT a b c = nul := jn_bad (mem3.2 (h.imp Eq.symm (Or.imp Eq.symm Eq.symm)))
theorem ahT_yes {a b c : Int} (h : ¬ (fxI a 4 = nul ∨ fxI b 4 = nul ∨ fxI c 4 = nul)) : ahT a b c = fxI a 4 ++ fxI b 4 ++ fxI c 4 := by
  unfold ahT
  rw [jn_good fun e => h ((mem3.1 e).imp Eq.symm (Or.imp Eq.symm Eq.symm)), cat3]
theorem fx_size {n : Int} (h : ¬ fxI n 4 = nul) : (fxI n 4).size = 4 := by
  by_cases hc : 0 ≤ n ∧ n < 4294967296
  · have h2 := fx4_size (n := n.toNat) (by omega)
    unfold fx4 at h2
    rw [show ((n.toNat : Nat) : Int) = n by omega] at h2
    exact h2
  · exact absurd (fx_nul.2 hc) h
theorem ahT_size {a b c : Int} (h : ¬ (fxI a 4 = nul ∨ fxI b 4 = nul ∨ fxI c 4 = nul)) : (ahT a b c).size = 12 := by
  rw [ahT_yes h, ByteArray.size_append, ByteArray.size_append, fx_size fun e => h (.inl e), fx_size fun e => h (.inr (.inl e)), fx_size fun e => h (.inr (.inr e))]
theorem ahT_le (a b c : Int) : (ahT a b c).size ≤ 12 := by
  by_cases h : fxI a 4 = nul ∨ fxI b 4 = nul ∨ fxI c 4 = nul
  · rw [ahT_no h]; exact Nat.zero_le _
  · exact Nat.le_of_eq (ahT_size h)
theorem trT_jn (a b c d : Int) : trT a b c d = jn [ahT a b c, fxI d 4, idx] := by
  by_cases h : fxI a 4 = nul ∨ fxI b 4 = nul ∨ fxI c 4 = nul
  · rw [trT_no (by unfold noTr; rcases h with h | h | h; exact .inl h; exact .inr (.inl h); exact .inr (.inr (.inl h))), jn_bad]
    rw [ahT_no h]
    exact List.mem_cons_self ..
  · by_cases hd : fxI d 4 = nul
    · rw [trT_no (.inr (.inr (.inr hd))), jn_bad]
      rw [hd]
      exact mem3.2 (.inr (.inl rfl))
    · have hs := ahT_size h
      rw [trT_yes (by unfold noTr; rintro (h1 | h1 | h1 | h1); exact h (.inl h1); exact h (.inr (.inl h1)); exact h (.inr (.inr h1)); exact hd h1), jn_good, cat3, ahT_yes h]
      intro e
      rcases mem3.1 e with e | e | e
      · rw [← e] at hs; exact absurd hs (by decide)
      · exact hd e.symm
      · exact idx_full e
/-- the beginning of a trailer, whatever its sum -/
theorem trT_ah {a b c : Int} (h : trT a b c 0 ≠ nul) : (trT a b c 0).extract 0 12 = ahT a b c := by
  have hn : ¬ (fxI a 4 = nul ∨ fxI b 4 = nul ∨ fxI c 4 = nul) := fun e => h (trT_no (by unfold noTr; rcases e with h | h | h; exact .inl h; exact .inr (.inl h); exact .inr (.inr (.inl h))))
  have hs := ahT_size hn
  have hd : ¬ noTr a b c 0 := fun e => h (trT_no e)
  rw [trT_yes hd, ← ahT_yes hn, app_assoc]
  rw [← hs, ByteArray.extract_append_eq_left rfl]
theorem trT_zero {a b c : Int} {q : Nat} (hq : q < 4294967296) : trT a b c (q : Int) = nul ↔ trT a b c 0 = nul := by
  have k : ∀ d : Int, 0 ≤ d → d < 4294967296 → (trT a b c d = nul ↔ (fxI a 4 = nul ∨ fxI b 4 = nul ∨ fxI c 4 = nul)) := fun d h0 h1 => by
    constructor
    · intro h
      by_cases hn : noTr a b c d
      · rcases hn with h | h | h | h
        · exact .inl h
        · exact .inr (.inl h)
        · exact .inr (.inr h)
        · exact absurd ⟨h0, h1⟩ (fx_nul.1 h)
      · rw [trT_yes hn] at h
        have := congrArg ByteArray.size h
        rw [ByteArray.size_append] at this
        have e1 : idx.size = 4 := rfl
        have e2 : nul.size = 0 := rfl
        omega
    · intro h
      exact trT_no (by unfold noTr; rcases h with h | h | h; exact .inl h; exact .inr (.inl h); exact .inr (.inr (.inl h)))
  rw [k q (by omega) (by omega), k 0 (by omega) (by omega)]

/-! ### the foot -/
theorem ftT_jn {h : Hd} {os : List Int} {e : Int} (hk : okH h = true) : ftT h os e = jn [emT h.v (h.b + (os.length : Int)), plT (plN h.s os), trT e (os.length : Int) h.s (sumT (emT h.v (h.b + (os.length : Int)) ++ plT (plN h.s os) ++ ahT e (os.length : Int) h.s) : Nat)] := by
  have hq := sumT_lt (emT h.v (h.b + (os.length : Int)) ++ plT (plN h.s os) ++ ahT e (os.length : Int) h.s)
  by_cases hn : noFt h os e
  · rw [ftT_bad hn, jn_bad]
    rcases hn with hn | hn | hn
    · exact mem3.2 (.inl hn.symm)
    · exact mem3.2 (.inr (.inl hn.symm))
    · exact mem3.2 (.inr (.inr ((trT_zero hq).2 hn).symm))
  · have ht : trT e (os.length : Int) h.s 0 ≠ nul := fun x => hn (.inr (.inr x))
    have hb : fbody h os e = emT h.v (h.b + (os.length : Int)) ++ plT (plN h.s os) ++ ahT e (os.length : Int) h.s := by unfold fbody; rw [trT_ah ht]
    rw [ftT_yes hk hn, hb, jn_good, cat3]
    intro x
    rcases mem3.1 x with x | x | x
    · exact hn (.inl x.symm)
    · exact hn (.inr (.inl x.symm))
    · exact ht ((trT_zero hq).1 x.symm)

end Go.Proofs.Ytideejpopneplaa.pl
