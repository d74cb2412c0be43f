/-
  Plain facts on sealed files: what is written, that it is scanned whole, and that there is one form alone.
-/
import Derived.Test.YtideejpopneplaaScMath
import Derived.Test.YtideejpopneplaaMathX
namespace Go.Proofs.Ytideejpopneplaa.sl
set_option maxRecDepth 20000
open Go
open sum num burst hd fr sc pl

/-! ### frames one behind the other -/
theorem tx_le72 (h : Hd) (rs : List ByteArray) : ∀ n, (tx h rs n).size ≤ 24 + 72 * n := by
  intro n
  induction n with
  | zero => rw [tx_zero]; have := hdT_le h; omega
  | succ n ih =>
    cases e : rs[n]? with
    | none =>
      have hl : rs.length ≤ n := List.getElem?_eq_none_iff.1 e
      have : tx h rs (n + 1) = tx h rs n := by unfold tx; rw [List.take_of_length_le (by omega), List.take_of_length_le (by omega)]
      rw [this]; omega
    | some r =>
      rw [tx_next e, ByteArray.size_append]
      have := frT_le h.v (h.b + (n : Int)) r
      omega
theorem tx_split {h : Hd} {rs : List ByteArray} {k : Nat} : ∀ {n : Nat}, k ≤ n → n ≤ rs.length → ∃ t, tx h rs n = tx h rs k ++ t := by
  intro n
  induction n with
  | zero =>
    intro hk _
    obtain rfl : k = 0 := by omega
    exact ⟨nul, ByteArray.append_empty.symm⟩
  | succ n ih =>
    intro hk hn
    by_cases e : k = n + 1
    · subst e
      exact ⟨nul, ByteArray.append_empty.symm⟩
    · obtain ⟨t, ht⟩ := ih (by omega) (by omega)
      rw [tx_next (r := rs[n]) (List.getElem?_eq_getElem (by omega)), ht, app_assoc]
      exact ⟨_, rfl⟩
theorem tx_mono {h : Hd} {rs : List ByteArray} {k n : Nat} (hk : k ≤ n) (hn : n ≤ rs.length) : (tx h rs k).size ≤ (tx h rs n).size := by
  obtain ⟨t, ht⟩ := tx_split (h := h) hk hn
  rw [ht, ByteArray.size_append]
  omega
theorem emT_first {v p : Int} (hv : okV v p = true) : ∃ l, nats (emT v p) 0 = 255 :: l := by
  obtain ⟨h1, h2, h3, h4⟩ := okV_is.1 hv
  rcases okV_two hv with rfl | rfl
  · rw [emT_old hv]; exact ⟨_, rfl⟩
  · rw [emT_new hv, hdr_nats h3 h4 (by decide)]
    exact ⟨_, rfl⟩
theorem frT_first {v p : Int} {r : ByteArray} (hv : okV v p = true) (hr : r.size ≤ 60) : ∃ l, nats (frT v p r) 0 = r.size :: l := by
  rw [frT_nats hv hr]
  split
  · exact ⟨_, rfl⟩
  · refine ⟨(fb 4 r.size).drop 1 ++ fb 4 (FN (reg p) (fb 4 r.size) ^^^ 4294967295) ++ (nats r 0 ++ fb 4 (FN 4294967295 (nats r 0) ^^^ 4294967295)), ?_⟩
    show (r.size % 256) :: _ = _
    rw [Nat.mod_eq_of_lt (by omega)]
    rfl
/-- where a frame stands there is no mark -/
theorem mkAt_frame {v p : Int} {r : ByteArray} (hv : okV v p = true) (hr : r.size ≤ 60) (s z : ByteArray) : mkAt v p (s ++ (frT v p r ++ z)) (s.size : Int) = false := by
  by_cases hs : s.size + (emT v p).size ≤ (s ++ (frT v p r ++ z)).size
  · rw [mkAt_in hv hs]
    refine decide_eq_false fun he => ?_
    have h1 := ext_to he
    obtain ⟨l, hl⟩ := frT_first hv hr
    obtain ⟨m, hm⟩ := emT_first hv
    rw [nats_append s _ s.size (Nat.le_refl _), nats_over s s.size (Nat.le_refl _), List.nil_append, nats_app0, hl, hm] at h1
    have hp : 0 < (emT v p).size := by rw [nats_size, hm]; exact Nat.succ_pos _
    obtain ⟨k, hk⟩ : ∃ k, (emT v p).size = k + 1 := ⟨_, (Nat.succ_pred_eq_of_pos hp).symm⟩
    rw [hk, List.cons_append, List.take_succ_cons] at h1
    injection h1 with h2 _
    omega
  · refine mkAt_out fun x => hs ?_
    have := x.2
    omega
theorem mkAt_mark {v p : Int} (hv : okV v p = true) (s z : ByteArray) : mkAt v p (s ++ (emT v p ++ z)) (s.size : Int) = true := by
  rw [mkAt_in hv (by rw [ByteArray.size_append, ByteArray.size_append]; omega)]
  exact decide_eq_true (app_extract s (emT v p) z)

/-! ### what may be sealed -/
def okS (h : Hd) (rs : List ByteArray) : Prop := okH h = true ∧ rs.length ≤ 1000 ∧ h.b + (rs.length : Int) ≤ 1000000000 ∧ ∀ r ∈ rs, r.size ≤ 60
instance (h : Hd) (rs : List ByteArray) : Decidable (okS h rs) := by unfold okS; infer_instance
theorem okS_place {h : Hd} {rs : List ByteArray} (hk : okS h rs) {k : Nat} (hl : k ≤ rs.length) : okV h.v (h.b + (k : Int)) = true := by
  obtain ⟨h1, h2, h3, h4⟩ := hk
  have h5 := okH_is.1 h1
  exact okV_is.2 ⟨by omega, by omega, by omega, by omega⟩
/-- frames, the mark and whatever is behind: just these records are told -/
theorem scan_tx {h : Hd} {rs : List ByteArray} (hk : okS h rs) (y : ByteArray) : rdH (tx h rs rs.length ++ (emT h.v (h.b + (rs.length : Int)) ++ y)) = some h ∧ recs (tx h rs rs.length ++ (emT h.v (h.b + (rs.length : Int)) ++ y)) = rs ∧ endN (tx h rs rs.length ++ (emT h.v (h.b + (rs.length : Int)) ++ y)) = (tx h rs rs.length).size ∧ marked (tx h rs rs.length ++ (emT h.v (h.b + (rs.length : Int)) ++ y)) = true := by
  obtain ⟨b, hb⟩ : ∃ b, tx h rs rs.length ++ (emT h.v (h.b + (rs.length : Int)) ++ y) = b := ⟨_, rfl⟩
  rw [hb]
  have hh : rdH b = some h := by
    obtain ⟨t, ht⟩ := tx_split (h := h) (rs := rs) (Nat.zero_le rs.length) (Nat.le_refl _)
    rw [← hb, ht, tx_zero, app_assoc]
    exact rdH_hdT hk.1 _
  have key : ∀ k, k ≤ rs.length → ∃ xs, xs.map Prod.fst = rs.take k ∧ Inv h b xs (tx h rs k).size := by
    intro k
    induction k with
    | zero =>
      intro _
      refine ⟨[], rfl, ?_⟩
      rw [tx_zero, hdT_size hk.1]
      exact Inv.start hh
    | succ k ih =>
      intro hlt
      obtain ⟨xs, h1, h2⟩ := ih (by omega)
      have hxl : xs.length = k := by
        have := congrArg List.length h1
        rw [List.length_map, List.length_take, Nat.min_eq_left (by omega)] at this
        exact this
      have hr := List.getElem?_eq_getElem (show k < rs.length by omega)
      obtain ⟨r, hr'⟩ : ∃ r, rs[k]'(by omega) = r := ⟨_, rfl⟩
      rw [hr'] at hr
      have hr60 := hk.2.2.2 r (List.mem_of_getElem? hr)
      obtain ⟨t, ht⟩ := tx_split (h := h) (rs := rs) (show k + 1 ≤ rs.length by omega) (Nat.le_refl _)
      have hv := okS_place hk (show k ≤ rs.length by omega)
      have hbk : b = tx h rs k ++ (frT h.v (h.b + (k : Int)) r ++ (t ++ (emT h.v (h.b + (rs.length : Int)) ++ y))) := by rw [← hb, ht, tx_next hr, app_assoc, app_assoc]
      have hstep : sc.step h b xs.length (tx h rs k).size = some (r, (tx h rs (k + 1)).size) := by
        rw [hxl, step_read (by rw [hbk]; exact mkAt_frame hv hr60 _ _), tx_next hr, ByteArray.size_append]
        rw [hbk]
        exact rdF_frT hv hr60 _ _
      refine ⟨xs ++ [(r, (tx h rs k).size)], ?_, h2.next hstep⟩
      rw [List.map_append, h1, List.take_add_one, hr]
      rfl
  obtain ⟨xs, h1, h2⟩ := key rs.length (Nat.le_refl _)
  rw [List.take_of_length_le (Nat.le_refl _)] at h1
  have hxl : xs.length = rs.length := by rw [← h1, List.length_map]
  have hv := okS_place hk (Nat.le_refl rs.length)
  have hm : mkAt h.v (h.b + (xs.length : Int)) b ((tx h rs rs.length).size : Int) = true := by rw [hxl, ← hb]; exact mkAt_mark hv _ _
  have hsc := h2.done (step_mark hm)
  refine ⟨hh, ?_, ?_, ?_⟩
  · rw [recs_some hh, hsc]; exact h1
  · rw [endN_some hh, hsc]
  · rw [marked_some hh, hsc]; exact hm

/-! ### the foot is there -/
def Up (a : Int) : List Int → Prop
  | [] => True
  | o :: os => a ≤ o ∧ o ≤ 1000000000 ∧ Up o os
theorem Up.mono {a a' : Int} (h : a ≤ a') : ∀ {os : List Int}, Up a' os → Up a os
  | [], _ => trivial
  | _ :: _, ⟨h1, h2, h3⟩ => ⟨by omega, h2, h3⟩
theorem less_ok {a b : Int} (h0 : 0 ≤ b) (h : b ≤ a) (h1 : a ≤ 1000000000) : vtI (less a b) ≠ nul := by
  unfold less
  rw [if_neg (by omega)]
  exact fun e => (vtI_nul.1 e) ⟨by omega, by omega⟩
theorem app_full {s t : ByteArray} (h : s ≠ nul) : s ++ t ≠ nul := fun e => by
  have e3 := congrArg ByteArray.size e
  rw [ByteArray.size_append] at e3
  have e4 : nul.size = 0 := rfl
  have e5 : s.size = 0 := by omega
  exact h (ByteArray.size_eq_zero_iff.1 e5)
theorem plGo_full (st : Nat) (os : List Int) : ∀ (s : ByteArray) (l : Int × Int) (i : Nat), s ≠ nul → 0 ≤ l.1 → l.1 ≤ i → 0 ≤ l.2 → i + os.length ≤ 1000000000 → Up l.2 os → plGo s l (plFrom st i os) ≠ nul := by
  induction os with
  | nil => intro s l i hs _ _ _ _ _; exact hs
  | cons o os ih =>
    intro s l i hs h1 h2 h3 h4 h5
    obtain ⟨u1, u2, u3⟩ := h5
    rw [List.length_cons] at h4
    by_cases hi : i % st = 0
    · rw [show plFrom st i (o :: os) = ((i : Int), o) :: plFrom st (i + 1) os from if_pos hi]
      have a1 : vtI (less (i : Int) l.1) ≠ nul := less_ok h1 h2 (by omega)
      have a2 : vtI (less o l.2) ≠ nul := less_ok h3 u1 u2
      rw [plGo_next (fun e => e.elim a1 a2)]
      exact ih _ _ (i + 1) (app_full (app_full hs)) (by show (0 : Int) ≤ (i : Int); omega) (by show (i : Int) ≤ ((i + 1 : Nat) : Int); omega) (by show 0 ≤ o; omega) (by omega) u3
    · rw [show plFrom st i (o :: os) = plFrom st (i + 1) os from if_neg hi]
      exact ih _ _ (i + 1) hs h1 (by omega) h3 (by omega) (Up.mono u1 u3)
def offL (h : Hd) (rs : List ByteArray) : List Int := (List.range rs.length).map fun i => ((tx h rs i).size : Int)
theorem offL_length (h : Hd) (rs : List ByteArray) : (offL h rs).length = rs.length := by simp [offL]
theorem offL_at {h : Hd} {rs : List ByteArray} {i : Nat} (hi : i < rs.length) : (offL h rs)[i]? = some ((tx h rs i).size : Int) := by
  unfold offL
  rw [List.getElem?_map, List.getElem?_range hi]
  rfl
theorem up_range {h : Hd} {rs : List ByteArray} (hn : rs.length ≤ 1000) : ∀ (k i : Nat) (a : Int), i + k ≤ rs.length → a ≤ ((tx h rs i).size : Int) → Up a ((List.range' i k).map fun i => ((tx h rs i).size : Int)) := by
  intro k
  induction k with
  | zero => intro i a _ _; exact trivial
  | succ k ih =>
    intro i a hi ha
    have h1 := tx_le72 h rs i
    have h2 := tx_mono (h := h) (rs := rs) (show i ≤ i + 1 by omega) (by omega)
    exact ⟨ha, show ((tx h rs i).size : Int) ≤ 1000000000 by omega, ih (i + 1) _ (by omega) (show ((tx h rs i).size : Int) ≤ ((tx h rs (i + 1)).size : Int) by omega)⟩
theorem pl_full {h : Hd} {rs : List ByteArray} (hk : okS h rs) : plT (plN h.s (offL h rs)) ≠ nul := by
  have hs := okH_is.1 hk.1
  have hl := plN_le h.s (offL h rs)
  rw [offL_length] at hl
  have hn := hk.2.1
  unfold plT
  have h0 : vtI ((plN h.s (offL h rs)).length : Int) ≠ nul := fun e => (vtI_nul.1 e) ⟨by omega, by omega⟩
  generalize vtI ((plN h.s (offL h rs)).length : Int) = T at h0
  unfold plN
  rw [if_pos (by omega)]
  refine plGo_full _ _ _ (0, 0) 0 h0 (Int.le_refl _) (by show (0 : Int) ≤ _; omega) (Int.le_refl _) (by rw [offL_length]; omega) ?_
  unfold offL
  rw [List.range_eq_range']
  exact up_range hn _ 0 _ (by omega) (by show (0 : Int) ≤ _; omega)
theorem ft_ok {h : Hd} {rs : List ByteArray} (hk : okS h rs) : ¬ noFt h (offL h rs) ((tx h rs rs.length).size : Int) := by
  have hs := okH_is.1 hk.1
  have hn := hk.2.1
  have h1 := tx_le72 h rs rs.length
  rintro (e | e | e)
  · have := emT_size (okS_place hk (Nat.le_refl rs.length))
    rw [offL_length] at e
    rw [e] at this
    have h0 : nul.size = 0 := rfl
    split at this <;> omega
  · exact pl_full hk e
  · rw [offL_length] at e
    obtain ⟨s, hs'⟩ := Int.eq_ofNat_of_zero_le (show 0 ≤ h.s by omega)
    rw [hs'] at e
    have h2 := trT_nats (a := (tx h rs rs.length).size) (b := rs.length) (c := s) (d := 0) (by omega) (by omega) (by omega) (by omega)
    rw [show ((0 : Nat) : Int) = 0 from rfl, e] at h2
    have h3 := congrArg List.length h2
    simp [fb_length] at h3
    exact absurd h3 (by decide)

/-! ### a sealed file -/
def slT (h : Hd) (rs : List ByteArray) : ByteArray := if okS h rs then tx h rs rs.length ++ ftT h (offL h rs) ((tx h rs rs.length).size : Int) else nul
theorem slT_no {h : Hd} {rs : List ByteArray} (hk : ¬ okS h rs) : slT h rs = nul := if_neg hk
theorem slT_yes {h : Hd} {rs : List ByteArray} (hk : okS h rs) : slT h rs = tx h rs rs.length ++ ftT h (offL h rs) ((tx h rs rs.length).size : Int) := if_pos hk
/-- what stands behind the mark -/
def tail (h : Hd) (rs : List ByteArray) : ByteArray := plT (plN h.s (offL h rs)) ++ trT ((tx h rs rs.length).size : Int) (rs.length : Int) h.s (sumT (fbody h (offL h rs) ((tx h rs rs.length).size : Int)) : Nat)
theorem slT_parts {h : Hd} {rs : List ByteArray} (hk : okS h rs) : slT h rs = tx h rs rs.length ++ (emT h.v (h.b + (rs.length : Int)) ++ tail h rs) := by
  rw [slT_yes hk, ftT_yes hk.1 (ft_ok hk), offL_length]
  unfold tail
  rw [app_assoc (emT h.v (h.b + (rs.length : Int)))]
theorem slT_size {h : Hd} {rs : List ByteArray} (hk : okS h rs) : 45 ≤ (slT h rs).size ∧ 20 ≤ (tail h rs).size := by
  have h0 : 24 ≤ (tx h rs rs.length).size := by
    have h1 := tx_mono (h := h) (rs := rs) (Nat.zero_le rs.length) (Nat.le_refl _)
    rw [tx_zero, hdT_size hk.1] at h1
    exact h1
  have hs := okH_is.1 hk.1
  have hn := hk.2.1
  have h2 := tx_le72 h rs rs.length
  have ht : 20 ≤ (tail h rs).size := by
    unfold tail
    obtain ⟨s, hs'⟩ := Int.eq_ofNat_of_zero_le (show 0 ≤ h.s by omega)
    rw [hs', ByteArray.size_append, nats_size (trT _ _ _ _), trT_nats (by omega) (by omega) (by omega) (sumT_lt _)]
    simp only [List.length_append, fb_length, List.length_cons, List.length_nil]
    omega
  refine ⟨?_, ht⟩
  have h3 := emT_size (okS_place hk (Nat.le_refl rs.length))
  rw [slT_parts hk, ByteArray.size_append, ByteArray.size_append]
  split at h3 <;> omega
theorem slT_le (h : Hd) (rs : List ByteArray) : (slT h rs).size ≤ 100000 := by
  by_cases hk : okS h rs
  · rw [slT_yes hk, ByteArray.size_append]
    have h1 := tx_le72 h rs rs.length
    have h2 := ftT_le h (offL h rs) ((tx h rs rs.length).size : Int)
    rw [offL_length] at h2
    have := hk.2.1
    omega
  · rw [slT_no hk]; exact Nat.zero_le _
theorem slT_nul {h : Hd} {rs : List ByteArray} : slT h rs = nul ↔ ¬ okS h rs := by
  constructor
  · intro e hk
    have := (slT_size hk).1
    rw [e] at this
    exact absurd this (by decide)
  · exact slT_no
/-- a sealed file, whatever is behind -/
theorem scan_slT {h : Hd} {rs : List ByteArray} (hk : okS h rs) (z : ByteArray) : rdH (slT h rs ++ z) = some h ∧ recs (slT h rs ++ z) = rs ∧ marked (slT h rs ++ z) = true := by
  rw [slT_parts hk, app_assoc, app_assoc]
  obtain ⟨h1, h2, _, h4⟩ := scan_tx hk (tail h rs ++ z)
  exact ⟨h1, h2, h4⟩
theorem app_nul (b : ByteArray) : b ++ nul = b := ByteArray.append_empty
theorem scan_self {h : Hd} {rs : List ByteArray} (hk : okS h rs) : rdH (slT h rs) = some h ∧ recs (slT h rs) = rs ∧ marked (slT h rs) = true := by
  have := scan_slT hk nul
  rw [app_nul] at this
  exact this
theorem app_ext (x y : ByteArray) (k : Nat) : (x ++ y).extract 0 (x.size + k) = x ++ y.extract 0 k := by
  rw [show x.size + k = 0 + (x.size + k) by omega]
  refine ext_of ?_
  have e2 : nats (y.extract 0 (0 + k)) 0 = (nats y 0).take k := nats_extract y 0 k
  rw [Nat.zero_add] at e2
  rw [nats_app0, nats_app0, e2, List.take_append, List.take_of_length_le (by rw [nats_length]; omega), nats_length]
  congr 2
  omega
/-- a sealed file without its last byte -/
theorem scan_less {h : Hd} {rs : List ByteArray} (hk : okS h rs) : rdH ((slT h rs).extract 0 ((slT h rs).size - 1)) = some h ∧ recs ((slT h rs).extract 0 ((slT h rs).size - 1)) = rs := by
  have ht := (slT_size hk).2
  have e : (slT h rs).extract 0 ((slT h rs).size - 1) = tx h rs rs.length ++ (emT h.v (h.b + (rs.length : Int)) ++ (tail h rs).extract 0 ((tail h rs).size - 1)) := by
    rw [slT_parts hk, ← app_assoc, ← app_assoc, ByteArray.size_append]
    rw [show (tx h rs rs.length ++ emT h.v (h.b + (rs.length : Int))).size + (tail h rs).size - 1 = (tx h rs rs.length ++ emT h.v (h.b + (rs.length : Int))).size + ((tail h rs).size - 1) by omega]
    exact app_ext _ _ _
  rw [e]
  obtain ⟨h1, h2, _, _⟩ := scan_tx hk ((tail h rs).extract 0 ((tail h rs).size - 1))
  exact ⟨h1, h2⟩
def isS (b : ByteArray) : Bool := (rdH b).isSome && (marked b && decide (slT (hdOf b) (recs b) = b))
theorem isS_is {b : ByteArray} : isS b = true ↔ ∃ h, rdH b = some h ∧ marked b = true ∧ slT h (recs b) = b := by
  unfold isS
  cases e : rdH b with
  | none => simp
  | some h => rw [hdOf_some e]; simp
/-- whatever bytes are taken as one are those that they make -/
theorem isS_self {b : ByteArray} (h : isS b = true) : slT (hdOf b) (recs b) = b := by
  obtain ⟨g, h1, _, h3⟩ := isS_is.1 h
  rw [hdOf_some h1]
  exact h3
theorem isS_slT {h : Hd} {rs : List ByteArray} (hk : okS h rs) : isS (slT h rs) = true := by
  obtain ⟨h1, h2, h3⟩ := scan_self hk
  exact isS_is.2 ⟨h, h1, h3, by rw [h2]⟩
theorem isS_more {h : Hd} {rs : List ByteArray} (hk : okS h rs) {z : ByteArray} (hz : z ≠ nul) : isS (slT h rs ++ z) = false := by
  cases e : isS (slT h rs ++ z) with
  | false => rfl
  | true =>
    obtain ⟨h1, h2, _⟩ := scan_slT hk z
    have := isS_self e
    rw [hdOf_some h1, h2] at this
    have h5 := congrArg ByteArray.size this
    rw [ByteArray.size_append] at h5
    exact absurd (ByteArray.size_eq_zero_iff.1 (show z.size = 0 by omega)) hz
theorem isS_less {h : Hd} {rs : List ByteArray} (hk : okS h rs) : isS ((slT h rs).extract 0 ((slT h rs).size - 1)) = false := by
  cases e : isS ((slT h rs).extract 0 ((slT h rs).size - 1)) with
  | false => rfl
  | true =>
    obtain ⟨h1, h2⟩ := scan_less hk
    have := isS_self e
    rw [hdOf_some h1, h2] at this
    have h5 := congrArg ByteArray.size this
    rw [ByteArray.size_extract] at h5
    have := (slT_size hk).1
    omega
theorem isS_nul : isS nul = false := by
  unfold isS
  rw [rdH_short (by decide)]
  rfl
/-- one form alone: of another text other things are told -/
theorem isS_one {b : ByteArray} {h : Hd} {rs : List ByteArray} (hb : isS b = true) (hn : b ≠ slT h rs) : ¬ (hdOf b = h ∧ recs b = rs) := fun e => hn (by rw [← e.1, ← e.2]; exact (isS_self hb).symm)

/-! ### sealed anew -/
def anew (h : Hd) (v : Int) : Hd := if 0 < v then { h with v := v } else h
def rsT (b : ByteArray) (v : Int) : ByteArray := if (rdH b).isSome = true ∧ 0 ≤ v ∧ v ≤ 2 then slT (anew (hdOf b) v) (recs b) else nul
theorem rsT_no {b : ByteArray} {v : Int} (h : ¬ ((rdH b).isSome = true ∧ 0 ≤ v ∧ v ≤ 2)) : rsT b v = nul := if_neg h
theorem rsT_yes {b : ByteArray} {v : Int} {h : Hd} (h1 : rdH b = some h) (h2 : 0 ≤ v) (h3 : v ≤ 2) : rsT b v = slT (anew h v) (recs b) := by
  unfold rsT
  rw [if_pos ⟨by rw [h1]; rfl, h2, h3⟩, hdOf_some h1]
theorem anew_ok {h : Hd} {v : Int} {rs : List ByteArray} (hk : okS h rs) (h0 : 0 ≤ v) (h2 : v ≤ 2) : okS (anew h v) rs := by
  unfold anew
  split
  · obtain ⟨k1, k2, k3, k4⟩ := hk
    have := okH_is.1 k1
    exact ⟨okH_is.2 ⟨by show 1 ≤ v; omega, by show v ≤ 2; omega, this.2.2.1, this.2.2.2.1, this.2.2.2.2⟩, k2, k3, k4⟩
  · exact hk
theorem anew_zero (h : Hd) : anew h 0 = h := if_neg (by decide)
theorem anew_twice (h : Hd) {v : Int} (u : Int) (hv : 0 < v) : anew (anew h u) v = anew h v := by
  unfold anew
  rw [if_pos hv, if_pos hv]
  split <;> rfl
/-- what is sealed anew: all that FnResealed asks -/
theorem rsT_full {b : ByteArray} {v : Int} (hne : rsT b v ≠ nul) : isS (rsT b v) = true ∧ recs (rsT b v) = recs b ∧ rsT (rsT b v) 0 = rsT b v ∧ rsT (rsT (rsT b v) 1) 2 = rsT (rsT b v) 2 ∧ (isS b = true → ¬ 0 < v → rsT b v = b) := by
  by_cases hc : (rdH b).isSome = true ∧ 0 ≤ v ∧ v ≤ 2
  · obtain ⟨c1, c2, c3⟩ := hc
    cases e : rdH b with
    | none => rw [e] at c1; cases c1
    | some h =>
      have E := rsT_yes e c2 c3
      rw [E] at hne ⊢
      have hk : okS (anew h v) (recs b) := by
        by_cases hk : okS (anew h v) (recs b)
        · exact hk
        · exact absurd (slT_no hk) hne
      obtain ⟨s1, s2, s3⟩ := scan_self hk
      have R : ∀ u, 0 ≤ u → u ≤ 2 → rsT (slT (anew h v) (recs b)) u = slT (anew (anew h v) u) (recs b) := fun u h1 h2 => by rw [rsT_yes s1 h1 h2, s2]
      have hk1 := anew_ok hk (v := 1) (by decide) (by decide)
      obtain ⟨t1, t2, t3⟩ := scan_self hk1
      refine ⟨isS_slT hk, s2, ?_, ?_, fun hs hv => ?_⟩
      · rw [R 0 (by decide) (by decide), anew_zero]
      · rw [R 1 (by decide) (by decide), R 2 (by decide) (by decide), rsT_yes t1 (by decide) (by decide), t2, anew_twice (anew h v) (v := 2) 1 (by decide)]
      · have := isS_self hs
        rw [hdOf_some e] at this
        rw [show anew h v = h from if_neg hv]
        exact this
  · exact absurd (rsT_no hc) hne

end Go.Proofs.Ytideejpopneplaa.sl
