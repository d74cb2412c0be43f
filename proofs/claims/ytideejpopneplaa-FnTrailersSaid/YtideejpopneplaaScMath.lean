/-
  Plain facts on scanning a file: what is told of it, step by step, and that all bytes up to there come back from what is told.
-/
import Derived.Test.YtideejpopneplaaMathX
namespace Go.Proofs.Ytideejpopneplaa.sc
set_option maxRecDepth 20000
open Go
open sum num burst hd fr

/-- what is read after k records, at pos -/
def step (h : Hd) (b : ByteArray) (k pos : Nat) : Option (ByteArray × Nat) :=
  if mkAt h.v (h.b + (k : Int)) b (pos : Int) = true then none else rdF h.v (h.b + (k : Int)) b (pos : Int)
theorem step_mark {h : Hd} {b : ByteArray} {k pos : Nat} (hm : mkAt h.v (h.b + (k : Int)) b (pos : Int) = true) : step h b k pos = none := if_pos hm
theorem step_read {h : Hd} {b : ByteArray} {k pos : Nat} (hm : mkAt h.v (h.b + (k : Int)) b (pos : Int) = false) : step h b k pos = rdF h.v (h.b + (k : Int)) b (pos : Int) := if_neg (by rw [hm]; decide)
theorem step_some {h : Hd} {b r : ByteArray} {k pos q : Nat} (e : step h b k pos = some (r, q)) : rdF h.v (h.b + (k : Int)) b (pos : Int) = some (r, q) := by
  cases hm : mkAt h.v (h.b + (k : Int)) b (pos : Int) with
  | true => rw [step_mark hm] at e; cases e
  | false => rw [step_read hm] at e; exact e
/-- the records from there on, each with where it begins, and where the last one ends -/
def goOn (h : Hd) (b : ByteArray) : Nat → Nat → Nat → List (ByteArray × Nat) × Nat
  | 0, _, pos => ([], pos)
  | f + 1, k, pos =>
    match step h b k pos with
    | none => ([], pos)
    | some x => ((x.1, pos) :: (goOn h b f (k + 1) x.2).1, (goOn h b f (k + 1) x.2).2)
theorem goOn_none {h : Hd} {b : ByteArray} {f k pos : Nat} (e : step h b k pos = none) : goOn h b f k pos = ([], pos) := by
  cases f with
  | zero => rfl
  | succ f => show (match step h b k pos with | none => _ | some x => _) = _; rw [e]
theorem goOn_some {h : Hd} {b r : ByteArray} {f k pos q : Nat} (e : step h b k pos = some (r, q)) : goOn h b (f + 1) k pos = ((r, pos) :: (goOn h b f (k + 1) q).1, (goOn h b f (k + 1) q).2) := by
  show (match step h b k pos with | none => _ | some x => _) = _
  rw [e]
def scan (h : Hd) (b : ByteArray) : List (ByteArray × Nat) × Nat := goOn h b (b.size + 1) 0 24
/-- a text, and the frames of records behind it, the first of place base + k -/
def txF (h : Hd) : Nat → List ByteArray → ByteArray → ByteArray
  | _, [], t => t
  | k, r :: rs, t => txF h (k + 1) rs (t ++ frT h.v (h.b + (k : Int)) r)
theorem txF_snoc (h : Hd) (rs : List ByteArray) (r : ByteArray) : ∀ (k : Nat) (t : ByteArray), txF h k (rs ++ [r]) t = txF h k rs t ++ frT h.v (h.b + ((k + rs.length : Nat) : Int)) r := by
  induction rs with
  | nil => intro k t; rfl
  | cons x xs ih =>
    intro k t
    show txF h (k + 1) (xs ++ [r]) _ = txF h (k + 1) xs _ ++ _
    rw [ih, List.length_cons, show k + 1 + xs.length = k + (xs.length + 1) by omega]
/-- the head and the first n frames -/
def tx (h : Hd) (rs : List ByteArray) (n : Nat) : ByteArray := txF h 0 (rs.take n) (hdT h)
theorem tx_zero (h : Hd) (rs : List ByteArray) : tx h rs 0 = hdT h := rfl
theorem tx_next {h : Hd} {rs : List ByteArray} {n : Nat} {r : ByteArray} (e : rs[n]? = some r) : tx h rs (n + 1) = tx h rs n ++ frT h.v (h.b + (n : Int)) r := by
  have hl : n < rs.length := (List.getElem?_eq_some_iff.1 e).1
  unfold tx
  rw [List.take_add_one, e, Option.toList_some, txF_snoc, List.length_take, Nat.min_eq_left (by omega), Nat.zero_add]

/-- as far as it was scanned -/
structure Inv (h : Hd) (b : ByteArray) (xs : List (ByteArray × Nat)) (pos : Nat) : Prop where
  all : scan h b = (xs ++ (goOn h b (b.size + 1 - xs.length) xs.length pos).1, (goOn h b (b.size + 1 - xs.length) xs.length pos).2)
  lo : 24 + 5 * xs.length ≤ pos
  hi : pos ≤ b.size
  ok : okH h = true
  text : b.extract 0 pos = txF h 0 (xs.map Prod.fst) (hdT h)
  off : ∀ (i : Nat) (x : ByteArray × Nat), xs[i]? = some x → x.2 = (txF h 0 ((xs.map Prod.fst).take i) (hdT h)).size
  small : ∀ x ∈ xs, x.1.size ≤ 60
  bound : ∀ x ∈ xs, x.2 ≤ pos

theorem Inv.start {h : Hd} {b : ByteArray} (e : rdH b = some h) : Inv h b [] 24 := by
  obtain ⟨h1, h2, h3⟩ := rdH_some e
  exact ⟨rfl, by simp, by omega, h2, h3.symm, fun i x hx => by simp at hx, fun x hx => (by cases hx), fun x hx => by cases hx⟩
theorem Inv.count {h : Hd} {b : ByteArray} {xs : List (ByteArray × Nat)} {pos : Nat} (hI : Inv h b xs pos) : xs.length ≤ b.size := by
  have := hI.lo
  have := hI.hi
  omega
theorem ext_join (b : ByteArray) {i j : Nat} (h : i ≤ j) : b.extract 0 i ++ b.extract i j = b.extract 0 j := by
  apply ByteArray.ext
  rw [ByteArray.data_append, ByteArray.data_extract, ByteArray.data_extract, ByteArray.data_extract, Array.extract_append_extract]
  congr 1 <;> omega
theorem step_facts {h : Hd} {b r : ByteArray} {k pos q : Nat} (e : step h b k pos = some (r, q)) : r.size ≤ 60 ∧ q = pos + (frT h.v (h.b + (k : Int)) r).size ∧ pos + 5 ≤ q ∧ q ≤ b.size ∧ b.extract pos q = frT h.v (h.b + (k : Int)) r ∧ okV h.v (h.b + (k : Int)) = true := by
  obtain ⟨hv, _, _, hr, hq, hqb, hx⟩ := rdF_some (step_some e)
  rw [Int.toNat_natCast] at hq hx
  have hs := frT_size hv hr
  refine ⟨hr, hq, ?_, hqb, hx, hv⟩
  rw [hq, hs]
  split <;> omega
theorem Inv.next {h : Hd} {b r : ByteArray} {xs : List (ByteArray × Nat)} {pos q : Nat} (hI : Inv h b xs pos) (e : step h b xs.length pos = some (r, q)) : Inv h b (xs ++ [(r, pos)]) q := by
  obtain ⟨hr, hq, h5, hqb, hx, _⟩ := step_facts e
  have hc := hI.count
  have hlo := hI.lo
  have hl : (xs ++ [(r, pos)]).length = xs.length + 1 := by simp
  have hm : (xs ++ [(r, pos)]).map Prod.fst = xs.map Prod.fst ++ [r] := by simp
  have ht : b.extract 0 q = txF h 0 (xs.map Prod.fst ++ [r]) (hdT h) := by
    rw [txF_snoc, List.length_map, Nat.zero_add, ← hI.text, ← hx, ext_join b (by omega)]
  refine ⟨?_, by rw [hl]; omega, hqb, hI.ok, by rw [hm]; exact ht, fun i x hi => ?_, fun x hx => ?_, fun x hx => ?_⟩
  · rw [hI.all, show b.size + 1 - xs.length = (b.size + 1 - (xs ++ [(r, pos)]).length) + 1 by rw [hl]; omega, goOn_some e, hl]
    simp
  · rw [hm]
    by_cases hlt : i < xs.length
    · rw [List.getElem?_append_left hlt] at hi
      rw [List.take_append_of_le_length (by rw [List.length_map]; omega)]
      exact hI.off i x hi
    · have hi2 : i < (xs ++ [(r, pos)]).length := (List.getElem?_eq_some_iff.1 hi).1
      obtain rfl : i = xs.length := by rw [hl] at hi2; omega
      rw [List.getElem?_append_right (Nat.le_refl _), Nat.sub_self] at hi
      simp only [List.getElem?_cons_zero, Option.some.injEq] at hi
      subst hi
      rw [List.take_append_of_le_length (by rw [List.length_map]; omega), List.take_of_length_le (by rw [List.length_map]; omega), ← hI.text, ByteArray.size_extract]
      show pos = _
      have := hI.hi
      omega
  · rcases List.mem_append.1 hx with hx | hx
    · exact hI.small x hx
    · obtain rfl : x = (r, pos) := by simpa using hx
      exact hr
  · rcases List.mem_append.1 hx with hx | hx
    · have := hI.bound x hx
      omega
    · obtain rfl : x = (r, pos) := by simpa using hx
      show pos ≤ q
      omega
theorem Inv.done {h : Hd} {b : ByteArray} {xs : List (ByteArray × Nat)} {pos : Nat} (hI : Inv h b xs pos) (e : step h b xs.length pos = none) : scan h b = (xs, pos) := by
  rw [hI.all, goOn_none e]
  simp
theorem Inv.fin {h : Hd} {b : ByteArray} : ∀ (f : Nat) (xs : List (ByteArray × Nat)) (pos : Nat), Inv h b xs pos → b.size + 1 - xs.length ≤ f → Inv h b (scan h b).1 (scan h b).2 ∧ step h b (scan h b).1.length (scan h b).2 = none := by
  intro f
  induction f with
  | zero => intro xs pos hI hf; have := hI.count; omega
  | succ f ih =>
    intro xs pos hI hf
    cases e : step h b xs.length pos with
    | none =>
      rw [hI.done e]
      exact ⟨hI, e⟩
    | some x =>
      obtain ⟨r, q⟩ := x
      exact ih _ _ (hI.next e) (by rw [List.length_append, List.length_cons, List.length_nil]; omega)
theorem scan_inv {h : Hd} {b : ByteArray} (e : rdH b = some h) : Inv h b (scan h b).1 (scan h b).2 ∧ step h b (scan h b).1.length (scan h b).2 = none :=
  Inv.fin _ [] 24 (Inv.start e) (Nat.le_refl _)

/-! ### what is answered -/
def recs (b : ByteArray) : List ByteArray := match rdH b with | none => [] | some h => (scan h b).1.map Prod.fst
def offs (b : ByteArray) : List Nat := match rdH b with | none => [] | some h => (scan h b).1.map Prod.snd
def endN (b : ByteArray) : Nat := match rdH b with | none => 0 | some h => (scan h b).2
def marked (b : ByteArray) : Bool := match rdH b with | none => false | some h => mkAt h.v (h.b + ((scan h b).1.length : Int)) b ((scan h b).2 : Int)
theorem recs_none {b : ByteArray} (e : rdH b = none) : recs b = [] := by unfold recs; rw [e]
theorem recs_some {b : ByteArray} {h : Hd} (e : rdH b = some h) : recs b = (scan h b).1.map Prod.fst := by unfold recs; rw [e]
theorem offs_none {b : ByteArray} (e : rdH b = none) : offs b = [] := by unfold offs; rw [e]
theorem offs_some {b : ByteArray} {h : Hd} (e : rdH b = some h) : offs b = (scan h b).1.map Prod.snd := by unfold offs; rw [e]
theorem endN_none {b : ByteArray} (e : rdH b = none) : endN b = 0 := by unfold endN; rw [e]
theorem endN_some {b : ByteArray} {h : Hd} (e : rdH b = some h) : endN b = (scan h b).2 := by unfold endN; rw [e]
theorem marked_none {b : ByteArray} (e : rdH b = none) : marked b = false := by unfold marked; rw [e]
theorem marked_some {b : ByteArray} {h : Hd} (e : rdH b = some h) : marked b = mkAt h.v (h.b + ((scan h b).1.length : Int)) b ((scan h b).2 : Int) := by unfold marked; rw [e]
theorem endN_le (b : ByteArray) : endN b ≤ b.size := by
  cases e : rdH b with
  | none => rw [endN_none e]; omega
  | some h => rw [endN_some e]; exact (scan_inv e).1.hi
theorem recs_le (b : ByteArray) : (recs b).length ≤ b.size := by
  cases e : rdH b with
  | none => rw [recs_none e]; exact Nat.zero_le _
  | some h => rw [recs_some e, List.length_map]; exact (scan_inv e).1.count
theorem recs_small (b : ByteArray) : ∀ r ∈ recs b, r.size ≤ 60 := by
  intro r hr
  cases e : rdH b with
  | none => rw [recs_none e] at hr; cases hr
  | some h =>
    rw [recs_some e] at hr
    obtain ⟨x, hx, rfl⟩ := List.mem_map.1 hr
    exact (scan_inv e).1.small x hx
theorem offs_length (b : ByteArray) : (offs b).length = (recs b).length := by
  cases e : rdH b with
  | none => rw [offs_none e, recs_none e]; rfl
  | some h => rw [offs_some e, recs_some e, List.length_map, List.length_map]
/-- each record begins where the text of what is ahead ends -/
theorem offs_at {b : ByteArray} {h : Hd} {i o : Nat} (e : rdH b = some h) (ho : (offs b)[i]? = some o) : o = (tx h (recs b) i).size := by
  rw [offs_some e, List.getElem?_map] at ho
  obtain ⟨x, hx, rfl⟩ := Option.map_eq_some_iff.1 ho
  rw [recs_some e]
  exact (scan_inv e).1.off i x hx
theorem end_text {b : ByteArray} {h : Hd} (e : rdH b = some h) : b.extract 0 (endN b) = tx h (recs b) (recs b).length ∧ endN b = (tx h (recs b) (recs b).length).size := by
  have hI := (scan_inv e).1
  have ht : b.extract 0 (endN b) = tx h (recs b) (recs b).length := by
    unfold tx
    rw [List.take_of_length_le (Nat.le_refl _), endN_some e, recs_some e]
    exact hI.text
  refine ⟨ht, ?_⟩
  rw [← ht, ByteArray.size_extract]
  have := endN_le b
  omega
theorem tx_le {b : ByteArray} {h : Hd} (e : rdH b = some h) (i : Nat) (hi : i ≤ (recs b).length) : (tx h (recs b) i).size ≤ b.size := by
  by_cases hlt : i < (recs b).length
  · have hl := offs_length b
    obtain ⟨o, ho⟩ : ∃ o, (offs b)[i]? = some o := ⟨_, List.getElem?_eq_getElem (by omega)⟩
    have h1 := offs_at e ho
    have h2 : o ≤ b.size := by
      rw [offs_some e, List.getElem?_map] at ho
      obtain ⟨x, hx, rfl⟩ := Option.map_eq_some_iff.1 ho
      have hI := (scan_inv e).1
      exact Nat.le_trans (hI.bound x (List.mem_of_getElem? hx)) hI.hi
    omega
  · obtain rfl : i = (recs b).length := by omega
    have := (end_text e).2
    have := endN_le b
    omega

def hdOf (b : ByteArray) : Hd := match rdH b with | none => ⟨0, 0, 0, 0⟩ | some h => h
theorem hdOf_none {b : ByteArray} (e : rdH b = none) : hdOf b = ⟨0, 0, 0, 0⟩ := by unfold hdOf; rw [e]
theorem hdOf_some {b : ByteArray} {h : Hd} (e : rdH b = some h) : hdOf b = h := by unfold hdOf; rw [e]

end Go.Proofs.Ytideejpopneplaa.sc
