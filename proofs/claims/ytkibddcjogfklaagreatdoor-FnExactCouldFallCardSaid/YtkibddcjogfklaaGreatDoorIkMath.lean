/-
  What is right of a disk, told by steps over a list in order: plain facts. (The landed program keeps names in a map and looks at what stands behind each step.)
-/
import Derived.Test.YtkibddcjogfklaaGreatDoorDpMath
import Derived.Sort.Walk0
import Derived.Lib.OwnBridge
import Derived.Lib.IndexMore
namespace Go.Proofs.YtkibddcjogfklaaGreatDoor.ik
open Go
open kit strs recs disk deed

/-! ### names in order -/
theorem less_is (x y : ByteArray) : lessB x y = decide (x.data.toList < y.data.toList) := by
  unfold lessB
  rw [Go.Proofs.bytesLess_eq, Lib.toList_data, Lib.toList_data]
theorem key_inj {x y : ByteArray} (h : x.data.toList = y.data.toList) : x = y := by
  apply ByteArray.ext
  exact Array.toList_inj.1 h
theorem less_irr (x : ByteArray) : ¬ lessB x x = true := by rw [less_is]; simp [List.lt_irrefl]
theorem less_tr {x y z : ByteArray} (h1 : lessB x y = true) (h2 : lessB y z = true) : lessB x z = true := by
  rw [less_is, decide_eq_true_eq] at *
  exact List.lt_trans h1 h2
theorem less_or {x y : ByteArray} (h : ¬ lessB x y = true) : x = y ∨ lessB y x = true := by
  rw [less_is, decide_eq_true_eq] at *
  by_cases h2 : y.data.toList < x.data.toList
  · exact .inr h2
  · exact .inl (key_inj (List.le_antisymm (List.not_lt.1 h2) (List.not_lt.1 h)))
theorem less_ne {x y : ByteArray} (h : lessB x y = true) : ¬ x = y := fun e => less_irr _ (by rw [e] at h; exact h)
theorem less_no {x y : ByteArray} (h : lessB x y = true) : ¬ lessB y x = true := fun e => less_irr _ (less_tr h e)

def Srt (l : List Ent) : Prop := l.Pairwise fun x y => lessB x.1 y.1 = true
/-- entries in order, with one more, or another one of its name -/
def insE (e : Ent) : List Ent → List Ent
  | [] => [e]
  | x :: r => if lessB x.1 e.1 = true then x :: insE e r else if x.1 = e.1 then e :: r else e :: x :: r

theorem filter_all {e : Ent} {r : List Ent} (h : ∀ x ∈ r, ¬ x.1 = e.1) : r.filter (fun x => !decide (x.1 = e.1)) = r :=
  List.filter_eq_self.2 fun x hx => by simp [h x hx]
theorem fold_done (e : Ent) : ∀ (xs acc : List Ent), xs.foldl (putStep e) (acc, true) = (acc ++ xs.filter (fun x => !decide (x.1 = e.1)), true)
  | [], acc => by simp
  | x :: r, acc => by
    rw [List.foldl_cons]
    have hs : putStep e (acc, true) x = if x.1 = e.1 then (acc, true) else (acc ++ [x], true) := by
      unfold putStep
      rw [if_neg (by simp)]
    rw [hs, List.filter_cons]
    by_cases hx : x.1 = e.1
    · rw [if_pos hx, fold_done e r acc, if_neg (by simp [hx])]
    · rw [if_neg hx, fold_done e r (acc ++ [x]), if_pos (by simp [hx]), List.append_assoc]
      rfl
def endP (e : Ent) (r : List Ent × Bool) : List Ent := if r.2 then r.1 else r.1 ++ [e]
theorem fold_ins (e : Ent) : ∀ (xs acc : List Ent), Srt xs → endP e (xs.foldl (putStep e) (acc, false)) = acc ++ insE e xs
  | [], acc, _ => by simp [endP, insE]
  | x :: r, acc, h => by
    have h' := List.pairwise_cons.1 h
    rw [List.foldl_cons]
    by_cases hl : lessB x.1 e.1 = true
    · have hs : putStep e (acc, false) x = (acc ++ [x], false) := by
        unfold putStep
        rw [if_neg (by simp [hl]), if_neg (less_ne hl)]
      rw [hs, fold_ins e r (acc ++ [x]) h'.2, insE, if_pos hl, List.append_assoc]
      rfl
    · have hl' : lessB x.1 e.1 = false := by simpa using hl
      by_cases hx : x.1 = e.1
      · have hs : putStep e (acc, false) x = (acc ++ [e], true) := by
          unfold putStep
          rw [if_pos ⟨rfl, hl'⟩, if_pos hx]
        have hf : ∀ y ∈ r, ¬ y.1 = e.1 := fun y hy e2 => less_ne (h'.1 y hy) (by rw [hx, e2])
        rw [hs, fold_done, filter_all hf, insE, if_neg hl, if_pos hx, endP, if_pos rfl, List.append_assoc]
        rfl
      · have hs : putStep e (acc, false) x = (acc ++ [e] ++ [x], true) := by
          unfold putStep
          rw [if_pos ⟨rfl, hl'⟩, if_neg hx]
        have hgt := (less_or hl).resolve_left hx
        have hf : ∀ y ∈ r, ¬ y.1 = e.1 := fun y hy e2 => less_ne (less_tr hgt (h'.1 y hy)) e2.symm
        rw [hs, fold_done, filter_all hf, insE, if_neg hl, if_neg hx, endP, if_pos rfl, List.append_assoc, List.append_assoc]
        rfl
theorem putE_ins {xs : List Ent} (e : Ent) (h : Srt xs) : putE xs e = insE e xs := by
  have := fold_ins e xs [] h
  rw [List.nil_append] at this
  exact this
theorem ins_mem {e y : Ent} : ∀ {xs : List Ent}, y ∈ insE e xs → y = e ∨ y ∈ xs
  | [], h => .inl (by simpa [insE] using h)
  | x :: r, h => by
    unfold insE at h
    split at h
    · rcases List.mem_cons.1 h with rfl | h
      · exact .inr (List.mem_cons_self ..)
      · exact (ins_mem h).imp id (List.mem_cons_of_mem _)
    · split at h
      · exact (List.mem_cons.1 h).imp id (List.mem_cons_of_mem _)
      · exact (List.mem_cons.1 h).imp id id
theorem ins_srt {e : Ent} : ∀ {xs : List Ent}, Srt xs → Srt (insE e xs)
  | [], _ => by simp [insE, Srt]
  | x :: r, h => by
    have h' := List.pairwise_cons.1 h
    unfold insE
    by_cases hl : lessB x.1 e.1 = true
    · rw [if_pos hl]
      refine List.pairwise_cons.2 ⟨fun y hy => ?_, ins_srt h'.2⟩
      rcases ins_mem hy with rfl | hy
      · exact hl
      · exact h'.1 y hy
    · rw [if_neg hl]
      by_cases hx : x.1 = e.1
      · rw [if_pos hx]
        exact List.pairwise_cons.2 ⟨fun y hy => by rw [← hx]; exact h'.1 y hy, h'.2⟩
      · rw [if_neg hx]
        have hgt := (less_or hl).resolve_left hx
        refine List.pairwise_cons.2 ⟨fun y hy => ?_, h⟩
        rcases List.mem_cons.1 hy with rfl | hy
        · exact hgt
        · exact less_tr hgt (h'.1 y hy)
theorem ins_at (e : Ent) (s : ByteArray) : ∀ (xs : List Ent), entAt (insE e xs) s = if e.1 = s then some e.2 else entAt xs s
  | [] => by simp [insE, entAt]
  | x :: r => by
    unfold insE
    by_cases hl : lessB x.1 e.1 = true
    · rw [if_pos hl, entAt, ins_at e s r]
      by_cases hs : x.1 = s
      · rw [if_pos hs, if_neg (by rw [← hs]; exact fun e2 => less_ne hl e2.symm), entAt, if_pos hs]
      · rw [if_neg hs, entAt, if_neg hs]
    · rw [if_neg hl]
      by_cases hx : x.1 = e.1
      · rw [if_pos hx, entAt, entAt, hx]
        by_cases hs : e.1 = s
        · rw [if_pos hs]; exact (if_pos hs).symm
        · rw [if_neg hs, if_neg hs]; exact (if_neg hs).symm
      · rw [if_neg hx, entAt]
theorem drop_srt {xs : List Ent} (s : ByteArray) (h : Srt xs) : Srt (dropE xs s) := h.sublist List.filter_sublist
theorem drop_at (t s : ByteArray) : ∀ (xs : List Ent), entAt (dropE xs t) s = if t = s then none else entAt xs s
  | [] => by simp [dropE, entAt]
  | x :: r => by
    have ih := drop_at t s r
    unfold dropE at ih ⊢
    rw [List.filter_cons]
    by_cases hx : x.1 = t
    · rw [if_neg (by simp [hx]), ih, entAt, hx]
      by_cases hs : t = s
      · rw [if_pos hs, if_pos hs]
      · rw [if_neg hs, if_neg hs, if_neg hs]
    · rw [if_pos (by simp [hx]), entAt, ih, entAt]
      by_cases hs : x.1 = s
      · rw [if_pos hs, if_pos hs, if_neg (by rw [← hs]; exact fun e => hx e.symm)]
      · rw [if_neg hs, if_neg hs]
theorem at_mem {xs : List Ent} {s : ByteArray} {i : Int} (h : entAt xs s = some i) : (s, i) ∈ xs := by
  induction xs with
  | nil => cases h
  | cons x r ih =>
    unfold entAt at h
    split at h
    · rename_i e
      cases h
      rw [← e]
      exact List.mem_cons_self ..
    · exact List.mem_cons_of_mem _ (ih h)
theorem mem_at {xs : List Ent} (h : Srt xs) {e : Ent} (hm : e ∈ xs) : entAt xs e.1 = some e.2 := by
  induction xs with
  | nil => cases hm
  | cons x r ih =>
    have h' := List.pairwise_cons.1 h
    unfold entAt
    rcases List.mem_cons.1 hm with rfl | hm
    · rw [if_pos rfl]
    · rw [if_neg (less_ne (h'.1 e hm))]
      exact ih h'.2 hm
/-- all names are right ones -/
def Nok (l : List Ent) : Prop := ∀ e ∈ l, nam.nok e.1 = true
theorem nok_at {xs : List Ent} (h : Nok xs) {s : ByteArray} (hs : nam.nok s = false) : entAt xs s = none := by
  cases he : entAt xs s with
  | none => rfl
  | some i => have := h _ (at_mem he); rw [hs] at this; cases this

/-! ### what the names stand for -/
def good (d : D) (l : List Ent) : Bool := decide (l.length ≤ 16) && l.all fun e => (nodeIx d.nodes e.2).isSome
theorem from_srt {d : D} : ∀ {l : List Ent} {p : Option ByteArray}, entsFrom d p l = true → Srt l ∧ Nok l ∧ (∀ q, p = some q → ∀ e ∈ l, lessB q e.1 = true)
  | [], p, _ => ⟨List.Pairwise.nil, (fun e he => by cases he), (fun q _ e he => by cases he)⟩
  | x :: r, p, h => by
    unfold entsFrom at h
    rw [Bool.and_eq_true, Bool.and_eq_true, Bool.and_eq_true] at h
    obtain ⟨⟨⟨h1, h2⟩, h3⟩, h4⟩ := h
    obtain ⟨a1, a2, a3⟩ := from_srt h4
    refine ⟨List.pairwise_cons.2 ⟨a3 _ rfl, a1⟩, fun e he => ?_, fun q hq e he => ?_⟩
    · rcases List.mem_cons.1 he with rfl | he
      · exact h1
      · exact a2 e he
    · subst hq
      rcases List.mem_cons.1 he with rfl | he
      · exact h3
      · exact less_tr h3 (a3 _ rfl e he)
theorem from_is {d : D} : ∀ {l : List Ent} {p : Option ByteArray}, Srt l → Nok l → (∀ q, p = some q → ∀ e ∈ l, lessB q e.1 = true) → entsFrom d p l = l.all fun e => (nodeIx d.nodes e.2).isSome
  | [], p, _, _, _ => rfl
  | x :: r, p, h, hn, hp => by
    have h' := List.pairwise_cons.1 h
    unfold entsFrom
    rw [from_is h'.2 (fun e he => hn e (List.mem_cons_of_mem _ he)) (fun q hq e he => by cases hq; exact h'.1 e he), hn x (List.mem_cons_self ..), List.all_cons]
    cases p with
    | none => simp
    | some q => simp [hp q rfl x (List.mem_cons_self ..)]
theorem ents_is {d : D} {l : List Ent} (h : Srt l) (hn : Nok l) : entsOk d l = good d l := by
  unfold entsOk good
  rw [from_is h hn (fun q hq => by cases hq), Bool.and_comm]
theorem ents_srt {d : D} {l : List Ent} (h : entsOk d l = true) : Srt l ∧ Nok l := by
  unfold entsOk at h
  rw [Bool.and_eq_true] at h
  exact ⟨(from_srt h.1).1, (from_srt h.1).2.1⟩
/-- names from one on -/
def namesFrom : ByteArray → List Ent → Bool
  | _, [] => true
  | p, e :: r => lessB p e.1 && nam.nok e.1 && namesFrom e.1 r
theorem names_srt : ∀ {l : List Ent} {p : ByteArray}, namesFrom p l = true ↔ Srt l ∧ Nok l ∧ ∀ e ∈ l, lessB p e.1 = true
  | [], p => ⟨fun _ => ⟨List.Pairwise.nil, (fun e he => by cases he), (fun e he => by cases he)⟩, fun _ => rfl⟩
  | x :: r, p => by
    unfold namesFrom
    rw [Bool.and_eq_true, Bool.and_eq_true, names_srt (l := r)]
    constructor
    · rintro ⟨⟨h1, h2⟩, h3, h4, h5⟩
      refine ⟨List.pairwise_cons.2 ⟨h5, h3⟩, fun e he => ?_, fun e he => ?_⟩
      · rcases List.mem_cons.1 he with rfl | he
        · exact h2
        · exact h4 e he
      · rcases List.mem_cons.1 he with rfl | he
        · exact h1
        · exact less_tr h1 (h5 e he)
    · rintro ⟨h1, h2, h3⟩
      have h' := List.pairwise_cons.1 h1
      exact ⟨⟨h3 x (List.mem_cons_self ..), h2 x (List.mem_cons_self ..)⟩, h'.2, fun e he => h2 e (List.mem_cons_of_mem _ he), h'.1⟩
theorem less_empty {t : ByteArray} (h : ¬ t.size = 0) : lessB { data := #[] } t = true := by
  rw [less_is, decide_eq_true_eq]
  cases e : t.data.toList with
  | nil => exact absurd (by have := congrArg List.length e; rw [Array.length_toList] at this; exact this) h
  | cons a r => exact List.nil_lt_cons a r

/-! ### step by step -/
def okFrom (d : D) : List Ent → List ByteArray → Bool
  | l, [] => entsOk d l && decide (l = d.ents)
  | l, s :: r => entsOk d l && (match doStep l s with | none => false | some l' => okFrom d l' r)
def atK (d : D) (l : List Ent) (st : List ByteArray) (k : Nat) : Bool := match stepsTo l (st.take k) with | none => false | some m => entsOk d m && (decide (k ≠ st.length) || decide (m = d.ents))
theorem all_succ (f : Nat → Bool) (n : Nat) : (List.range (n + 1)).all f = (f 0 && (List.range n).all fun k => f (k + 1)) := by
  rw [List.range_succ_eq_map, List.all_cons, List.all_map]
  rfl
theorem okFrom_is (d : D) : ∀ (st : List ByteArray) (l : List Ent), (List.range (st.length + 1)).all (atK d l st) = okFrom d l st
  | [], l => by simp [atK, okFrom, stepsTo]
  | s :: r, l => by
    rw [List.length_cons, all_succ]
    have h0 : atK d l (s :: r) 0 = entsOk d l := by simp [atK, stepsTo]
    rw [h0, okFrom]
    congr 1
    cases hs : doStep l s with
    | none =>
      rw [all_succ]
      have : atK d l (s :: r) (0 + 1) = false := by simp [atK, stepsTo, hs]
      rw [this]
      rfl
    | some l' =>
      show _ = okFrom d l' r
      rw [← okFrom_is d r l']
      congr 1
      funext k
      unfold atK
      rw [List.take_succ_cons, stepsTo, hs, List.length_cons]
      simp
theorem okHist_is (d : D) : okHist d = okFrom d d.old d.steps := by
  rw [← okFrom_is]
  rfl

/-- what the landed program reckons: steps over names in order -/
def runFrom (d : D) : List Ent → List ByteArray → Bool
  | l, [] => decide (l = d.ents)
  | l, s :: r => match doStep l s with | none => false | some l' => good d l' && runFrom d l' r
theorem said_to {s : ByteArray} (h : (saidOf s).ok = true) (h62 : byteAt s 0 = 62) : nam.nok (saidOf s).to = true := by
  unfold saidOf at h ⊢
  by_cases hsz : s.size < 2
  · rw [if_pos hsz] at h
    cases h
  · rw [if_neg hsz, if_neg (by omega), if_pos (Or.inr h62)] at h ⊢
    cases hc : colon s (s.size - 1) 1 with
    | none => rw [hc] at h; cases h
    | some i =>
      rw [hc] at h
      simp only [h62, if_true, Bool.and_eq_true] at h ⊢
      exact h.1
theorem doStep_keeps {l l' : List Ent} {s : ByteArray} (h : Srt l) (hn : Nok l) (hs : doStep l s = some l') : Srt l' ∧ Nok l' := by
  have hd : ∀ t, Nok (dropE l t) := fun t e he => hn e (List.mem_filter.1 he).1
  unfold doStep at hs
  split at hs
  · cases hs
  · rename_i h1
    have h1' : (saidOf s).ok = true ∧ nam.nok (saidOf s).name = true := by
      constructor
      · cases e : (saidOf s).ok with
        | true => rfl
        | false => exact absurd (Or.inl e) h1
      · cases e : nam.nok (saidOf s).name with
        | true => rfl
        | false => exact absurd (Or.inr e) h1
    split at hs
    · cases hs
      rw [putE_ins _ h]
      refine ⟨ins_srt h, fun e he => ?_⟩
      rcases ins_mem he with rfl | he
      · exact h1'.2
      · exact hn e he
    · rename_i h43
      split at hs
      · cases hs
      · split at hs
        · rename_i h62
          cases hs
          rw [putE_ins _ (drop_srt _ h)]
          refine ⟨ins_srt (drop_srt _ h), fun e he => ?_⟩
          rcases ins_mem he with rfl | he
          · exact said_to h1'.1 h62
          · exact hd _ e he
        · cases hs
          exact ⟨drop_srt _ h, hd _⟩
theorem run_is (d : D) : ∀ (st : List ByteArray) (l : List Ent), Srt l → Nok l → okFrom d l st = (good d l && runFrom d l st)
  | [], l, h, hn => by rw [okFrom, runFrom, ents_is h hn]
  | s :: r, l, h, hn => by
    rw [okFrom, runFrom, ents_is h hn]
    congr 1
    cases hs : doStep l s with
    | none => rfl
    | some l' =>
      obtain ⟨a, b⟩ := doStep_keeps h hn hs
      exact run_is d r l' a b
def implOk (d : D) : Bool := okHead d && nodesFrom d.next none d.nodes && namesFrom { data := #[] } d.old && (good d d.old && runFrom d d.old d.steps)

theorem nok_size {s : ByteArray} (h : nam.nok s = true) : ¬ s.size = 0 := by
  intro h0
  obtain rfl : s = { data := #[] } := by
    apply ByteArray.ext
    exact Array.eq_empty_of_size_eq_zero h0
  revert h
  decide
theorem okFrom_ents {d : D} {l : List Ent} {st : List ByteArray} (h : okFrom d l st = true) : entsOk d l = true := by
  cases st <;> (unfold okFrom at h; rw [Bool.and_eq_true] at h; exact h.1)
theorem implOk_is (d : D) : diskOk d = implOk d := by
  unfold diskOk implOk
  rw [okHist_is]
  cases hn : namesFrom { data := #[] } d.old with
  | true =>
    obtain ⟨h1, h2, _⟩ := names_srt.1 hn
    rw [run_is d d.steps d.old h1 h2, Bool.and_true]
  | false =>
    have : okFrom d d.old d.steps = false := by
      cases ho : okFrom d d.old d.steps with
      | false => rfl
      | true =>
        obtain ⟨h1, h2⟩ := ents_srt (okFrom_ents ho)
        rw [names_srt.2 ⟨h1, h2, fun e he => less_empty (nok_size (h2 e he))⟩] at hn
        cases hn
    rw [this]
    simp

end Go.Proofs.YtkibddcjogfklaaGreatDoor.ik
