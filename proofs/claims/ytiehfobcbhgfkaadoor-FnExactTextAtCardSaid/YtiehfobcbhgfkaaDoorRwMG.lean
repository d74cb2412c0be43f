/-
  Plain facts on rows of files: the text of a base, the chain, the row, what is loose, bases put in order.
-/
import Derived.Test.YtiehfobcbhgfkaaDoorDkX
import Derived.Test.YtiehfobcbhgfkaaDoorMathX
import Derived.Test.YtiehfobcbhgfkaaDoorScC
namespace Go.Proofs.YtiehfobcbhgfkaaDoor.row
set_option maxRecDepth 20000
open Go.RowKit
open kit sum num burst hd fr recs sc disk nam

theorem tot_mem {ts : List ByteArray} {t : ByteArray} (h : t ∈ ts) : t.size ≤ strs.tot ts := by
  induction ts with
  | nil => cases h
  | cons x xs ih =>
    show t.size ≤ strs.tot (x :: xs)
    have e : strs.tot (x :: xs) = x.size + strs.tot xs := by simp [strs.tot]
    rcases List.mem_cons.1 h with rfl | h
    · omega
    · have := ih h
      omega
/-- the text of the file of a base -/
def tAt (d : D) (base : Int) : ByteArray := textR (nodeAt d (segI base))
theorem text_le {d : D} (h : bulk d ≤ 1048576) (s : ByteArray) : (textR (nodeAt d s)).size ≤ 1048576 := by
  unfold nodeAt
  split
  · exact Nat.zero_le _
  · split
    · exact Nat.zero_le _
    · next k _ =>
      cases e : d.nodes[k]? with
      | none => exact Nat.zero_le _
      | some n =>
        have hm : n.2.1 ∈ d.nodes.map (·.2.1) := List.mem_map.2 ⟨n, List.mem_of_getElem? e, rfl⟩
        have := tot_mem hm
        unfold bulk bulkN at h
        show n.2.1.size ≤ _
        omega
theorem tAt_le {d : D} (h : bulk d ≤ 1048576) (base : Int) : (tAt d base).size ≤ 1048576 := text_le h _
/-- whether the file of a base goes on with it -/
def goOnB (d : D) (base link : Int) : Bool := !(decide ((sc.recs (tAt d base)).length = 0)) && goesB (tAt d base) base link
def chGo (d : D) : Nat → Int → Int → List Int
  | 0, _, _ => []
  | f + 1, base, link => if goOnB d base link = true then base :: chGo d f (base + ((sc.recs (tAt d base)).length : Int)) (linkN (tAt d base) : Int) else []
theorem chGo_no {d : D} {f : Nat} {base link : Int} (h : goOnB d base link = false) : chGo d f base link = [] := by
  cases f with
  | zero => rfl
  | succ f => exact if_neg (by rw [h]; decide)
theorem chGo_yes {d : D} {f : Nat} {base link : Int} (h : goOnB d base link = true) : chGo d (f + 1) base link = base :: chGo d f (base + ((sc.recs (tAt d base)).length : Int)) (linkN (tAt d base) : Int) := if_pos h
def chain (d : D) : List Int := chGo d 16 0 0
theorem chGo_length (d : D) : ∀ (f : Nat) (base link : Int), (chGo d f base link).length ≤ f := by
  intro f
  induction f with
  | zero => intro _ _; exact Nat.le_refl _
  | succ f ih =>
    intro base link
    cases h : goOnB d base link with
    | false => rw [chGo_no h]; exact Nat.zero_le _
    | true =>
      rw [chGo_yes h, List.length_cons]
      have := ih (base + ((sc.recs (tAt d base)).length : Int)) (linkN (tAt d base) : Int)
      omega
theorem chain_length (d : D) : (chain d).length ≤ 16 := chGo_length d 16 0 0
theorem recs_few {d : D} (h : bulk d ≤ 1048576) (base : Int) : (sc.recs (tAt d base)).length ≤ 1048576 := by
  have h1 := recs_le (tAt d base)
  have h2 := tAt_le h base
  omega
theorem chGo_in {d : D} (hb : bulk d ≤ 1048576) : ∀ (f : Nat) (base link : Int), ∀ x ∈ chGo d f base link, base ≤ x ∧ x ≤ base + 1048576 * (f : Int) := by
  intro f
  induction f with
  | zero => intro _ _ x hx; cases hx
  | succ f ih =>
    intro base link x hx
    cases h : goOnB d base link with
    | false => rw [chGo_no h] at hx; cases hx
    | true =>
      rw [chGo_yes h] at hx
      have hr := recs_few hb base
      rcases List.mem_cons.1 hx with rfl | hx
      · omega
      · have := ih _ _ x hx
        omega
theorem chain_in {d : D} (hb : bulk d ≤ 1048576) : ∀ x ∈ chain d, 0 ≤ x ∧ x ≤ 16777216 := fun x hx => by
  have := chGo_in hb 16 0 0 x hx
  omega
/-- so far -/
structure Far (d : D) (xs : List Int) (base link : Int) : Prop where
  all : chain d = xs ++ chGo d (16 - xs.length) base link
  len : xs.length ≤ 16
  lo : 0 ≤ base
  hi : base ≤ 1048576 * (xs.length : Int)
  l0 : 0 ≤ link
  l1 : link ≤ 4294967296
theorem Far.start (d : D) : Far d [] 0 0 := ⟨rfl, by simp, by omega, by simp, by omega, by omega⟩
theorem linkN_lt (b : ByteArray) : linkN b ≤ 4294967296 := by
  unfold linkN
  have hl := hdOf_link b
  rcases List.eq_nil_or_concat (sc.recs b) with e | ⟨xs, x, e⟩
  · rw [e]; show (hdOf b).l.toNat ≤ _; omega
  · rw [e, List.concat_eq_append, lkL_append]
    exact Nat.le_of_lt (lkM_lt _ _)
theorem Far.next {d : D} {xs : List Int} {base link : Int} (h : Far d xs base link) (hb : bulk d ≤ 1048576) (hl : xs.length < 16) (hg : goOnB d base link = true) : Far d (xs ++ [base]) (base + ((sc.recs (tAt d base)).length : Int)) (linkN (tAt d base) : Int) := by
  have hr := recs_few hb base
  have hk := linkN_lt (tAt d base)
  have e : (xs ++ [base]).length = xs.length + 1 := by simp
  have h3 := h.lo
  have h4 := h.hi
  refine ⟨?_, by omega, by omega, by rw [e]; omega, by omega, by omega⟩
  rw [h.all, show 16 - xs.length = (16 - (xs ++ [base]).length) + 1 by rw [e]; omega, chGo_yes hg, List.append_assoc]
  rfl
theorem Far.stop {d : D} {xs : List Int} {base link : Int} (h : Far d xs base link) (hg : goOnB d base link = false) : chain d = xs := by rw [h.all, chGo_no hg, List.append_nil]
theorem Far.full {d : D} {xs : List Int} {base link : Int} (h : Far d xs base link) (hl : ¬ xs.length < 16) : chain d = xs := by
  rw [h.all, show 16 - xs.length = 0 by have := h.len; omega]
  exact List.append_nil _

/-! ### the row, the texts, the bases behind -/
def rowOf (d : D) : List ByteArray := (chain d).flatMap fun b => sc.recs (tAt d b)
def texts (d : D) : List ByteArray := (chain d).map (tAt d)
def behind (d : D) (base : Int) : List Int := (chain d).filter fun b => decide (base < b)
def rowLink (d : D) : Nat := lkL 0 (rowOf d)
theorem flat_take {α β : Type} (f : α → List β) {l : List α} {k : Nat} {x : α} (h : l[k]? = some x) : (l.take (k + 1)).flatMap f = (l.take k).flatMap f ++ f x := by
  rw [List.take_add_one, h, Option.toList_some, List.flatMap_append]
  simp
theorem map_take1 {α β : Type} (f : α → β) {l : List α} {k : Nat} {x : α} (h : l[k]? = some x) : (l.take (k + 1)).map f = (l.take k).map f ++ [f x] := by
  rw [List.take_add_one, h, Option.toList_some, List.map_append]
  rfl
theorem filter_take1 {α : Type} (p : α → Bool) {l : List α} {k : Nat} {x : α} (h : l[k]? = some x) : (l.take (k + 1)).filter p = (l.take k).filter p ++ (if p x = true then [x] else []) := by
  rw [List.take_add_one, h, Option.toList_some, List.filter_append]
  cases e : p x <;> simp [e]
theorem flat_le {d : D} (hb : bulk d ≤ 1048576) : ∀ l : List Int, (l.flatMap fun b => sc.recs (tAt d b)).length ≤ 1048576 * l.length := by
  intro l
  induction l with
  | nil => exact Nat.le_refl _
  | cons x xs ih =>
    rw [List.flatMap_cons, List.length_append, List.length_cons]
    have := recs_few hb x
    omega
theorem rowOf_le {d : D} (hb : bulk d ≤ 1048576) : (rowOf d).length ≤ 16777216 := by
  have h1 := flat_le hb (chain d)
  have h2 := chain_length d
  unfold rowOf
  omega
theorem rowOf_small (d : D) : ∀ r ∈ rowOf d, r.size ≤ 60 := fun r hr => by
  obtain ⟨b, _, hb⟩ := List.mem_flatMap.1 hr
  exact recs_small _ r hb

/-! ### names -/
def hasI (xs : List Int) (n : Int) : Bool := xs.any fun x => x == n
def looseB (l : List Int) (s : ByteArray) : Bool := (rn s).1 == 2 || ((rn s).1 == 1 && !(hasI l (rn s).2))
def loose (d : D) : List ByteArray := (d.ents.filter fun e => looseB (chain d) e.1).map (·.1)
theorem loose_take {l : List Int} {es : List Ent} {k : Nat} {e : Ent} (h : es[k]? = some e) : ((es.take (k + 1)).filter fun e => looseB l e.1).map (·.1) = ((es.take k).filter fun e => looseB l e.1).map (·.1) ++ (if looseB l e.1 = true then [e.1] else []) := by
  rw [filter_take1 _ h, List.map_append]
  split <;> rfl
/-- where a base is put: behind all that are not above it, as they stand from the end on -/
def atB (out : List Int) (b : Int) : Nat → Nat
  | 0 => 0
  | k + 1 => match out[k]? with | some x => if b < x then atB out b k else k + 1 | none => k + 1
theorem atB_up {out : List Int} {b x : Int} {k : Nat} (h : out[k]? = some x) (hx : b < x) : atB out b (k + 1) = atB out b k := by
  show (match out[k]? with | some x => _ | none => _) = _
  rw [h]
  exact if_pos hx
theorem atB_here {out : List Int} {b x : Int} {k : Nat} (h : out[k]? = some x) (hx : ¬ b < x) : atB out b (k + 1) = k + 1 := by
  show (match out[k]? with | some x => _ | none => _) = _
  rw [h]
  exact if_neg hx
theorem atB_le (out : List Int) (b : Int) : ∀ k, atB out b k ≤ k := by
  intro k
  induction k with
  | zero => exact Nat.le_refl _
  | succ k ih =>
    show (match out[k]? with | some x => if b < x then atB out b k else k + 1 | none => k + 1) ≤ k + 1
    split
    · split
      · omega
      · exact Nat.le_refl _
    · exact Nat.le_refl _
def insB (out : List Int) (b : Int) : List Int := out.take (atB out b out.length) ++ [b] ++ out.drop (atB out b out.length)
theorem insB_length (out : List Int) (b : Int) : (insB out b).length = out.length + 1 := by
  unfold insB
  have := atB_le out b out.length
  simp
  omega
def bases (es : List Ent) : List Int := es.foldl (fun out e => if (rn e.1).1 = 1 then insB out (rn e.1).2 else out) []
theorem bases_take {es : List Ent} {k : Nat} {e : Ent} (h : es[k]? = some e) : bases (es.take (k + 1)) = if (rn e.1).1 = 1 then insB (bases (es.take k)) (rn e.1).2 else bases (es.take k) := by
  unfold bases
  rw [List.take_add_one, h, Option.toList_some, List.foldl_append]
  rfl
theorem bases_le (es : List Ent) : (bases es).length ≤ es.length := by
  unfold bases
  suffices h : ∀ (l : List Ent) (o : List Int), (l.foldl (fun out e => if (rn e.1).1 = 1 then insB out (rn e.1).2 else out) o).length ≤ o.length + l.length by
    have := h es []
    simpa using this
  intro l
  induction l with
  | nil => intro o; exact Nat.le_refl _
  | cons x xs ih =>
    intro o
    rw [List.foldl_cons, List.length_cons]
    refine Nat.le_trans (ih _) ?_
    split
    · rw [insB_length]; omega
    · omega

end Go.Proofs.YtiehfobcbhgfkaaDoor.row
