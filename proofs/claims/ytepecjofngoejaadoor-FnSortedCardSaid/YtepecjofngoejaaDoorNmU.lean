/-
  Names in order: the list in order without doubles is one list alone; sorted and compacted it is the one that is laid name by name.
-/
import Derived.Test.YtepecjofngoejaaDoorNameE
import Derived.Sort.LotA
import Derived.Sort.Walk0
import Derived.Lib.SlicesCompact
import Derived.Lib.OwnBridge
namespace Go.Proofs.YtepecjofngoejaaDoor.nam
open Go.RowKit
open kit
open num

theorem sorted_one {α : Type} (R : α → α → Prop) (irr : ∀ a, ¬ R a a) (tr : ∀ a b c, R a b → R b c → R a c) :
    ∀ l1 l2 : List α, l1.Pairwise R → l2.Pairwise R → (∀ x, x ∈ l1 ↔ x ∈ l2) → l1 = l2
  | [], [], _, _, _ => rfl
  | [], b :: s, _, _, h => absurd ((h b).2 (List.mem_cons_self ..)) (by simp)
  | a :: r, [], _, _, h => absurd ((h a).1 (List.mem_cons_self ..)) (by simp)
  | a :: r, b :: s, h1, h2, h => by
    rw [List.pairwise_cons] at h1 h2
    have hab : a = b := by
      have h3 := (h a).1 (List.mem_cons_self ..)
      have h4 := (h b).2 (List.mem_cons_self ..)
      rw [List.mem_cons] at h3 h4
      rcases h3 with h3 | h3
      · exact h3
      · rcases h4 with h4 | h4
        · exact h4.symm
        · exact absurd (tr _ _ _ (h1.1 _ h4) (h2.1 _ h3)) (irr _)
    subst hab
    rw [sorted_one R irr tr r s h1.2 h2.2 fun x => ?_]
    have hx := h x
    rw [List.mem_cons, List.mem_cons] at hx
    constructor
    · intro hm
      rcases hx.1 (.inr hm) with rfl | h5
      · exact absurd (h1.1 _ hm) (irr _)
      · exact h5
    · intro hm
      rcases hx.2 (.inr hm) with rfl | h5
      · exact absurd (h2.1 _ hm) (irr _)
      · exact h5

theorem blt_is (x y : ByteArray) : blt x y = decide (x.data.toList < y.data.toList) := by
  unfold blt
  rw [Go.Proofs.bytesLess_eq, Lib.toList_data, Lib.toList_data]
theorem key_inj {x y : ByteArray} (h : x.data.toList = y.data.toList) : x = y := by
  apply ByteArray.ext
  exact Array.toList_inj.1 h
theorem blt_irr (x : ByteArray) : ¬ blt x x = true := by rw [blt_is]; simp [List.lt_irrefl]
theorem blt_tr (x y z : ByteArray) (h1 : blt x y = true) (h2 : blt y z = true) : blt x z = true := by
  rw [blt_is, decide_eq_true_eq] at *
  exact List.lt_trans h1 h2
theorem blt_or {x y : ByteArray} (h : ¬ blt x y = true) : y = x ∨ blt y x = true := by
  rw [blt_is, decide_eq_true_eq] at *
  by_cases h2 : y.data.toList < x.data.toList
  · exact .inr h2
  · exact .inl (key_inj (List.le_antisymm (List.not_lt.1 h) (List.not_lt.1 h2)))

/-- what stands ahead of a name's place, at it, behind it -/
theorem place_parts (x : ByteArray) : ∀ l : List ByteArray, l.take (place x l) = l.takeWhile (fun y => blt y x) ∧ l.drop (place x l) = l.dropWhile (fun y => blt y x)
  | [] => ⟨rfl, rfl⟩
  | y :: r => by
    obtain ⟨h1, h2⟩ := place_parts x r
    unfold place at *
    by_cases hy : blt y x = true
    · rw [List.takeWhile_cons, if_pos hy, List.dropWhile_cons, if_pos hy, List.length_cons]
      exact ⟨by rw [List.take_succ_cons, h1], by rw [List.drop_succ_cons, h2]⟩
    · rw [List.takeWhile_cons, if_neg hy, List.dropWhile_cons, if_neg hy]
      exact ⟨rfl, rfl⟩
def Asc (l : List ByteArray) : Prop := l.Pairwise fun x y => blt x y = true
theorem split_asc (x : ByteArray) : ∀ l : List ByteArray, Asc l → (∀ y ∈ l.takeWhile (fun y => blt y x), blt y x = true) ∧ (∀ y ∈ l.dropWhile (fun y => blt y x), y = x ∨ blt x y = true) ∧ (x ∈ l → (l.dropWhile (fun y => blt y x)).head? = some x)
  | [], _ => ⟨by simp, by simp, by simp⟩
  | y :: r, h => by
    have h' := List.pairwise_cons.1 h
    obtain ⟨h1, h2, h3⟩ := split_asc x r h'.2
    by_cases hy : blt y x = true
    · rw [List.takeWhile_cons, if_pos hy, List.dropWhile_cons, if_pos hy]
      refine ⟨fun z hz => ?_, h2, fun hx => h3 ?_⟩
      · rcases List.mem_cons.1 hz with rfl | hz
        · exact hy
        · exact h1 z hz
      · rcases List.mem_cons.1 hx with rfl | hx
        · exact absurd hy (blt_irr _)
        · exact hx
    · rw [List.takeWhile_cons, if_neg hy, List.dropWhile_cons, if_neg hy]
      have hyx : x = y ∨ blt x y = true := blt_or hy
      refine ⟨by simp, fun z hz => ?_, fun hx => ?_⟩
      · rcases List.mem_cons.1 hz with hzy | hzr
        · rw [hzy]; exact hyx.imp Eq.symm id
        · right
          rcases hyx with e | hyx
          · rw [e]; exact h'.1 z hzr
          · exact blt_tr _ _ _ hyx (h'.1 z hzr)
      · rcases List.mem_cons.1 hx with rfl | hx
        · rfl
        · have hyx2 := h'.1 x hx
          exact absurd hyx2 hy
theorem put_asc (x : ByteArray) (l : List ByteArray) (h : Asc l) (hx : ¬ x ∈ l) : Asc (put l x) := by
  obtain ⟨h1, h2, _⟩ := split_asc x l h
  obtain ⟨e1, e2⟩ := place_parts x l
  unfold put
  rw [e1, e2]
  have hd : ∀ y ∈ l.dropWhile (fun y => blt y x), blt x y = true := fun y hy => by
    rcases h2 y hy with rfl | h
    · exact absurd ((List.dropWhile_sublist _).subset hy) hx
    · exact h
  unfold Asc
  rw [List.pairwise_append, List.pairwise_cons]
  refine ⟨h.sublist (List.takeWhile_sublist _), ⟨hd, h.sublist (List.dropWhile_sublist _)⟩, fun a ha b hb => ?_⟩
  rcases List.mem_cons.1 hb with rfl | hb
  · exact h1 a ha
  · exact blt_tr _ _ _ (h1 a ha) (hd b hb)
theorem put_mem (x y : ByteArray) (l : List ByteArray) : y ∈ put l x ↔ y = x ∨ y ∈ l := by
  have e : l.take (place x l) ++ l.drop (place x l) = l := List.take_append_drop _ _
  have e2 : y ∈ l ↔ y ∈ l.take (place x l) ∨ y ∈ l.drop (place x l) := by rw [← List.mem_append, e]
  unfold put
  rw [List.mem_append, List.mem_cons, e2]
  constructor
  · rintro (h | h | h)
    · exact .inr (.inl h)
    · exact .inl h
    · exact .inr (.inr h)
  · rintro (h | h | h)
    · exact .inr (.inl h)
    · exact .inl h
    · exact .inr (.inr h)
theorem at_place (x : ByteArray) (l : List ByteArray) (h : Asc l) : l[place x l]? = some x ↔ x ∈ l := by
  constructor
  · exact List.mem_of_getElem?
  · intro hx
    have := (split_asc x l h).2.2 hx
    rw [← (place_parts x l).2, List.head?_drop] at this
    exact this
theorem addN_asc (x : ByteArray) (l : List ByteArray) (h : Asc l) : Asc (addN l x) ∧ ∀ y, y ∈ addN l x ↔ y ∈ l ∨ (y = x ∧ nok x = true) := by
  unfold addN
  have hp := at_place x l h
  by_cases hc : nok x = true ∧ ¬ x ∈ l
  · rw [if_pos ⟨hc.1, fun e => hc.2 (hp.1 e)⟩]
    refine ⟨put_asc x l h hc.2, fun y => ?_⟩
    rw [put_mem]
    constructor
    · rintro (rfl | h2)
      · exact .inr ⟨rfl, hc.1⟩
      · exact .inl h2
    · rintro (h2 | ⟨rfl, _⟩)
      · exact .inr h2
      · exact .inl rfl
  · rw [if_neg (fun e => hc ⟨e.1, fun e2 => e.2 (hp.2 e2)⟩)]
    refine ⟨h, fun y => ⟨.inl, ?_⟩⟩
    rintro (h2 | ⟨rfl, hn⟩)
    · exact h2
    · by_cases hy : y ∈ l
      · exact hy
      · exact absurd ⟨hn, hy⟩ hc
theorem srt_asc (xs : List ByteArray) : Asc (srt xs) ∧ ∀ y, y ∈ srt xs ↔ y ∈ xs ∧ nok y = true := by
  have : ∀ (xs l : List ByteArray), Asc l → Asc (xs.foldl addN l) ∧ ∀ y, y ∈ xs.foldl addN l ↔ y ∈ l ∨ (y ∈ xs ∧ nok y = true) := by
    intro xs
    induction xs with
    | nil => intro l h; exact ⟨h, fun y => by simp⟩
    | cons x r ih =>
      intro l h
      obtain ⟨a1, a2⟩ := addN_asc x l h
      obtain ⟨b1, b2⟩ := ih _ a1
      rw [List.foldl_cons]
      refine ⟨b1, fun y => ?_⟩
      rw [b2, a2, List.mem_cons]
      constructor
      · rintro ((h | ⟨rfl, h⟩) | ⟨h, h'⟩)
        · exact .inl h
        · exact .inr ⟨.inl rfl, h⟩
        · exact .inr ⟨.inr h, h'⟩
      · rintro (h | ⟨rfl | h, h'⟩)
        · exact .inl (.inl h)
        · exact .inl (.inr ⟨rfl, h'⟩)
        · exact .inr ⟨h, h'⟩
  obtain ⟨h1, h2⟩ := this xs [] List.Pairwise.nil
  exact ⟨h1, fun y => by rw [show srt xs = xs.foldl addN [] from rfl, h2]; simp⟩

/-! ### sorted, then compacted -/
theorem compact_asc (d : Array (List UInt8)) (hs : ∀ i j, i < j → j < d.size → d[i]! ≤ d[j]!) : ∀ m, m ≤ d.size →
    (Lib.compactUpTo d m).Pairwise (· < ·) ∧ (∀ x, x ∈ Lib.compactUpTo d m ↔ ∃ j, j < m ∧ d[j]! = x)
  | 0, _ => ⟨List.Pairwise.nil, fun x => by simp [Lib.compactUpTo]⟩
  | m + 1, hm => by
    obtain ⟨h1, h2⟩ := compact_asc d hs m (by omega)
    rw [Lib.compactUpTo_succ]
    by_cases hk : Lib.keeps d m = true
    · rw [if_pos hk]
      have hlt : ∀ x ∈ Lib.compactUpTo d m, x < d[m]! := by
        intro x hx
        obtain ⟨j, hj, rfl⟩ := (h2 x).1 hx
        have hle : d[j]! ≤ d[m - 1]! := by
          by_cases hjm : j = m - 1
          · rw [hjm]; exact List.le_refl _
          · exact hs j (m - 1) (by omega) (by omega)
        have hle2 := hs (m - 1) m (by omega) (by omega)
        unfold Lib.keeps at hk
        rw [decide_eq_true_eq] at hk
        have hne : d[m]! ≠ d[m - 1]! := hk.resolve_left (by omega)
        have hlt : d[m - 1]! < d[m]! := by
          by_cases h : d[m - 1]! < d[m]!
          · exact h
          · exact absurd (List.le_antisymm (List.not_lt.1 h) hle2) hne
        exact List.lt_of_le_of_lt hle hlt
      refine ⟨?_, fun x => ?_⟩
      · rw [List.pairwise_append]
        exact ⟨h1, List.pairwise_singleton _ _, fun a ha b hb => by rw [List.mem_singleton.1 hb]; exact hlt a ha⟩
      · rw [List.mem_append, h2, List.mem_singleton]
        constructor
        · rintro (⟨j, hj, rfl⟩ | rfl)
          · exact ⟨j, by omega, rfl⟩
          · exact ⟨m, by omega, rfl⟩
        · rintro ⟨j, hj, rfl⟩
          by_cases hjm : j = m
          · exact .inr (by rw [hjm])
          · exact .inl ⟨j, by omega, rfl⟩
    · rw [if_neg hk, List.append_nil]
      refine ⟨h1, fun x => ?_⟩
      rw [h2]
      have hne : m ≠ 0 ∧ d[m]! = d[m - 1]! := by
        unfold Lib.keeps at hk
        rw [decide_eq_true_eq] at hk
        constructor
        · intro h; exact hk (.inl h)
        · by_cases h : d[m]! = d[m - 1]!
          · exact h
          · exact absurd (.inr h) hk
      constructor
      · rintro ⟨j, hj, rfl⟩
        exact ⟨j, by omega, rfl⟩
      · rintro ⟨j, hj, rfl⟩
        by_cases hjm : j = m
        · exact ⟨m - 1, by omega, by rw [hjm, hne.2]⟩
        · exact ⟨j, by omega, rfl⟩
def keys (xs : List ByteArray) : List (List UInt8) := xs.map (·.data.toList)
theorem keys_enc (xs : List ByteArray) : (keys xs).map encStr = xs.map Value.string := Lib.map_encStr xs
theorem keys_length (xs : List ByteArray) : (keys xs).length = xs.length := by simp [keys]
/-- sorted and compacted: the names laid in order -/
theorem sort_compact (xs : List ByteArray) : Lib.compact ((keys (xs.filter nok)).mergeSort fun x y => decide (x ≤ y)) = keys (srt xs) := by
  obtain ⟨a1, a2⟩ := srt_asc xs
  obtain ⟨l, hl⟩ : ∃ l, (keys (xs.filter nok)).mergeSort (fun x y => decide (x ≤ y)) = l := ⟨_, rfl⟩
  have hp : l.Pairwise (· ≤ ·) := by
    have := List.pairwise_mergeSort (le := fun x y : List UInt8 => decide (x ≤ y)) (fun a b c h1 h2 => by
      rw [decide_eq_true_eq] at *
      exact List.le_trans h1 h2) (fun a b => by
      rw [Bool.or_eq_true, decide_eq_true_eq, decide_eq_true_eq]
      exact List.le_total a b) (keys (xs.filter nok))
    rw [hl] at this
    exact this.imp (fun h => by simpa using h)
  have hm : ∀ x, x ∈ l ↔ x ∈ keys (xs.filter nok) := fun x => by rw [← hl, List.mem_mergeSort]
  rw [hl]
  have hs : ∀ i j, i < j → j < l.toArray.size → l.toArray[i]! ≤ l.toArray[j]! := by
    intro i j hij hj
    have hj' : j < l.length := by simpa using hj
    have := List.pairwise_iff_getElem.1 hp i j (by omega) hj' hij
    simpa [getElem!_pos, hj', show i < l.length by omega] using this
  obtain ⟨b1, b2⟩ := compact_asc l.toArray hs l.length (by simp)
  refine sorted_one (· < ·) (fun a => List.lt_irrefl a) (fun a b c h1 h2 => List.lt_trans h1 h2) _ _ b1 ?_ fun x => ?_
  · unfold keys
    rw [List.pairwise_map]
    refine List.Pairwise.imp (fun {a b} h => ?_) a1
    rw [blt_is, decide_eq_true_eq] at h
    exact h
  · show x ∈ Lib.compactUpTo l.toArray l.length ↔ _
    rw [b2]
    have e : (∃ j, j < l.length ∧ l.toArray[j]! = x) ↔ x ∈ l := by
      rw [List.mem_iff_getElem]
      constructor
      · rintro ⟨j, hj, h⟩
        exact ⟨j, hj, by simpa [getElem!_pos, hj] using h⟩
      · rintro ⟨j, hj, h⟩
        exact ⟨j, hj, by simpa [getElem!_pos, hj] using h⟩
    rw [e, hm]
    unfold keys
    rw [List.mem_map, List.mem_map]
    constructor
    · rintro ⟨y, hy, rfl⟩
      rw [List.mem_filter] at hy
      exact ⟨y, (a2 y).2 hy, rfl⟩
    · rintro ⟨y, hy, rfl⟩
      exact ⟨y, List.mem_filter.2 ((a2 y).1 hy), rfl⟩

end Go.Proofs.YtepecjofngoejaaDoor.nam
