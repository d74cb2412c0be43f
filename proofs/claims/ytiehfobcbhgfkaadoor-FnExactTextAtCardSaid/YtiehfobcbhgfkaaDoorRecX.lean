/-
  Slices of structs: what they hold, cell by cell; entries and nodes as lists of cells.
-/
import Derived.Test.YtiehfobcbhgfkaaDoorStrQ
import Derived.OpenShut
import Derived.ShutString
import Derived.SliceStrings
import Derived.ChangeOld
import Derived.Deep.Slices
import Derived.Deep.Strs
namespace Go.Proofs.YtiehfobcbhgfkaaDoor.recs
set_option maxRecDepth 20000
open Go.RowKit
open kit strs

/-- a slice whose elements have these cells, one behind the other -/
def Cells (w : World) (a : Option Addr) (n size : Nat) (cs : List Value) : Prop :=
  cs.length = n * size ∧ (n = 0 ∨ ∃ b off, a = some ⟨b, off, none⟩ ∧ b < w.heap.size ∧ ∀ j x, cs[j]? = some x → w.cell? ⟨b, off + j, none⟩ = some x)
theorem Cells.below {w w' : World} {a : Option Addr} {n size : Nat} {cs : List Value} (h : Cells w a n size cs) (hb : Below w.heap.size w w') : Cells w' a n size cs :=
  ⟨h.1, h.2.imp id fun ⟨b, off, h1, h2, h3⟩ => ⟨b, off, h1, Nat.lt_of_lt_of_le h2 hb.size, fun j x hx => (hb.cell (p := ⟨b, off + j, none⟩) h2).trans (h3 j x hx)⟩⟩
theorem own_cells {w : World} {B size : Nat} {e : TypeId} {a : Option Addr} {n c : Nat} {cs : List Value} (h : w.ownsRow B e size (.slice a n c) n cs) : Cells w a n size cs := by
  refine ⟨h.1, ?_⟩
  have h2 := h.2
  rcases h2 with ⟨_, h0⟩ | ⟨g, cap, cur, hv, hB, hg, hnc, hcm, hsz, htake⟩
  · exact .inl h0
  · injection hv with e1 e2 e3
    subst e1 e3
    refine .inr ⟨g, 0, rfl, (Array.getElem?_eq_some_iff.1 hg).1, fun j x hx => ?_⟩
    have hj : j < n * size := by rw [← h.1]; exact (List.getElem?_eq_some_iff.1 hx).1
    rw [Nat.zero_add, h.cellAt j hj, hx]
/-- what an owned slice looks like -/
theorem own_shape {w : World} {B size : Nat} {e : TypeId} {v : Value} {n : Nat} {cs : List Value} (h : w.ownsRow B e size v n cs) :
    ∃ a c, v = .slice a n c ∧ n ≤ maxLen ∧ (n = 0 ∨ ∃ g, a = some ⟨g, 0, none⟩ ∧ B ≤ g ∧ g < w.heap.size) := by
  rcases h.2 with ⟨rfl, rfl⟩ | ⟨g, cap, cur, rfl, hB, hg, hn, hcm, _⟩
  · exact ⟨none, 0, rfl, by decide, .inl rfl⟩
  · exact ⟨some ⟨g, 0, none⟩, cap, rfl, by omega, .inr ⟨g, rfl, hB, (Array.getElem?_eq_some_iff.1 hg).1⟩⟩

abbrev Ent := ByteArray × Int
abbrev Nod := Int × ByteArray × Int
def cellsE (xs : List Ent) : List Value := xs.flatMap fun e => [.string e.1, .int .i64 e.2]
def cellsN (xs : List Nod) : List Value := xs.flatMap fun e => [.int .i64 e.1, .string e.2.1, .int .i64 e.2.2]
theorem cellsE_cons (e : Ent) (xs : List Ent) : cellsE (e :: xs) = .string e.1 :: .int .i64 e.2 :: cellsE xs := rfl
theorem cellsN_cons (e : Nod) (xs : List Nod) : cellsN (e :: xs) = .int .i64 e.1 :: .string e.2.1 :: .int .i64 e.2.2 :: cellsN xs := rfl
theorem cellsE_app (xs ys : List Ent) : cellsE (xs ++ ys) = cellsE xs ++ cellsE ys := List.flatMap_append
theorem cellsN_app (xs ys : List Nod) : cellsN (xs ++ ys) = cellsN xs ++ cellsN ys := List.flatMap_append
theorem cellsE_len (xs : List Ent) : (cellsE xs).length = xs.length * 2 := by
  induction xs with
  | nil => rfl
  | cons e r ih => rw [cellsE_cons]; simp only [List.length_cons, ih]; omega
theorem cellsN_len (xs : List Nod) : (cellsN xs).length = xs.length * 3 := by
  induction xs with
  | nil => rfl
  | cons e r ih => rw [cellsN_cons]; simp only [List.length_cons, ih]; omega
theorem cellsE_at : ∀ (xs : List Ent) (k : Nat) (s : ByteArray) (i : Int), xs[k]? = some (s, i) → (cellsE xs)[k * 2]? = some (.string s) ∧ (cellsE xs)[k * 2 + 1]? = some (.int .i64 i)
  | [], k, s, i, h => by simp at h
  | e :: r, 0, s, i, h => by simp at h; subst h; exact ⟨rfl, rfl⟩
  | e :: r, k + 1, s, i, h => by
    have := cellsE_at r k s i (by simpa using h)
    rw [cellsE_cons, show (k + 1) * 2 = k * 2 + 1 + 1 by omega]
    simpa using this
theorem cellsN_at : ∀ (xs : List Nod) (k : Nat) (i : Int) (s : ByteArray) (j : Int), xs[k]? = some (i, s, j) → (cellsN xs)[k * 3]? = some (.int .i64 i) ∧ (cellsN xs)[k * 3 + 1]? = some (.string s) ∧ (cellsN xs)[k * 3 + 2]? = some (.int .i64 j)
  | [], k, i, s, j, h => by simp at h
  | e :: r, 0, i, s, j, h => by simp at h; subst h; exact ⟨rfl, rfl, rfl⟩
  | e :: r, k + 1, i, s, j, h => by
    have := cellsN_at r k i s j (by simpa using h)
    rw [cellsN_cons, show (k + 1) * 3 = k * 3 + 1 + 1 + 1 by omega]
    simpa using this
/-- a slice of entries, of nodes -/
def AtE (w : World) (a : Option Addr) (n : Nat) (xs : List Ent) : Prop := Cells w a n 2 (cellsE xs)
def AtN (w : World) (a : Option Addr) (n : Nat) (xs : List Nod) : Prop := Cells w a n 3 (cellsN xs)
theorem AtE.len {w : World} {a : Option Addr} {n : Nat} {xs : List Ent} (h : AtE w a n xs) : xs.length = n := by have := h.1; rw [cellsE_len] at this; omega
theorem AtN.len {w : World} {a : Option Addr} {n : Nat} {xs : List Nod} (h : AtN w a n xs) : xs.length = n := by have := h.1; rw [cellsN_len] at this; omega
theorem AtE.below {w w' : World} {a : Option Addr} {n : Nat} {xs : List Ent} (h : AtE w a n xs) (hb : Below w.heap.size w w') : AtE w' a n xs := Cells.below h hb
theorem AtN.below {w w' : World} {a : Option Addr} {n : Nat} {xs : List Nod} (h : AtN w a n xs) (hb : Below w.heap.size w w') : AtN w' a n xs := Cells.below h hb
theorem AtE.get {w : World} {a : Option Addr} {n k : Nat} {xs : List Ent} (h : AtE w a n xs) (hk : k < n) :
    ∃ s i b off, xs[k]? = some (s, i) ∧ a = some ⟨b, off, none⟩ ∧ b < w.heap.size ∧ w.cell? ⟨b, off + k * 2, none⟩ = some (.string s) ∧ w.cell? ⟨b, off + k * 2 + 1, none⟩ = some (.int .i64 i) := by
  have hl := h.len
  have hx : xs[k]? = some (xs[k]'(by omega)) := List.getElem?_eq_getElem (by omega)
  obtain ⟨b, off, h1, h2, h3⟩ := h.2.resolve_left (by omega)
  have hc := cellsE_at xs k _ _ hx
  exact ⟨_, _, b, off, hx, h1, h2, h3 _ _ hc.1, by rw [Nat.add_assoc]; exact h3 _ _ hc.2⟩
theorem AtN.get {w : World} {a : Option Addr} {n k : Nat} {xs : List Nod} (h : AtN w a n xs) (hk : k < n) :
    ∃ i s j b off, xs[k]? = some (i, s, j) ∧ a = some ⟨b, off, none⟩ ∧ b < w.heap.size ∧ w.cell? ⟨b, off + k * 3, none⟩ = some (.int .i64 i) ∧ w.cell? ⟨b, off + k * 3 + 1, none⟩ = some (.string s) ∧ w.cell? ⟨b, off + k * 3 + 2, none⟩ = some (.int .i64 j) := by
  have hl := h.len
  have hx : xs[k]? = some (xs[k]'(by omega)) := List.getElem?_eq_getElem (by omega)
  obtain ⟨b, off, h1, h2, h3⟩ := h.2.resolve_left (by omega)
  have hc := cellsN_at xs k _ _ _ hx
  exact ⟨_, _, _, b, off, hx, h1, h2, h3 _ _ hc.1, by rw [Nat.add_assoc]; exact h3 _ _ hc.2.1, by rw [Nat.add_assoc]; exact h3 _ _ hc.2.2⟩

/-! ### two entries, two nodes -/
theorem eqEntry_same (s : ByteArray) (i : Int) (w : World) :
    Calls Tryd.prog 32 #[.agg #[.string s, .int .i64 i], .agg #[.string s, .int .i64 i]] w fun e w' => e = .returned (.bool true) ∧ Below w.heap.size w w' := by
  go_enter Tryd.func32, Tryd.ntmps32
  go_wp2
  go_ret
  exact ⟨rfl, ((Below.refl _ _).alloc (Nat.le_refl _) _).alloc (by simp) _⟩
theorem eqNode_same (i : Int) (s : ByteArray) (j : Int) (w : World) :
    Calls Tryd.prog 31 #[.agg #[.int .i64 i, .string s, .int .i64 j], .agg #[.int .i64 i, .string s, .int .i64 j]] w fun e w' => e = .returned (.bool true) ∧ Below w.heap.size w w' := by
  go_enter Tryd.func31, Tryd.ntmps31
  go_wp2
  go_ret
  exact ⟨rfl, ((Below.refl _ _).alloc (Nat.le_refl _) _).alloc (by simp) _⟩

end Go.Proofs.YtiehfobcbhgfkaaDoor.recs

namespace Go.Proofs.YtiehfobcbhgfkaaDoor.recs
set_option maxRecDepth 20000
open Go.RowKit
open kit strs

set_option maxHeartbeats 400000 in
theorem eqEntryS_same (a b : Option Addr) (c d n : Nat) (xs : List Ent) (w : World) (hm : n ≤ maxLen) (ha : AtE w a n xs) (hb : AtE w b n xs) :
    Calls Tryd.prog 20 #[.slice a n c, .slice b n d] w fun e w' => e = .returned (.bool true) ∧ Below w.heap.size w w' := by
  unfold maxLen at hm
  have HA := Lib.hid ha
  have HB := Lib.hid hb
  clear ha hb
  go_enter Tryd.func20, Tryd.ntmps20
  go_wp2
  go_loopw [5] (fun i wr => ∃ k : Nat, k ≤ n ∧ i = .int .i64 k ∧ Below w.heap.size w wr) (fun i _ => n - (intOf i).toNat)
  case atStart => exact ⟨0, Nat.zero_le _, rfl, Below.refl _ _⟩
  case round =>
    obtain ⟨k, hk, rfl, hb⟩ := hrel
    by_cases hlt : k < n
    · obtain ⟨s, i, g, o, hx, rfl, hg, c1, c2⟩ := (HA.out.below hb).get hlt
      obtain ⟨s', i', h, p, hy, rfl, hh, c3, c4⟩ := (HB.out.below hb).get hlt
      obtain ⟨rfl, rfl⟩ : s = s' ∧ i = i' := by rw [hx] at hy; simpa using hy
      have i0 : (0 : Int) ≤ (k : Int) := by omega
      have i1 : (k : Int) < (n : Int) := by omega
      clear hx hy
      go_wp2
      go_region_held3 (fun w' => w'.cell? ⟨g, o + k * 2, none⟩ = some (.string s) ∧ w'.cell? ⟨g, o + k * 2 + 1, none⟩ = some (.int .i64 i) ∧ w'.cell? ⟨h, p + k * 2, none⟩ = some (.string s) ∧ w'.cell? ⟨h, p + k * 2 + 1, none⟩ = some (.int .i64 i)) (first | exact ⟨c1, c2, c3, c4⟩ | exact ⟨d1, d2, d3, d4⟩) ((go_at_call 32; refine (eqEntry_same s i _).mono ?_; rintro e w1 ⟨rfl, hb1⟩; have d1 := (hb1.cell (p := ⟨g, o + k * 2, none⟩) hg).trans c1; have d2 := (hb1.cell (p := ⟨g, o + k * 2 + 1, none⟩) hg).trans c2; have d3 := (hb1.cell (p := ⟨h, p + k * 2, none⟩) hh).trans c3; have d4 := (hb1.cell (p := ⟨h, p + k * 2 + 1, none⟩) hh).trans c4))
      all_goals
        go_wp2
        go_roundw
        case rel => exact ⟨k + 1, by omega, by go_num, hb.drew.trans (hb1.mono hb.size)⟩
        case measure => simp [intOf]; omega
    · go_wp2
      go_ret
      exact ⟨rfl, hb⟩

set_option maxHeartbeats 400000 in
theorem eqNodeS_same (a b : Option Addr) (c d n : Nat) (xs : List Nod) (w : World) (hm : n ≤ maxLen) (ha : AtN w a n xs) (hb : AtN w b n xs) :
    Calls Tryd.prog 19 #[.slice a n c, .slice b n d] w fun e w' => e = .returned (.bool true) ∧ Below w.heap.size w w' := by
  unfold maxLen at hm
  have HA := Lib.hid ha
  have HB := Lib.hid hb
  clear ha hb
  go_enter Tryd.func19, Tryd.ntmps19
  go_wp2
  go_loopw [5] (fun i wr => ∃ k : Nat, k ≤ n ∧ i = .int .i64 k ∧ Below w.heap.size w wr) (fun i _ => n - (intOf i).toNat)
  case atStart => exact ⟨0, Nat.zero_le _, rfl, Below.refl _ _⟩
  case round =>
    obtain ⟨k, hk, rfl, hb⟩ := hrel
    by_cases hlt : k < n
    · obtain ⟨i, s, j, g, o, hx, rfl, hg, c1, c2, c3⟩ := (HA.out.below hb).get hlt
      obtain ⟨i', s', j', h, p, hy, rfl, hh, c4, c5, c6⟩ := (HB.out.below hb).get hlt
      obtain ⟨rfl, rfl, rfl⟩ : i = i' ∧ s = s' ∧ j = j' := by rw [hx] at hy; simpa using hy
      have i0 : (0 : Int) ≤ (k : Int) := by omega
      have i1 : (k : Int) < (n : Int) := by omega
      clear hx hy
      go_wp2
      go_region_held3 (fun w' => w'.cell? ⟨g, o + k * 3, none⟩ = some (.int .i64 i) ∧ w'.cell? ⟨g, o + k * 3 + 1, none⟩ = some (.string s) ∧ w'.cell? ⟨g, o + k * 3 + 2, none⟩ = some (.int .i64 j) ∧ w'.cell? ⟨h, p + k * 3, none⟩ = some (.int .i64 i) ∧ w'.cell? ⟨h, p + k * 3 + 1, none⟩ = some (.string s) ∧ w'.cell? ⟨h, p + k * 3 + 2, none⟩ = some (.int .i64 j)) (first | exact ⟨c1, c2, c3, c4, c5, c6⟩ | exact ⟨d1, d2, d3, d4, d5, d6⟩) ((go_at_call 31; refine (eqNode_same i s j _).mono ?_; rintro e w1 ⟨rfl, hb1⟩; have d1 := (hb1.cell (p := ⟨g, o + k * 3, none⟩) hg).trans c1; have d2 := (hb1.cell (p := ⟨g, o + k * 3 + 1, none⟩) hg).trans c2; have d3 := (hb1.cell (p := ⟨g, o + k * 3 + 2, none⟩) hg).trans c3; have d4 := (hb1.cell (p := ⟨h, p + k * 3, none⟩) hh).trans c4; have d5 := (hb1.cell (p := ⟨h, p + k * 3 + 1, none⟩) hh).trans c5; have d6 := (hb1.cell (p := ⟨h, p + k * 3 + 2, none⟩) hh).trans c6))
      all_goals
        go_wp2
        go_roundw
        case rel => exact ⟨k + 1, by omega, by go_num, hb.drew.trans (hb1.mono hb.size)⟩
        case measure => simp [intOf]; omega
    · go_wp2
      go_ret
      exact ⟨rfl, hb⟩

/-! ### one element brought over -/
theorem toEntry_any (s : ByteArray) (i : Int) (w : World) :
    Calls Tryd.prog 27 #[.agg #[.string s, .int .i64 i]] w fun e w' => e = .returned (.agg #[.string s, .int .i64 i]) ∧ Below w.heap.size w w' := by
  go_enter Tryd.func27, Tryd.ntmps27
  go_wp2
  refine bodyPost_ret (v := .agg #[.string s, .int .i64 i]) (by simp [results, Tryd.results27, go_sem]) rfl ⟨rfl, ?_⟩
  exact ((((Below.refl _ _).alloc (Nat.le_refl _) _).alloc (by simp) _).alloc (by simp; omega) _)
theorem toNode_any (i : Int) (s : ByteArray) (j : Int) (w : World) :
    Calls Tryd.prog 26 #[.agg #[.int .i64 i, .string s, .int .i64 j]] w fun e w' => e = .returned (.agg #[.int .i64 i, .string s, .int .i64 j]) ∧ Below w.heap.size w w' := by
  go_enter Tryd.func26, Tryd.ntmps26
  go_wp2
  refine bodyPost_ret (v := .agg #[.int .i64 i, .string s, .int .i64 j]) (by simp [results, Tryd.results26, go_sem]) rfl ⟨rfl, ?_⟩
  exact ((((Below.refl _ _).alloc (Nat.le_refl _) _).alloc (by simp) _).alloc (by simp; omega) _)

end Go.Proofs.YtiehfobcbhgfkaaDoor.recs

namespace Go.Proofs.YtiehfobcbhgfkaaDoor.recs
set_option maxRecDepth 20000
open Go.RowKit
open kit strs

theorem made2 (x y : Value) (n : Nat) : (madeCells #[x, y] (n * 2)).toList = (List.replicate n [x, y]).flatten := by
  apply List.ext_getElem?
  intro j
  induction n generalizing j with
  | zero => simp [madeCells]
  | succ n ih =>
    rw [List.replicate_succ, List.flatten_cons]
    match j with
    | 0 => simp [madeCells, show 0 < (n + 1) * 2 by omega]
    | 1 => simp [madeCells, show 1 < (n + 1) * 2 by omega]
    | j + 2 =>
      have := ih j
      simp only [List.cons_append, List.nil_append, List.getElem?_cons_succ]
      rw [← this]
      by_cases hj : j < n * 2
      · simp [madeCells, hj, show j + 2 < (n + 1) * 2 by omega]
      · simp [madeCells, hj, show ¬ j + 2 < (n + 1) * 2 by omega]
theorem made3 (x y z : Value) (n : Nat) : (madeCells #[x, y, z] (n * 3)).toList = (List.replicate n [x, y, z]).flatten := by
  apply List.ext_getElem?
  intro j
  induction n generalizing j with
  | zero => simp [madeCells]
  | succ n ih =>
    rw [List.replicate_succ, List.flatten_cons]
    match j with
    | 0 => simp [madeCells, show 0 < (n + 1) * 3 by omega]
    | 1 => simp [madeCells, show 1 < (n + 1) * 3 by omega]
    | 2 => simp [madeCells, show 2 < (n + 1) * 3 by omega]
    | j + 3 =>
      have := ih j
      simp only [List.cons_append, List.nil_append, List.getElem?_cons_succ]
      rw [← this]
      by_cases hj : j < n * 3
      · simp [madeCells, hj, show j + 3 < (n + 1) * 3 by omega]
      · simp [madeCells, hj, show ¬ j + 3 < (n + 1) * 3 by omega]
theorem flatE_zero (n : Nat) : (List.replicate n [Value.string { data := #[] }, .int .i64 0]).flatten = cellsE (List.replicate n (({ data := #[] } : ByteArray), (0 : Int))) := by
  induction n with
  | zero => rfl
  | succ n ih => rw [List.replicate_succ, List.replicate_succ, List.flatten_cons, ih]; rfl
theorem flatN_zero (n : Nat) : (List.replicate n [Value.int .i64 0, .string { data := #[] }, .int .i64 0]).flatten = cellsN (List.replicate n ((0 : Int), ({ data := #[] } : ByteArray), (0 : Int))) := by
  induction n with
  | zero => rfl
  | succ n ih => rw [List.replicate_succ, List.replicate_succ, List.flatten_cons, ih]; rfl
theorem cellsE_set : ∀ (xs : List Ent) (k : Nat) (s : ByteArray) (i : Int), k < xs.length → ((cellsE xs).set (k * 2) (.string s)).set (k * 2 + 1) (.int .i64 i) = cellsE (xs.set k (s, i))
  | [], k, s, i, h => by simp at h
  | e :: r, 0, s, i, h => by simp [cellsE_cons]
  | e :: r, k + 1, s, i, h => by
    rw [List.set_cons_succ, cellsE_cons, cellsE_cons, ← cellsE_set r k s i (by simpa using h), show (k + 1) * 2 = k * 2 + 1 + 1 by omega]
    simp
theorem cellsN_set : ∀ (xs : List Nod) (k : Nat) (i : Int) (s : ByteArray) (j : Int), k < xs.length → (((cellsN xs).set (k * 3) (.int .i64 i)).set (k * 3 + 1) (.string s)).set (k * 3 + 2) (.int .i64 j) = cellsN (xs.set k (i, s, j))
  | [], k, i, s, j, h => by simp at h
  | e :: r, 0, i, s, j, h => by simp [cellsN_cons]
  | e :: r, k + 1, i, s, j, h => by
    rw [List.set_cons_succ, cellsN_cons, cellsN_cons, ← cellsN_set r k i s j (by simpa using h), show (k + 1) * 3 = k * 3 + 1 + 1 + 1 by omega]
    simp
theorem fill_set {α : Type} (xs : List α) (z x : α) (n k : Nat) (hl : xs.length = n) (h : k < n) (hx : xs[k]? = some x) : (xs.take k ++ List.replicate (n - k) z).set k x = xs.take (k + 1) ++ List.replicate (n - (k + 1)) z := by
  obtain ⟨m, hm⟩ : ∃ m, n - k = m + 1 := ⟨n - k - 1, by omega⟩
  have hm2 : n - (k + 1) = m := by omega
  rw [List.set_append_right _ _ (by rw [List.length_take]; omega), List.length_take, Nat.min_eq_left (by omega), Nat.sub_self, hm, hm2, List.replicate_succ, List.set_cons_zero, List.take_add_one, hx]
  simp
/-- one element stored whole into an owned row -/
theorem own_set2 {w : World} {B : Nat} {e : TypeId} {g n c k : Nat} {xs : List Ent} (h : w.ownsRow B e 2 (.slice (some ⟨g, 0, none⟩) n c) n (cellsE xs)) (hk : k < xs.length) (s : ByteArray) (i : Int) :
    ((w.setCell ⟨g, k * 2, none⟩ (.string s)).setCell ⟨g, k * 2 + 1, none⟩ (.int .i64 i)).ownsRow B e 2 (.slice (some ⟨g, 0, none⟩) n c) n (cellsE (xs.set k (s, i))) := by
  have h1 := ((h.stored (k * 2) (.string s)).1.stored (k * 2 + 1) (.int .i64 i)).1
  rwa [cellsE_set xs k s i hk] at h1
theorem own_set3 {w : World} {B : Nat} {e : TypeId} {g n c k : Nat} {xs : List Nod} (h : w.ownsRow B e 3 (.slice (some ⟨g, 0, none⟩) n c) n (cellsN xs)) (hk : k < xs.length) (i : Int) (s : ByteArray) (j : Int) :
    (((w.setCell ⟨g, k * 3, none⟩ (.int .i64 i)).setCell ⟨g, k * 3 + 1, none⟩ (.string s)).setCell ⟨g, k * 3 + 2, none⟩ (.int .i64 j)).ownsRow B e 3 (.slice (some ⟨g, 0, none⟩) n c) n (cellsN (xs.set k (i, s, j))) := by
  have h1 := (((h.stored (k * 3) (.int .i64 i)).1.stored (k * 3 + 1) (.string s)).1.stored (k * 3 + 2) (.int .i64 j)).1
  rwa [cellsN_set xs k i s j hk] at h1

theorem Tryd.infoEnt : (Tryd.prog.info? 61).map (fun i => (i.zero, i.size, i.bytes)) = some (some (.agg #[.string { data := #[] }, .int .i64 0]), 2, 24) := by kernel_rfl
theorem Tryd.infoNod : (Tryd.prog.info? 54).map (fun i => (i.zero, i.size, i.bytes)) = some (some (.agg #[.int .i64 0, .string { data := #[] }, .int .i64 0]), 3, 32) := by kernel_rfl

set_option maxHeartbeats 400000 in
theorem toEntryS_any (a : Option Addr) (c n : Nat) (xs : List Ent) (w : World) (hm : n ≤ 1048576) (ha : AtE w a n xs) :
    Calls Tryd.prog 15 #[.slice a n c] w fun e w' => e = .returned (.slice (some ⟨w.heap.size, 0, none⟩) n n) ∧ w'.ownsRow w.heap.size 61 2 (.slice (some ⟨w.heap.size, 0, none⟩) n n) n (cellsE xs) ∧ Below w.heap.size w w' := by
  obtain ⟨i0, hi, hz0, hz1, hz2⟩ := info_parts Tryd.infoEnt
  have HL := Lib.hid ha.len
  have HA := Lib.hid ha
  clear ha
  go_enter Tryd.func15, Tryd.ntmps15
  go_wp2_with (refine wpList_make_full _ (by rfl) _ _ 30 (by rfl) w.heap.size 61 i0 (.agg #[.string { data := #[] }, .int .i64 0]) 2 Tryd.underlying30 hi hz0 hz1 .i64 .i64 _ _ n (by rfl) (by rfl) ?_ ?_ ?_ ?_ ?_ ?_; omega; omega; (rw [hz2]; omega); (unfold maxLen; omega); exact Nat.le_refl _; intro w1 hown1 hg1)
  have hb1 : Below w.heap.size w w1 := (Below.refl _ _).grown hg1 (Nat.le_refl _) (fun k hk => by cases hk)
  have hown2 : w1.ownsRow w.heap.size 61 2 (.slice (some ⟨w.heap.size, 0, none⟩) n n) n (cellsE (xs.take 0 ++ List.replicate (n - 0) (({ data := #[] } : ByteArray), (0 : Int)))) := by
    rw [show (Value.agg #[.string { data := #[] }, .int .i64 0]).cells = #[.string { data := #[] }, .int .i64 0] from rfl, made2, flatE_zero] at hown1
    simpa using hown1
  clear hown1
  go_loopw [4] (fun i wr => ∃ (k : Nat), k ≤ n ∧ i = .int .i64 k ∧ wr.ownsRow w.heap.size 61 2 (.slice (some ⟨w.heap.size, 0, none⟩) n n) n (cellsE (xs.take k ++ List.replicate (n - k) (({ data := #[] } : ByteArray), (0 : Int)))) ∧ Below w.heap.size w wr) (fun i _ => n - (intOf i).toNat)
  case atStart => exact ⟨0, Nat.zero_le _, rfl, hown2, hb1⟩
  case round =>
    obtain ⟨k, hk, rfl, hown, hb⟩ := hrel
    clear hown2
    by_cases hlt : k < n
    · obtain ⟨s, i, g, o, hx, rfl, hg, c1, c2⟩ := (HA.out.below hb).get hlt
      have HS := Lib.hid (fill_set xs (({ data := #[] } : ByteArray), (0 : Int)) (s, i) n k HL.out hlt hx)
      have hkl : k < (xs.take k ++ List.replicate (n - k) (({ data := #[] } : ByteArray), (0 : Int))).length := by have := HL.out; simp; omega
      have i0 : (0 : Int) ≤ (k : Int) := by omega
      have i1 : (k : Int) < (n : Int) := by omega
      clear hx
      go_wp2_with ((go_at_call 27; refine (toEntry_any s i _).mono ?_; rintro e w1 ⟨rfl, hb1⟩; have hown1 := own_below hown hb1; obtain ⟨u, hc1⟩ : ∃ u, w1.cell? ⟨w.heap.size, k * 2, none⟩ = some u := ⟨_, (hown1.cellAt (k * 2) (by omega)).trans (List.getElem?_eq_getElem (by rw [cellsE_len]; omega))⟩; obtain ⟨u2, hc2⟩ : ∃ u, w1.cell? ⟨w.heap.size, k * 2 + 1, none⟩ = some u := ⟨_, (hown1.cellAt (k * 2 + 1) (by omega)).trans (List.getElem?_eq_getElem (by rw [cellsE_len]; omega))⟩; have hf1 := hown1.frozenAt (k * 2); have hf2 := hown1.frozenAt (k * 2 + 1)))
      go_roundw
      case rel =>
        refine ⟨k + 1, by omega, by go_num, ?_, ((hb.trans (hb1.mono hb.size)).setCell (Nat.le_refl _) _).setCell (Nat.le_refl _) _⟩
        rw [← HS.out]
        exact own_set2 hown1 hkl s i
      case measure => simp [intOf]; omega
    · obtain rfl : k = n := by omega
      have hend : xs.take k ++ List.replicate (k - k) (({ data := #[] } : ByteArray), (0 : Int)) = xs := by
        rw [Nat.sub_self, List.take_of_length_le (by rw [HL.out]; exact Nat.le_refl _)]
        simp
      rw [hend] at hown
      clear hend
      go_wp2
      go_ret
      exact ⟨rfl, hown, hb⟩

set_option maxHeartbeats 400000 in
theorem toNodeS_any (a : Option Addr) (c n : Nat) (xs : List Nod) (w : World) (hm : n ≤ 1048576) (ha : AtN w a n xs) :
    Calls Tryd.prog 14 #[.slice a n c] w fun e w' => e = .returned (.slice (some ⟨w.heap.size, 0, none⟩) n n) ∧ w'.ownsRow w.heap.size 54 3 (.slice (some ⟨w.heap.size, 0, none⟩) n n) n (cellsN xs) ∧ Below w.heap.size w w' := by
  obtain ⟨i0, hi, hz0, hz1, hz2⟩ := info_parts Tryd.infoNod
  have HL := Lib.hid ha.len
  have HA := Lib.hid ha
  clear ha
  go_enter Tryd.func14, Tryd.ntmps14
  go_wp2_with (refine wpList_make_full _ (by rfl) _ _ 29 (by rfl) w.heap.size 54 i0 (.agg #[.int .i64 0, .string { data := #[] }, .int .i64 0]) 3 Tryd.underlying29 hi hz0 hz1 .i64 .i64 _ _ n (by rfl) (by rfl) ?_ ?_ ?_ ?_ ?_ ?_; omega; omega; (rw [hz2]; omega); (unfold maxLen; omega); exact Nat.le_refl _; intro w1 hown1 hg1)
  have hb1 : Below w.heap.size w w1 := (Below.refl _ _).grown hg1 (Nat.le_refl _) (fun k hk => by cases hk)
  have hown2 : w1.ownsRow w.heap.size 54 3 (.slice (some ⟨w.heap.size, 0, none⟩) n n) n (cellsN (xs.take 0 ++ List.replicate (n - 0) ((0 : Int), ({ data := #[] } : ByteArray), (0 : Int)))) := by
    rw [show (Value.agg #[.int .i64 0, .string { data := #[] }, .int .i64 0]).cells = #[.int .i64 0, .string { data := #[] }, .int .i64 0] from rfl, made3, flatN_zero] at hown1
    simpa using hown1
  clear hown1
  go_loopw [4] (fun i wr => ∃ (k : Nat), k ≤ n ∧ i = .int .i64 k ∧ wr.ownsRow w.heap.size 54 3 (.slice (some ⟨w.heap.size, 0, none⟩) n n) n (cellsN (xs.take k ++ List.replicate (n - k) ((0 : Int), ({ data := #[] } : ByteArray), (0 : Int)))) ∧ Below w.heap.size w wr) (fun i _ => n - (intOf i).toNat)
  case atStart => exact ⟨0, Nat.zero_le _, rfl, hown2, hb1⟩
  case round =>
    obtain ⟨k, hk, rfl, hown, hb⟩ := hrel
    clear hown2
    by_cases hlt : k < n
    · obtain ⟨i, s, j, g, o, hx, rfl, hg, c1, c2, c3⟩ := (HA.out.below hb).get hlt
      have HS := Lib.hid (fill_set xs ((0 : Int), ({ data := #[] } : ByteArray), (0 : Int)) (i, s, j) n k HL.out hlt hx)
      have hkl : k < (xs.take k ++ List.replicate (n - k) ((0 : Int), ({ data := #[] } : ByteArray), (0 : Int))).length := by have := HL.out; simp; omega
      have i0 : (0 : Int) ≤ (k : Int) := by omega
      have i1 : (k : Int) < (n : Int) := by omega
      clear hx
      go_wp2_with ((go_at_call 26; refine (toNode_any i s j _).mono ?_; rintro e w1 ⟨rfl, hb1⟩; have hown1 := own_below hown hb1; obtain ⟨u, hc1⟩ : ∃ u, w1.cell? ⟨w.heap.size, k * 3, none⟩ = some u := ⟨_, (hown1.cellAt (k * 3) (by omega)).trans (List.getElem?_eq_getElem (by rw [cellsN_len]; omega))⟩; obtain ⟨u2, hc2⟩ : ∃ u, w1.cell? ⟨w.heap.size, k * 3 + 1, none⟩ = some u := ⟨_, (hown1.cellAt (k * 3 + 1) (by omega)).trans (List.getElem?_eq_getElem (by rw [cellsN_len]; omega))⟩; obtain ⟨u3, hc3⟩ : ∃ u, w1.cell? ⟨w.heap.size, k * 3 + 2, none⟩ = some u := ⟨_, (hown1.cellAt (k * 3 + 2) (by omega)).trans (List.getElem?_eq_getElem (by rw [cellsN_len]; omega))⟩; have hf1 := hown1.frozenAt (k * 3); have hf3 := hown1.frozenAt (k * 3 + 2); have hf2 := hown1.frozenAt (k * 3 + 1)))
      go_roundw
      case rel =>
        refine ⟨k + 1, by omega, by go_num, ?_, (((hb.trans (hb1.mono hb.size)).setCell (Nat.le_refl _) _).setCell (Nat.le_refl _) _).setCell (Nat.le_refl _) _⟩
        rw [← HS.out]
        exact own_set3 hown1 hkl i s j
      case measure => simp [intOf]; omega
    · obtain rfl : k = n := by omega
      have hend : xs.take k ++ List.replicate (k - k) ((0 : Int), ({ data := #[] } : ByteArray), (0 : Int)) = xs := by
        rw [Nat.sub_self, List.take_of_length_le (by rw [HL.out]; exact Nat.le_refl _)]
        simp
      rw [hend] at hown
      clear hend
      go_wp2
      go_ret
      exact ⟨rfl, hown, hb⟩

end Go.Proofs.YtiehfobcbhgfkaaDoor.recs

namespace Go.Proofs.YtiehfobcbhgfkaaDoor.recs
set_option maxRecDepth 20000
open Go.RowKit
open kit strs

/-! ### how much -/
theorem szEntry_any (s : ByteArray) (i : Int) (m : Nat) (w : World) (hm : m ≤ 1048576) (hs : s.size ≤ 9223372036854775807) :
    Calls Tryd.prog 23 #[.agg #[.string s, .int .i64 i], .int .i64 m] w fun e w' => e = .returned (.int .i64 (if m < s.size then -1 else ((m - s.size : Nat) : Int))) ∧ Below w.heap.size w w' := by
  by_cases hb : m < s.size
  · rw [if_pos hb]
    have hw : IntKind.i64.wrap ((m : Int) - (s.size : Int)) = (m : Int) - (s.size : Int) := by rw [IntKind.wrap_i64]; omega
    have hneg : (m : Int) - (s.size : Int) < 0 := by omega
    go_enter Tryd.func23, Tryd.ntmps23
    go_wp2
    go_ret
    exact ⟨rfl, (Below.refl _ _).alloc (Nat.le_refl _) _⟩
  · rw [if_neg hb]
    have hw : IntKind.i64.wrap ((m : Int) - (s.size : Int)) = ((m - s.size : Nat) : Int) := by rw [IntKind.wrap_i64]; omega
    obtain ⟨m2, hm2⟩ : ∃ m2, m - s.size = m2 := ⟨_, rfl⟩
    rw [hm2] at hw ⊢
    clear hm2
    go_enter Tryd.func23, Tryd.ntmps23
    go_wp2
    go_ret
    exact ⟨rfl, (Below.refl _ _).alloc (Nat.le_refl _) _⟩
theorem szNode_any (i : Int) (s : ByteArray) (j : Int) (m : Nat) (w : World) (hm : m ≤ 1048576) (hs : s.size ≤ 9223372036854775807) :
    Calls Tryd.prog 22 #[.agg #[.int .i64 i, .string s, .int .i64 j], .int .i64 m] w fun e w' => e = .returned (.int .i64 (if m < s.size then -1 else ((m - s.size : Nat) : Int))) ∧ Below w.heap.size w w' := by
  by_cases hb : m < s.size
  · rw [if_pos hb]
    have hw : IntKind.i64.wrap ((m : Int) - (s.size : Int)) = (m : Int) - (s.size : Int) := by rw [IntKind.wrap_i64]; omega
    have hneg : (m : Int) - (s.size : Int) < 0 := by omega
    go_enter Tryd.func22, Tryd.ntmps22
    go_wp2
    go_ret
    exact ⟨rfl, (Below.refl _ _).alloc (Nat.le_refl _) _⟩
  · rw [if_neg hb]
    have hw : IntKind.i64.wrap ((m : Int) - (s.size : Int)) = ((m - s.size : Nat) : Int) := by rw [IntKind.wrap_i64]; omega
    obtain ⟨m2, hm2⟩ : ∃ m2, m - s.size = m2 := ⟨_, rfl⟩
    rw [hm2] at hw ⊢
    clear hm2
    go_enter Tryd.func22, Tryd.ntmps22
    go_wp2
    go_ret
    exact ⟨rfl, (Below.refl _ _).alloc (Nat.le_refl _) _⟩

set_option maxHeartbeats 400000 in
theorem szEntryS_any (a : Option Addr) (c n : Nat) (left : Nat) (xs : List Ent) (w : World) (hl : left ≤ 1048576) (hm : n ≤ 9223372036854775807) (ha : AtE w a n xs) (hs : ∀ e ∈ xs, e.1.size ≤ 9223372036854775807) :
    Calls Tryd.prog 10 #[.slice a n c, .int .i64 left] w fun e w' => e = .returned (.int .i64 (szI left (xs.map (·.1)))) ∧ Below w.heap.size w w' := by
  have HL := Lib.hid (show (xs.map (·.1)).length = n by rw [List.length_map]; exact ha.len)
  have HA := Lib.hid ha
  have HS := Lib.hid hs
  clear ha hs
  by_cases h0 : left < n
  · have HE := Lib.hid (show szI left (xs.map (·.1)) = -1 from if_neg (by rw [HL.out]; omega))
    go_enter Tryd.func10, Tryd.ntmps10
    go_wp2
    go_ret
    exact ⟨by rw [HE.out]; rfl, Below.refl _ _⟩
  · go_enter Tryd.func10, Tryd.ntmps10
    go_wp2
    go_loopw [1, 5] (fun l i wr => ∃ (k m : Nat), k ≤ n ∧ i = .int .i64 k ∧ l = .int .i64 m ∧ m + n + tot ((xs.map (·.1)).take k) = left ∧ Below w.heap.size w wr) (fun _ i _ => n - (intOf i).toNat)
    case atStart => exact ⟨0, left - n, Nat.zero_le _, rfl, by congr 1; omega, by simp [tot]; omega, Below.refl _ _⟩
    case round =>
      obtain ⟨k, m, hk, rfl, rfl, ht, hb⟩ := hrel
      by_cases hlt : k < n
      · obtain ⟨s, i, g, o, hx, rfl, hg, c1, c2⟩ := (HA.out.below hb).get hlt
        have hxk : (xs.map (·.1))[k]? = some s := by rw [List.getElem?_map, hx]; rfl
        have hxs := HS.out _ (List.mem_of_getElem? hx)
        have htx := tot_snoc (xs.map (·.1)) k s hxk
        have htl := tot_le (xs.map (·.1)) (k + 1)
        have hmm : m ≤ 1048576 := by omega
        have i0 : (0 : Int) ≤ (k : Int) := by omega
        have i1 : (k : Int) < (n : Int) := by omega
        by_cases hbb : m < s.size
        · have HE := Lib.hid (show szI left (xs.map (·.1)) = -1 from if_neg (by rw [HL.out]; omega))
          have HT := Lib.hid hbb
          clear hx hxk htx htl ht
          go_wp2_with ((go_at_call 23; refine (szEntry_any s i m _ hmm hxs).mono ?_; rw [if_pos HT.out]; rintro e w1 ⟨rfl, hb1⟩))
          go_ret
          exact ⟨by rw [HE.out]; rfl, hb.trans (hb1.mono hb.size)⟩
        · obtain ⟨m2, hm2⟩ : ∃ m2, m - s.size = m2 := ⟨_, rfl⟩
          have HT := Lib.hid (show m2 + n + tot ((xs.map (·.1)).take (k + 1)) = left by omega)
          have HN := Lib.hid hbb
          have HM := Lib.hid hm2
          clear hm2 hx hxk htx htl ht hbb
          go_wp2_with ((go_at_call 23; refine (szEntry_any s i m _ hmm hxs).mono ?_; rw [if_neg HN.out, HM.out]; rintro e w1 ⟨rfl, hb1⟩))
          go_roundw
          case rel => exact ⟨k + 1, m2, by omega, by go_num, rfl, HT.out, hb.trans (hb1.mono hb.size)⟩
          case measure => simp [intOf]; omega
      · obtain rfl : k = n := by omega
        have HE := Lib.hid (show szI left (xs.map (·.1)) = (m : Int) by
          rw [List.take_of_length_le (by rw [HL.out]; exact Nat.le_refl _)] at ht
          unfold szI
          rw [if_pos (by rw [HL.out]; omega), HL.out]
          omega)
        clear ht
        go_wp2
        go_ret
        exact ⟨by rw [HE.out]; rfl, hb⟩

set_option maxHeartbeats 400000 in
theorem szNodeS_any (a : Option Addr) (c n : Nat) (left : Nat) (xs : List Nod) (w : World) (hl : left ≤ 1048576) (hm : n ≤ 9223372036854775807) (ha : AtN w a n xs) (hs : ∀ e ∈ xs, e.2.1.size ≤ 9223372036854775807) :
    Calls Tryd.prog 9 #[.slice a n c, .int .i64 left] w fun e w' => e = .returned (.int .i64 (szI left (xs.map (·.2.1)))) ∧ Below w.heap.size w w' := by
  have HL := Lib.hid (show (xs.map (·.2.1)).length = n by rw [List.length_map]; exact ha.len)
  have HA := Lib.hid ha
  have HS := Lib.hid hs
  clear ha hs
  by_cases h0 : left < n
  · have HE := Lib.hid (show szI left (xs.map (·.2.1)) = -1 from if_neg (by rw [HL.out]; omega))
    go_enter Tryd.func9, Tryd.ntmps9
    go_wp2
    go_ret
    exact ⟨by rw [HE.out]; rfl, Below.refl _ _⟩
  · go_enter Tryd.func9, Tryd.ntmps9
    go_wp2
    go_loopw [1, 5] (fun l i wr => ∃ (k m : Nat), k ≤ n ∧ i = .int .i64 k ∧ l = .int .i64 m ∧ m + n + tot ((xs.map (·.2.1)).take k) = left ∧ Below w.heap.size w wr) (fun _ i _ => n - (intOf i).toNat)
    case atStart => exact ⟨0, left - n, Nat.zero_le _, rfl, by congr 1; omega, by simp [tot]; omega, Below.refl _ _⟩
    case round =>
      obtain ⟨k, m, hk, rfl, rfl, ht, hb⟩ := hrel
      by_cases hlt : k < n
      · obtain ⟨z, s, z', g, o, hx, rfl, hg, c1, c2, c3⟩ := (HA.out.below hb).get hlt
        have hxk : (xs.map (·.2.1))[k]? = some s := by rw [List.getElem?_map, hx]; rfl
        have hxs := HS.out _ (List.mem_of_getElem? hx)
        have htx := tot_snoc (xs.map (·.2.1)) k s hxk
        have htl := tot_le (xs.map (·.2.1)) (k + 1)
        have hmm : m ≤ 1048576 := by omega
        have i0 : (0 : Int) ≤ (k : Int) := by omega
        have i1 : (k : Int) < (n : Int) := by omega
        by_cases hbb : m < s.size
        · have HE := Lib.hid (show szI left (xs.map (·.2.1)) = -1 from if_neg (by rw [HL.out]; omega))
          have HT := Lib.hid hbb
          clear hx hxk htx htl ht
          go_wp2_with ((go_at_call 22; refine (szNode_any z s z' m _ hmm hxs).mono ?_; rw [if_pos HT.out]; rintro e w1 ⟨rfl, hb1⟩))
          go_ret
          exact ⟨by rw [HE.out]; rfl, hb.trans (hb1.mono hb.size)⟩
        · obtain ⟨m2, hm2⟩ : ∃ m2, m - s.size = m2 := ⟨_, rfl⟩
          have HT := Lib.hid (show m2 + n + tot ((xs.map (·.2.1)).take (k + 1)) = left by omega)
          have HN := Lib.hid hbb
          have HM := Lib.hid hm2
          clear hm2 hx hxk htx htl ht hbb
          go_wp2_with ((go_at_call 22; refine (szNode_any z s z' m _ hmm hxs).mono ?_; rw [if_neg HN.out, HM.out]; rintro e w1 ⟨rfl, hb1⟩))
          go_roundw
          case rel => exact ⟨k + 1, m2, by omega, by go_num, rfl, HT.out, hb.trans (hb1.mono hb.size)⟩
          case measure => simp [intOf]; omega
      · obtain rfl : k = n := by omega
        have HE := Lib.hid (show szI left (xs.map (·.2.1)) = (m : Int) by
          rw [List.take_of_length_le (by rw [HL.out]; exact Nat.le_refl _)] at ht
          unfold szI
          rw [if_pos (by rw [HL.out]; omega), HL.out]
          omega)
        clear ht
        go_wp2
        go_ret
        exact ⟨by rw [HE.out]; rfl, hb⟩

/-! ### marks -/
def marksE (k n : Nat) : List Ent := (List.range n).map fun i => (markB (k + 2 * i), ((k + 2 * i + 1 : Nat) : Int))
def marksN (k n : Nat) : List Nod := (List.range n).map fun i => (((k + 3 * i : Nat) : Int), markB (k + 3 * i + 1), ((k + 3 * i + 2 : Nat) : Int))
theorem marksE_at (k n j : Nat) (h : j < n) : (marksE k n)[j]? = some (markB (k + 2 * j), ((k + 2 * j + 1 : Nat) : Int)) := by simp [marksE, h]
theorem marksN_at (k n j : Nat) (h : j < n) : (marksN k n)[j]? = some (((k + 3 * j : Nat) : Int), markB (k + 3 * j + 1), ((k + 3 * j + 2 : Nat) : Int)) := by simp [marksN, h]
theorem marksE_len (k n : Nat) : (marksE k n).length = n := by simp [marksE]
theorem marksN_len (k n : Nat) : (marksN k n).length = n := by simp [marksN]
theorem part_set {α : Type} (ms ms' xs : List α) (x : α) (n j : Nat) (hm : ms.length = j) (hm' : ms' = ms ++ [x]) (hl : xs.length = n) (h : j < n) : (ms ++ xs.drop j).set j x = ms' ++ xs.drop (j + 1) := by
  subst hm'
  rw [List.set_append_right _ _ (by omega), hm, Nat.sub_self, List.drop_eq_getElem_cons (by omega), List.set_cons_zero]
  simp
theorem marksE_snoc (k j : Nat) : marksE k (j + 1) = marksE k j ++ [(markB (k + 2 * j), ((k + 2 * j + 1 : Nat) : Int))] := by simp [marksE, List.range_succ]
theorem marksN_snoc (k j : Nat) : marksN k (j + 1) = marksN k j ++ [(((k + 3 * j : Nat) : Int), markB (k + 3 * j + 1), ((k + 3 * j + 2 : Nat) : Int))] := by simp [marksN, List.range_succ]

end Go.Proofs.YtiehfobcbhgfkaaDoor.recs

namespace Go.Proofs.YtiehfobcbhgfkaaDoor.recs
set_option maxRecDepth 20000
open Go.ChangeShapes Go.WideShapes Go.RowKit Go.Deep
open kit strs

section
variable {H : Type} {enc : TypeId × Value → H} {P : Program} {w : World} {spare : Nat → Bool} {held : Bool}

/-- the cells of a slice of structs, element by element -/
theorem open_cells {t e : TypeId} {size fuel : Nat} {cs : List Value} {x : DataW H × List MemPlace} (ht : P.underlying t = some (.slice e)) (hc : P.cellsOf e = size) (hs : 0 < size) (h : DataW.trod enc P w 0 spare held fuel t cs = some x) :
    ∃ (a : Option Addr) (len cap n : Nat) (C : Nat → List Value), cs = [.slice a len cap] ∧ len ≤ maxLen ∧ (len = 0 ∨ ∃ b off, a = some ⟨b, off, none⟩ ∧ b < w.heap.size ∧ ∀ i, i < len → ∀ j y, (C i)[j]? = some y → w.cell? ⟨b, off + (i * size + j), none⟩ = some y) ∧
      ∀ i, i < len → (C i).length = size ∧ ∃ z, DataW.trod enc P w 0 spare held n e (C i) = some z := by
  rcases open_slice ht h with ⟨rfl, _⟩ | ⟨a, len, cap, m, n, D, Pl, rfl, _, hl, hm, hmm, _, hi⟩
  · exact ⟨none, 0, 0, 0, fun _ => [], rfl, by decide, .inl rfl, fun i hi => absurd hi (Nat.not_lt_zero _)⟩
  · have hle : len ≤ m := by rw [hmm]; split <;> omega
    have hex : ∀ i, i < len → ∃ c : List Value, c.length = size ∧ (∀ j y, c[j]? = some y → w.cell? ((a.add (i * size)).add j) = some y) ∧ ∃ z, DataW.trod enc P w 0 spare held n e c = some z := by
      intro i hil
      obtain ⟨c, hcs, htr⟩ := hi i (by omega)
      rw [hc] at hcs
      obtain ⟨_, hlen, hat⟩ := World.cells?_some hcs
      exact ⟨c, hlen, fun j y hj => (hat j (by rw [← hlen]; exact (List.getElem?_eq_some_iff.1 hj).1)).trans hj, _, htr⟩
    obtain ⟨C, hC⟩ := choose_lt hex
    refine ⟨some a, len, cap, n, C, rfl, by omega, ?_, fun i hi => ⟨(hC i hi).1, (hC i hi).2.2⟩⟩
    by_cases h0 : len = 0
    · exact .inl h0
    obtain ⟨b, off, spot⟩ := a
    have hy0 : (C 0)[0]? = some ((C 0)[0]'(by have := (hC 0 (by omega)).1; omega)) := List.getElem?_eq_getElem _
    have hcell := (hC 0 (by omega)).2.1 0 _ hy0
    have hspot : spot = none := by simpa [Addr.add] using World.cell?_spot hcell
    subst hspot
    have e1 : ∀ k j, ((⟨b, off, none⟩ : Addr).add k).add j = ⟨b, off + (k + j), none⟩ := fun k j => by rw [Go.WideShapes.add_plain, Go.WideShapes.add_plain, Nat.add_assoc]
    rw [e1] at hcell
    exact .inr ⟨b, off, rfl, World.block_lt_of_cell? w _ hcell, fun i hi j y hj => by rw [← e1]; exact (hC i hi).2.1 j y hj⟩

theorem cellsE_inv : ∀ (xs : List Ent) (j : Nat) (x : Value), (cellsE xs)[j]? = some x → ∃ e, xs[j / 2]? = some e ∧ ([.string e.1, .int .i64 e.2] : List Value)[j % 2]? = some x
  | [], j, x, h => by simp [cellsE] at h
  | e :: r, 0, x, h => ⟨e, rfl, by rw [cellsE_cons] at h; simpa using h⟩
  | e :: r, 1, x, h => ⟨e, rfl, by rw [cellsE_cons] at h; simpa using h⟩
  | e :: r, j + 2, x, h => by
    rw [cellsE_cons] at h
    obtain ⟨e', h1, h2⟩ := cellsE_inv r j x (by simpa using h)
    exact ⟨e', by rw [show (j + 2) / 2 = j / 2 + 1 by omega]; simpa using h1, by rw [show (j + 2) % 2 = j % 2 by omega]; exact h2⟩
theorem cellsN_inv : ∀ (xs : List Nod) (j : Nat) (x : Value), (cellsN xs)[j]? = some x → ∃ e, xs[j / 3]? = some e ∧ ([.int .i64 e.1, .string e.2.1, .int .i64 e.2.2] : List Value)[j % 3]? = some x
  | [], j, x, h => by simp [cellsN] at h
  | e :: r, 0, x, h => ⟨e, rfl, by rw [cellsN_cons] at h; simpa using h⟩
  | e :: r, 1, x, h => ⟨e, rfl, by rw [cellsN_cons] at h; simpa using h⟩
  | e :: r, 2, x, h => ⟨e, rfl, by rw [cellsN_cons] at h; simpa using h⟩
  | e :: r, j + 3, x, h => by
    rw [cellsN_cons] at h
    obtain ⟨e', h1, h2⟩ := cellsN_inv r j x (by simpa using h)
    exact ⟨e', by rw [show (j + 3) / 3 = j / 3 + 1 by omega]; simpa using h1, by rw [show (j + 3) % 3 = j % 3 by omega]; exact h2⟩

def wfI (x : Int) : Prop := -9223372036854775808 ≤ x ∧ x ≤ 9223372036854775807
theorem wfI_of {x : Int} (h : (Lit.int .i64 x).wf = true) : wfI x := by
  have i1 : IntKind.i64.min = -9223372036854775808 := rfl
  have i2 : IntKind.i64.max = 9223372036854775807 := rfl
  unfold wfI
  simpa [Lit.wf, i1, i2] using h
def wfE (xs : List Ent) : Prop := ∀ e ∈ xs, e.1.size ≤ maxLen ∧ wfI e.2
def wfN (xs : List Nod) : Prop := ∀ e ∈ xs, wfI e.1 ∧ e.2.1.size ≤ maxLen ∧ wfI e.2.2

theorem rd_E {t e : TypeId} {f0 f1 : Field} {fuel : Nat} {cs : List Value} {x : DataW H × List MemPlace} (ht : P.underlying t = some (.slice e)) (he : P.underlying e = some (.struct #[f0, f1])) (hc : P.cellsOf e = 2) (o0 : f0.offset = 0) (o1 : f1.offset = 1)
    (c0 : P.cellsOf f0.type = 1) (c1 : P.cellsOf f1.type = 1) (u0 : P.underlying f0.type = some .string) (u1 : P.underlying f1.type = some (.int .i64))
    (h : DataW.trod enc P w 0 spare held fuel t cs = some x) : ∃ a n c xs, cs = [.slice a n c] ∧ n ≤ maxLen ∧ AtE w a n xs ∧ wfE xs := by
  obtain ⟨a, len, cap, m, C, rfl, hm, hcell, hC⟩ := open_cells ht hc (by decide) h
  have hex : ∀ i, i < len → ∃ y : Ent, C i = [.string y.1, .int .i64 y.2] ∧ y.1.size ≤ maxLen ∧ wfI y.2 := by
    intro i hi
    obtain ⟨hl, z, hz⟩ := hC i hi
    obtain ⟨y0, y1, n, _, _, g0, g1⟩ := trod_struct2 he hz
    rw [o0, c0] at g0
    rw [o1, c1] at g1
    obtain ⟨s, e0, _, w0⟩ := DataW.trod_string u0 g0
    obtain ⟨b, e1, _, w1⟩ := DataW.trod_int u1 g1
    match hCi : C i, hl with
    | [p, q], _ =>
      rw [hCi] at e0 e1
      simp at e0 e1
      subst e0 e1
      exact ⟨(s, b), rfl, w0, wfI_of w1⟩
  obtain ⟨f, hf⟩ := choose_lt hex
  refine ⟨a, len, cap, (List.range len).map f, rfl, hm, ⟨by rw [cellsE_len]; simp, ?_⟩, ?_⟩
  · refine hcell.imp id fun ⟨b, off, h1, h2, h3⟩ => ⟨b, off, h1, h2, fun j y hj => ?_⟩
    obtain ⟨en, hen, hy⟩ := cellsE_inv _ _ _ hj
    have hk : j / 2 < len := by have := (List.getElem?_eq_some_iff.1 hen).1; simpa using this
    have e2 : f (j / 2) = en := by rw [List.getElem?_map, List.getElem?_range hk] at hen; simpa using hen
    have := h3 (j / 2) hk (j % 2) y (by rw [(hf (j / 2) hk).1, e2]; exact hy)
    rwa [show j / 2 * 2 + j % 2 = j by omega] at this
  · intro en hen
    obtain ⟨i, hi, rfl⟩ := List.mem_map.1 hen
    exact (hf i (by simpa using hi)).2
theorem rd_N {t e : TypeId} {f0 f1 f2 : Field} {fuel : Nat} {cs : List Value} {x : DataW H × List MemPlace} (ht : P.underlying t = some (.slice e)) (he : P.underlying e = some (.struct #[f0, f1, f2])) (hc : P.cellsOf e = 3) (o0 : f0.offset = 0) (o1 : f1.offset = 1) (o2 : f2.offset = 2)
    (c0 : P.cellsOf f0.type = 1) (c1 : P.cellsOf f1.type = 1) (c2 : P.cellsOf f2.type = 1) (u0 : P.underlying f0.type = some (.int .i64)) (u1 : P.underlying f1.type = some .string) (u2 : P.underlying f2.type = some (.int .i64))
    (h : DataW.trod enc P w 0 spare held fuel t cs = some x) : ∃ a n c xs, cs = [.slice a n c] ∧ n ≤ maxLen ∧ AtN w a n xs ∧ wfN xs := by
  obtain ⟨a, len, cap, m, C, rfl, hm, hcell, hC⟩ := open_cells ht hc (by decide) h
  have hex : ∀ i, i < len → ∃ y : Nod, C i = [.int .i64 y.1, .string y.2.1, .int .i64 y.2.2] ∧ wfI y.1 ∧ y.2.1.size ≤ maxLen ∧ wfI y.2.2 := by
    intro i hi
    obtain ⟨hl, z, hz⟩ := hC i hi
    obtain ⟨y0, y1, y2, n, _, _, g0, g1, g2⟩ := trod_struct3 he hz
    rw [o0, c0] at g0
    rw [o1, c1] at g1
    rw [o2, c2] at g2
    obtain ⟨a0, e0, _, w0⟩ := DataW.trod_int u0 g0
    obtain ⟨s, e1, _, w1⟩ := DataW.trod_string u1 g1
    obtain ⟨b, e2, _, w2⟩ := DataW.trod_int u2 g2
    match hCi : C i, hl with
    | [p, q, r], _ =>
      rw [hCi] at e0 e1 e2
      simp at e0 e1 e2
      subst e0 e1 e2
      exact ⟨(a0, s, b), rfl, wfI_of w0, w1, wfI_of w2⟩
  obtain ⟨f, hf⟩ := choose_lt hex
  refine ⟨a, len, cap, (List.range len).map f, rfl, hm, ⟨by rw [cellsN_len]; simp, ?_⟩, ?_⟩
  · refine hcell.imp id fun ⟨b, off, h1, h2, h3⟩ => ⟨b, off, h1, h2, fun j y hj => ?_⟩
    obtain ⟨en, hen, hy⟩ := cellsN_inv _ _ _ hj
    have hk : j / 3 < len := by have := (List.getElem?_eq_some_iff.1 hen).1; simpa using this
    have e2 : f (j / 3) = en := by rw [List.getElem?_map, List.getElem?_range hk] at hen; simpa using hen
    have := h3 (j / 3) hk (j % 3) y (by rw [(hf (j / 3) hk).1, e2]; exact hy)
    rwa [show j / 3 * 3 + j % 3 = j by omega] at this
  · intro en hen
    obtain ⟨i, hi, rfl⟩ := List.mem_map.1 hen
    exact (hf i (by simpa using hi)).2
theorem rd_S {t e : TypeId} {fuel : Nat} {cs : List Value} {x : DataW H × List MemPlace} (ht : P.underlying t = some (.slice e)) (he : P.underlying e = some .string) (hc : P.cellsOf e = 1)
    (h : DataW.trod enc P w 0 spare held fuel t cs = some x) : ∃ a n c xs, cs = [.slice a n c] ∧ n ≤ maxLen ∧ At w a n xs ∧ ∀ s ∈ xs, s.size ≤ maxLen := by
  obtain ⟨a, len, cap, m, C, rfl, hm, hcell, hC⟩ := open_cells ht hc (by decide) h
  have hex : ∀ i, i < len → ∃ y : ByteArray, C i = [.string y] ∧ y.size ≤ maxLen := by
    intro i hi
    obtain ⟨hl, z, hz⟩ := hC i hi
    obtain ⟨s, e0, _, w0⟩ := DataW.trod_string he hz
    exact ⟨s, e0, w0⟩
  obtain ⟨f, hf⟩ := choose_lt (α := ByteArray) (hex)
  refine ⟨a, len, cap, (List.range len).map f, rfl, hm, ⟨by simp, ?_⟩, ?_⟩
  · refine hcell.imp id fun ⟨b, off, h1, h2, h3⟩ => ⟨b, off, h1, h2, fun j y hj => ?_⟩
    have hk : j < len := by have := (List.getElem?_eq_some_iff.1 hj).1; simpa using this
    have e2 : f j = y := by rw [List.getElem?_map, List.getElem?_range hk] at hj; simpa using hj
    have := h3 j hk 0 (.string y) (by rw [(hf j hk).1, e2]; rfl)
    simpa using this
  · intro en hen
    obtain ⟨i, hi, rfl⟩ := List.mem_map.1 hen
    exact (hf i (by simpa using hi)).2
theorem rd_I {t e : TypeId} {fuel : Nat} {cs : List Value} {x : DataW H × List MemPlace} (ht : P.underlying t = some (.slice e)) (he : P.underlying e = some (.int .i64)) (hc : P.cellsOf e = 1)
    (h : DataW.trod enc P w 0 spare held fuel t cs = some x) : ∃ (a : Option Addr) (n c : Nat) (xs : List Int), cs = [.slice a n c] ∧ n ≤ maxLen ∧ Cells w a n 1 (xs.map (Value.int .i64)) ∧ ∀ s ∈ xs, wfI s := by
  obtain ⟨a, len, cap, m, C, rfl, hm, hcell, hC⟩ := open_cells ht hc (by decide) h
  have hex : ∀ i, i < len → ∃ y : Int, C i = [.int .i64 y] ∧ wfI y := by
    intro i hi
    obtain ⟨hl, z, hz⟩ := hC i hi
    obtain ⟨s, e0, _, w0⟩ := DataW.trod_int he hz
    exact ⟨s, e0, wfI_of w0⟩
  obtain ⟨f, hf⟩ := choose_lt hex
  refine ⟨a, len, cap, (List.range len).map f, rfl, hm, ⟨by simp, ?_⟩, ?_⟩
  · refine hcell.imp id fun ⟨b, off, h1, h2, h3⟩ => ⟨b, off, h1, h2, fun j y hj => ?_⟩
    have hk : j < len := by have := (List.getElem?_eq_some_iff.1 hj).1; simpa using this
    have e2 : Value.int .i64 (f j) = y := by rw [List.getElem?_map, List.getElem?_map, List.getElem?_range hk] at hj; simpa using hj
    have := h3 j hk 0 y (by rw [(hf j hk).1, e2]; rfl)
    simpa using this
  · intro en hen
    obtain ⟨i, hi, rfl⟩ := List.mem_map.1 hen
    exact (hf i (by simpa using hi)).2
/-- a slice of numbers -/
def AtI (w : World) (a : Option Addr) (n : Nat) (xs : List Int) : Prop := Cells w a n 1 (xs.map (Value.int .i64))
theorem one_slice {t : TypeId} {fuel : Nat} {v : Value} {x : DataW H × List MemPlace} {cs : List Value} {b : Option Addr} {n c : Nat} (_ : DataW.trod enc P w 0 spare held fuel t cs = some x) (e : cs = [v]) (e2 : cs = [.slice b n c]) : v = .slice b n c := by
  rw [e] at e2
  simpa using e2
theorem slice_list {e t : TypeId} {r : Reach} {b0 : Nat} {v : Value} (ht : P.underlying t = some (.slice e)) (hv : Value.okWide P w r b0 t v) : v.cells.toList = [v] := by
  obtain ⟨a, l, c, rfl⟩ := okWide_slice ht hv
  rfl
set_option maxRecDepth 1000000 in
theorem op_S {r : Reach} {b0 : Nat} {v : Value} {d : DataW H} {p : List MemPlace} (hv : Value.okWide Tryd.prog w r b0 24 v) (h : DataW.Trod enc Tryd.prog w 0 spare held 24 v d p) :
    ∃ a n c xs, v = .slice a n c ∧ n ≤ maxLen ∧ At w a n xs ∧ ∀ s ∈ xs, s.size ≤ maxLen := by
  obtain ⟨fuel, hf⟩ := h
  obtain ⟨a, n, c, xs, hcs, hm, ha, hw⟩ := rd_S (P := Tryd.prog) Tryd.underlying24 Tryd.underlying9 (by kernel_rfl) hf
  exact ⟨a, n, c, xs, one_slice (P := Tryd.prog) hf (slice_list (P := Tryd.prog) Tryd.underlying24 hv) hcs, hm, ha, hw⟩
set_option maxRecDepth 1000000 in
theorem op_E {r : Reach} {b0 : Nat} {v : Value} {d : DataW H} {p : List MemPlace} (hv : Value.okWide Tryd.prog w r b0 23 v) (h : DataW.Trod enc Tryd.prog w 0 spare held 23 v d p) :
    ∃ a n c xs, v = .slice a n c ∧ n ≤ maxLen ∧ AtE w a n xs ∧ wfE xs := by
  obtain ⟨fuel, hf⟩ := h
  obtain ⟨a, n, c, xs, hcs, hm, ha, hw⟩ := rd_E (P := Tryd.prog) Tryd.underlying23 Tryd.underlying53 (by kernel_rfl) rfl rfl (by kernel_rfl) (by kernel_rfl) (by kernel_rfl) (by kernel_rfl) hf
  exact ⟨a, n, c, xs, one_slice (P := Tryd.prog) hf (slice_list (P := Tryd.prog) Tryd.underlying23 hv) hcs, hm, ha, hw⟩
end

end Go.Proofs.YtiehfobcbhgfkaaDoor.recs
