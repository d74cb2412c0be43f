/-
  Lists of texts, of entries and disks under one form: what a value holds, memory of its own, copies, equality, marks, how much.
-/
import Derived.Test.YtiehfobcbhgfkaaDoorDkMath
namespace Go.Proofs.YtiehfobcbhgfkaaDoor.kd
set_option maxRecDepth 20000
open Go.RowKit
open kit strs recs disk

/-! ### lists of texts -/
def IsSS (w : World) (v : Value) (xs : List ByteArray) : Prop := ∃ (a : Option Addr) (n c : Nat), v = .slice a n c ∧ strs.At w a n xs
def OwnSS (B : Nat) (w : World) (v : Value) (xs : List ByteArray) : Prop := ∃ n, w.ownsRow B 9 1 v n (xs.map Value.string)
theorem IsSS.below {w w' : World} {v : Value} {xs : List ByteArray} (h : IsSS w v xs) (hb : Below w.heap.size w w') : IsSS w' v xs := by
  obtain ⟨a, n, c, rfl, h⟩ := h
  exact ⟨a, n, c, rfl, h.below hb⟩
theorem OwnSS.is {B : Nat} {w : World} {v : Value} {xs : List ByteArray} (h : OwnSS B w v xs) : IsSS w v xs := by
  obtain ⟨n, h⟩ := h
  obtain ⟨a, c, rfl, _⟩ := own_shape h
  exact ⟨a, n, c, rfl, At.of_own h⟩
theorem OwnSS.base {B B' : Nat} {w : World} {v : Value} {xs : List ByteArray} (h : OwnSS B w v xs) (hB : B' ≤ B) : OwnSS B' w v xs := ⟨h.choose, own_base h.choose_spec hB⟩
theorem OwnSS.below {B : Nat} {w w' : World} {v : Value} {xs : List ByteArray} (h : OwnSS B w v xs) (hb : Below w.heap.size w w') : OwnSS B w' v xs := ⟨h.choose, own_below h.choose_spec hb⟩
theorem row_slice {w : World} {B size n : Nat} {e : TypeId} {v : Value} {xs : List Value} (h : w.ownsRow B e size v n xs) : ∀ k, rows v k → v.ownBlock = some k ∧ B ≤ k ∧ k < w.heap.size := by
  intro k hk
  rcases h.2 with ⟨rfl, _⟩ | ⟨g', cap, cur, rfl, hB, hh, _⟩
  · simp [rows, Value.ownBlock] at hk
  · have hk' := hk
    simp only [rows, Value.ownBlock, Option.some.injEq] at hk'
    subst hk'
    exact ⟨rfl, hB, (Array.getElem?_eq_some_iff.1 hh).1⟩
theorem rows_own {w : World} {B size n : Nat} {e : TypeId} {v : Value} {xs : List Value} (h : w.ownsRow B e size v n xs) : ∀ k, v.ownBlock = some k → rows v k := by
  intro k hk
  rcases h.2 with ⟨rfl, _⟩ | ⟨g', cap, cur, rfl, _⟩
  · exact hk
  · exact hk
theorem OwnSS.rows {B : Nat} {w : World} {v : Value} {xs : List ByteArray} (h : OwnSS B w v xs) : ∀ k, disk.rows v k → B ≤ k ∧ k < w.heap.size := fun k hk => (row_slice h.choose_spec k hk).2
theorem OwnSS.only {B : Nat} {w w' : World} {v : Value} {xs : List ByteArray} {S : Nat → Prop} (h : OwnSS B w v xs) (o : Only w w' S) (hs : ∀ k, disk.rows v k → ¬ S k) : OwnSS B w' v xs :=
  ⟨h.choose, own_only h.choose_spec o (fun k hk => hs k (rows_own h.choose_spec k hk))⟩
def upSS (k : Nat) (xs : List ByteArray) : Nat := k + xs.length
def markedSS (k : Nat) (xs : List ByteArray) : List ByteArray := strs.marks k xs.length
theorem eqSS {u v : Value} {xs : List ByteArray} (w : World) (hd : upSS 1 xs ≤ 1000000000) (hu : IsSS w u xs) (hv : IsSS w v xs) :
    Calls Tryd.prog 21 #[u, v] w fun e w' => e = .returned (.bool true) ∧ Below w.heap.size w w' := by
  obtain ⟨a, n, c, rfl, h⟩ := hu
  obtain ⟨a', n', c', rfl, h'⟩ := hv
  obtain rfl : n = n' := by rw [← h.1, ← h'.1]
  unfold upSS at hd
  rw [h.1] at hd
  exact eqStr_at _ _ _ _ _ _ _ (by unfold maxLen; omega) h h'
def bulkSS (xs : List ByteArray) : Nat := xs.length + tot xs
theorem toSS {v : Value} {xs : List ByteArray} (w : World) (hb : bulkSS xs ≤ 1048576) (hv : IsSS w v xs) :
    Calls Tryd.prog 16 #[v] w fun e w' => ∃ u, e = .returned u ∧ OwnSS w.heap.size w' u xs ∧ Below w.heap.size w w' := by
  obtain ⟨a, n, c, rfl, h⟩ := hv
  unfold bulkSS at hb
  rw [h.1] at hb
  exact (strs.to_any a c n xs w (by omega) h).mono fun e w' ⟨h1, h2, h3⟩ => ⟨_, h1, ⟨n, h2⟩, h3⟩
theorem szSS {v : Value} {xs : List ByteArray} (left : Nat) (w : World) (hl : left ≤ 1048576) (hd : (∀ s ∈ xs, s.size ≤ maxLen) ∧ xs.length ≤ maxLen) (hv : IsSS w v xs) :
    Calls Tryd.prog 11 #[v, .int .i64 left] w (disk.Left left (bulkSS xs) w) := by
  obtain ⟨a, n, c, rfl, h⟩ := hv
  have hn := hd.2
  rw [h.1] at hn
  refine (strs.sz_any a c n left xs w hl (by unfold maxLen at hn; omega) h (fun s hs => by have := hd.1 s hs; unfold maxLen at this; omega)).mono ?_
  rintro e w' ⟨he, rfl⟩
  refine ⟨?_, Below.refl _ _⟩
  by_cases h1 : bulkSS xs ≤ left
  · rw [if_pos h1]
    unfold bulkSS at h1
    rw [he, szI_yes (m := left - bulkSS xs) (by unfold bulkSS; omega)]
  · rw [if_neg h1]
    unfold bulkSS at h1
    rw [he, szI_no (by omega)]

/-! ### lists of entries -/
def IsE (w : World) (v : Value) (xs : List Ent) : Prop := ∃ (a : Option Addr) (n c : Nat), v = .slice a n c ∧ AtE w a n xs
def OwnE (B : Nat) (w : World) (v : Value) (xs : List Ent) : Prop := ∃ n, w.ownsRow B 61 2 v n (cellsE xs)
theorem IsE.below {w w' : World} {v : Value} {xs : List Ent} (h : IsE w v xs) (hb : Below w.heap.size w w') : IsE w' v xs := by
  obtain ⟨a, n, c, rfl, h⟩ := h
  exact ⟨a, n, c, rfl, h.below hb⟩
theorem OwnE.is {B : Nat} {w : World} {v : Value} {xs : List Ent} (h : OwnE B w v xs) : IsE w v xs := by
  obtain ⟨n, h⟩ := h
  obtain ⟨a, c, rfl, _⟩ := own_shape h
  exact ⟨a, n, c, rfl, own_cells h⟩
theorem OwnE.base {B B' : Nat} {w : World} {v : Value} {xs : List Ent} (h : OwnE B w v xs) (hB : B' ≤ B) : OwnE B' w v xs := ⟨h.choose, own_base h.choose_spec hB⟩
theorem OwnE.below {B : Nat} {w w' : World} {v : Value} {xs : List Ent} (h : OwnE B w v xs) (hb : Below w.heap.size w w') : OwnE B w' v xs := ⟨h.choose, own_below h.choose_spec hb⟩
theorem OwnE.rows {B : Nat} {w : World} {v : Value} {xs : List Ent} (h : OwnE B w v xs) : ∀ k, disk.rows v k → B ≤ k ∧ k < w.heap.size := fun k hk => (row_slice h.choose_spec k hk).2
theorem OwnE.only {B : Nat} {w w' : World} {v : Value} {xs : List Ent} {S : Nat → Prop} (h : OwnE B w v xs) (o : Only w w' S) (hs : ∀ k, disk.rows v k → ¬ S k) : OwnE B w' v xs :=
  ⟨h.choose, own_only h.choose_spec o (fun k hk => hs k (rows_own h.choose_spec k hk))⟩
def upE (k : Nat) (xs : List Ent) : Nat := k + 2 * xs.length
def markedE (k : Nat) (xs : List Ent) : List Ent := marksE k xs.length
theorem eqE {u v : Value} {xs : List Ent} (w : World) (hd : upE 1 xs ≤ 1000000000) (hu : IsE w u xs) (hv : IsE w v xs) :
    Calls Tryd.prog 20 #[u, v] w fun e w' => e = .returned (.bool true) ∧ Below w.heap.size w w' := by
  obtain ⟨a, n, c, rfl, h⟩ := hu
  obtain ⟨a', n', c', rfl, h'⟩ := hv
  obtain rfl : n = n' := by rw [← h.len, ← h'.len]
  unfold upE at hd
  rw [h.len] at hd
  exact eqEntryS_same _ _ _ _ _ _ _ (by unfold maxLen; omega) h h'
theorem toE {v : Value} {xs : List Ent} (w : World) (hb : bulkE xs ≤ 1048576) (hv : IsE w v xs) :
    Calls Tryd.prog 15 #[v] w fun e w' => ∃ u, e = .returned u ∧ OwnE w.heap.size w' u xs ∧ Below w.heap.size w w' := by
  obtain ⟨a, n, c, rfl, h⟩ := hv
  unfold bulkE at hb
  rw [List.length_map, h.len] at hb
  exact (toEntryS_any a c n xs w (by omega) h).mono fun e w' ⟨h1, h2, h3⟩ => ⟨_, h1, ⟨n, h2⟩, h3⟩
theorem szE {v : Value} {xs : List Ent} (left : Nat) (w : World) (hl : left ≤ 1048576) (hd : wfE xs ∧ xs.length ≤ maxLen) (hv : IsE w v xs) :
    Calls Tryd.prog 10 #[v, .int .i64 left] w (disk.Left left (bulkE xs) w) := by
  obtain ⟨a, n, c, rfl, h⟩ := hv
  have hn := hd.2
  rw [h.len] at hn
  refine (szEntryS_any a c n left xs w hl (by unfold maxLen at hn; omega) h (wfE_sz hd.1)).mono ?_
  rintro e w' ⟨he, hb⟩
  refine ⟨?_, hb⟩
  by_cases h1 : bulkE xs ≤ left
  · rw [if_pos h1]
    unfold bulkE at h1
    rw [he, szI_yes (m := left - bulkE xs) (by unfold bulkE; omega)]
  · rw [if_neg h1]
    unfold bulkE at h1
    rw [he, szI_no (by omega)]

/-! ### disks -/
theorem IsD_form {w : World} {v : Value} {d : D} (h : IsDisk w v d) : ∃ (aN : Option Addr) (nN cN : Nat) (aE : Option Addr) (nE cE : Nat) (aO : Option Addr) (nO cO : Nat) (aS : Option Addr) (nS cS : Nat) (r x : Int), v = .agg #[.slice aN nN cN, .slice aE nE cE, .slice aO nO cO, .slice aS nS cS, .int .i64 r, .int .i64 x] := by
  obtain ⟨aN, aE, aO, aS, nN, cN, nE, cE, nO, cO, nS, cS, rfl, _⟩ := h
  exact ⟨_, _, _, _, _, _, _, _, _, _, _, _, _, _, rfl⟩
theorem short_of {d : D} (h : bulk d ≤ 1048576) : marksUp 1 d ≤ 1000000000 := by
  unfold bulk bulkN bulkE at h
  simp only [List.length_map] at h
  unfold marksUp
  omega
theorem shortSS_of {xs : List ByteArray} (h : bulkSS xs ≤ 1048576) : upSS 1 xs ≤ 1000000000 := by unfold bulkSS at h; unfold upSS; omega
theorem shortE_of {xs : List Ent} (h : bulkE xs ≤ 1048576) : upE 1 xs ≤ 1000000000 := by unfold bulkE at h; rw [List.length_map] at h; unfold upE; omega

/-! ### what is handed in, right and small -/
def okD (d : D) : Prop := wfD d ∧ bulk d ≤ 1048576
def okSS (xs : List ByteArray) : Prop := (∀ s ∈ xs, s.size ≤ maxLen) ∧ bulkSS xs ≤ 1048576
def okE (xs : List Ent) : Prop := wfE xs ∧ bulkE xs ≤ 1048576
def cntD (d : D) : Nat := 3 * d.nodes.length + 2 * d.ents.length + 2 * d.old.length + d.steps.length
def cntSS (xs : List ByteArray) : Nat := xs.length
def cntE (xs : List Ent) : Nat := 2 * xs.length
theorem upD (k : Nat) (d : D) : marksUp k d = k + cntD d := by unfold marksUp cntD; omega
theorem upSS_eq (k : Nat) (xs : List ByteArray) : upSS k xs = k + cntSS xs := rfl
theorem upE_eq (k : Nat) (xs : List Ent) : upE k xs = k + cntE xs := rfl
theorem okD.cnt {d : D} (h : okD d) : cntD d ≤ 100000000 := by
  have h := h.2
  unfold bulk bulkN bulkE at h
  simp only [List.length_map] at h
  unfold cntD
  omega
theorem okSS.cnt {xs : List ByteArray} (h : okSS xs) : cntSS xs ≤ 100000000 := by have h := h.2; unfold bulkSS at h; unfold cntSS; omega
theorem okE.cnt {xs : List Ent} (h : okE xs) : cntE xs ≤ 100000000 := by have h := h.2; unfold bulkE at h; rw [List.length_map] at h; unfold cntE; omega
theorem eqD' {u v : Value} {d : D} (w : World) (hd : cntD d ≤ 100000000) (hu : IsDisk w u d) (hv : IsDisk w v d) :
    Calls Tryd.prog 8 #[u, v] w fun e w' => e = .returned (.bool true) ∧ Below w.heap.size w w' := eqDisk_same w (by rw [upD]; omega) hu hv
theorem eqSS' {u v : Value} {d : List ByteArray} (w : World) (hd : cntSS d ≤ 100000000) (hu : IsSS w u d) (hv : IsSS w v d) :
    Calls Tryd.prog 21 #[u, v] w fun e w' => e = .returned (.bool true) ∧ Below w.heap.size w w' := eqSS w (by rw [upSS_eq]; omega) hu hv
theorem eqE' {u v : Value} {d : List Ent} (w : World) (hd : cntE d ≤ 100000000) (hu : IsE w u d) (hv : IsE w v d) :
    Calls Tryd.prog 20 #[u, v] w fun e w' => e = .returned (.bool true) ∧ Below w.heap.size w w' := eqE w (by rw [upE_eq]; omega) hu hv

end Go.Proofs.YtiehfobcbhgfkaaDoor.kd
