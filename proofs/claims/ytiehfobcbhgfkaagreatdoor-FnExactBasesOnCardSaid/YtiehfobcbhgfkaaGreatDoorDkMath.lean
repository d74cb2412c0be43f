/-
  Disks, plain facts: which entry has a name, which node a number, how much there is.
-/
import Derived.Test.YtiehfobcbhgfkaaGreatDoorDiskX
namespace Go.Proofs.YtiehfobcbhgfkaaGreatDoor.disk
set_option maxRecDepth 20000
open kit strs recs

theorem drop_cons {α : Type} {xs : List α} {k : Nat} {x : α} (h : xs[k]? = some x) : xs.drop k = x :: xs.drop (k + 1) := by
  obtain ⟨h1, h2⟩ := List.getElem?_eq_some_iff.1 h
  rw [List.drop_eq_getElem_cons h1, h2]
theorem drop_end {α : Type} {xs : List α} {k : Nat} (h : xs.length = k) : xs.drop k = [] := List.drop_of_length_le (by omega)
theorem bytes_ne {t s : ByteArray} (h : ¬ t = s) : (t.toList == s.toList) = false := by
  rw [beq_eq_false_iff_ne, ByteArray.toList_eq, ByteArray.toList_eq]
  intro e
  exact h (ByteArray.ext (Array.toList_inj.1 e))
theorem bytes_eq {t s : ByteArray} (h : t = s) : (t.toList == s.toList) = true := by rw [h, beq_self_eq_true]

/-- the number of a name -/
def entAt : List Ent → ByteArray → Option Int
  | [], _ => none
  | e :: r, s => if e.1 = s then some e.2 else entAt r s
/-- the place of a number -/
def nodeIx : List Nod → Int → Option Nat
  | [], _ => none
  | n :: r, id => if n.1 = id then some 0 else (nodeIx r id).map (· + 1)
theorem entAt_yes {xs : List Ent} {s t : ByteArray} {i : Int} {k : Nat} (h : xs[k]? = some (t, i)) (e : t = s) : entAt (xs.drop k) s = some i := by rw [drop_cons h]; simp [entAt, e]
theorem entAt_no {xs : List Ent} {s t : ByteArray} {i : Int} {k : Nat} (h : xs[k]? = some (t, i)) (e : ¬ t = s) : entAt (xs.drop k) s = entAt (xs.drop (k + 1)) s := by rw [drop_cons h]; simp [entAt, e]
theorem nodeIx_yes {xs : List Nod} {n : Nod} {id : Int} {k : Nat} (h : xs[k]? = some n) (e : n.1 = id) : nodeIx (xs.drop k) id = some 0 := by rw [drop_cons h]; simp [nodeIx, e]
theorem nodeIx_no {xs : List Nod} {n : Nod} {id : Int} {k : Nat} (h : xs[k]? = some n) (e : ¬ n.1 = id) : nodeIx (xs.drop k) id = (nodeIx (xs.drop (k + 1)) id).map (· + 1) := by rw [drop_cons h]; simp [nodeIx, e]
theorem nodeIx_lt : ∀ (xs : List Nod) (id : Int) (k : Nat), nodeIx xs id = some k → ∃ n, xs[k]? = some n ∧ n.1 = id
  | [], id, k, h => by simp [nodeIx] at h
  | n :: r, id, k, h => by
    by_cases e : n.1 = id
    · simp [nodeIx, e] at h
      subst h
      exact ⟨n, rfl, e⟩
    · simp [nodeIx, e] at h
      obtain ⟨j, hj, rfl⟩ := h
      obtain ⟨m, h1, h2⟩ := nodeIx_lt r id j hj
      exact ⟨m, by simpa using h1, h2⟩
def ixI (o : Option Nat) : Int := match o with | none => -1 | some k => k
def hasE (xs : List Ent) (s : ByteArray) : Bool := (entAt xs s).isSome
def idE (xs : List Ent) (s : ByteArray) : Int := (entAt xs s).getD 0
/-- the node of a name -/
def nodeAt (d : D) (s : ByteArray) : Option Nod := match entAt d.ents s with | none => none | some id => match nodeIx d.nodes id with | none => none | some k => d.nodes[k]?
theorem nodeAt_none {d : D} {s : ByteArray} (h : entAt d.ents s = none) : nodeAt d s = none := by unfold nodeAt; rw [h]
theorem nodeAt_none2 {d : D} {s : ByteArray} (h : nodeIx d.nodes (idE d.ents s) = none) : nodeAt d s = none := by
  unfold nodeAt
  unfold idE at h
  cases e : entAt d.ents s with
  | none => rfl
  | some id => rw [e] at h; simp only [Option.getD_some] at h; simp only [h]
theorem nodeAt_some {d : D} {s : ByteArray} {k : Nat} {n : Nod} (h : hasE d.ents s = true) (h1 : nodeIx d.nodes (idE d.ents s) = some k) (h2 : d.nodes[k]? = some n) : nodeAt d s = some n := by
  unfold nodeAt
  unfold hasE at h
  unfold idE at h1
  cases e : entAt d.ents s with
  | none => rw [e] at h; cases h
  | some id => rw [e] at h1; simp only [Option.getD_some] at h1; simp only [h1, h2]
/-- how many bytes all nodes have -/
def usedOn (d : D) : Nat := tot (d.nodes.map (·.2.1))
theorem used_le {d : D} (h : bulk d ≤ 1048576) : usedOn d ≤ 1048576 := by unfold bulk bulkN at h; unfold usedOn; omega
def names (xs : List Ent) : List ByteArray := xs.map (·.1)

theorem _root_.Go.Proofs.YtiehfobcbhgfkaaGreatDoor.recs.AtN.nth {w : Go.World} {a : Option Go.Addr} {n k : Nat} {xs : List Nod} {nd : Nod} (h : AtN w a n xs) (hx : xs[k]? = some nd) :
    ∃ b off, a = some ⟨b, off, none⟩ ∧ b < w.heap.size ∧ k < n ∧ w.cell? ⟨b, off + k * 3, none⟩ = some (.int .i64 nd.1) ∧ w.cell? ⟨b, off + k * 3 + 1, none⟩ = some (.string nd.2.1) ∧ w.cell? ⟨b, off + k * 3 + 2, none⟩ = some (.int .i64 nd.2.2) := by
  have hk : k < n := by rw [← h.len]; exact (List.getElem?_eq_some_iff.1 hx).1
  obtain ⟨i, s, j, b, off, hy, ha, hb, c1, c2, c3⟩ := h.get hk
  rw [hx] at hy
  simp only [Option.some.injEq] at hy
  subst hy
  exact ⟨b, off, ha, hb, hk, c1, c2, c3⟩
theorem _root_.Go.Proofs.YtiehfobcbhgfkaaGreatDoor.recs.AtE.nth {w : Go.World} {a : Option Go.Addr} {n k : Nat} {xs : List Ent} {en : Ent} (h : AtE w a n xs) (hx : xs[k]? = some en) :
    ∃ b off, a = some ⟨b, off, none⟩ ∧ b < w.heap.size ∧ k < n ∧ w.cell? ⟨b, off + k * 2, none⟩ = some (.string en.1) ∧ w.cell? ⟨b, off + k * 2 + 1, none⟩ = some (.int .i64 en.2) := by
  have hk : k < n := by rw [← h.len]; exact (List.getElem?_eq_some_iff.1 hx).1
  obtain ⟨s, i, b, off, hy, ha, hb, c1, c2⟩ := h.get hk
  rw [hx] at hy
  simp only [Option.some.injEq] at hy
  subst hy
  exact ⟨b, off, ha, hb, hk, c1, c2⟩

end Go.Proofs.YtiehfobcbhgfkaaGreatDoor.disk
