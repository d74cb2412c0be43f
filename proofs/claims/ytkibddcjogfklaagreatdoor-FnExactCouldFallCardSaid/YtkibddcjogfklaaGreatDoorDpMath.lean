/-
  Deeds on a disk, plain facts: steps, entries with one more or one less, what is right, what is left.
-/
import Derived.Test.YtkibddcjogfklaaGreatDoorDkMath
import Derived.Test.YtkibddcjogfklaaGreatDoorNameMath
import Derived.Test.YtkibddcjogfklaaGreatDoorRdA
namespace Go.Proofs.YtkibddcjogfklaaGreatDoor.deed
open Go
open kit strs recs disk

def lessB (a b : ByteArray) : Bool := Op.bytesLess a.toList b.toList
/-- entries with one more, or another one of its name -/
def putStep (e : Ent) (st : List Ent × Bool) (x : Ent) : List Ent × Bool :=
  if st.2 = false ∧ lessB x.1 e.1 = false then (if x.1 = e.1 then (st.1 ++ [e], true) else (st.1 ++ [e] ++ [x], true))
  else (if x.1 = e.1 then st else (st.1 ++ [x], st.2))
def putTo (e : Ent) (xs : List Ent) : List Ent × Bool := xs.foldl (putStep e) ([], false)
def putE (xs : List Ent) (e : Ent) : List Ent := if (putTo e xs).2 then (putTo e xs).1 else (putTo e xs).1 ++ [e]
def dropE (xs : List Ent) (s : ByteArray) : List Ent := xs.filter fun x => !decide (x.1 = s)
theorem putTo_snoc {e : Ent} {xs : List Ent} {k : Nat} {x : Ent} (h : xs[k]? = some x) : putTo e (xs.take (k + 1)) = putStep e (putTo e (xs.take k)) x := by
  unfold putTo
  rw [List.take_add_one, h, List.foldl_append]
  rfl
theorem dropE_snoc {s : ByteArray} {xs : List Ent} {k : Nat} {x : Ent} (h : xs[k]? = some x) : dropE (xs.take (k + 1)) s = dropE (xs.take k) s ++ (if x.1 = s then [] else [x]) := by
  unfold dropE
  rw [List.take_add_one, h, List.filter_append]
  by_cases e : x.1 = s <;> simp [e]
def one (b : Bool) : Nat := if b then 1 else 0
theorem putStep_length (e : Ent) (st : List Ent × Bool) (x : Ent) : (putStep e st x).1.length + one st.2 ≤ st.1.length + 1 + one (putStep e st x).2 := by
  unfold putStep
  by_cases h1 : st.2 = false ∧ lessB x.1 e.1 = false
  · rw [if_pos h1, h1.1]
    by_cases h2 : x.1 = e.1
    · rw [if_pos h2]; simp [one]
    · rw [if_neg h2]; simp [one]
  · rw [if_neg h1]
    by_cases h2 : x.1 = e.1
    · rw [if_pos h2]; omega
    · rw [if_neg h2]; simp
theorem putTo_length (e : Ent) (xs : List Ent) : (putTo e xs).1.length ≤ xs.length + one (putTo e xs).2 := by
  have : ∀ (xs : List Ent) (st : List Ent × Bool), (xs.foldl (putStep e) st).1.length + one st.2 ≤ st.1.length + xs.length + one (xs.foldl (putStep e) st).2 := by
    intro xs
    induction xs with
    | nil => intro st; simp
    | cons x r ih =>
      intro st
      rw [List.foldl_cons, List.length_cons]
      have h := ih (putStep e st x)
      have hs := putStep_length e st x
      omega
  have h := this xs ([], false)
  have e0 : one (([], false) : List Ent × Bool).2 = 0 := rfl
  have e1 : (([], false) : List Ent × Bool).1.length = 0 := rfl
  unfold putTo
  omega
theorem putE_length (xs : List Ent) (e : Ent) : (putE xs e).length ≤ xs.length + 1 := by
  have h := putTo_length e xs
  unfold putE
  cases h2 : (putTo e xs).2
  · rw [h2] at h; simp [one] at h ⊢; omega
  · rw [h2] at h; simpa [one] using h
theorem dropE_length (xs : List Ent) (s : ByteArray) : (dropE xs s).length ≤ xs.length := List.length_filter_le _ _

/-! ### what a step says -/
structure Said where
  name : ByteArray
  to : ByteArray
  id : Int
  ok : Bool
def noSaid : Said := ⟨{ data := #[] }, { data := #[] }, 0, false⟩
def byteAt (s : ByteArray) (i : Nat) : Nat := if h : i < s.size then (s[i]'h).toNat else 0
theorem byteAt_in {s : ByteArray} {i : Nat} (h : i < s.size) : byteAt s i = (s[i]'h).toNat := by unfold byteAt; rw [dif_pos h]
/-- the place of the first ':' from i on, looking at no more than f bytes -/
def colon (s : ByteArray) : Nat → Nat → Option Nat
  | 0, _ => none
  | f + 1, i => if byteAt s i = 58 then some i else colon s f (i + 1)
def readN (s : ByteArray) : Int × Bool := match rd.RD s.data.toList with | none => (0, false) | some n => ((n : Int), true)
def saidOf (s : ByteArray) : Said :=
  if s.size < 2 then noSaid
  else if byteAt s 0 = 45 then ⟨s.extract 1 s.size, { data := #[] }, 0, true⟩
  else if byteAt s 0 = 43 ∨ byteAt s 0 = 62 then
    match colon s (s.size - 1) 1 with
    | none => noSaid
    | some i =>
      let a := s.extract 1 i
      let b := s.extract (i + 1) s.size
      if byteAt s 0 = 62 then ⟨a, b, 0, nam.nok b && !decide (a = b)⟩ else ⟨a, { data := #[] }, (readN b).1, (readN b).2 && nam.nok a⟩
  else noSaid

/-! ### steps, one by one -/
def doStep (l : List Ent) (s : ByteArray) : Option (List Ent) :=
  if (saidOf s).ok = false ∨ nam.nok (saidOf s).name = false then none
  else if byteAt s 0 = 43 then some (putE l ((saidOf s).name, (saidOf s).id))
  else if hasE l (saidOf s).name = false then none
  else if byteAt s 0 = 62 then some (putE (dropE l (saidOf s).name) ((saidOf s).to, idE l (saidOf s).name))
  else some (dropE l (saidOf s).name)
def stepsTo : List Ent → List ByteArray → Option (List Ent)
  | l, [] => some l
  | l, s :: r => (doStep l s).bind fun l' => stepsTo l' r
theorem stepsTo_app : ∀ (l : List Ent) (xs ys : List ByteArray), stepsTo l (xs ++ ys) = (stepsTo l xs).bind fun l' => stepsTo l' ys
  | l, [], ys => rfl
  | l, s :: r, ys => by
    simp only [List.cons_append, stepsTo]
    cases h : doStep l s with
    | none => rfl
    | some l' => exact stepsTo_app l' r ys
theorem stepsTo_snoc {l : List Ent} {xs : List ByteArray} {k : Nat} {x : ByteArray} (h : xs[k]? = some x) : stepsTo l (xs.take (k + 1)) = (stepsTo l (xs.take k)).bind fun l' => doStep l' x := by
  rw [List.take_add_one, h, Option.toList_some, stepsTo_app]
  congr 1
  funext l'
  simp only [stepsTo]
  cases doStep l' x <;> rfl
theorem doStep_length {l l' : List Ent} {s : ByteArray} (h : doStep l s = some l') : l'.length ≤ l.length + 1 := by
  unfold doStep at h
  have p1 := putE_length l ((saidOf s).name, (saidOf s).id)
  have p2 := putE_length (dropE l (saidOf s).name) ((saidOf s).to, idE l (saidOf s).name)
  have p3 := dropE_length l (saidOf s).name
  split at h
  · cases h
  · split at h
    · cases h; omega
    · split at h
      · cases h
      · split at h <;> (cases h; omega)
theorem stepsTo_length : ∀ (xs : List ByteArray) (l l' : List Ent), stepsTo l xs = some l' → l'.length ≤ l.length + xs.length
  | [], l, l', h => by cases h; omega
  | s :: r, l, l', h => by
    simp only [stepsTo] at h
    cases h1 : doStep l s with
    | none => rw [h1] at h; cases h
    | some l1 =>
      rw [h1] at h
      have h2 := stepsTo_length r l1 l' h
      have h3 := doStep_length h1
      rw [List.length_cons]
      omega
/-- a number brought into 0 .. m -/
def clampN (n : Int) (m : Nat) : Nat := if n < 0 then 0 else if (m : Int) < n then m else n.toNat
theorem clampN_le (n : Int) (m : Nat) : clampN n m ≤ m := by unfold clampN; split; omega; split <;> omega
theorem clampN_nat (k m : Nat) (h : k ≤ m) : clampN (k : Int) m = k := by unfold clampN; rw [if_neg (by omega), if_neg (by omega)]; simp
def stepsDone (old : List Ent) (steps : List ByteArray) (n : Int) : Option (List Ent) := stepsTo old (steps.take (clampN n steps.length))
theorem stepsDone_length (old : List Ent) (steps : List ByteArray) (n : Int) : ((stepsDone old steps n).getD []).length ≤ old.length + steps.length := by
  cases h : stepsDone old steps n with
  | none => simp
  | some l =>
    have := stepsTo_length _ _ _ h
    rw [List.length_take] at this
    simp only [Option.getD_some]
    omega

/-! ### what is right -/
def entsFrom (d : D) : Option ByteArray → List Ent → Bool
  | _, [] => true
  | p, e :: r => nam.nok e.1 && (nodeIx d.nodes e.2).isSome && (match p with | none => true | some q => lessB q e.1) && entsFrom d (some e.1) r
def entsOk (d : D) (l : List Ent) : Bool := entsFrom d none l && decide (l.length ≤ 16)
def nodesFrom (next : Int) : Option Int → List Nod → Bool
  | _, [] => true
  | p, n :: r => decide (1 ≤ n.1 ∧ n.1 ≤ next - 1) && (match p with | none => true | some q => decide (q < n.1)) && decide (0 ≤ n.2.2 ∧ n.2.2 ≤ (n.2.1.size : Int)) && nodesFrom next (some n.1) r
def histAt (d : D) (k : Nat) : Option (List Ent) := stepsTo d.old (d.steps.take k)
def okAt (d : D) (k : Nat) : Bool := match histAt d k with | none => false | some l => entsOk d l && (decide (k ≠ d.steps.length) || decide (l = d.ents))
def okHist (d : D) : Bool := (List.range (d.steps.length + 1)).all (okAt d)
def okHead (d : D) : Bool := decide (d.nodes.length ≤ 64) && decide (0 ≤ d.room ∧ d.room ≤ 1000000000) && decide (1 ≤ d.next ∧ d.next ≤ 1000000000) && decide ((usedOn d : Int) ≤ d.room)
def diskOk (d : D) : Bool := okHead d && nodesFrom d.next none d.nodes && okHist d
def usedN (d : D) (n : Nod) : Bool := (List.range (d.steps.length + 1)).any fun k => ((histAt d k).getD []).any fun e => decide (e.2 = n.1)
def clean (d : D) : D := { d with nodes := d.nodes.filter (usedN d) }

/-! ### deeds -/
def plusStep (s : ByteArray) (n : Int) : ByteArray := ((({ data := #[43] } : ByteArray) ++ s) ++ { data := #[58] }) ++ ⟨(Lib.itoa n).toArray⟩
def moveStep (s t : ByteArray) : ByteArray := ((({ data := #[62] } : ByteArray) ++ s) ++ { data := #[58] }) ++ t
def minusStep (s : ByteArray) : ByteArray := ({ data := #[45] } : ByteArray) ++ s
def createFile (d : D) (s : ByteArray) : D × Int :=
  if diskOk d = false then (d, 3)
  else if nam.nok s = false then (d, 1)
  else if hasE d.ents s then (d, 2)
  else if 16 ≤ d.ents.length ∨ 64 ≤ d.nodes.length ∨ 1000000000 ≤ d.next then (d, 4)
  else (clean { d with nodes := d.nodes ++ [(d.next, { data := #[] }, 0)], ents := putE d.ents (s, d.next), steps := d.steps ++ [plusStep s d.next], next := d.next + 1 }, 0)
def setNode (d : D) (k : Nat) (n : Nod) : D := { d with nodes := d.nodes.set k n }
def nodeK (d : D) (s : ByteArray) : Nat := (nodeIx d.nodes (idE d.ents s)).getD 0
def nodeN (d : D) (s : ByteArray) : Nod := d.nodes[nodeK d s]?.getD (0, { data := #[] }, 0)
def appendFile (d : D) (s t : ByteArray) : D × Int :=
  if diskOk d = false ∨ hasE d.ents s = false then (d, 3)
  else if d.room - (usedOn d : Int) < (t.size : Int) then (setNode d (nodeK d s) ((nodeN d s).1, (nodeN d s).2.1 ++ t.extract 0 (d.room - (usedOn d : Int)).toNat, (nodeN d s).2.2), 5)
  else (setNode d (nodeK d s) ((nodeN d s).1, (nodeN d s).2.1 ++ t, (nodeN d s).2.2), 0)
def syncFile (d : D) (s : ByteArray) : D × Int :=
  if diskOk d = false ∨ hasE d.ents s = false then (d, 3)
  else (setNode d (nodeK d s) ((nodeN d s).1, (nodeN d s).2.1, ((nodeN d s).2.1.size : Int)), 0)
def renameFile (d : D) (s t : ByteArray) : D × Int :=
  if diskOk d = false ∨ hasE d.ents s = false then (d, 3)
  else if nam.nok t = false ∨ s = t then (d, 1)
  else (clean { d with ents := putE (dropE d.ents s) (t, idE d.ents s), steps := d.steps ++ [moveStep s t] }, 0)
def removeFile (d : D) (s : ByteArray) : D × Int :=
  if diskOk d = false ∨ hasE d.ents s = false then (d, 3)
  else (clean { d with ents := dropE d.ents s, steps := d.steps ++ [minusStep s] }, 0)
def syncNames (d : D) : D :=
  if diskOk d = false then d else clean { d with old := d.ents, steps := [] }

end Go.Proofs.YtkibddcjogfklaaGreatDoor.deed
