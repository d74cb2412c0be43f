/-
  Plain facts on ReadDecimal: which texts are numerals, and which number each is.
-/
import Derived.Lib.ItoaNum
import Derived.Lib.Atoi
import Derived.Lib.AtoiAll
import Derived.Lib.AtoiTie
import Derived.Test.YtiehfobcbhgfkaaGreatDoorDkMath
import Derived.Test.YtiehfobcbhgfkaaGreatDoorMathX
import Derived.Test.YtiehfobcbhgfkaaGreatDoorKit
import Derived.Lib.SmallJoins
namespace Go.Proofs.YtiehfobcbhgfkaaGreatDoor.rd
set_option maxRecDepth 20000
open Go

theorem decFrom_append : ∀ (a b : List UInt8) (acc : Nat), Lib.decFrom acc (a ++ b) = (Lib.decFrom acc a).bind fun m => Lib.decFrom m b
  | [], _, _ => rfl
  | c :: r, b, acc => by
    simp only [List.cons_append, Lib.decFrom]
    cases Lib.digitVal c with
    | none => rfl
    | some d => exact decFrom_append r b _
theorem digit_byte (d : Nat) (h : d < 10) : Lib.digitVal (UInt8.ofNat (48 + d)) = some d := by
  have h1 : (UInt8.ofNat (48 + d)).toNat = 48 + d := by simp; omega
  unfold Lib.digitVal
  rw [h1, if_pos (by omega)]
  simp
theorem decFrom_digits : ∀ (f n : Nat), n ≤ f → Lib.decFrom 0 (Lib.decDigits n) = some n
  | f, n, h => by
    rw [Lib.decDigits]
    by_cases h10 : n < 10
    · rw [dif_pos h10]
      simp only [Lib.decFrom, digit_byte n h10, Nat.zero_mul, Nat.zero_add]
    · rw [dif_neg h10, decFrom_append]
      cases f with
      | zero => omega
      | succ f =>
        rw [decFrom_digits f (n / 10) (by omega)]
        simp only [Option.bind_some, Lib.decFrom, digit_byte (n % 10) (by omega)]
        rw [show n / 10 * 10 + n % 10 = n by omega]
theorem digits_len : ∀ (k n : Nat), n < 10 ^ (k + 1) → (Lib.decDigits n).length ≤ k + 1
  | 0, n, h => by
    rw [Lib.decDigits, dif_pos (by simpa using h)]
    simp
  | k + 1, n, h => by
    rw [Lib.decDigits]
    by_cases h10 : n < 10
    · rw [dif_pos h10]
      simp
    · rw [dif_neg h10]
      have := digits_len k (n / 10) (Nat.div_lt_of_lt_mul (by rw [Nat.mul_comm, ← Nat.pow_succ]; exact h))
      simp
      omega
theorem decFrom_lt : ∀ (l : List UInt8) (acc n k : Nat), acc < 10 ^ k → Lib.decFrom acc l = some n → n < 10 ^ (k + l.length)
  | [], acc, n, k, h, e => by
    simp only [Lib.decFrom, Option.some.injEq] at e
    subst e
    exact h
  | c :: r, acc, n, k, h, e => by
    simp only [Lib.decFrom] at e
    cases hd : Lib.digitVal c with
    | none => rw [hd] at e; cases e
    | some d =>
      rw [hd] at e
      have hd9 : d ≤ 9 := by
        unfold Lib.digitVal at hd
        split at hd
        · injection hd with hd
          omega
        · cases hd
      have := decFrom_lt r (acc * 10 + d) n (k + 1) (by rw [Nat.pow_succ]; omega) e
      rw [List.length_cons, show k + (r.length + 1) = k + 1 + r.length by omega]
      exact this

/-- the number that a text spells as Decimal writes it, up to MaxNumber -/
def RD (l : List UInt8) : Option Nat := (Lib.decFrom 0 l).bind fun n => if n ≤ 1000000000 ∧ Lib.decDigits n = l then some n else none
theorem rd_some {l : List UInt8} {n : Nat} : RD l = some n ↔ n ≤ 1000000000 ∧ Lib.decDigits n = l := by
  constructor
  · intro h
    unfold RD at h
    cases hd : Lib.decFrom 0 l with
    | none => rw [hd] at h; cases h
    | some m =>
      rw [hd] at h
      simp only [Option.bind_some] at h
      split at h
      · rename_i hc
        injection h with h
        subst h
        exact hc
      · cases h
  · rintro ⟨h1, rfl⟩
    unfold RD
    rw [decFrom_digits n n (Nat.le_refl _)]
    simp [h1]
theorem rd_long {l : List UInt8} (h : 10 < l.length) : RD l = none := by
  cases hr : RD l with
  | none => rfl
  | some n =>
    obtain ⟨h1, h2⟩ := rd_some.1 hr
    have := digits_len 9 n (by have : (10 : Nat) ^ (9 + 1) = 10000000000 := by decide
                               omega)
    rw [h2] at this
    omega
/-- a byte that is no digit -/
theorem rd_bad {l : List UInt8} {k : Nat} {c : UInt8} (hk : l[k]? = some c) (hc : Lib.digitVal c = none) : RD l = none := by
  have hl : l = l.take k ++ c :: l.drop (k + 1) := by
    have hlt : k < l.length := by
      rcases Nat.lt_or_ge k l.length with h | h
      · exact h
      · rw [List.getElem?_eq_none h] at hk; cases hk
    rw [List.getElem?_eq_getElem hlt] at hk
    injection hk with hk
    rw [← hk, List.getElem_cons_drop, List.take_append_drop]
  have : Lib.decFrom 0 l = none := by
    rw [hl, decFrom_append]
    cases Lib.decFrom 0 (l.take k) with
    | none => rfl
    | some m => simp [Lib.decFrom, hc]
  unfold RD
  rw [this]
  rfl
theorem rd_of {l : List UInt8} {n : Nat} (h : Lib.decFrom 0 l = some n) : RD l = if n ≤ 1000000000 ∧ Lib.decDigits n = l then some n else none := by
  unfold RD
  rw [h]
  rfl

end Go.Proofs.YtiehfobcbhgfkaaGreatDoor.rd

namespace Go.Proofs.YtiehfobcbhgfkaaGreatDoor.deed
set_option maxRecDepth 20000
open Go
open kit strs recs disk

def lessB (a b : ByteArray) : Bool := Op.bytesLess a.toList b.toList
/-- entries with one more, or another one of its name -/
def putStep (e : Ent) (st : List Ent × Bool) (x : Ent) : List Ent × Bool :=
  if st.2 = false ∧ lessB x.1 e.1 = false then (if x.1 = e.1 then (st.1 ++ [e], true) else (st.1 ++ [e] ++ [x], true))
  else (if x.1 = e.1 then st else (st.1 ++ [x], st.2))
def putTo (e : Ent) (xs : List Ent) : List Ent × Bool := xs.foldl (putStep e) ([], false)
def putE (xs : List Ent) (e : Ent) : List Ent := if (putTo e xs).2 then (putTo e xs).1 else (putTo e xs).1 ++ [e]
def dropE (xs : List Ent) (s : ByteArray) : List Ent := xs.filter fun x => !decide (x.1 = s)
theorem putTo_snoc {e : Ent} {xs : List Ent} {k : Nat} {x : Ent} (h : xs[k]? = some x) : putTo e (xs.take (k + 1)) = putStep e (putTo e (xs.take k)) x := by
  unfold putTo
  rw [List.take_add_one, h, List.foldl_append]
  rfl
theorem dropE_snoc {s : ByteArray} {xs : List Ent} {k : Nat} {x : Ent} (h : xs[k]? = some x) : dropE (xs.take (k + 1)) s = dropE (xs.take k) s ++ (if x.1 = s then [] else [x]) := by
  unfold dropE
  rw [List.take_add_one, h, List.filter_append]
  by_cases e : x.1 = s <;> simp [e]
def one (b : Bool) : Nat := if b then 1 else 0
theorem putStep_length (e : Ent) (st : List Ent × Bool) (x : Ent) : (putStep e st x).1.length + one st.2 ≤ st.1.length + 1 + one (putStep e st x).2 := by
  unfold putStep
  by_cases h1 : st.2 = false ∧ lessB x.1 e.1 = false
  · rw [if_pos h1, h1.1]
    by_cases h2 : x.1 = e.1
    · rw [if_pos h2]; simp [one]
    · rw [if_neg h2]; simp [one]
  · rw [if_neg h1]
    by_cases h2 : x.1 = e.1
    · rw [if_pos h2]; omega
    · rw [if_neg h2]; simp
theorem putTo_length (e : Ent) (xs : List Ent) : (putTo e xs).1.length ≤ xs.length + one (putTo e xs).2 := by
  have : ∀ (xs : List Ent) (st : List Ent × Bool), (xs.foldl (putStep e) st).1.length + one st.2 ≤ st.1.length + xs.length + one (xs.foldl (putStep e) st).2 := by
    intro xs
    induction xs with
    | nil => intro st; simp
    | cons x r ih =>
      intro st
      rw [List.foldl_cons, List.length_cons]
      have h := ih (putStep e st x)
      have hs := putStep_length e st x
      omega
  have h := this xs ([], false)
  have e0 : one (([], false) : List Ent × Bool).2 = 0 := rfl
  have e1 : (([], false) : List Ent × Bool).1.length = 0 := rfl
  unfold putTo
  omega
theorem putE_length (xs : List Ent) (e : Ent) : (putE xs e).length ≤ xs.length + 1 := by
  have h := putTo_length e xs
  unfold putE
  cases h2 : (putTo e xs).2
  · rw [h2] at h; simp [one] at h ⊢; omega
  · rw [h2] at h; simpa [one] using h
theorem dropE_length (xs : List Ent) (s : ByteArray) : (dropE xs s).length ≤ xs.length := List.length_filter_le _ _

/-! ### what a step says -/
structure Said where
  name : ByteArray
  to : ByteArray
  id : Int
  ok : Bool
def noSaid : Said := ⟨{ data := #[] }, { data := #[] }, 0, false⟩
def byteAt (s : ByteArray) (i : Nat) : Nat := if h : i < s.size then (s[i]'h).toNat else 0
theorem byteAt_in {s : ByteArray} {i : Nat} (h : i < s.size) : byteAt s i = (s[i]'h).toNat := by unfold byteAt; rw [dif_pos h]
/-- the place of the first ':' from i on, looking at no more than f bytes -/
def colon (s : ByteArray) : Nat → Nat → Option Nat
  | 0, _ => none
  | f + 1, i => if byteAt s i = 58 then some i else colon s f (i + 1)
def readN (s : ByteArray) : Int × Bool := match rd.RD s.data.toList with | none => (0, false) | some n => ((n : Int), true)
def saidOf (s : ByteArray) : Said :=
  if s.size < 2 then noSaid
  else if byteAt s 0 = 45 then ⟨s.extract 1 s.size, { data := #[] }, 0, true⟩
  else if byteAt s 0 = 43 ∨ byteAt s 0 = 62 then
    match colon s (s.size - 1) 1 with
    | none => noSaid
    | some i =>
      let a := s.extract 1 i
      let b := s.extract (i + 1) s.size
      if byteAt s 0 = 62 then ⟨a, b, 0, nam.nok b && !decide (a = b)⟩ else ⟨a, { data := #[] }, (readN b).1, (readN b).2 && nam.nok a⟩
  else noSaid

/-! ### steps, one by one -/
def doStep (l : List Ent) (s : ByteArray) : Option (List Ent) :=
  if (saidOf s).ok = false ∨ nam.nok (saidOf s).name = false then none
  else if byteAt s 0 = 43 then some (putE l ((saidOf s).name, (saidOf s).id))
  else if hasE l (saidOf s).name = false then none
  else if byteAt s 0 = 62 then some (putE (dropE l (saidOf s).name) ((saidOf s).to, idE l (saidOf s).name))
  else some (dropE l (saidOf s).name)
def stepsTo : List Ent → List ByteArray → Option (List Ent)
  | l, [] => some l
  | l, s :: r => (doStep l s).bind fun l' => stepsTo l' r
theorem stepsTo_app : ∀ (l : List Ent) (xs ys : List ByteArray), stepsTo l (xs ++ ys) = (stepsTo l xs).bind fun l' => stepsTo l' ys
  | l, [], ys => rfl
  | l, s :: r, ys => by
    simp only [List.cons_append, stepsTo]
    cases h : doStep l s with
    | none => rfl
    | some l' => exact stepsTo_app l' r ys
theorem stepsTo_snoc {l : List Ent} {xs : List ByteArray} {k : Nat} {x : ByteArray} (h : xs[k]? = some x) : stepsTo l (xs.take (k + 1)) = (stepsTo l (xs.take k)).bind fun l' => doStep l' x := by
  rw [List.take_add_one, h, Option.toList_some, stepsTo_app]
  congr 1
  funext l'
  simp only [stepsTo]
  cases doStep l' x <;> rfl
theorem doStep_length {l l' : List Ent} {s : ByteArray} (h : doStep l s = some l') : l'.length ≤ l.length + 1 := by
  unfold doStep at h
  have p1 := putE_length l ((saidOf s).name, (saidOf s).id)
  have p2 := putE_length (dropE l (saidOf s).name) ((saidOf s).to, idE l (saidOf s).name)
  have p3 := dropE_length l (saidOf s).name
  split at h
  · cases h
  · split at h
    · cases h; omega
    · split at h
      · cases h
      · split at h <;> (cases h; omega)
theorem stepsTo_length : ∀ (xs : List ByteArray) (l l' : List Ent), stepsTo l xs = some l' → l'.length ≤ l.length + xs.length
  | [], l, l', h => by cases h; omega
  | s :: r, l, l', h => by
    simp only [stepsTo] at h
    cases h1 : doStep l s with
    | none => rw [h1] at h; cases h
    | some l1 =>
      rw [h1] at h
      have h2 := stepsTo_length r l1 l' h
      have h3 := doStep_length h1
      rw [List.length_cons]
      omega
/-- a number brought into 0 .. m -/
def clampN (n : Int) (m : Nat) : Nat := if n < 0 then 0 else if (m : Int) < n then m else n.toNat
theorem clampN_le (n : Int) (m : Nat) : clampN n m ≤ m := by unfold clampN; split; omega; split <;> omega
theorem clampN_nat (k m : Nat) (h : k ≤ m) : clampN (k : Int) m = k := by unfold clampN; rw [if_neg (by omega), if_neg (by omega)]; simp
def stepsDone (old : List Ent) (steps : List ByteArray) (n : Int) : Option (List Ent) := stepsTo old (steps.take (clampN n steps.length))
/-! ### what is right -/
def entsFrom (d : D) : Option ByteArray → List Ent → Bool
  | _, [] => true
  | p, e :: r => nam.nok e.1 && (nodeIx d.nodes e.2).isSome && (match p with | none => true | some q => lessB q e.1) && entsFrom d (some e.1) r
def entsOk (d : D) (l : List Ent) : Bool := entsFrom d none l && decide (l.length ≤ 16)
def nodesFrom (next : Int) : Option Int → List Nod → Bool
  | _, [] => true
  | p, n :: r => decide (1 ≤ n.1 ∧ n.1 ≤ next - 1) && (match p with | none => true | some q => decide (q < n.1)) && decide (0 ≤ n.2.2 ∧ n.2.2 ≤ (n.2.1.size : Int)) && nodesFrom next (some n.1) r
def histAt (d : D) (k : Nat) : Option (List Ent) := stepsTo d.old (d.steps.take k)
def okAt (d : D) (k : Nat) : Bool := match histAt d k with | none => false | some l => entsOk d l && (decide (k ≠ d.steps.length) || decide (l = d.ents))
def okHist (d : D) : Bool := (List.range (d.steps.length + 1)).all (okAt d)
def okHead (d : D) : Bool := decide (d.nodes.length ≤ 64) && decide (0 ≤ d.room ∧ d.room ≤ 1000000000) && decide (1 ≤ d.next ∧ d.next ≤ 1000000000) && decide ((usedOn d : Int) ≤ d.room)
def diskOk (d : D) : Bool := okHead d && nodesFrom d.next none d.nodes && okHist d
def usedN (d : D) (n : Nod) : Bool := (List.range (d.steps.length + 1)).any fun k => ((histAt d k).getD []).any fun e => decide (e.2 = n.1)
def clean (d : D) : D := { d with nodes := d.nodes.filter (usedN d) }

/-! ### deeds -/
def plusStep (s : ByteArray) (n : Int) : ByteArray := ((({ data := #[43] } : ByteArray) ++ s) ++ { data := #[58] }) ++ ⟨(Lib.itoa n).toArray⟩
def moveStep (s t : ByteArray) : ByteArray := ((({ data := #[62] } : ByteArray) ++ s) ++ { data := #[58] }) ++ t
def minusStep (s : ByteArray) : ByteArray := ({ data := #[45] } : ByteArray) ++ s
def createFile (d : D) (s : ByteArray) : D × Int :=
  if diskOk d = false then (d, 3)
  else if nam.nok s = false then (d, 1)
  else if hasE d.ents s then (d, 2)
  else if 16 ≤ d.ents.length ∨ 64 ≤ d.nodes.length ∨ 1000000000 ≤ d.next then (d, 4)
  else (clean { d with nodes := d.nodes ++ [(d.next, { data := #[] }, 0)], ents := putE d.ents (s, d.next), steps := d.steps ++ [plusStep s d.next], next := d.next + 1 }, 0)
def setNode (d : D) (k : Nat) (n : Nod) : D := { d with nodes := d.nodes.set k n }
def nodeK (d : D) (s : ByteArray) : Nat := (nodeIx d.nodes (idE d.ents s)).getD 0
def nodeN (d : D) (s : ByteArray) : Nod := d.nodes[nodeK d s]?.getD (0, { data := #[] }, 0)
def appendFile (d : D) (s t : ByteArray) : D × Int :=
  if diskOk d = false ∨ hasE d.ents s = false then (d, 3)
  else if d.room - (usedOn d : Int) < (t.size : Int) then (setNode d (nodeK d s) ((nodeN d s).1, (nodeN d s).2.1 ++ t.extract 0 (d.room - (usedOn d : Int)).toNat, (nodeN d s).2.2), 5)
  else (setNode d (nodeK d s) ((nodeN d s).1, (nodeN d s).2.1 ++ t, (nodeN d s).2.2), 0)
def syncFile (d : D) (s : ByteArray) : D × Int :=
  if diskOk d = false ∨ hasE d.ents s = false then (d, 3)
  else (setNode d (nodeK d s) ((nodeN d s).1, (nodeN d s).2.1, ((nodeN d s).2.1.size : Int)), 0)
def renameFile (d : D) (s t : ByteArray) : D × Int :=
  if diskOk d = false ∨ hasE d.ents s = false then (d, 3)
  else if nam.nok t = false ∨ s = t then (d, 1)
  else (clean { d with ents := putE (dropE d.ents s) (t, idE d.ents s), steps := d.steps ++ [moveStep s t] }, 0)
def removeFile (d : D) (s : ByteArray) : D × Int :=
  if diskOk d = false ∨ hasE d.ents s = false then (d, 3)
  else (clean { d with ents := dropE d.ents s, steps := d.steps ++ [minusStep s] }, 0)
def syncNames (d : D) : D :=
  if diskOk d = false then d else clean { d with old := d.ents, steps := [] }

end Go.Proofs.YtiehfobcbhgfkaaGreatDoor.deed

namespace Go.Proofs.YtiehfobcbhgfkaaGreatDoor.dec
set_option maxRecDepth 20000
open Go.RowKit
open kit

/-- the decimal digits of n ahead of acc -/
def digs : Nat → Nat → List UInt8 → List UInt8
  | 0, _, acc => acc
  | f + 1, n, acc => if n = 0 then acc else digs f (n / 10) (UInt8.ofNat (48 + n % 10) :: acc)
theorem digs_fuel : ∀ (f g n : Nat) (acc : List UInt8), n ≤ f → n ≤ g → digs f n acc = digs g n acc
  | 0, 0, n, acc, _, _ => rfl
  | 0, g + 1, n, acc, h, _ => by obtain rfl : n = 0 := by omega
                                 simp [digs]
  | f + 1, 0, n, acc, _, h => by obtain rfl : n = 0 := by omega
                                 simp [digs]
  | f + 1, g + 1, n, acc, h1, h2 => by
    unfold digs
    by_cases h : n = 0
    · simp [h]
    · rw [if_neg h, if_neg h]
      exact digs_fuel f g _ _ (by omega) (by omega)
theorem digs_step (n : Nat) (acc : List UInt8) (h : 0 < n) : digs n n acc = digs (n / 10) (n / 10) (UInt8.ofNat (48 + n % 10) :: acc) := by
  obtain ⟨f, rfl⟩ : ∃ f, n = f + 1 := ⟨n - 1, by omega⟩
  conv => lhs; unfold digs
  rw [if_neg (by omega)]
  exact digs_fuel _ _ _ _ (by omega) (Nat.le_refl _)
theorem digs_dec : ∀ (f n : Nat), n ≤ f → 0 < n → ∀ acc, digs n n acc = Lib.decDigits n ++ acc
  | 0, n, h, h0, _ => by omega
  | f + 1, n, h, h0, acc => by
    rw [digs_step n acc h0, Lib.decDigits]
    by_cases h10 : n < 10
    · rw [dif_pos h10]
      have e0 : n / 10 = 0 := by omega
      have e1 : n % 10 = n := by omega
      rw [e0, e1]
      rfl
    · rw [dif_neg h10, digs_dec f (n / 10) (by omega) (by omega)]
      simp

def Fits (m len : Nat) : Prop := len ≤ 19 ∧ m < 10 ^ (19 - len)
theorem fits_step {m len : Nat} (h : Fits m len) (h0 : 0 < m) : Fits (m / 10) (len + 1) := by
  obtain ⟨h1, h2⟩ := h
  by_cases hl : len = 19
  · subst hl
    simp at h2
    omega
  · refine ⟨by omega, ?_⟩
    rw [show 19 - len = (19 - (len + 1)) + 1 by omega, Nat.pow_succ] at h2
    exact Nat.div_lt_of_lt_mul (by rw [Nat.mul_comm]; exact h2)

/-- what stands at a round's head: x is what is left of n, acc the digits so far -/
structure R (n x : Int) (acc : List UInt8) : Prop where
  pos : 0 ≤ n → 0 ≤ x
  neg : n ≤ 0 → x ≤ 0
  digits : digs x.natAbs x.natAbs acc = digs n.natAbs n.natAbs []
  fits : Fits x.natAbs acc.length

theorem ba_app (a b : List UInt8) : (⟨a.toArray⟩ : ByteArray) ++ ⟨b.toArray⟩ = ⟨(a ++ b).toArray⟩ := ByteArray.ext (by rw [ByteArray.data_append]; simp)
theorem conv_one (W : World) (x : Int) : ∀ dst, Tryz.prog.underlying dst = some .string →
    (convert 22 dst (.slice (some ⟨W.heap.size, 0, none⟩) 1 1)).run Tryz.prog (W.alloc (.cells #[.int .u8 x] 5)) = .ok (.string (strOfNums [x])) (W.alloc (.cells #[.int .u8 x] 5)) :=
  run_convert_bytes_arg _ 22 5 Tryz.underlying22 Tryz.underlying5 W.heap.size 0 1 1 [x] rfl (fun i hi => by
    obtain rfl : i = 0 := by omega
    rw [cell_of_row _ W.heap.size _ _ 5 (0, 0) (heap_alloc_new W _)]
    rfl)
theorem one_app (x : Nat) (acc : List UInt8) : strOfNums [48 + (x : Int)] ++ ⟨acc.toArray⟩ = ⟨(UInt8.ofNat (48 + x) :: acc).toArray⟩ := by
  have : strOfNums [48 + (x : Int)] = ⟨[UInt8.ofNat (48 + x)].toArray⟩ := by
    unfold strOfNums
    rw [show (48 + (x : Int)) = ((48 + x : Nat) : Int) by omega]
    rfl
  rw [this, ba_app]
  rfl

theorem figure_any (x : Int) (w : World) (h0 : 0 ≤ x) (h1 : x ≤ 9) :
    Calls Tryz.prog 123 #[.int .i64 x] w fun e w' => e = .returned (.int .u8 (48 + x)) ∧ w = w' := by
  go_enter Tryz.func123, Tryz.ntmps123
  go_wp2
  go_ret
  exact ⟨rfl, rfl⟩

theorem specDec_zero (w : World) : Calls Tryz.prog 72 #[.int .i64 0] w fun e w' => e = .returned (.string ⟨(Lib.itoa 0).toArray⟩) ∧ Below w.heap.size w w' := by
  have h : Lib.itoa 0 = [48] := by
    show Lib.decDigits 0 = [48]
    rw [Lib.decDigits]
    rfl
  have H := Lib.hid h
  clear h
  go_enter Tryz.func72, Tryz.ntmps72
  go_wp2
  go_ret
  rw [H.out]
  exact ⟨rfl, Below.refl _ _⟩

theorem tmod_abs {y : Int} (h : y ≤ 0) : -(y.tmod 10) = ((y.natAbs % 10 : Nat) : Int) := by
  have h1 : y = -((y.natAbs : Nat) : Int) := by omega
  rw [h1, Int.neg_tmod, Int.tmod_eq_emod_of_nonneg (by omega), Int.natAbs_neg, Int.natAbs_natCast]
  omega
theorem tmod_le {y : Int} (h : y ≤ 0) : y.tmod 10 ≤ 0 := by have := tmod_abs h; omega
theorem tmod_ge (y : Int) : -9 ≤ y.tmod 10 := by
  by_cases h : y ≤ 0
  · have := tmod_abs h
    omega
  · rw [Int.tmod_eq_emod_of_nonneg (by omega)]
    omega
theorem r_step {n y : Int} {acc : List UInt8} (h : R n y acc) (h0 : y ≠ 0) : R n (y.tdiv 10) (UInt8.ofNat (48 + y.natAbs % 10) :: acc) := by
  have ha : (y.tdiv 10).natAbs = y.natAbs / 10 := by rw [Int.natAbs_tdiv]; rfl
  refine ⟨fun hn => Int.tdiv_nonneg (h.pos hn) (by omega), fun hn => ?_, ?_, ?_⟩
  · have := h.neg hn
    have h1 : y = -((y.natAbs : Nat) : Int) := by omega
    rw [h1, Int.neg_tdiv]
    have := Int.tdiv_nonneg (a := ((y.natAbs : Nat) : Int)) (b := 10) (by omega) (by omega)
    omega
  · rw [ha, ← digs_step y.natAbs acc (by omega)]
    exact h.digits
  · rw [ha]
    exact fits_step h.fits (by omega)
theorem wrap_step {y : Int} {len : Nat} (h : Fits y.natAbs len) : wrap64 (y.tdiv 10) = y.tdiv 10 := by
  have ha : (y.tdiv 10).natAbs = y.natAbs / 10 := by rw [Int.natAbs_tdiv]; rfl
  have hb : y.natAbs < 10 ^ 19 := Nat.lt_of_lt_of_le h.2 (Nat.pow_le_pow_right (by omega) (by omega))
  have hc : (10 : Nat) ^ 19 = 10000000000000000000 := by decide
  refine IntWalk.wrap64_in _ ⟨?_, ?_⟩
  · omega
  · omega

set_option maxHeartbeats 400000 in
theorem specDec_pos (n : Int) (w : World) (h0 : 0 < n) (h1 : Fits n.natAbs 0) :
    Calls Tryz.prog 72 #[.int .i64 n] w fun e w' => e = .returned (.string ⟨(Lib.itoa n).toArray⟩) ∧ Below w.heap.size w w' := by
  have hd : Lib.itoa n = digs n.natAbs n.natAbs [] := by
    rw [digs_dec n.natAbs n.natAbs (Nat.le_refl _) (by omega), List.append_nil, Lib.itoa, if_neg (by omega), show n.toNat = n.natAbs by omega]
  have HD := Lib.hid hd
  have H1 := Lib.hid h1
  clear hd h1
  have hz0 : (n == 0) = false := by rw [beq_eq_false_iff_ne]; omega
  go_enter Tryz.func72, Tryz.ntmps72
  go_wp2
  go_loopw [0, 4, 5] (fun x o _ wr => ∃ (y : Int) (acc : List UInt8), x = .int .i64 y ∧ o = .string ⟨acc.toArray⟩ ∧ R n y acc ∧ Below w.heap.size w wr) (fun x _ _ _ => (intOf x).natAbs)
  case atStart => exact ⟨n, [], rfl, rfl, ⟨id, id, rfl, H1.out⟩, Below.refl _ _⟩
  case round =>
    obtain ⟨y, acc, rfl, rfl, hr, hb⟩ := hrel
    have hy := hr.pos (by omega)
    have hl := hr.fits.1
    by_cases hz : 0 < y
    · have HW := Lib.hid (wrap_step hr.fits)
      have HR := Lib.hid (r_step hr (by omega))
      have HM := Lib.hid (show (y.tdiv 10).natAbs < y.natAbs by have ha : (y.tdiv 10).natAbs = y.natAbs / 10 := (by rw [Int.natAbs_tdiv]; rfl); omega)
      have HE := Lib.hid (show (48 : Int) + y % 10 = 48 + ((y.natAbs % 10 : Nat) : Int) by omega)
      have hcv := conv_one wr (48 + y % 10)
      have hsz : (strOfNums [48 + y % 10]).size ≤ 1 := by rw [strOfNums_size]; exact Nat.le_refl _
      have t0 : 0 ≤ y % 10 := by omega
      have t1 : y % 10 ≤ 9 := by omega
      go_wp2_with (go_at_call 123; refine (figure_any _ _ (by omega) (by omega)).mono ?_; rintro e w' ⟨rfl, rfl⟩)
      go_roundw
      case rel => exact ⟨y.tdiv 10, _, by rw [HW.out], by rw [HE.out, one_app], HR.out, hb.alloc hb.size _⟩
      case measure => rw [HW.out]; exact HM.out
    · obtain rfl : y = 0 := by omega
      have hacc := hr.digits
      have HA := Lib.hid (show acc = digs n.natAbs n.natAbs [] from hacc)
      clear hacc hr
      go_wp2
      go_ret
      exact ⟨by rw [HD.out, ← HA.out]; rfl, hb⟩

set_option maxHeartbeats 400000 in
theorem specDec_neg (n : Int) (w : World) (h0 : n < 0) (h1 : Fits n.natAbs 0) :
    Calls Tryz.prog 72 #[.int .i64 n] w fun e w' => e = .returned (.string ⟨(Lib.itoa n).toArray⟩) ∧ Below w.heap.size w w' := by
  have hd : Lib.itoa n = 45 :: digs n.natAbs n.natAbs [] := by
    rw [digs_dec n.natAbs n.natAbs (Nat.le_refl _) (by omega), List.append_nil, Lib.itoa, if_pos h0]
  have HD := Lib.hid hd
  have H1 := Lib.hid h1
  clear hd h1
  have hz0 : (n == 0) = false := by rw [beq_eq_false_iff_ne]; omega
  go_enter Tryz.func72, Tryz.ntmps72
  go_wp2
  go_loopw [0, 4, 5] (fun x o _ wr => ∃ (y : Int) (acc : List UInt8), x = .int .i64 y ∧ o = .string ⟨acc.toArray⟩ ∧ R n y acc ∧ Below w.heap.size w wr) (fun x _ _ _ => (intOf x).natAbs)
  case atStart => exact ⟨n, [], rfl, rfl, ⟨id, id, rfl, H1.out⟩, Below.refl _ _⟩
  case round =>
    obtain ⟨y, acc, rfl, rfl, hr, hb⟩ := hrel
    have hy := hr.neg (by omega)
    have hl := hr.fits.1
    by_cases hz : y < 0
    · have HW := Lib.hid (wrap_step hr.fits)
      have HR := Lib.hid (r_step hr (by omega))
      have HM := Lib.hid (show (y.tdiv 10).natAbs < y.natAbs by have ha : (y.tdiv 10).natAbs = y.natAbs / 10 := (by rw [Int.natAbs_tdiv]; rfl); omega)
      have t0 : y.tmod 10 ≤ 0 := tmod_le (by omega)
      have t1 : -9 ≤ y.tmod 10 := tmod_ge y
      have HE := Lib.hid (show (48 : Int) + -(y.tmod 10) = 48 + ((y.natAbs % 10 : Nat) : Int) by have := tmod_abs (y := y) (by omega); omega)
      by_cases t2 : y.tmod 10 < 0
      · have hcv := conv_one wr (48 + -(y.tmod 10))
        have hsz : (strOfNums [48 + -(y.tmod 10)]).size ≤ 1 := by rw [strOfNums_size]; exact Nat.le_refl _
        go_wp2_with (go_at_call 123; refine (figure_any _ _ (by omega) (by omega)).mono ?_; rintro e w' ⟨rfl, rfl⟩)
        go_roundw
        case rel => exact ⟨y.tdiv 10, _, by rw [HW.out], by rw [HE.out, one_app], HR.out, hb.alloc hb.size _⟩
        case measure => rw [HW.out]; exact HM.out
      · have HE2 := Lib.hid (show (48 : Int) + y.tmod 10 = 48 + ((y.natAbs % 10 : Nat) : Int) by have := tmod_abs (y := y) (by omega); omega)
        have hcv := conv_one wr (48 + y.tmod 10)
        have hsz : (strOfNums [48 + y.tmod 10]).size ≤ 1 := by rw [strOfNums_size]; exact Nat.le_refl _
        go_wp2_with (go_at_call 123; refine (figure_any _ _ (by omega) (by omega)).mono ?_; rintro e w' ⟨rfl, rfl⟩)
        go_roundw
        case rel => exact ⟨y.tdiv 10, _, by rw [HW.out], by rw [HE2.out, one_app], HR.out, hb.alloc hb.size _⟩
        case measure => rw [HW.out]; exact HM.out
    · obtain rfl : y = 0 := by omega
      have hacc := hr.digits
      have HA := Lib.hid (show acc = digs n.natAbs n.natAbs [] from hacc)
      clear hacc hr
      go_wp2
      go_ret
      exact ⟨by rw [HD.out, ← HA.out, show (⟨(45 :: acc).toArray⟩ : ByteArray) = ⟨[45].toArray⟩ ++ ⟨acc.toArray⟩ by rw [ba_app]; rfl]; rfl, hb⟩

theorem fits_int (n : Int) (h : (Lit.int .i64 n).wf = true) : Fits n.natAbs 0 := by
  have e1 : IntKind.i64.min = -9223372036854775808 := rfl
  have e2 : IntKind.i64.max = 9223372036854775807 := rfl
  have hb : -9223372036854775808 ≤ n ∧ n ≤ 9223372036854775807 := by simpa [Lit.wf, e1, e2] using h
  refine ⟨by omega, ?_⟩
  have hc : (10 : Nat) ^ (19 - 0) = 10000000000000000000 := by decide
  omega

theorem specDec_any (n : Int) (w : World) (h : (Lit.int .i64 n).wf = true) :
    Calls Tryz.prog 72 #[.int .i64 n] w fun e w' => e = .returned (.string ⟨(Lib.itoa n).toArray⟩) ∧ Below w.heap.size w w' := by
  rcases Int.lt_trichotomy n 0 with h0 | rfl | h0
  · exact specDec_neg n w h0 (fits_int n h)
  · exact specDec_zero w
  · exact specDec_pos n w h0 (fits_int n h)

end Go.Proofs.YtiehfobcbhgfkaaGreatDoor.dec

namespace Go.Proofs.YtiehfobcbhgfkaaGreatDoor.rd
set_option maxRecDepth 20000
open Go.RowKit

def rdV (s : ByteArray) : Value := match RD s.data.toList with
  | some n => .tuple #[.int .i64 (n : Int), .bool true]
  | none => .tuple #[.int .i64 0, .bool false]
theorem rdV_yes {s : ByteArray} {n : Nat} (h : RD s.data.toList = some n) : rdV s = .tuple #[.int .i64 (n : Int), .bool true] := by unfold rdV; rw [h]
theorem rdV_no {s : ByteArray} (h : RD s.data.toList = none) : rdV s = .tuple #[.int .i64 0, .bool false] := by unfold rdV; rw [h]

theorem specRead_long (s : ByteArray) (w : World) (hm : s.size ≤ 9223372036854775807) (h : 10 < s.size) :
    Calls Tryz.prog 212 #[.string s] w fun e w' => e = .returned (rdV s) ∧ Below w.heap.size w w' := by
  have H := Lib.hid (rdV_no (s := s) (rd_long (by simpa using h)))
  go_enter Tryz.func212, Tryz.ntmps212
  go_wp2
  go_ret2
  exact ⟨by rw [H.out]; rfl, Below.refl _ _⟩

theorem str_ne {t s : ByteArray} (h : ¬ t = s) : (t.toList == s.toList) = false := by
  rw [beq_eq_false_iff_ne, ByteArray.toList_eq, ByteArray.toList_eq]
  intro e
  exact h (ByteArray.ext (Array.toList_inj.1 e))
theorem itoa_nat (n : Nat) : Lib.itoa (n : Int) = Lib.decDigits n := by unfold Lib.itoa; rw [if_neg (by omega)]; rfl
theorem wf_small (n : Nat) (h : n < 10000000000) : (Lit.int .i64 (n : Int)).wf = true := WalkArith.wf_i64 (by omega)

set_option maxHeartbeats 400000 in
theorem specRead_short (s : ByteArray) (w : World) (h : s.size ≤ 10) :
    Calls Tryz.prog 212 #[.string s] w fun e w' => e = .returned (rdV s) ∧ Below w.heap.size w w' := by
  go_enter Tryz.func212, Tryz.ntmps212
  go_wp2
  go_loopw [4, 5] (fun x i wr => ∃ k n : Nat, k ≤ s.size ∧ i = .int .i64 k ∧ x = .int .i64 n ∧ Lib.decFrom 0 (s.data.toList.take k) = some n ∧ Below w.heap.size w wr) (fun _ i _ => s.size - (intOf i).toNat)
  case atStart => exact ⟨0, 0, Nat.zero_le _, rfl, rfl, rfl, Below.refl _ _⟩
  case round =>
    obtain ⟨k, n, hk, rfl, rfl, hd, hbw⟩ := hrel
    have HD := Lib.hid hd
    have hb : n < 10 ^ (0 + (s.data.toList.take k).length) := decFrom_lt _ 0 n 0 (by decide) hd
    have hkl : (s.data.toList.take k).length = k := by rw [List.length_take]; have : s.data.toList.length = s.size := rfl; omega
    rw [hkl, Nat.zero_add] at hb
    clear hd hkl
    by_cases hlt : k < s.size
    · have hb1 : n < 1000000000 := Nat.lt_of_lt_of_le hb (Nat.le_trans (Nat.pow_le_pow_right (by omega) (show k ≤ 9 by omega)) (by decide))
      clear hb
      have hc : s[k].toNat < 256 := s[k].toNat_lt
      have hat : s.data.toList[k]? = some s[k] := by
        rw [List.getElem?_eq_getElem (show k < s.data.toList.length from hlt)]
        rfl
      have HAT := Lib.hid hat
      clear hat
      by_cases c1 : (s[k].toNat : Int) < 48
      · have H := Lib.hid (rdV_no (s := s) (rd_bad HAT.out (by unfold Lib.digitVal; rw [if_neg (by omega)])))
        go_wp2
        go_ret2
        exact ⟨by rw [H.out]; rfl, hbw⟩
      · by_cases c2 : 57 < (s[k].toNat : Int)
        · have H := Lib.hid (rdV_no (s := s) (rd_bad HAT.out (by unfold Lib.digitVal; rw [if_neg (by omega)])))
          go_wp2
          go_ret2
          exact ⟨by rw [H.out]; rfl, hbw⟩
        · have HN := Lib.hid (Lib.decFrom_take s.data.toList k 0 n s[k] (s[k].toNat - 48) HD.out HAT.out (by unfold Lib.digitVal; rw [if_pos (by omega)]))
          go_wp2
          go_roundw
          case rel => exact ⟨k + 1, n * 10 + (s[k].toNat - 48), by omega, by go_num, by congr 1; omega, HN.out, hbw⟩
          case measure => simp [intOf]; omega
    · obtain rfl : k = s.size := by omega
      have hall : Lib.decFrom 0 s.data.toList = some n := by
        have := HD.out
        rwa [List.take_of_length_le (by exact Nat.le_refl _)] at this
      have hb1 : n < 10000000000 := Nat.lt_of_lt_of_le hb (Nat.le_trans (Nat.pow_le_pow_right (by omega) h) (by decide))
      have hrd := rd_of hall
      clear hb hall
      by_cases hmax : 1000000000 < n
      · have H := Lib.hid (rdV_no (s := s) (by rw [hrd, if_neg (by omega)]))
        clear hrd
        go_wp2
        go_ret2
        exact ⟨by rw [H.out]; rfl, hbw⟩
      · by_cases he : Lib.decDigits n = s.data.toList
        · have H := Lib.hid (rdV_yes (s := s) (by rw [hrd, if_pos ⟨by omega, he⟩]))
          have hst : (⟨(Lib.itoa (n : Int)).toArray⟩ : ByteArray) = s := by rw [itoa_nat, he]
          have HS := Lib.hid hst
          clear hrd he hst
          go_wp2_with (go_at_call 72; refine (dec.specDec_any _ _ (wf_small n hb1)).mono ?_; rintro e w1 ⟨rfl, b1⟩; rw [HS.out])
          go_ret2
          exact ⟨by rw [H.out]; rfl, hbw.trans (b1.mono hbw.size)⟩
        · have H := Lib.hid (rdV_no (s := s) (by rw [hrd, if_neg (fun hh => he hh.2)]))
          have hst : ¬ (⟨(Lib.itoa (n : Int)).toArray⟩ : ByteArray) = s := fun hh => he (by rw [← itoa_nat, ← hh])
          obtain ⟨t, ht⟩ : ∃ t : ByteArray, t = ⟨(Lib.itoa (n : Int)).toArray⟩ := ⟨_, rfl⟩
          rw [← ht] at hst
          have HT := Lib.hid ht
          have hne := str_ne hst
          clear hrd he ht hst
          go_wp2_with (go_at_call 72; refine (dec.specDec_any _ _ (wf_small n hb1)).mono ?_; rintro e w1 ⟨rfl, b1⟩; rw [← HT.out])
          go_ret2
          exact ⟨by rw [H.out]; rfl, hbw.trans (b1.mono hbw.size)⟩

theorem specRead_any (s : ByteArray) (w : World) (hm : s.size ≤ 9223372036854775807) :
    Calls Tryz.prog 212 #[.string s] w fun e w' => e = .returned (rdV s) ∧ Below w.heap.size w w' := by
  by_cases h : s.size ≤ 10
  · exact specRead_short s w h
  · exact specRead_long s w hm (by omega)

end Go.Proofs.YtiehfobcbhgfkaaGreatDoor.rd
