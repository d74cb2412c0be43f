/-
  A step parted at its first ':', plain facts: strings.Cut tells what spec's own search tells.
-/
import Derived.Test.YtkibddcjogfklaaGreatDoorIkMath
namespace Go.Proofs.YtkibddcjogfklaaGreatDoor.ik
open Go
open kit strs recs disk deed

def fc : List UInt8 → Option Nat
  | [] => none
  | b :: l => if b = 58 then some 0 else (fc l).map (· + 1)
theorem index_fc : ∀ l : List UInt8, Lib.index l [58] = match fc l with | none => -1 | some i => (i : Int)
  | [] => by simp [Lib.index, fc]
  | b :: l => by
    unfold Lib.index fc
    by_cases h : b = 58
    · subst h
      simp
    · have h' : (58 == b) = false := by simpa using fun e => h e.symm
      rw [if_neg (by simp [List.isPrefixOf, h']), if_neg h, index_fc l]
      cases fc l with
      | none => simp
      | some i =>
        have hi : ¬ ((i : Int) == -1) = true := by simp
        simp only [Option.map_some]
        rw [if_neg hi]
        exact (Int.natCast_add i 1).symm
theorem cut_fc (l : List UInt8) : Lib.cut l [58] = match fc l with | none => (l, [], false) | some i => (l.take i, l.drop (i + 1), true) := by
  unfold Lib.cut
  rw [index_fc]
  cases fc l with
  | none => simp
  | some i =>
    simp only []
    rw [if_pos (by omega)]
    simp
theorem byte_cons (s : ByteArray) (i : Nat) (h : i < s.size) : s.data.toList.drop i = s[i]'h :: s.data.toList.drop (i + 1) := by
  rw [List.drop_eq_getElem_cons (by rw [Array.length_toList]; exact h)]
  rfl
theorem colon_fc (s : ByteArray) : ∀ f i : Nat, i + f = s.size → colon s f i = (fc (s.data.toList.drop i)).map (· + i)
  | 0, i, h => by
    rw [List.drop_of_length_le (by rw [Array.length_toList]; show s.size ≤ i; omega)]
    rfl
  | f + 1, i, h => by
    have hi : i < s.size := by omega
    rw [byte_cons s i hi]
    unfold colon fc
    rw [byteAt_in hi]
    by_cases e : s[i]'hi = 58
    · rw [if_pos (by rw [e]; rfl), if_pos e]
      simp
    · rw [if_neg (fun e2 => e (UInt8.toNat_inj.1 (by rw [e2]; rfl))), if_neg e, colon_fc s f (i + 1) (by omega), Option.map_map]
      congr 1
      funext k
      simp only [Function.comp]
      omega
theorem ext_list (s : ByteArray) (a b : Nat) : (s.extract a b).data.toList = (s.data.toList.drop a).take (b - a) := by
  rw [ByteArray.data_extract, Array.toList_extract, List.extract_eq_take_drop]
theorem ext_tail (s : ByteArray) (a : Nat) : (s.extract a s.size).data.toList = s.data.toList.drop a := by
  rw [ext_list, List.take_of_length_le]
  rw [List.length_drop, Array.length_toList]
  exact Nat.le_refl _
theorem of_toList {l : List UInt8} {s : ByteArray} (h : l = s.data.toList) : (⟨l.toArray⟩ : ByteArray) = s := by
  apply ByteArray.ext
  rw [h]

/-- what strings.Cut tells of a step behind its first byte -/
theorem cut_none {s : ByteArray} (h1 : 1 ≤ s.size) (h : colon s (s.size - 1) 1 = none) :
    (⟨(Lib.cut (s.extract 1 s.size).data.toList [58]).2.1.toArray⟩ : ByteArray) = { data := #[] } := by
  rw [colon_fc s _ _ (by omega)] at h
  rw [ext_tail, cut_fc]
  cases hf : fc (s.data.toList.drop 1) with
  | none => rfl
  | some i => rw [hf] at h; cases h
theorem cut_some {s : ByteArray} {i : Nat} (h1 : 1 ≤ s.size) (h : colon s (s.size - 1) 1 = some i) :
    (⟨(Lib.cut (s.extract 1 s.size).data.toList [58]).1.toArray⟩ : ByteArray) = s.extract 1 i ∧ (⟨(Lib.cut (s.extract 1 s.size).data.toList [58]).2.1.toArray⟩ : ByteArray) = s.extract (i + 1) s.size := by
  rw [colon_fc s _ _ (by omega)] at h
  rw [ext_tail, cut_fc]
  cases hf : fc (s.data.toList.drop 1) with
  | none => rw [hf] at h; cases h
  | some j =>
    rw [hf] at h
    simp only [Option.map_some, Option.some.injEq] at h
    subst h
    refine ⟨of_toList ?_, of_toList ?_⟩
    · rw [ext_list, Nat.add_sub_cancel]
    · rw [ext_tail]
      simp only [List.drop_drop]
      congr 1
      omega
theorem ext_size (s : ByteArray) (a b : Nat) : (s.extract a b).size ≤ s.size := by
  rw [ByteArray.size_extract]
  omega
theorem cut_small (l : List UInt8) : (⟨(Lib.cut l [58]).1.toArray⟩ : ByteArray).size ≤ l.length ∧ (⟨(Lib.cut l [58]).2.1.toArray⟩ : ByteArray).size ≤ l.length := by
  show (Lib.cut l [58]).1.toArray.size ≤ l.length ∧ (Lib.cut l [58]).2.1.toArray.size ≤ l.length
  rw [cut_fc]
  cases fc l with
  | none => simp
  | some i => simp; omega

end Go.Proofs.YtkibddcjogfklaaGreatDoor.ik
