/-
  Contracts of the laws' own helpers over lists of strings: markText, eqStringS, markStringS, heldStringS.
-/
import Derived.Test.YtideejpopneplaaKit
import Derived.Deep.QuietTactic
import Derived.BigQuiet
import Derived.Laws.OwnMore
import Derived.WalkSmall
import Derived.Deep.RegionHeld3
namespace Go.Proofs.Ytideejpopneplaa.strs
set_option maxRecDepth 20000
open Go.RowKit
open kit

/-- the decimal digits of n ahead of acc -/
def digs : Nat → Nat → List UInt8 → List UInt8
  | 0, _, acc => acc
  | f + 1, n, acc => if n = 0 then acc else digs f (n / 10) (UInt8.ofNat (48 + n % 10) :: acc)
theorem digs_fuel : ∀ (f g n : Nat) (acc : List UInt8), n ≤ f → n ≤ g → digs f n acc = digs g n acc
  | 0, 0, n, acc, _, _ => rfl
  | 0, g + 1, n, acc, h, _ => by obtain rfl : n = 0 := by omega
                                 simp [digs]
  | f + 1, 0, n, acc, _, h => by obtain rfl : n = 0 := by omega
                                 simp [digs]
  | f + 1, g + 1, n, acc, h1, h2 => by
    unfold digs
    by_cases h : n = 0
    · simp [h]
    · rw [if_neg h, if_neg h]
      exact digs_fuel f g _ _ (by omega) (by omega)
theorem digs_step (n : Nat) (acc : List UInt8) (h : 0 < n) : digs n n acc = digs (n / 10) (n / 10) (UInt8.ofNat (48 + n % 10) :: acc) := by
  obtain ⟨f, rfl⟩ : ∃ f, n = f + 1 := ⟨n - 1, by omega⟩
  conv => lhs; unfold digs
  rw [if_neg (by omega)]
  exact digs_fuel _ _ _ _ (by omega) (Nat.le_refl _)

def markB (k : Nat) : ByteArray := ⟨(109 :: digs k k []).toArray⟩

theorem ba_app (a b : List UInt8) : (⟨a.toArray⟩ : ByteArray) ++ ⟨b.toArray⟩ = ⟨(a ++ b).toArray⟩ := ByteArray.ext (by rw [ByteArray.data_append]; simp)

theorem conv_one (W : World) (x : Int) : ∀ dst, Try.prog.underlying dst = some .string →
    (convert 22 dst (.slice (some ⟨W.heap.size, 0, none⟩) 1 1)).run Try.prog (W.alloc (.cells #[.int .u8 x] 5)) = .ok (.string (strOfNums [x])) (W.alloc (.cells #[.int .u8 x] 5)) :=
  run_convert_bytes_arg _ 22 5 Try.underlying22 Try.underlying5 W.heap.size 0 1 1 [x] rfl (fun i hi => by
    obtain rfl : i = 0 := by omega
    rw [cell_of_row _ W.heap.size _ _ 5 (0, 0) (heap_alloc_new W _)]
    rfl)

theorem one_app (x : Nat) (acc : List UInt8) : strOfNums [48 + (x : Int) % 10] ++ ⟨acc.toArray⟩ = ⟨(UInt8.ofNat (48 + x % 10) :: acc).toArray⟩ := by
  have : strOfNums [48 + (x : Int) % 10] = ⟨[UInt8.ofNat (48 + x % 10)].toArray⟩ := by
    unfold strOfNums
    rw [show (48 + (x : Int) % 10) = ((48 + x % 10 : Nat) : Int) by omega]
    rfl
  rw [this, ba_app]
  rfl

theorem decide_nat_false {a b : Nat} (h : ¬ a = b) : decide (a = b) = false := by simp [h]

def marks (k n : Nat) : List ByteArray := (List.range n).map fun i => markB (k + i)
theorem marks_length (k n : Nat) : (marks k n).length = n := by simp [marks]
theorem marks_at (k n i : Nat) (h : i < n) : ((marks k n).map Value.string)[i]? = some (.string (markB (k + i))) := by simp [marks, h]

/-! ### the marks are written -/
def rowM (k : Nat) (xs : List ByteArray) (j : Nat) : List ByteArray := marks k j ++ xs.drop j
theorem rowM_length (k n : Nat) (xs : List ByteArray) (j : Nat) (hl : xs.length = n) (h : j ≤ n) : (rowM k xs j).length = n := by simp [rowM, marks_length]; omega
theorem rowM_set (k n : Nat) (xs : List ByteArray) (j : Nat) (hl : xs.length = n) (h : j < n) :
    ((rowM k xs j).map Value.string).set j (.string (markB (k + j))) = (rowM k xs (j + 1)).map Value.string := by
  have e : marks k (j + 1) = marks k j ++ [markB (k + j)] := by simp [marks, List.range_succ]
  unfold rowM
  rw [e, ← List.map_set, List.set_append_right _ _ (by rw [marks_length]; exact Nat.le_refl _), marks_length, Nat.sub_self]
  obtain ⟨x, r, hx⟩ : ∃ x r, xs.drop j = x :: r := by
    cases hd : xs.drop j with
    | nil => have := congrArg List.length hd; simp at this; omega
    | cons x r => exact ⟨x, r, rfl⟩
  have hr : xs.drop (j + 1) = r := by rw [← List.drop_drop, hx]; rfl
  rw [hx, hr, List.set_cons_zero]
  simp

end Go.Proofs.Ytideejpopneplaa.strs
