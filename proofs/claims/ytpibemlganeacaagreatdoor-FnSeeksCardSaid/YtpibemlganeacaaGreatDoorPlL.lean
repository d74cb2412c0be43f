/-
  A list of places that was read is short.
-/
import Derived.Test.YtpibemlganeacaaGreatDoorMathX
namespace Go.Proofs.YtpibemlganeacaaGreatDoor.pl
set_option maxRecDepth 20000
open Go
open sum num burst hd fr

theorem rpGo_len (b : ByteArray) : ∀ (n pos : Nat) (l : Int × Int) (acc xs : List (Int × Int)) (q : Nat), rpGo b n pos l acc = some (xs, q) → xs.length = acc.length + n
  | 0, pos, l, acc, xs, q, h => by
    have h2 : some (acc, pos) = some (xs, q) := h
    simp only [Option.some.injEq, Prod.mk.injEq] at h2
    rw [← h2.1]; rfl
  | n + 1, pos, l, acc, xs, q, h => by
    cases r1 : rv (nats b pos) with
    | none => rw [rpGo_first r1] at h; cases h
    | some x =>
      cases r2 : rv (nats b (pos + x.2)) with
      | none => rw [rpGo_second r1 r2] at h; cases h
      | some y =>
        rw [rpGo_next r1 r2] at h
        have := rpGo_len b n _ _ _ _ _ h
        rw [this, List.length_append, List.length_cons, List.length_nil]
        omega
theorem rdP_len {b : ByteArray} {a : Int} {x : List (Int × Int) × Nat} (h : rdP b a = some x) : x.1.length ≤ 1000 := by
  unfold rdP at h
  split at h
  · split at h
    · cases h
    · split at h
      · next h1 =>
        obtain ⟨xs, q⟩ := x
        have := rpGo_len b _ _ _ _ _ _ h
        rw [List.length_nil] at this
        show xs.length ≤ 1000
        omega
      · cases h
  · cases h

end Go.Proofs.YtpibemlganeacaaGreatDoor.pl
