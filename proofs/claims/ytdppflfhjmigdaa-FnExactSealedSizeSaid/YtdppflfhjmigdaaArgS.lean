/-
  Arguments, as what they are: slices of strings.
-/
import Derived.Test.YtdppflfhjmigdaaArg
import Derived.Test.YtdppflfhjmigdaaStrQ
import Derived.OpenShut
import Derived.ShutString
import Derived.SliceStrings
import Derived.ChangeOld
namespace Go.Proofs.Ytdppflfhjmigdaa.argv
set_option maxRecDepth 20000
open Go.ChangeShapes Go.WideShapes Go.RowKit
open kit

set_option maxRecDepth 1000000 in
theorem op_S {H : Type} {enc : TypeId × Value → H} {W : World} {r : Reach} {b0 : Nat} {v : Value} {d : DataW H} {p : List MemPlace} (hv : Value.okWide Try.prog W r b0 24 v) (h : DataW.Trod enc Try.prog W 0 (fun _ => true) true 24 v d p) :
    ∃ a n c xs, v = .slice a n c ∧ n ≤ 9223372036854775807 ∧ strs.At W a n xs ∧ ∀ s ∈ xs, s.size ≤ 9223372036854775807 := by
  obtain ⟨a, n, c, rfl⟩ := okWide_slice Try.underlying24 hv
  obtain ⟨fuel, hf⟩ := h
  have hk : ∃ zs, strs.IsStrs W a n c zs := by
    rcases open_strings Try.underlying24 Try.underlying9 (by kernel_rfl) hf with ⟨hcs, _⟩ | ⟨x, l, cp, zs, hcs, _, hl, hm, hz, _, hcell, hwz⟩
    · simp [Value.cells] at hcs
      obtain ⟨rfl, rfl, rfl⟩ := hcs
      exact ⟨[], .inl ⟨rfl, rfl, rfl, rfl⟩⟩
    · simp [Value.cells] at hcs
      obtain ⟨rfl, rfl, rfl⟩ := hcs
      exact ⟨zs, .inr ⟨_, rfl, hl, hm, by simpa using hz, hcell, hwz⟩⟩
  obtain ⟨zs, hk⟩ := hk
  exact ⟨a, n, c, zs.take n, rfl, hk.len, hk.at, hk.each⟩

end Go.Proofs.Ytdppflfhjmigdaa.argv
