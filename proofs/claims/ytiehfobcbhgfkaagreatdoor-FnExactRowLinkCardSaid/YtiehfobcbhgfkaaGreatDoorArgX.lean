/-
  Arguments, as what they are: numbers.
-/
import Derived.Test.YtiehfobcbhgfkaaGreatDoorKit
import Derived.Test.YtiehfobcbhgfkaaGreatDoorDrawX
import Derived.OpenShut
import Derived.ShutString
import Derived.ChangeOld
namespace Go.Proofs.YtiehfobcbhgfkaaGreatDoor.argv
set_option maxRecDepth 20000

end Go.Proofs.YtiehfobcbhgfkaaGreatDoor.argv

namespace Go.Proofs.YtiehfobcbhgfkaaGreatDoor.argv
set_option maxRecDepth 20000
open Go.ChangeShapes Go.WideShapes Go.RowKit
open kit

set_option maxRecDepth 1000000 in
theorem op_B {H : Type} {enc : TypeId × Value → H} {W : World} {r : Reach} {b0 : Nat} {v : Value} {d : DataW H} {p : List MemPlace} (hv : Value.okWide Tryz.prog W r b0 22 v) (h : DataW.Trod enc Tryz.prog W 0 (fun _ => true) true 22 v d p) :
    ∃ a n c, v = .slice a n c ∧ n ≤ 9223372036854775807 ∧ (n ≤ 1048576 → draw.CodeAt W W.heap.size a n) := by
  obtain ⟨a, n, c, rfl⟩ := okWide_slice Tryz.underlying22 hv
  obtain ⟨fuel, hf⟩ := h
  refine ⟨a, n, c, rfl, ?_⟩
  rcases open_ints Tryz.underlying22 Tryz.underlying5 (by kernel_rfl) hf with ⟨hcs, _⟩ | ⟨x, l, cp, zs, hcs, _, hl, hm, hz, _, h4, h5⟩
  · simp [Value.cells] at hcs
    obtain ⟨rfl, rfl, rfl⟩ := hcs
    exact ⟨by omega, fun _ => ⟨by omega, .inl rfl⟩⟩
  · simp [Value.cells] at hcs
    obtain ⟨rfl, rfl, rfl⟩ := hcs
    refine ⟨by unfold maxLen at hm; omega, fun hle => ⟨hle, ?_⟩⟩
    by_cases h0 : n = 0
    · exact .inl h0
    · obtain ⟨b, off, rfl, hc⟩ := ints_at h4 (by simp at hz; omega)
      refine .inr ⟨b, off, rfl, World.block_lt_of_cell? W _ (hc 0 (by simp at hz; omega)), fun j hj => ⟨_, hc j (by simp at hz; omega), ?_⟩⟩
      have hw : (Lit.int .u8 (zs.getD j 0)).wf = true := h5 _ (by
        have hz' : zs.length = c := by simpa using hz
        rw [List.getD, List.getElem?_eq_getElem (show j < zs.length by omega)]
        exact List.getElem_mem _)
      have e1 : IntKind.u8.min = 0 := rfl
      have e2 : IntKind.u8.max = 255 := rfl
      simpa [Lit.wf, e1, e2] using hw

end Go.Proofs.YtiehfobcbhgfkaaGreatDoor.argv
