/-
  What impl answers at names, in worlds that hold the library's variables that the rows list.
-/
import Derived.Test.YtepecjofngoejaaDoorNmK
import Derived.Test.YtepecjofngoejaaDoorNmO
import Derived.Test.YtepecjofngoejaaDoorShelfC
import Derived.Test.YtepecjofngoejaaDoorHold
namespace Go.Proofs.YtepecjofngoejaaDoor.nam
open Go.RowKit Go.Sort
open kit
open num

theorem libs : Libs := ⟨fun g cap ss w h1 h2 h3 => Tryd.slices_Sort_string g 0 cap ss w h1 h2 h3, fun w => Tryd.slices_Sort_string_none none 0 w, fun g cap zs w h1 h2 h3 => Tryd.slices_Compact_string g 0 cap zs w h1 h2 h3, fun w => Tryd.slices_Compact_string_empty none 0 w⟩
theorem tab_of {w : World} (h : hold.F_math_bits_deBruijn64tab w) : Tab64 w := h
theorem synt_of {w : World} (h : hold.F_strconv_ErrSyntax w) : Synt w := h
theorem hand_of {w : World} (h : hold.F_errors_errorType w) : Hand w := h
def GN (w : World) : Prop := Tab64 w ∧ Synt w ∧ Hand w
def GR (w : World) : Prop := Tab64 w ∧ Synt w
theorem impl : Impl GN := ⟨fun _ _ h hb => ⟨tab64_below h.1 hb, synt_below h.2.1 hb, hand_below h.2.2 hb⟩, fun n w h => implSeg_any n w h.1, fun n w h => implTemp_any n w h.1, fun b w hb h => implRead_any b w hb h.1 h.2.1, fun b w hb h => implOk_any b w hb h.2.2, fun b m w hb hm h => implNext_any b m w hb hm h.1⟩
theorem implS : ImplS Hand := ⟨fun _ _ h hb => hand_below h hb, fun a c n xs w h1 h2 h3 => implSorted_given libs a c n xs w h1 h2 h3⟩
theorem keep64 : ∀ w w', Tab64 w → Below w.heap.size w w' → Tab64 w' := fun _ _ h hb => tab64_below h hb
theorem keepR : ∀ w w', GR w → Below w.heap.size w w' → GR w' := fun _ _ h hb => ⟨tab64_below h.1 hb, synt_below h.2 hb⟩
theorem keepH : ∀ w w', Hand w → Below w.heap.size w w' → Hand w' := fun _ _ h hb => hand_below h hb

end Go.Proofs.YtepecjofngoejaaDoor.nam
