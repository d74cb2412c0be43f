/-
  No cell of these rows narrows 'for every input' (looked for: loops, veiled, ifaces, maps, wideKeys, modest, calm, conditions, laid).
  DERIVED. THE GIVEN ROWS OF THIS SEAT. 8 by the template 'for every input the law returns true; each argument reads behind the call as it read before'; 0 by the template 'total and deterministic' (their statements: YtideejpopneplaaTotals.lean).
  GIVEN WITH THE SEED: the statements are not yours to turn. If you find one false, say at which input.
  Laid BY PROGRAM, IN A SANDBOX (cutbox-rows.mjs): the forced cells as the released guide's own fill.sh prints them over the translation 9838e486fed869da… (all of the seat's roots in one cut). By AI agents, Wed Nov 11 2026. No macro, syntax, notation, axiom, sorry.
-/
import Derived.Test.YtideejpopneplaaChecked
import GoSem.Claim
import GoSem.ClaimJoined
import GoSem.ClaimMapViews
import Derived.JoinedTies
import Derived.KernelRfl
namespace Go.Proofs.Ytideejpopneplaa
/- THE CELL 'sum', in the pinned program and in every row, IS THE sha256 OF THE DUMP (.gsa) THAT YtideejpopneplaaProg.lean LOADS. Nothing in Lean hashes anything: it is a label: what it is worth is what the hold of that sum in a sandbox is worth. -/
noncomputable def Try.pinned : Pinned := { name := "ytideejpopneplaa", sum := "9838e486fed869da8450f70b523169c0dd1a593cac26c5b1b7be800ff392b5d8", checked := Try.checked }
namespace Rows
def none {H : Type} : Left H := { results := [], args := [] }

/-- 'laws.FnPlaces': WHATEVER THE INPUT: true; the input reads as it did. -/
def fnPlacesSpec : ChangeSpec := { name := "fnPlaces", fn := fun _ => fun
  | [d] => { results := [.lit (.bool true)], args := [d] }
  | _ => none }
def fnPlacesRow : OpenClaim := { program := "ytideejpopneplaa", sum := "9838e486fed869da8450f70b523169c0dd1a593cac26c5b1b7be800ff392b5d8", func := "loop.example/g00971/laws.FnPlaces", spec := "fnPlaces", inPlace := ["internal/abi.NoEscape", "internal/bytealg.MakeNoZero"], apart := false }
def FnPlacesSaid : Prop := fnPlacesRow.holds Try.pinned (OpenSpec.ofChange fnPlacesSpec)

/-- ITS FALSE NEIGHBOUR: 'it returns false'. Refute it at one input. -/
def fnPlacesWrong : ChangeSpec := { name := "fnPlaces", fn := fun _ => fun
  | [d] => { results := [.lit (.bool false)], args := [d] }
  | _ => none }
def FnPlacesWrongFalsely : Prop := fnPlacesRow.holds Try.pinned (OpenSpec.ofChange fnPlacesWrong)

/-- 'laws.FnTrailers': WHATEVER THE INPUT: true; the input reads as it did. -/
def fnTrailersSpec : ChangeSpec := { name := "fnTrailers", fn := fun _ => fun
  | [d] => { results := [.lit (.bool true)], args := [d] }
  | _ => none }
def fnTrailersRow : OpenClaim := { program := "ytideejpopneplaa", sum := "9838e486fed869da8450f70b523169c0dd1a593cac26c5b1b7be800ff392b5d8", func := "loop.example/g00971/laws.FnTrailers", spec := "fnTrailers", inPlace := ["internal/abi.NoEscape", "internal/bytealg.MakeNoZero"], unfollowed := true, recurses := true, apart := false }
def FnTrailersSaid : Prop := fnTrailersRow.holds Try.pinned (OpenSpec.ofChange fnTrailersSpec)

/-- ITS FALSE NEIGHBOUR: 'it returns false'. Refute it at one input. -/
def fnTrailersWrong : ChangeSpec := { name := "fnTrailers", fn := fun _ => fun
  | [d] => { results := [.lit (.bool false)], args := [d] }
  | _ => none }
def FnTrailersWrongFalsely : Prop := fnTrailersRow.holds Try.pinned (OpenSpec.ofChange fnTrailersWrong)

/-- 'laws.FnExactPlacesOf': WHATEVER THE INPUT: true; the input reads as it did. -/
def fnExactPlacesOfSpec : ChangeSpec := { name := "fnExactPlacesOf", fn := fun _ => fun
  | [d1, d2] => { results := [.lit (.bool true)], args := [d1, d2] }
  | _ => none }
def fnExactPlacesOfRow : OpenClaim := { program := "ytideejpopneplaa", sum := "9838e486fed869da8450f70b523169c0dd1a593cac26c5b1b7be800ff392b5d8", func := "loop.example/g00971/laws.FnExactPlacesOf", spec := "fnExactPlacesOf", apart := false }
def FnExactPlacesOfSaid : Prop := fnExactPlacesOfRow.holds Try.pinned (OpenSpec.ofChange fnExactPlacesOfSpec)

/-- ITS FALSE NEIGHBOUR: 'it returns false'. Refute it at one input. -/
def fnExactPlacesOfWrong : ChangeSpec := { name := "fnExactPlacesOf", fn := fun _ => fun
  | [d1, d2] => { results := [.lit (.bool false)], args := [d1, d2] }
  | _ => none }
def FnExactPlacesOfWrongFalsely : Prop := fnExactPlacesOfRow.holds Try.pinned (OpenSpec.ofChange fnExactPlacesOfWrong)

/-- 'laws.FnExactPlacesText': WHATEVER THE INPUT: true; the input reads as it did. -/
def fnExactPlacesTextSpec : ChangeSpec := { name := "fnExactPlacesText", fn := fun _ => fun
  | [d] => { results := [.lit (.bool true)], args := [d] }
  | _ => none }
def fnExactPlacesTextRow : OpenClaim := { program := "ytideejpopneplaa", sum := "9838e486fed869da8450f70b523169c0dd1a593cac26c5b1b7be800ff392b5d8", func := "loop.example/g00971/laws.FnExactPlacesText", spec := "fnExactPlacesText", inPlace := ["internal/abi.NoEscape", "internal/bytealg.MakeNoZero"], apart := false }
def FnExactPlacesTextSaid : Prop := fnExactPlacesTextRow.holds Try.pinned (OpenSpec.ofChange fnExactPlacesTextSpec)

/-- ITS FALSE NEIGHBOUR: 'it returns false'. Refute it at one input. -/
def fnExactPlacesTextWrong : ChangeSpec := { name := "fnExactPlacesText", fn := fun _ => fun
  | [d] => { results := [.lit (.bool false)], args := [d] }
  | _ => none }
def FnExactPlacesTextWrongFalsely : Prop := fnExactPlacesTextRow.holds Try.pinned (OpenSpec.ofChange fnExactPlacesTextWrong)

/-- 'laws.FnExactReadPlaces': WHATEVER THE INPUT: true; the input reads as it did. -/
def fnExactReadPlacesSpec : ChangeSpec := { name := "fnExactReadPlaces", fn := fun _ => fun
  | [d1, d2] => { results := [.lit (.bool true)], args := [d1, d2] }
  | _ => none }
def fnExactReadPlacesRow : OpenClaim := { program := "ytideejpopneplaa", sum := "9838e486fed869da8450f70b523169c0dd1a593cac26c5b1b7be800ff392b5d8", func := "loop.example/g00971/laws.FnExactReadPlaces", spec := "fnExactReadPlaces", apart := false }
def FnExactReadPlacesSaid : Prop := fnExactReadPlacesRow.holds Try.pinned (OpenSpec.ofChange fnExactReadPlacesSpec)

/-- ITS FALSE NEIGHBOUR: 'it returns false'. Refute it at one input. -/
def fnExactReadPlacesWrong : ChangeSpec := { name := "fnExactReadPlaces", fn := fun _ => fun
  | [d1, d2] => { results := [.lit (.bool false)], args := [d1, d2] }
  | _ => none }
def FnExactReadPlacesWrongFalsely : Prop := fnExactReadPlacesRow.holds Try.pinned (OpenSpec.ofChange fnExactReadPlacesWrong)

/-- 'laws.FnExactTrailerText': WHATEVER THE INPUT: true; the input reads as it did. -/
def fnExactTrailerTextSpec : ChangeSpec := { name := "fnExactTrailerText", fn := fun _ => fun
  | [d1, d2, d3, d4] => { results := [.lit (.bool true)], args := [d1, d2, d3, d4] }
  | _ => none }
def fnExactTrailerTextRow : OpenClaim := { program := "ytideejpopneplaa", sum := "9838e486fed869da8450f70b523169c0dd1a593cac26c5b1b7be800ff392b5d8", func := "loop.example/g00971/laws.FnExactTrailerText", spec := "fnExactTrailerText", inPlace := ["internal/abi.NoEscape", "internal/bytealg.MakeNoZero"], apart := false }
def FnExactTrailerTextSaid : Prop := fnExactTrailerTextRow.holds Try.pinned (OpenSpec.ofChange fnExactTrailerTextSpec)

/-- ITS FALSE NEIGHBOUR: 'it returns false'. Refute it at one input. -/
def fnExactTrailerTextWrong : ChangeSpec := { name := "fnExactTrailerText", fn := fun _ => fun
  | [d1, d2, d3, d4] => { results := [.lit (.bool false)], args := [d1, d2, d3, d4] }
  | _ => none }
def FnExactTrailerTextWrongFalsely : Prop := fnExactTrailerTextRow.holds Try.pinned (OpenSpec.ofChange fnExactTrailerTextWrong)

/-- 'laws.FnExactReadTrailer': WHATEVER THE INPUT: true; the input reads as it did. -/
def fnExactReadTrailerSpec : ChangeSpec := { name := "fnExactReadTrailer", fn := fun _ => fun
  | [d] => { results := [.lit (.bool true)], args := [d] }
  | _ => none }
def fnExactReadTrailerRow : OpenClaim := { program := "ytideejpopneplaa", sum := "9838e486fed869da8450f70b523169c0dd1a593cac26c5b1b7be800ff392b5d8", func := "loop.example/g00971/laws.FnExactReadTrailer", spec := "fnExactReadTrailer", apart := false }
def FnExactReadTrailerSaid : Prop := fnExactReadTrailerRow.holds Try.pinned (OpenSpec.ofChange fnExactReadTrailerSpec)

/-- ITS FALSE NEIGHBOUR: 'it returns false'. Refute it at one input. -/
def fnExactReadTrailerWrong : ChangeSpec := { name := "fnExactReadTrailer", fn := fun _ => fun
  | [d] => { results := [.lit (.bool false)], args := [d] }
  | _ => none }
def FnExactReadTrailerWrongFalsely : Prop := fnExactReadTrailerRow.holds Try.pinned (OpenSpec.ofChange fnExactReadTrailerWrong)

/-- 'laws.FnExactFootText': WHATEVER THE INPUT: true; the input reads as it did. -/
def fnExactFootTextSpec : ChangeSpec := { name := "fnExactFootText", fn := fun _ => fun
  | [d1, d2, d3] => { results := [.lit (.bool true)], args := [d1, d2, d3] }
  | _ => none }
def fnExactFootTextRow : OpenClaim := { program := "ytideejpopneplaa", sum := "9838e486fed869da8450f70b523169c0dd1a593cac26c5b1b7be800ff392b5d8", func := "loop.example/g00971/laws.FnExactFootText", spec := "fnExactFootText", inPlace := ["internal/abi.NoEscape", "internal/bytealg.MakeNoZero"], unfollowed := true, recurses := true, apart := false }
def FnExactFootTextSaid : Prop := fnExactFootTextRow.holds Try.pinned (OpenSpec.ofChange fnExactFootTextSpec)

/-- ITS FALSE NEIGHBOUR: 'it returns false'. Refute it at one input. -/
def fnExactFootTextWrong : ChangeSpec := { name := "fnExactFootText", fn := fun _ => fun
  | [d1, d2, d3] => { results := [.lit (.bool false)], args := [d1, d2, d3] }
  | _ => none }
def FnExactFootTextWrongFalsely : Prop := fnExactFootTextRow.holds Try.pinned (OpenSpec.ofChange fnExactFootTextWrong)

/- THE SECOND FORM. 'bulk': how many values and letters a reading holds, each counted each time it is reached (what is shared counts as often as it is met; a slice's spare places count too). A statement '..UptoSaid' is the law's where the arguments, and the package variables that the reading takes, are together of bulk at most 1048576: NARROWER than '..Said'. Prove '..Said' where nothing that the law and all that it calls make is longer than what came in: it says more and counts as full. Else prove '..UptoSaid'. A law counts once. -/
mutual
def uptoBulk {H : Type} : DataW H → Nat
  | .lit (.string bytes) => bytes.length + 1
  | .lit _ => 1
  | .nil => 1
  | .ptr d => uptoBulk d + 1
  | .slice elems spare => uptoBulkAll elems + uptoBulkAll spare + 1
  | .agg parts => uptoBulkAll parts + 1
  | .iface _ d => uptoBulk d + 1
  | .map entries => uptoBulkEntries entries + 1
  | .held _ => 1
def uptoBulkAll {H : Type} : List (DataW H) → Nat
  | [] => 0
  | d :: r => uptoBulk d + uptoBulkAll r
def uptoBulkEntries {H : Type} : List (Lit × DataW H) → Nat
  | [] => 0
  | x :: r => uptoBulkEntry x + uptoBulkEntries r
def uptoBulkEntry {H : Type} : Lit × DataW H → Nat
  | (.string bytes, d) => bytes.length + uptoBulk d + 1
  | (_, d) => uptoBulk d + 1
 end
def uptoSmall : (H : Type) → List (DataW H) → Bool := fun _ ds => decide (uptoBulkAll ds ≤ 1048576)
def OpenSpec.upto (s : _root_.Go.ChangeSpec) : _root_.Go.OpenSpec := { _root_.Go.OpenSpec.ofChange s with cond := some uptoSmall }

/-- 'laws.FnPlaces', WHERE WHAT IT READS IS OF BULK AT MOST 1048576: true; the input reads as it did. -/
def fnPlacesUptoRow : OpenClaim := { program := "ytideejpopneplaa", sum := "9838e486fed869da8450f70b523169c0dd1a593cac26c5b1b7be800ff392b5d8", func := "loop.example/g00971/laws.FnPlaces", spec := "fnPlaces", inPlace := ["internal/abi.NoEscape", "internal/bytealg.MakeNoZero"], apart := false, narrowed := true }
def FnPlacesUptoSaid : Prop := fnPlacesUptoRow.holds Try.pinned (OpenSpec.upto fnPlacesSpec)

/-- 'laws.FnTrailers', WHERE WHAT IT READS IS OF BULK AT MOST 1048576: true; the input reads as it did. -/
def fnTrailersUptoRow : OpenClaim := { program := "ytideejpopneplaa", sum := "9838e486fed869da8450f70b523169c0dd1a593cac26c5b1b7be800ff392b5d8", func := "loop.example/g00971/laws.FnTrailers", spec := "fnTrailers", inPlace := ["internal/abi.NoEscape", "internal/bytealg.MakeNoZero"], unfollowed := true, recurses := true, apart := false, narrowed := true }
def FnTrailersUptoSaid : Prop := fnTrailersUptoRow.holds Try.pinned (OpenSpec.upto fnTrailersSpec)

/-- 'laws.FnExactPlacesOf', WHERE WHAT IT READS IS OF BULK AT MOST 1048576: true; the input reads as it did. -/
def fnExactPlacesOfUptoRow : OpenClaim := { program := "ytideejpopneplaa", sum := "9838e486fed869da8450f70b523169c0dd1a593cac26c5b1b7be800ff392b5d8", func := "loop.example/g00971/laws.FnExactPlacesOf", spec := "fnExactPlacesOf", apart := false, narrowed := true }
def FnExactPlacesOfUptoSaid : Prop := fnExactPlacesOfUptoRow.holds Try.pinned (OpenSpec.upto fnExactPlacesOfSpec)

/-- 'laws.FnExactPlacesText', WHERE WHAT IT READS IS OF BULK AT MOST 1048576: true; the input reads as it did. -/
def fnExactPlacesTextUptoRow : OpenClaim := { program := "ytideejpopneplaa", sum := "9838e486fed869da8450f70b523169c0dd1a593cac26c5b1b7be800ff392b5d8", func := "loop.example/g00971/laws.FnExactPlacesText", spec := "fnExactPlacesText", inPlace := ["internal/abi.NoEscape", "internal/bytealg.MakeNoZero"], apart := false, narrowed := true }
def FnExactPlacesTextUptoSaid : Prop := fnExactPlacesTextUptoRow.holds Try.pinned (OpenSpec.upto fnExactPlacesTextSpec)

/-- 'laws.FnExactReadPlaces', WHERE WHAT IT READS IS OF BULK AT MOST 1048576: true; the input reads as it did. -/
def fnExactReadPlacesUptoRow : OpenClaim := { program := "ytideejpopneplaa", sum := "9838e486fed869da8450f70b523169c0dd1a593cac26c5b1b7be800ff392b5d8", func := "loop.example/g00971/laws.FnExactReadPlaces", spec := "fnExactReadPlaces", apart := false, narrowed := true }
def FnExactReadPlacesUptoSaid : Prop := fnExactReadPlacesUptoRow.holds Try.pinned (OpenSpec.upto fnExactReadPlacesSpec)

/-- 'laws.FnExactTrailerText', WHERE WHAT IT READS IS OF BULK AT MOST 1048576: true; the input reads as it did. -/
def fnExactTrailerTextUptoRow : OpenClaim := { program := "ytideejpopneplaa", sum := "9838e486fed869da8450f70b523169c0dd1a593cac26c5b1b7be800ff392b5d8", func := "loop.example/g00971/laws.FnExactTrailerText", spec := "fnExactTrailerText", inPlace := ["internal/abi.NoEscape", "internal/bytealg.MakeNoZero"], apart := false, narrowed := true }
def FnExactTrailerTextUptoSaid : Prop := fnExactTrailerTextUptoRow.holds Try.pinned (OpenSpec.upto fnExactTrailerTextSpec)

/-- 'laws.FnExactReadTrailer', WHERE WHAT IT READS IS OF BULK AT MOST 1048576: true; the input reads as it did. -/
def fnExactReadTrailerUptoRow : OpenClaim := { program := "ytideejpopneplaa", sum := "9838e486fed869da8450f70b523169c0dd1a593cac26c5b1b7be800ff392b5d8", func := "loop.example/g00971/laws.FnExactReadTrailer", spec := "fnExactReadTrailer", apart := false, narrowed := true }
def FnExactReadTrailerUptoSaid : Prop := fnExactReadTrailerUptoRow.holds Try.pinned (OpenSpec.upto fnExactReadTrailerSpec)

/-- 'laws.FnExactFootText', WHERE WHAT IT READS IS OF BULK AT MOST 1048576: true; the input reads as it did. -/
def fnExactFootTextUptoRow : OpenClaim := { program := "ytideejpopneplaa", sum := "9838e486fed869da8450f70b523169c0dd1a593cac26c5b1b7be800ff392b5d8", func := "loop.example/g00971/laws.FnExactFootText", spec := "fnExactFootText", inPlace := ["internal/abi.NoEscape", "internal/bytealg.MakeNoZero"], unfollowed := true, recurses := true, apart := false, narrowed := true }
def FnExactFootTextUptoSaid : Prop := fnExactFootTextUptoRow.holds Try.pinned (OpenSpec.upto fnExactFootTextSpec)

end Rows
end Go.Proofs.Ytideejpopneplaa
