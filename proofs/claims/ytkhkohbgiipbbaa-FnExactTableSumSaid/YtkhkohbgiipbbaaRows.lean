/-
  No cell of these rows narrows 'for every input' (looked for: loops, veiled, ifaces, maps, wideKeys, modest, calm, conditions, laid).
  DERIVED. THE GIVEN ROWS OF THIS SEAT. 9 by the template 'for every input the law returns true; each argument reads behind the call as it read before'; 0 by the template 'total and deterministic' (their statements: YtkhkohbgiipbbaaTotals.lean).
  GIVEN WITH THE SEED: the statements are not yours to turn. If you find one false, say at which input.
  Laid BY PROGRAM, IN A SANDBOX (cutbox-rows.mjs): the forced cells as the released guide's own fill.sh prints them over the translation 786ed6d866b62013… (all of the seat's roots in one cut). By AI agents, Wed Nov 11 2026. No macro, syntax, notation, axiom, sorry.
-/
import Derived.Test.YtkhkohbgiipbbaaChecked
import GoSem.Claim
import GoSem.ClaimJoined
import GoSem.ClaimMapViews
import Derived.JoinedTies
import Derived.KernelRfl
namespace Go.Proofs.Ytkhkohbgiipbbaa
/- THE CELL 'sum', in the pinned program and in every row, IS THE sha256 OF THE DUMP (.gsa) THAT YtkhkohbgiipbbaaProg.lean LOADS. Nothing in Lean hashes anything: it is a label: what it is worth is what the hold of that sum in a sandbox is worth. -/
noncomputable def Try.pinned : Pinned := { name := "ytkhkohbgiipbbaa", sum := "786ed6d866b6201305b35946259cf13c475190f9cf2c072be40e0e335fee6486", checked := Try.checked }
namespace Rows
def none {H : Type} : Left H := { results := [], args := [] }

/-- 'laws.FnSums': WHATEVER THE INPUT: true; the input reads as it did. -/
def fnSumsSpec : ChangeSpec := { name := "fnSums", fn := fun _ => fun
  | [d] => { results := [.lit (.bool true)], args := [d] }
  | _ => none }
def fnSumsRow : OpenClaim := { program := "ytkhkohbgiipbbaa", sum := "786ed6d866b6201305b35946259cf13c475190f9cf2c072be40e0e335fee6486", func := "loop.example/g00971/laws.FnSums", spec := "fnSums", apart := false }
def FnSumsSaid : Prop := fnSumsRow.holds Try.pinned (OpenSpec.ofChange fnSumsSpec)

/-- ITS FALSE NEIGHBOUR: 'it returns false'. Refute it at one input. -/
def fnSumsWrong : ChangeSpec := { name := "fnSums", fn := fun _ => fun
  | [d] => { results := [.lit (.bool false)], args := [d] }
  | _ => none }
def FnSumsWrongFalsely : Prop := fnSumsRow.holds Try.pinned (OpenSpec.ofChange fnSumsWrong)

/-- 'laws.FnJoined': WHATEVER THE INPUT: true; the input reads as it did. -/
def fnJoinedSpec : ChangeSpec := { name := "fnJoined", fn := fun _ => fun
  | [d] => { results := [.lit (.bool true)], args := [d] }
  | _ => none }
def fnJoinedRow : OpenClaim := { program := "ytkhkohbgiipbbaa", sum := "786ed6d866b6201305b35946259cf13c475190f9cf2c072be40e0e335fee6486", func := "loop.example/g00971/laws.FnJoined", spec := "fnJoined", apart := false }
def FnJoinedSaid : Prop := fnJoinedRow.holds Try.pinned (OpenSpec.ofChange fnJoinedSpec)

/-- ITS FALSE NEIGHBOUR: 'it returns false'. Refute it at one input. -/
def fnJoinedWrong : ChangeSpec := { name := "fnJoined", fn := fun _ => fun
  | [d] => { results := [.lit (.bool false)], args := [d] }
  | _ => none }
def FnJoinedWrongFalsely : Prop := fnJoinedRow.holds Try.pinned (OpenSpec.ofChange fnJoinedWrong)

/-- 'laws.FnExactSumByte': WHATEVER THE INPUT: true; the input reads as it did. -/
def fnExactSumByteSpec : ChangeSpec := { name := "fnExactSumByte", fn := fun _ => fun
  | [d1, d2] => { results := [.lit (.bool true)], args := [d1, d2] }
  | _ => none }
def fnExactSumByteRow : OpenClaim := { program := "ytkhkohbgiipbbaa", sum := "786ed6d866b6201305b35946259cf13c475190f9cf2c072be40e0e335fee6486", func := "loop.example/g00971/laws.FnExactSumByte", spec := "fnExactSumByte", apart := false }
def FnExactSumByteSaid : Prop := fnExactSumByteRow.holds Try.pinned (OpenSpec.ofChange fnExactSumByteSpec)

/-- ITS FALSE NEIGHBOUR: 'it returns false'. Refute it at one input. -/
def fnExactSumByteWrong : ChangeSpec := { name := "fnExactSumByte", fn := fun _ => fun
  | [d1, d2] => { results := [.lit (.bool false)], args := [d1, d2] }
  | _ => none }
def FnExactSumByteWrongFalsely : Prop := fnExactSumByteRow.holds Try.pinned (OpenSpec.ofChange fnExactSumByteWrong)

/-- 'laws.FnExactSumMore': WHATEVER THE INPUT: true; the input reads as it did. -/
def fnExactSumMoreSpec : ChangeSpec := { name := "fnExactSumMore", fn := fun _ => fun
  | [d1, d2] => { results := [.lit (.bool true)], args := [d1, d2] }
  | _ => none }
def fnExactSumMoreRow : OpenClaim := { program := "ytkhkohbgiipbbaa", sum := "786ed6d866b6201305b35946259cf13c475190f9cf2c072be40e0e335fee6486", func := "loop.example/g00971/laws.FnExactSumMore", spec := "fnExactSumMore", apart := false }
def FnExactSumMoreSaid : Prop := fnExactSumMoreRow.holds Try.pinned (OpenSpec.ofChange fnExactSumMoreSpec)

/-- ITS FALSE NEIGHBOUR: 'it returns false'. Refute it at one input. -/
def fnExactSumMoreWrong : ChangeSpec := { name := "fnExactSumMore", fn := fun _ => fun
  | [d1, d2] => { results := [.lit (.bool false)], args := [d1, d2] }
  | _ => none }
def FnExactSumMoreWrongFalsely : Prop := fnExactSumMoreRow.holds Try.pinned (OpenSpec.ofChange fnExactSumMoreWrong)

/-- 'laws.FnExactSumOf': WHATEVER THE INPUT: true; the input reads as it did. -/
def fnExactSumOfSpec : ChangeSpec := { name := "fnExactSumOf", fn := fun _ => fun
  | [d] => { results := [.lit (.bool true)], args := [d] }
  | _ => none }
def fnExactSumOfRow : OpenClaim := { program := "ytkhkohbgiipbbaa", sum := "786ed6d866b6201305b35946259cf13c475190f9cf2c072be40e0e335fee6486", func := "loop.example/g00971/laws.FnExactSumOf", spec := "fnExactSumOf", apart := false }
def FnExactSumOfSaid : Prop := fnExactSumOfRow.holds Try.pinned (OpenSpec.ofChange fnExactSumOfSpec)

/-- ITS FALSE NEIGHBOUR: 'it returns false'. Refute it at one input. -/
def fnExactSumOfWrong : ChangeSpec := { name := "fnExactSumOf", fn := fun _ => fun
  | [d] => { results := [.lit (.bool false)], args := [d] }
  | _ => none }
def FnExactSumOfWrongFalsely : Prop := fnExactSumOfRow.holds Try.pinned (OpenSpec.ofChange fnExactSumOfWrong)

/-- 'laws.FnExactTableAt': WHATEVER THE INPUT: true; the input reads as it did. -/
def fnExactTableAtSpec : ChangeSpec := { name := "fnExactTableAt", fn := fun _ => fun
  | [d] => { results := [.lit (.bool true)], args := [d] }
  | _ => none }
def fnExactTableAtRow : OpenClaim := { program := "ytkhkohbgiipbbaa", sum := "786ed6d866b6201305b35946259cf13c475190f9cf2c072be40e0e335fee6486", func := "loop.example/g00971/laws.FnExactTableAt", spec := "fnExactTableAt", apart := false }
def FnExactTableAtSaid : Prop := fnExactTableAtRow.holds Try.pinned (OpenSpec.ofChange fnExactTableAtSpec)

/-- ITS FALSE NEIGHBOUR: 'it returns false'. Refute it at one input. -/
def fnExactTableAtWrong : ChangeSpec := { name := "fnExactTableAt", fn := fun _ => fun
  | [d] => { results := [.lit (.bool false)], args := [d] }
  | _ => none }
def FnExactTableAtWrongFalsely : Prop := fnExactTableAtRow.holds Try.pinned (OpenSpec.ofChange fnExactTableAtWrong)

/-- 'laws.FnExactTableSum': WHATEVER THE INPUT: true; the input reads as it did. -/
def fnExactTableSumSpec : ChangeSpec := { name := "fnExactTableSum", fn := fun _ => fun
  | [d1, d2] => { results := [.lit (.bool true)], args := [d1, d2] }
  | _ => none }
def fnExactTableSumRow : OpenClaim := { program := "ytkhkohbgiipbbaa", sum := "786ed6d866b6201305b35946259cf13c475190f9cf2c072be40e0e335fee6486", func := "loop.example/g00971/laws.FnExactTableSum", spec := "fnExactTableSum", apart := false }
def FnExactTableSumSaid : Prop := fnExactTableSumRow.holds Try.pinned (OpenSpec.ofChange fnExactTableSumSpec)

/-- ITS FALSE NEIGHBOUR: 'it returns false'. Refute it at one input. -/
def fnExactTableSumWrong : ChangeSpec := { name := "fnExactTableSum", fn := fun _ => fun
  | [d1, d2] => { results := [.lit (.bool false)], args := [d1, d2] }
  | _ => none }
def FnExactTableSumWrongFalsely : Prop := fnExactTableSumRow.holds Try.pinned (OpenSpec.ofChange fnExactTableSumWrong)

/-- 'laws.FnExactSumShift': WHATEVER THE INPUT: true; the input reads as it did. -/
def fnExactSumShiftSpec : ChangeSpec := { name := "fnExactSumShift", fn := fun _ => fun
  | [d1, d2] => { results := [.lit (.bool true)], args := [d1, d2] }
  | _ => none }
def fnExactSumShiftRow : OpenClaim := { program := "ytkhkohbgiipbbaa", sum := "786ed6d866b6201305b35946259cf13c475190f9cf2c072be40e0e335fee6486", func := "loop.example/g00971/laws.FnExactSumShift", spec := "fnExactSumShift", apart := false }
def FnExactSumShiftSaid : Prop := fnExactSumShiftRow.holds Try.pinned (OpenSpec.ofChange fnExactSumShiftSpec)

/-- ITS FALSE NEIGHBOUR: 'it returns false'. Refute it at one input. -/
def fnExactSumShiftWrong : ChangeSpec := { name := "fnExactSumShift", fn := fun _ => fun
  | [d1, d2] => { results := [.lit (.bool false)], args := [d1, d2] }
  | _ => none }
def FnExactSumShiftWrongFalsely : Prop := fnExactSumShiftRow.holds Try.pinned (OpenSpec.ofChange fnExactSumShiftWrong)

/-- 'laws.FnExactSumJoined': WHATEVER THE INPUT: true; the input reads as it did. -/
def fnExactSumJoinedSpec : ChangeSpec := { name := "fnExactSumJoined", fn := fun _ => fun
  | [d1, d2, d3] => { results := [.lit (.bool true)], args := [d1, d2, d3] }
  | _ => none }
def fnExactSumJoinedRow : OpenClaim := { program := "ytkhkohbgiipbbaa", sum := "786ed6d866b6201305b35946259cf13c475190f9cf2c072be40e0e335fee6486", func := "loop.example/g00971/laws.FnExactSumJoined", spec := "fnExactSumJoined", apart := false }
def FnExactSumJoinedSaid : Prop := fnExactSumJoinedRow.holds Try.pinned (OpenSpec.ofChange fnExactSumJoinedSpec)

/-- ITS FALSE NEIGHBOUR: 'it returns false'. Refute it at one input. -/
def fnExactSumJoinedWrong : ChangeSpec := { name := "fnExactSumJoined", fn := fun _ => fun
  | [d1, d2, d3] => { results := [.lit (.bool false)], args := [d1, d2, d3] }
  | _ => none }
def FnExactSumJoinedWrongFalsely : Prop := fnExactSumJoinedRow.holds Try.pinned (OpenSpec.ofChange fnExactSumJoinedWrong)

/- THE SECOND FORM. 'bulk': how many values and letters a reading holds, each counted each time it is reached (what is shared counts as often as it is met; a slice's spare places count too). A statement '..UptoSaid' is the law's where the arguments, and the package variables that the reading takes, are together of bulk at most 1048576: NARROWER than '..Said'. Prove '..Said' where nothing that the law and all that it calls make is longer than what came in: it says more and counts as full. Else prove '..UptoSaid'. A law counts once. -/
mutual
def uptoBulk {H : Type} : DataW H → Nat
  | .lit (.string bytes) => bytes.length + 1
  | .lit _ => 1
  | .nil => 1
  | .ptr d => uptoBulk d + 1
  | .slice elems spare => uptoBulkAll elems + uptoBulkAll spare + 1
  | .agg parts => uptoBulkAll parts + 1
  | .iface _ d => uptoBulk d + 1
  | .map entries => uptoBulkEntries entries + 1
  | .held _ => 1
def uptoBulkAll {H : Type} : List (DataW H) → Nat
  | [] => 0
  | d :: r => uptoBulk d + uptoBulkAll r
def uptoBulkEntries {H : Type} : List (Lit × DataW H) → Nat
  | [] => 0
  | x :: r => uptoBulkEntry x + uptoBulkEntries r
def uptoBulkEntry {H : Type} : Lit × DataW H → Nat
  | (.string bytes, d) => bytes.length + uptoBulk d + 1
  | (_, d) => uptoBulk d + 1
 end
def uptoSmall : (H : Type) → List (DataW H) → Bool := fun _ ds => decide (uptoBulkAll ds ≤ 1048576)
def OpenSpec.upto (s : _root_.Go.ChangeSpec) : _root_.Go.OpenSpec := { _root_.Go.OpenSpec.ofChange s with cond := some uptoSmall }

/-- 'laws.FnSums', WHERE WHAT IT READS IS OF BULK AT MOST 1048576: true; the input reads as it did. -/
def fnSumsUptoRow : OpenClaim := { program := "ytkhkohbgiipbbaa", sum := "786ed6d866b6201305b35946259cf13c475190f9cf2c072be40e0e335fee6486", func := "loop.example/g00971/laws.FnSums", spec := "fnSums", apart := false, narrowed := true }
def FnSumsUptoSaid : Prop := fnSumsUptoRow.holds Try.pinned (OpenSpec.upto fnSumsSpec)

/-- 'laws.FnJoined', WHERE WHAT IT READS IS OF BULK AT MOST 1048576: true; the input reads as it did. -/
def fnJoinedUptoRow : OpenClaim := { program := "ytkhkohbgiipbbaa", sum := "786ed6d866b6201305b35946259cf13c475190f9cf2c072be40e0e335fee6486", func := "loop.example/g00971/laws.FnJoined", spec := "fnJoined", apart := false, narrowed := true }
def FnJoinedUptoSaid : Prop := fnJoinedUptoRow.holds Try.pinned (OpenSpec.upto fnJoinedSpec)

/-- 'laws.FnExactSumByte', WHERE WHAT IT READS IS OF BULK AT MOST 1048576: true; the input reads as it did. -/
def fnExactSumByteUptoRow : OpenClaim := { program := "ytkhkohbgiipbbaa", sum := "786ed6d866b6201305b35946259cf13c475190f9cf2c072be40e0e335fee6486", func := "loop.example/g00971/laws.FnExactSumByte", spec := "fnExactSumByte", apart := false, narrowed := true }
def FnExactSumByteUptoSaid : Prop := fnExactSumByteUptoRow.holds Try.pinned (OpenSpec.upto fnExactSumByteSpec)

/-- 'laws.FnExactSumMore', WHERE WHAT IT READS IS OF BULK AT MOST 1048576: true; the input reads as it did. -/
def fnExactSumMoreUptoRow : OpenClaim := { program := "ytkhkohbgiipbbaa", sum := "786ed6d866b6201305b35946259cf13c475190f9cf2c072be40e0e335fee6486", func := "loop.example/g00971/laws.FnExactSumMore", spec := "fnExactSumMore", apart := false, narrowed := true }
def FnExactSumMoreUptoSaid : Prop := fnExactSumMoreUptoRow.holds Try.pinned (OpenSpec.upto fnExactSumMoreSpec)

/-- 'laws.FnExactSumOf', WHERE WHAT IT READS IS OF BULK AT MOST 1048576: true; the input reads as it did. -/
def fnExactSumOfUptoRow : OpenClaim := { program := "ytkhkohbgiipbbaa", sum := "786ed6d866b6201305b35946259cf13c475190f9cf2c072be40e0e335fee6486", func := "loop.example/g00971/laws.FnExactSumOf", spec := "fnExactSumOf", apart := false, narrowed := true }
def FnExactSumOfUptoSaid : Prop := fnExactSumOfUptoRow.holds Try.pinned (OpenSpec.upto fnExactSumOfSpec)

/-- 'laws.FnExactTableAt', WHERE WHAT IT READS IS OF BULK AT MOST 1048576: true; the input reads as it did. -/
def fnExactTableAtUptoRow : OpenClaim := { program := "ytkhkohbgiipbbaa", sum := "786ed6d866b6201305b35946259cf13c475190f9cf2c072be40e0e335fee6486", func := "loop.example/g00971/laws.FnExactTableAt", spec := "fnExactTableAt", apart := false, narrowed := true }
def FnExactTableAtUptoSaid : Prop := fnExactTableAtUptoRow.holds Try.pinned (OpenSpec.upto fnExactTableAtSpec)

/-- 'laws.FnExactTableSum', WHERE WHAT IT READS IS OF BULK AT MOST 1048576: true; the input reads as it did. -/
def fnExactTableSumUptoRow : OpenClaim := { program := "ytkhkohbgiipbbaa", sum := "786ed6d866b6201305b35946259cf13c475190f9cf2c072be40e0e335fee6486", func := "loop.example/g00971/laws.FnExactTableSum", spec := "fnExactTableSum", apart := false, narrowed := true }
def FnExactTableSumUptoSaid : Prop := fnExactTableSumUptoRow.holds Try.pinned (OpenSpec.upto fnExactTableSumSpec)

/-- 'laws.FnExactSumShift', WHERE WHAT IT READS IS OF BULK AT MOST 1048576: true; the input reads as it did. -/
def fnExactSumShiftUptoRow : OpenClaim := { program := "ytkhkohbgiipbbaa", sum := "786ed6d866b6201305b35946259cf13c475190f9cf2c072be40e0e335fee6486", func := "loop.example/g00971/laws.FnExactSumShift", spec := "fnExactSumShift", apart := false, narrowed := true }
def FnExactSumShiftUptoSaid : Prop := fnExactSumShiftUptoRow.holds Try.pinned (OpenSpec.upto fnExactSumShiftSpec)

/-- 'laws.FnExactSumJoined', WHERE WHAT IT READS IS OF BULK AT MOST 1048576: true; the input reads as it did. -/
def fnExactSumJoinedUptoRow : OpenClaim := { program := "ytkhkohbgiipbbaa", sum := "786ed6d866b6201305b35946259cf13c475190f9cf2c072be40e0e335fee6486", func := "loop.example/g00971/laws.FnExactSumJoined", spec := "fnExactSumJoined", apart := false, narrowed := true }
def FnExactSumJoinedUptoSaid : Prop := fnExactSumJoinedUptoRow.holds Try.pinned (OpenSpec.upto fnExactSumJoinedSpec)

end Rows
end Go.Proofs.Ytkhkohbgiipbbaa
