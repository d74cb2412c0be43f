/-
  No cell of these rows narrows 'for every input' (looked for: loops, veiled, ifaces, maps, wideKeys, modest, calm, conditions, laid).
  DERIVED. THE GIVEN ROWS OF THIS SEAT. 9 by the template 'for every input the law returns true; each argument reads behind the call as it read before'; 0 by the template 'total and deterministic' (their statements: YtkndaeoobafbhaaTotals.lean).
  GIVEN WITH THE SEED: the statements are not yours to turn. If you find one false, say at which input.
  Laid BY PROGRAM, IN A SANDBOX (cutbox-rows.mjs): the forced cells as the released guide's own fill.sh prints them over the translation 154fedfb835d9640… (all of the seat's roots in one cut). By AI agents, Wed Nov 11 2026. No macro, syntax, notation, axiom, sorry.
-/
import Derived.Test.YtkndaeoobafbhaaChecked
import GoSem.Claim
import GoSem.ClaimJoined
import GoSem.ClaimMapViews
import Derived.JoinedTies
import Derived.KernelRfl
namespace Go.Proofs.Ytkndaeoobafbhaa
/- THE CELL 'sum', in the pinned program and in every row, IS THE sha256 OF THE DUMP (.gsa) THAT YtkndaeoobafbhaaProg.lean LOADS. Nothing in Lean hashes anything: it is a label: what it is worth is what the hold of that sum in a sandbox is worth. -/
noncomputable def Try.pinned : Pinned := { name := "ytkndaeoobafbhaa", sum := "154fedfb835d96409d183f9531aa0daa2510477d8bca3bb091edf5f5d9738d6a", checked := Try.checked }
namespace Rows
def none {H : Type} : Left H := { results := [], args := [] }

/-- 'laws.FnNumbers': WHATEVER THE INPUT: true; the input reads as it did. -/
def fnNumbersSpec : ChangeSpec := { name := "fnNumbers", fn := fun _ => fun
  | [d] => { results := [.lit (.bool true)], args := [d] }
  | _ => none }
def fnNumbersRow : OpenClaim := { program := "ytkndaeoobafbhaa", sum := "154fedfb835d96409d183f9531aa0daa2510477d8bca3bb091edf5f5d9738d6a", func := "loop.example/g00971/laws.FnNumbers", spec := "fnNumbers", apart := false }
def FnNumbersSaid : Prop := fnNumbersRow.holds Try.pinned (OpenSpec.ofChange fnNumbersSpec)

/-- ITS FALSE NEIGHBOUR: 'it returns false'. Refute it at one input. -/
def fnNumbersWrong : ChangeSpec := { name := "fnNumbers", fn := fun _ => fun
  | [d] => { results := [.lit (.bool false)], args := [d] }
  | _ => none }
def FnNumbersWrongFalsely : Prop := fnNumbersRow.holds Try.pinned (OpenSpec.ofChange fnNumbersWrong)

/-- 'laws.FnVarLists': WHATEVER THE INPUT: true; the input reads as it did. -/
def fnVarListsSpec : ChangeSpec := { name := "fnVarLists", fn := fun _ => fun
  | [d] => { results := [.lit (.bool true)], args := [d] }
  | _ => none }
def fnVarListsRow : OpenClaim := { program := "ytkndaeoobafbhaa", sum := "154fedfb835d96409d183f9531aa0daa2510477d8bca3bb091edf5f5d9738d6a", func := "loop.example/g00971/laws.FnVarLists", spec := "fnVarLists", inPlace := ["internal/abi.NoEscape"], apart := false }
def FnVarListsSaid : Prop := fnVarListsRow.holds Try.pinned (OpenSpec.ofChange fnVarListsSpec)

/-- ITS FALSE NEIGHBOUR: 'it returns false'. Refute it at one input. -/
def fnVarListsWrong : ChangeSpec := { name := "fnVarLists", fn := fun _ => fun
  | [d] => { results := [.lit (.bool false)], args := [d] }
  | _ => none }
def FnVarListsWrongFalsely : Prop := fnVarListsRow.holds Try.pinned (OpenSpec.ofChange fnVarListsWrong)

/-- 'laws.FnExactVarText': WHATEVER THE INPUT: true; the input reads as it did. -/
def fnExactVarTextSpec : ChangeSpec := { name := "fnExactVarText", fn := fun _ => fun
  | [d] => { results := [.lit (.bool true)], args := [d] }
  | _ => none }
def fnExactVarTextRow : OpenClaim := { program := "ytkndaeoobafbhaa", sum := "154fedfb835d96409d183f9531aa0daa2510477d8bca3bb091edf5f5d9738d6a", func := "loop.example/g00971/laws.FnExactVarText", spec := "fnExactVarText", apart := false }
def FnExactVarTextSaid : Prop := fnExactVarTextRow.holds Try.pinned (OpenSpec.ofChange fnExactVarTextSpec)

/-- ITS FALSE NEIGHBOUR: 'it returns false'. Refute it at one input. -/
def fnExactVarTextWrong : ChangeSpec := { name := "fnExactVarText", fn := fun _ => fun
  | [d] => { results := [.lit (.bool false)], args := [d] }
  | _ => none }
def FnExactVarTextWrongFalsely : Prop := fnExactVarTextRow.holds Try.pinned (OpenSpec.ofChange fnExactVarTextWrong)

/-- 'laws.FnExactReadVar': WHATEVER THE INPUT: true; the input reads as it did. -/
def fnExactReadVarSpec : ChangeSpec := { name := "fnExactReadVar", fn := fun _ => fun
  | [d1, d2] => { results := [.lit (.bool true)], args := [d1, d2] }
  | _ => none }
def fnExactReadVarRow : OpenClaim := { program := "ytkndaeoobafbhaa", sum := "154fedfb835d96409d183f9531aa0daa2510477d8bca3bb091edf5f5d9738d6a", func := "loop.example/g00971/laws.FnExactReadVar", spec := "fnExactReadVar", apart := false }
def FnExactReadVarSaid : Prop := fnExactReadVarRow.holds Try.pinned (OpenSpec.ofChange fnExactReadVarSpec)

/-- ITS FALSE NEIGHBOUR: 'it returns false'. Refute it at one input. -/
def fnExactReadVarWrong : ChangeSpec := { name := "fnExactReadVar", fn := fun _ => fun
  | [d1, d2] => { results := [.lit (.bool false)], args := [d1, d2] }
  | _ => none }
def FnExactReadVarWrongFalsely : Prop := fnExactReadVarRow.holds Try.pinned (OpenSpec.ofChange fnExactReadVarWrong)

/-- 'laws.FnExactFixText': WHATEVER THE INPUT: true; the input reads as it did. -/
def fnExactFixTextSpec : ChangeSpec := { name := "fnExactFixText", fn := fun _ => fun
  | [d1, d2] => { results := [.lit (.bool true)], args := [d1, d2] }
  | _ => none }
def fnExactFixTextRow : OpenClaim := { program := "ytkndaeoobafbhaa", sum := "154fedfb835d96409d183f9531aa0daa2510477d8bca3bb091edf5f5d9738d6a", func := "loop.example/g00971/laws.FnExactFixText", spec := "fnExactFixText", apart := false }
def FnExactFixTextSaid : Prop := fnExactFixTextRow.holds Try.pinned (OpenSpec.ofChange fnExactFixTextSpec)

/-- ITS FALSE NEIGHBOUR: 'it returns false'. Refute it at one input. -/
def fnExactFixTextWrong : ChangeSpec := { name := "fnExactFixText", fn := fun _ => fun
  | [d1, d2] => { results := [.lit (.bool false)], args := [d1, d2] }
  | _ => none }
def FnExactFixTextWrongFalsely : Prop := fnExactFixTextRow.holds Try.pinned (OpenSpec.ofChange fnExactFixTextWrong)

/-- 'laws.FnExactReadFix': WHATEVER THE INPUT: true; the input reads as it did. -/
def fnExactReadFixSpec : ChangeSpec := { name := "fnExactReadFix", fn := fun _ => fun
  | [d1, d2, d3] => { results := [.lit (.bool true)], args := [d1, d2, d3] }
  | _ => none }
def fnExactReadFixRow : OpenClaim := { program := "ytkndaeoobafbhaa", sum := "154fedfb835d96409d183f9531aa0daa2510477d8bca3bb091edf5f5d9738d6a", func := "loop.example/g00971/laws.FnExactReadFix", spec := "fnExactReadFix", apart := false }
def FnExactReadFixSaid : Prop := fnExactReadFixRow.holds Try.pinned (OpenSpec.ofChange fnExactReadFixSpec)

/-- ITS FALSE NEIGHBOUR: 'it returns false'. Refute it at one input. -/
def fnExactReadFixWrong : ChangeSpec := { name := "fnExactReadFix", fn := fun _ => fun
  | [d1, d2, d3] => { results := [.lit (.bool false)], args := [d1, d2, d3] }
  | _ => none }
def FnExactReadFixWrongFalsely : Prop := fnExactReadFixRow.holds Try.pinned (OpenSpec.ofChange fnExactReadFixWrong)

/-- 'laws.FnExactVarSize': WHATEVER THE INPUT: true; the input reads as it did. -/
def fnExactVarSizeSpec : ChangeSpec := { name := "fnExactVarSize", fn := fun _ => fun
  | [d] => { results := [.lit (.bool true)], args := [d] }
  | _ => none }
def fnExactVarSizeRow : OpenClaim := { program := "ytkndaeoobafbhaa", sum := "154fedfb835d96409d183f9531aa0daa2510477d8bca3bb091edf5f5d9738d6a", func := "loop.example/g00971/laws.FnExactVarSize", spec := "fnExactVarSize", apart := false }
def FnExactVarSizeSaid : Prop := fnExactVarSizeRow.holds Try.pinned (OpenSpec.ofChange fnExactVarSizeSpec)

/-- ITS FALSE NEIGHBOUR: 'it returns false'. Refute it at one input. -/
def fnExactVarSizeWrong : ChangeSpec := { name := "fnExactVarSize", fn := fun _ => fun
  | [d] => { results := [.lit (.bool false)], args := [d] }
  | _ => none }
def FnExactVarSizeWrongFalsely : Prop := fnExactVarSizeRow.holds Try.pinned (OpenSpec.ofChange fnExactVarSizeWrong)

/-- 'laws.FnExactVarList': WHATEVER THE INPUT: true; the input reads as it did. -/
def fnExactVarListSpec : ChangeSpec := { name := "fnExactVarList", fn := fun _ => fun
  | [d] => { results := [.lit (.bool true)], args := [d] }
  | _ => none }
def fnExactVarListRow : OpenClaim := { program := "ytkndaeoobafbhaa", sum := "154fedfb835d96409d183f9531aa0daa2510477d8bca3bb091edf5f5d9738d6a", func := "loop.example/g00971/laws.FnExactVarList", spec := "fnExactVarList", inPlace := ["internal/abi.NoEscape"], apart := false }
def FnExactVarListSaid : Prop := fnExactVarListRow.holds Try.pinned (OpenSpec.ofChange fnExactVarListSpec)

/-- ITS FALSE NEIGHBOUR: 'it returns false'. Refute it at one input. -/
def fnExactVarListWrong : ChangeSpec := { name := "fnExactVarList", fn := fun _ => fun
  | [d] => { results := [.lit (.bool false)], args := [d] }
  | _ => none }
def FnExactVarListWrongFalsely : Prop := fnExactVarListRow.holds Try.pinned (OpenSpec.ofChange fnExactVarListWrong)

/-- 'laws.FnExactReadVars': WHATEVER THE INPUT: true; the input reads as it did. -/
def fnExactReadVarsSpec : ChangeSpec := { name := "fnExactReadVars", fn := fun _ => fun
  | [d1, d2] => { results := [.lit (.bool true)], args := [d1, d2] }
  | _ => none }
def fnExactReadVarsRow : OpenClaim := { program := "ytkndaeoobafbhaa", sum := "154fedfb835d96409d183f9531aa0daa2510477d8bca3bb091edf5f5d9738d6a", func := "loop.example/g00971/laws.FnExactReadVars", spec := "fnExactReadVars", apart := false }
def FnExactReadVarsSaid : Prop := fnExactReadVarsRow.holds Try.pinned (OpenSpec.ofChange fnExactReadVarsSpec)

/-- ITS FALSE NEIGHBOUR: 'it returns false'. Refute it at one input. -/
def fnExactReadVarsWrong : ChangeSpec := { name := "fnExactReadVars", fn := fun _ => fun
  | [d1, d2] => { results := [.lit (.bool false)], args := [d1, d2] }
  | _ => none }
def FnExactReadVarsWrongFalsely : Prop := fnExactReadVarsRow.holds Try.pinned (OpenSpec.ofChange fnExactReadVarsWrong)

/- THE SECOND FORM. 'bulk': how many values and letters a reading holds, each counted each time it is reached (what is shared counts as often as it is met; a slice's spare places count too). A statement '..UptoSaid' is the law's where the arguments, and the package variables that the reading takes, are together of bulk at most 1048576: NARROWER than '..Said'. Prove '..Said' where nothing that the law and all that it calls make is longer than what came in: it says more and counts as full. Else prove '..UptoSaid'. A law counts once. -/
mutual
def uptoBulk {H : Type} : DataW H → Nat
  | .lit (.string bytes) => bytes.length + 1
  | .lit _ => 1
  | .nil => 1
  | .ptr d => uptoBulk d + 1
  | .slice elems spare => uptoBulkAll elems + uptoBulkAll spare + 1
  | .agg parts => uptoBulkAll parts + 1
  | .iface _ d => uptoBulk d + 1
  | .map entries => uptoBulkEntries entries + 1
  | .held _ => 1
def uptoBulkAll {H : Type} : List (DataW H) → Nat
  | [] => 0
  | d :: r => uptoBulk d + uptoBulkAll r
def uptoBulkEntries {H : Type} : List (Lit × DataW H) → Nat
  | [] => 0
  | x :: r => uptoBulkEntry x + uptoBulkEntries r
def uptoBulkEntry {H : Type} : Lit × DataW H → Nat
  | (.string bytes, d) => bytes.length + uptoBulk d + 1
  | (_, d) => uptoBulk d + 1
 end
def uptoSmall : (H : Type) → List (DataW H) → Bool := fun _ ds => decide (uptoBulkAll ds ≤ 1048576)
def OpenSpec.upto (s : _root_.Go.ChangeSpec) : _root_.Go.OpenSpec := { _root_.Go.OpenSpec.ofChange s with cond := some uptoSmall }

/-- 'laws.FnNumbers', WHERE WHAT IT READS IS OF BULK AT MOST 1048576: true; the input reads as it did. -/
def fnNumbersUptoRow : OpenClaim := { program := "ytkndaeoobafbhaa", sum := "154fedfb835d96409d183f9531aa0daa2510477d8bca3bb091edf5f5d9738d6a", func := "loop.example/g00971/laws.FnNumbers", spec := "fnNumbers", apart := false, narrowed := true }
def FnNumbersUptoSaid : Prop := fnNumbersUptoRow.holds Try.pinned (OpenSpec.upto fnNumbersSpec)

/-- 'laws.FnVarLists', WHERE WHAT IT READS IS OF BULK AT MOST 1048576: true; the input reads as it did. -/
def fnVarListsUptoRow : OpenClaim := { program := "ytkndaeoobafbhaa", sum := "154fedfb835d96409d183f9531aa0daa2510477d8bca3bb091edf5f5d9738d6a", func := "loop.example/g00971/laws.FnVarLists", spec := "fnVarLists", inPlace := ["internal/abi.NoEscape"], apart := false, narrowed := true }
def FnVarListsUptoSaid : Prop := fnVarListsUptoRow.holds Try.pinned (OpenSpec.upto fnVarListsSpec)

/-- 'laws.FnExactVarText', WHERE WHAT IT READS IS OF BULK AT MOST 1048576: true; the input reads as it did. -/
def fnExactVarTextUptoRow : OpenClaim := { program := "ytkndaeoobafbhaa", sum := "154fedfb835d96409d183f9531aa0daa2510477d8bca3bb091edf5f5d9738d6a", func := "loop.example/g00971/laws.FnExactVarText", spec := "fnExactVarText", apart := false, narrowed := true }
def FnExactVarTextUptoSaid : Prop := fnExactVarTextUptoRow.holds Try.pinned (OpenSpec.upto fnExactVarTextSpec)

/-- 'laws.FnExactReadVar', WHERE WHAT IT READS IS OF BULK AT MOST 1048576: true; the input reads as it did. -/
def fnExactReadVarUptoRow : OpenClaim := { program := "ytkndaeoobafbhaa", sum := "154fedfb835d96409d183f9531aa0daa2510477d8bca3bb091edf5f5d9738d6a", func := "loop.example/g00971/laws.FnExactReadVar", spec := "fnExactReadVar", apart := false, narrowed := true }
def FnExactReadVarUptoSaid : Prop := fnExactReadVarUptoRow.holds Try.pinned (OpenSpec.upto fnExactReadVarSpec)

/-- 'laws.FnExactFixText', WHERE WHAT IT READS IS OF BULK AT MOST 1048576: true; the input reads as it did. -/
def fnExactFixTextUptoRow : OpenClaim := { program := "ytkndaeoobafbhaa", sum := "154fedfb835d96409d183f9531aa0daa2510477d8bca3bb091edf5f5d9738d6a", func := "loop.example/g00971/laws.FnExactFixText", spec := "fnExactFixText", apart := false, narrowed := true }
def FnExactFixTextUptoSaid : Prop := fnExactFixTextUptoRow.holds Try.pinned (OpenSpec.upto fnExactFixTextSpec)

/-- 'laws.FnExactReadFix', WHERE WHAT IT READS IS OF BULK AT MOST 1048576: true; the input reads as it did. -/
def fnExactReadFixUptoRow : OpenClaim := { program := "ytkndaeoobafbhaa", sum := "154fedfb835d96409d183f9531aa0daa2510477d8bca3bb091edf5f5d9738d6a", func := "loop.example/g00971/laws.FnExactReadFix", spec := "fnExactReadFix", apart := false, narrowed := true }
def FnExactReadFixUptoSaid : Prop := fnExactReadFixUptoRow.holds Try.pinned (OpenSpec.upto fnExactReadFixSpec)

/-- 'laws.FnExactVarSize', WHERE WHAT IT READS IS OF BULK AT MOST 1048576: true; the input reads as it did. -/
def fnExactVarSizeUptoRow : OpenClaim := { program := "ytkndaeoobafbhaa", sum := "154fedfb835d96409d183f9531aa0daa2510477d8bca3bb091edf5f5d9738d6a", func := "loop.example/g00971/laws.FnExactVarSize", spec := "fnExactVarSize", apart := false, narrowed := true }
def FnExactVarSizeUptoSaid : Prop := fnExactVarSizeUptoRow.holds Try.pinned (OpenSpec.upto fnExactVarSizeSpec)

/-- 'laws.FnExactVarList', WHERE WHAT IT READS IS OF BULK AT MOST 1048576: true; the input reads as it did. -/
def fnExactVarListUptoRow : OpenClaim := { program := "ytkndaeoobafbhaa", sum := "154fedfb835d96409d183f9531aa0daa2510477d8bca3bb091edf5f5d9738d6a", func := "loop.example/g00971/laws.FnExactVarList", spec := "fnExactVarList", inPlace := ["internal/abi.NoEscape"], apart := false, narrowed := true }
def FnExactVarListUptoSaid : Prop := fnExactVarListUptoRow.holds Try.pinned (OpenSpec.upto fnExactVarListSpec)

/-- 'laws.FnExactReadVars', WHERE WHAT IT READS IS OF BULK AT MOST 1048576: true; the input reads as it did. -/
def fnExactReadVarsUptoRow : OpenClaim := { program := "ytkndaeoobafbhaa", sum := "154fedfb835d96409d183f9531aa0daa2510477d8bca3bb091edf5f5d9738d6a", func := "loop.example/g00971/laws.FnExactReadVars", spec := "fnExactReadVars", apart := false, narrowed := true }
def FnExactReadVarsUptoSaid : Prop := fnExactReadVarsUptoRow.holds Try.pinned (OpenSpec.upto fnExactReadVarsSpec)

end Rows
end Go.Proofs.Ytkndaeoobafbhaa
