/-
  NARROWER THAN 'FOR EVERY INPUT', by the rows' own cells (each row's printed sentence says how): FnExactListIn: ifaces, laid · FnExactSeekRecord: ifaces, laid · FnExactReadsFor: ifaces, laid.
  DERIVED. THE GIVEN ROWS OF THIS SEAT. 3 by the template 'for every input the law returns true; each argument reads behind the call as it read before'; 0 by the template 'total and deterministic' (their statements: YtpibemlganeacaaDoorTotals.lean).
  GIVEN WITH THE SEED: the statements are not yours to turn. If you find one false, say at which input.
  Laid BY PROGRAM, IN A SANDBOX (cutbox-rows.mjs): the forced cells as the released guide's own fill.sh prints them over the translation 76e34c149da652c2… (all of the seat's roots in one cut). By AI agents, Wed Nov 11 2026. No macro, syntax, notation, axiom, sorry.
-/
import Derived.Test.YtpibemlganeacaaDoorChecked
import GoSem.Claim
import GoSem.ClaimJoined
import GoSem.ClaimMapViews
import Derived.JoinedTies
import Derived.KernelRfl
namespace Go.Proofs.YtpibemlganeacaaDoor
/- THE CELL 'sum', in the pinned program and in every row, IS THE sha256 OF THE DUMP (.gsa) THAT YtpibemlganeacaaDoorProg.lean LOADS. Nothing in Lean hashes anything: it is a label: what it is worth is what the hold of that sum in a sandbox is worth. -/
noncomputable def Tryd.pinned : Pinned := { name := "ytpibemlganeacaadoor", sum := "76e34c149da652c274a1f23206c2de899c270dfeacddce7cabd4f0d321e0a68b", checked := Tryd.checked }
namespace Rows
def none {H : Type} : Left H := { results := [], args := [] }

/- WHAT THE LISTED PACKAGE-LEVEL VARIABLES READ AS WHEN THE CALL BEGINS. Each datum BY PROGRAM (the guide's laid-datum.mjs) off the statement by which the dump's own 'gosem.cut.vars' lays the variable. In a bare row this is a premise. The card (YtpibemlganeacaaDoorCards.lean) ties it to the program's text. -/
def laid_loop_example_g00971_impl_errNoHead {H : Type} : DataW H := .iface "*errors.errorString" (.ptr (.agg [.lit (.string [116, 104, 101, 114, 101, 32, 105, 115, 32, 110, 111, 32, 104, 101, 97, 100, 32, 97, 116, 32, 105, 116, 115, 32, 98, 101, 103, 105, 110, 110, 105, 110, 103])]))
def laid_loop_example_g00971_impl_errNoMark {H : Type} : DataW H := .iface "*errors.errorString" (.ptr (.agg [.lit (.string [116, 104, 101, 114, 101, 32, 105, 115, 32, 110, 111, 32, 109, 97, 114, 107, 32, 98, 101, 104, 105, 110, 100, 32, 105, 116, 115, 32, 108, 97, 115, 116, 32, 102, 114, 97, 109, 101])]))
def laid_loop_example_g00971_impl_errOtherText {H : Type} : DataW H := .iface "*errors.errorString" (.ptr (.agg [.lit (.string [105, 116, 32, 105, 115, 32, 110, 111, 116, 32, 116, 104, 101, 32, 116, 101, 120, 116, 32, 97, 115, 32, 119, 104, 105, 99, 104, 32, 105, 116, 115, 32, 104, 101, 97, 100, 32, 97, 110, 100, 32, 105, 116, 115, 32, 114, 101, 99, 111, 114, 100, 115, 32, 97, 114, 101, 32, 115, 101, 97, 108, 101, 100])]))

/-- 'laws.FnExactListIn': WHATEVER THE INPUT: true; the input reads as it did. -/
def fnExactListInSpec : ChangeSpec := { name := "fnExactListIn", vars := ["loop.example/g00971/impl.errNoHead", "loop.example/g00971/impl.errNoMark", "loop.example/g00971/impl.errOtherText"], fn := fun _ => fun
  | [d, g1, g2, g3] => { results := [.lit (.bool true)], args := [d], vars := [g1, g2, g3] }
  | _ => none }
def fnExactListInRow : OpenClaim := { program := "ytpibemlganeacaadoor", sum := "76e34c149da652c274a1f23206c2de899c270dfeacddce7cabd4f0d321e0a68b", func := "loop.example/g00971/laws.FnExactListIn", spec := "fnExactListIn", inPlace := ["internal/abi.NoEscape", "internal/bytealg.MakeNoZero"], unfollowed := true, recurses := true, named := ["loop.example/g00971/impl.errNoHead", "loop.example/g00971/impl.errNoMark", "loop.example/g00971/impl.errOtherText"], ifaces := true, apart := false, laid := [("loop.example/g00971/impl.errNoHead", laid_loop_example_g00971_impl_errNoHead), ("loop.example/g00971/impl.errNoMark", laid_loop_example_g00971_impl_errNoMark), ("loop.example/g00971/impl.errOtherText", laid_loop_example_g00971_impl_errOtherText)] }
def FnExactListInSaid : Prop := fnExactListInRow.holds Tryd.pinned (OpenSpec.ofChange fnExactListInSpec)

/-- ITS FALSE NEIGHBOUR: 'it returns false'. Refute it at one input. -/
def fnExactListInWrong : ChangeSpec := { name := "fnExactListIn", vars := ["loop.example/g00971/impl.errNoHead", "loop.example/g00971/impl.errNoMark", "loop.example/g00971/impl.errOtherText"], fn := fun _ => fun
  | [d, g1, g2, g3] => { results := [.lit (.bool false)], args := [d], vars := [g1, g2, g3] }
  | _ => none }
def FnExactListInWrongFalsely : Prop := fnExactListInRow.holds Tryd.pinned (OpenSpec.ofChange fnExactListInWrong)

/-- 'laws.FnExactSeekRecord': WHATEVER THE INPUT: true; the input reads as it did. -/
def fnExactSeekRecordSpec : ChangeSpec := { name := "fnExactSeekRecord", vars := ["loop.example/g00971/impl.errNoHead", "loop.example/g00971/impl.errNoMark", "loop.example/g00971/impl.errOtherText"], fn := fun _ => fun
  | [d1, d2, g1, g2, g3] => { results := [.lit (.bool true)], args := [d1, d2], vars := [g1, g2, g3] }
  | _ => none }
def fnExactSeekRecordRow : OpenClaim := { program := "ytpibemlganeacaadoor", sum := "76e34c149da652c274a1f23206c2de899c270dfeacddce7cabd4f0d321e0a68b", func := "loop.example/g00971/laws.FnExactSeekRecord", spec := "fnExactSeekRecord", inPlace := ["internal/abi.NoEscape", "internal/bytealg.MakeNoZero"], unfollowed := true, recurses := true, named := ["loop.example/g00971/impl.errNoHead", "loop.example/g00971/impl.errNoMark", "loop.example/g00971/impl.errOtherText"], ifaces := true, apart := false, laid := [("loop.example/g00971/impl.errNoHead", laid_loop_example_g00971_impl_errNoHead), ("loop.example/g00971/impl.errNoMark", laid_loop_example_g00971_impl_errNoMark), ("loop.example/g00971/impl.errOtherText", laid_loop_example_g00971_impl_errOtherText)] }
def FnExactSeekRecordSaid : Prop := fnExactSeekRecordRow.holds Tryd.pinned (OpenSpec.ofChange fnExactSeekRecordSpec)

/-- ITS FALSE NEIGHBOUR: 'it returns false'. Refute it at one input. -/
def fnExactSeekRecordWrong : ChangeSpec := { name := "fnExactSeekRecord", vars := ["loop.example/g00971/impl.errNoHead", "loop.example/g00971/impl.errNoMark", "loop.example/g00971/impl.errOtherText"], fn := fun _ => fun
  | [d1, d2, g1, g2, g3] => { results := [.lit (.bool false)], args := [d1, d2], vars := [g1, g2, g3] }
  | _ => none }
def FnExactSeekRecordWrongFalsely : Prop := fnExactSeekRecordRow.holds Tryd.pinned (OpenSpec.ofChange fnExactSeekRecordWrong)

/-- 'laws.FnExactReadsFor': WHATEVER THE INPUT: true; the input reads as it did. -/
def fnExactReadsForSpec : ChangeSpec := { name := "fnExactReadsFor", vars := ["loop.example/g00971/impl.errNoHead", "loop.example/g00971/impl.errNoMark", "loop.example/g00971/impl.errOtherText"], fn := fun _ => fun
  | [d1, d2, g1, g2, g3] => { results := [.lit (.bool true)], args := [d1, d2], vars := [g1, g2, g3] }
  | _ => none }
def fnExactReadsForRow : OpenClaim := { program := "ytpibemlganeacaadoor", sum := "76e34c149da652c274a1f23206c2de899c270dfeacddce7cabd4f0d321e0a68b", func := "loop.example/g00971/laws.FnExactReadsFor", spec := "fnExactReadsFor", inPlace := ["internal/abi.NoEscape", "internal/bytealg.MakeNoZero"], unfollowed := true, recurses := true, named := ["loop.example/g00971/impl.errNoHead", "loop.example/g00971/impl.errNoMark", "loop.example/g00971/impl.errOtherText"], ifaces := true, apart := false, laid := [("loop.example/g00971/impl.errNoHead", laid_loop_example_g00971_impl_errNoHead), ("loop.example/g00971/impl.errNoMark", laid_loop_example_g00971_impl_errNoMark), ("loop.example/g00971/impl.errOtherText", laid_loop_example_g00971_impl_errOtherText)] }
def FnExactReadsForSaid : Prop := fnExactReadsForRow.holds Tryd.pinned (OpenSpec.ofChange fnExactReadsForSpec)

/-- ITS FALSE NEIGHBOUR: 'it returns false'. Refute it at one input. -/
def fnExactReadsForWrong : ChangeSpec := { name := "fnExactReadsFor", vars := ["loop.example/g00971/impl.errNoHead", "loop.example/g00971/impl.errNoMark", "loop.example/g00971/impl.errOtherText"], fn := fun _ => fun
  | [d1, d2, g1, g2, g3] => { results := [.lit (.bool false)], args := [d1, d2], vars := [g1, g2, g3] }
  | _ => none }
def FnExactReadsForWrongFalsely : Prop := fnExactReadsForRow.holds Tryd.pinned (OpenSpec.ofChange fnExactReadsForWrong)

/- THE SECOND FORM. 'bulk': how many values and letters a reading holds, each counted each time it is reached (what is shared counts as often as it is met; a slice's spare places count too). A statement '..UptoSaid' is the law's where the arguments, and the package variables that the reading takes, are together of bulk at most 1048576: NARROWER than '..Said'. Prove '..Said' where nothing that the law and all that it calls make is longer than what came in: it says more and counts as full. Else prove '..UptoSaid'. A law counts once. -/
mutual
def uptoBulk {H : Type} : DataW H → Nat
  | .lit (.string bytes) => bytes.length + 1
  | .lit _ => 1
  | .nil => 1
  | .ptr d => uptoBulk d + 1
  | .slice elems spare => uptoBulkAll elems + uptoBulkAll spare + 1
  | .agg parts => uptoBulkAll parts + 1
  | .iface _ d => uptoBulk d + 1
  | .map entries => uptoBulkEntries entries + 1
  | .held _ => 1
def uptoBulkAll {H : Type} : List (DataW H) → Nat
  | [] => 0
  | d :: r => uptoBulk d + uptoBulkAll r
def uptoBulkEntries {H : Type} : List (Lit × DataW H) → Nat
  | [] => 0
  | x :: r => uptoBulkEntry x + uptoBulkEntries r
def uptoBulkEntry {H : Type} : Lit × DataW H → Nat
  | (.string bytes, d) => bytes.length + uptoBulk d + 1
  | (_, d) => uptoBulk d + 1
 end
def uptoSmall : (H : Type) → List (DataW H) → Bool := fun _ ds => decide (uptoBulkAll ds ≤ 1048576)
def OpenSpec.upto (s : _root_.Go.ChangeSpec) : _root_.Go.OpenSpec := { _root_.Go.OpenSpec.ofChange s with cond := some uptoSmall }

/-- 'laws.FnExactListIn', WHERE WHAT IT READS IS OF BULK AT MOST 1048576: true; the input reads as it did. -/
def fnExactListInUptoRow : OpenClaim := { program := "ytpibemlganeacaadoor", sum := "76e34c149da652c274a1f23206c2de899c270dfeacddce7cabd4f0d321e0a68b", func := "loop.example/g00971/laws.FnExactListIn", spec := "fnExactListIn", inPlace := ["internal/abi.NoEscape", "internal/bytealg.MakeNoZero"], unfollowed := true, recurses := true, named := ["loop.example/g00971/impl.errNoHead", "loop.example/g00971/impl.errNoMark", "loop.example/g00971/impl.errOtherText"], ifaces := true, apart := false, laid := [("loop.example/g00971/impl.errNoHead", laid_loop_example_g00971_impl_errNoHead), ("loop.example/g00971/impl.errNoMark", laid_loop_example_g00971_impl_errNoMark), ("loop.example/g00971/impl.errOtherText", laid_loop_example_g00971_impl_errOtherText)], narrowed := true }
def FnExactListInUptoSaid : Prop := fnExactListInUptoRow.holds Tryd.pinned (OpenSpec.upto fnExactListInSpec)

/-- 'laws.FnExactSeekRecord', WHERE WHAT IT READS IS OF BULK AT MOST 1048576: true; the input reads as it did. -/
def fnExactSeekRecordUptoRow : OpenClaim := { program := "ytpibemlganeacaadoor", sum := "76e34c149da652c274a1f23206c2de899c270dfeacddce7cabd4f0d321e0a68b", func := "loop.example/g00971/laws.FnExactSeekRecord", spec := "fnExactSeekRecord", inPlace := ["internal/abi.NoEscape", "internal/bytealg.MakeNoZero"], unfollowed := true, recurses := true, named := ["loop.example/g00971/impl.errNoHead", "loop.example/g00971/impl.errNoMark", "loop.example/g00971/impl.errOtherText"], ifaces := true, apart := false, laid := [("loop.example/g00971/impl.errNoHead", laid_loop_example_g00971_impl_errNoHead), ("loop.example/g00971/impl.errNoMark", laid_loop_example_g00971_impl_errNoMark), ("loop.example/g00971/impl.errOtherText", laid_loop_example_g00971_impl_errOtherText)], narrowed := true }
def FnExactSeekRecordUptoSaid : Prop := fnExactSeekRecordUptoRow.holds Tryd.pinned (OpenSpec.upto fnExactSeekRecordSpec)

/-- 'laws.FnExactReadsFor', WHERE WHAT IT READS IS OF BULK AT MOST 1048576: true; the input reads as it did. -/
def fnExactReadsForUptoRow : OpenClaim := { program := "ytpibemlganeacaadoor", sum := "76e34c149da652c274a1f23206c2de899c270dfeacddce7cabd4f0d321e0a68b", func := "loop.example/g00971/laws.FnExactReadsFor", spec := "fnExactReadsFor", inPlace := ["internal/abi.NoEscape", "internal/bytealg.MakeNoZero"], unfollowed := true, recurses := true, named := ["loop.example/g00971/impl.errNoHead", "loop.example/g00971/impl.errNoMark", "loop.example/g00971/impl.errOtherText"], ifaces := true, apart := false, laid := [("loop.example/g00971/impl.errNoHead", laid_loop_example_g00971_impl_errNoHead), ("loop.example/g00971/impl.errNoMark", laid_loop_example_g00971_impl_errNoMark), ("loop.example/g00971/impl.errOtherText", laid_loop_example_g00971_impl_errOtherText)], narrowed := true }
def FnExactReadsForUptoSaid : Prop := fnExactReadsForUptoRow.holds Tryd.pinned (OpenSpec.upto fnExactReadsForSpec)

end Rows
end Go.Proofs.YtpibemlganeacaaDoor
