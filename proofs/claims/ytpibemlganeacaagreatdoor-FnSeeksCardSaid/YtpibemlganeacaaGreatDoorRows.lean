/-
  NARROWER THAN 'FOR EVERY INPUT', by the rows' own cells (each row's printed sentence says how): FnSeeks: ifaces, laid.
  DERIVED. THE GIVEN ROWS OF THIS SEAT. 1 by the template 'for every input the law returns true; each argument reads behind the call as it read before'; 0 by the template 'total and deterministic' (their statements: YtpibemlganeacaaGreatDoorTotals.lean).
  GIVEN WITH THE SEED: the statements are not yours to turn. If you find one false, say at which input.
  Laid BY PROGRAM, IN A SANDBOX (cutbox-rows.mjs): the forced cells as the released guide's own fill.sh prints them over the translation 57931483f0746121… (all of the seat's roots in one cut). By AI agents, Wed Nov 11 2026. No macro, syntax, notation, axiom, sorry.
-/
import Derived.Test.YtpibemlganeacaaGreatDoorChecked
import GoSem.Claim
import GoSem.ClaimJoined
import GoSem.ClaimMapViews
import Derived.JoinedTies
import Derived.KernelRfl
namespace Go.Proofs.YtpibemlganeacaaGreatDoor
/- THE CELL 'sum', in the pinned program and in every row, IS THE sha256 OF THE DUMP (.gsa) THAT YtpibemlganeacaaGreatDoorProg.lean LOADS. Nothing in Lean hashes anything: it is a label: what it is worth is what the hold of that sum in a sandbox is worth. -/
noncomputable def Tryz.pinned : Pinned := { name := "ytpibemlganeacaagreatdoor", sum := "57931483f07461210544fac58edc09c79450b7cf638fccaa2fcedfb2c3a7818b", checked := Tryz.checked }
namespace Rows
def none {H : Type} : Left H := { results := [], args := [] }

/- WHAT THE LISTED PACKAGE-LEVEL VARIABLES READ AS WHEN THE CALL BEGINS. Each datum BY PROGRAM (the guide's laid-datum.mjs) off the statement by which the dump's own 'gosem.cut.vars' lays the variable. In a bare row this is a premise. The card (YtpibemlganeacaaGreatDoorCards.lean) ties it to the program's text. -/
def laid_loop_example_g00971_impl_errNoHead {H : Type} : DataW H := .iface "*errors.errorString" (.ptr (.agg [.lit (.string [116, 104, 101, 114, 101, 32, 105, 115, 32, 110, 111, 32, 104, 101, 97, 100, 32, 97, 116, 32, 105, 116, 115, 32, 98, 101, 103, 105, 110, 110, 105, 110, 103])]))
def laid_loop_example_g00971_impl_errNoMark {H : Type} : DataW H := .iface "*errors.errorString" (.ptr (.agg [.lit (.string [116, 104, 101, 114, 101, 32, 105, 115, 32, 110, 111, 32, 109, 97, 114, 107, 32, 98, 101, 104, 105, 110, 100, 32, 105, 116, 115, 32, 108, 97, 115, 116, 32, 102, 114, 97, 109, 101])]))
def laid_loop_example_g00971_impl_errOtherText {H : Type} : DataW H := .iface "*errors.errorString" (.ptr (.agg [.lit (.string [105, 116, 32, 105, 115, 32, 110, 111, 116, 32, 116, 104, 101, 32, 116, 101, 120, 116, 32, 97, 115, 32, 119, 104, 105, 99, 104, 32, 105, 116, 115, 32, 104, 101, 97, 100, 32, 97, 110, 100, 32, 105, 116, 115, 32, 114, 101, 99, 111, 114, 100, 115, 32, 97, 114, 101, 32, 115, 101, 97, 108, 101, 100])]))

/-- 'laws.FnSeeks': WHATEVER THE INPUT: true; the input reads as it did. -/
def fnSeeksSpec : ChangeSpec := { name := "fnSeeks", vars := ["loop.example/g00971/impl.errNoHead", "loop.example/g00971/impl.errNoMark", "loop.example/g00971/impl.errOtherText"], fn := fun _ => fun
  | [d, g1, g2, g3] => { results := [.lit (.bool true)], args := [d], vars := [g1, g2, g3] }
  | _ => none }
def fnSeeksRow : OpenClaim := { program := "ytpibemlganeacaagreatdoor", sum := "57931483f07461210544fac58edc09c79450b7cf638fccaa2fcedfb2c3a7818b", func := "loop.example/g00971/laws.FnSeeks", spec := "fnSeeks", inPlace := ["internal/abi.NoEscape", "internal/bytealg.MakeNoZero"], unfollowed := true, recurses := true, named := ["loop.example/g00971/impl.errNoHead", "loop.example/g00971/impl.errNoMark", "loop.example/g00971/impl.errOtherText"], ifaces := true, apart := false, laid := [("loop.example/g00971/impl.errNoHead", laid_loop_example_g00971_impl_errNoHead), ("loop.example/g00971/impl.errNoMark", laid_loop_example_g00971_impl_errNoMark), ("loop.example/g00971/impl.errOtherText", laid_loop_example_g00971_impl_errOtherText)] }
def FnSeeksSaid : Prop := fnSeeksRow.holds Tryz.pinned (OpenSpec.ofChange fnSeeksSpec)

/-- ITS FALSE NEIGHBOUR: 'it returns false'. Refute it at one input. -/
def fnSeeksWrong : ChangeSpec := { name := "fnSeeks", vars := ["loop.example/g00971/impl.errNoHead", "loop.example/g00971/impl.errNoMark", "loop.example/g00971/impl.errOtherText"], fn := fun _ => fun
  | [d, g1, g2, g3] => { results := [.lit (.bool false)], args := [d], vars := [g1, g2, g3] }
  | _ => none }
def FnSeeksWrongFalsely : Prop := fnSeeksRow.holds Tryz.pinned (OpenSpec.ofChange fnSeeksWrong)

/- THE SECOND FORM. 'bulk': how many values and letters a reading holds, each counted each time it is reached (what is shared counts as often as it is met; a slice's spare places count too). A statement '..UptoSaid' is the law's where the arguments, and the package variables that the reading takes, are together of bulk at most 1048576: NARROWER than '..Said'. Prove '..Said' where nothing that the law and all that it calls make is longer than what came in: it says more and counts as full. Else prove '..UptoSaid'. A law counts once. -/
mutual
def uptoBulk {H : Type} : DataW H → Nat
  | .lit (.string bytes) => bytes.length + 1
  | .lit _ => 1
  | .nil => 1
  | .ptr d => uptoBulk d + 1
  | .slice elems spare => uptoBulkAll elems + uptoBulkAll spare + 1
  | .agg parts => uptoBulkAll parts + 1
  | .iface _ d => uptoBulk d + 1
  | .map entries => uptoBulkEntries entries + 1
  | .held _ => 1
def uptoBulkAll {H : Type} : List (DataW H) → Nat
  | [] => 0
  | d :: r => uptoBulk d + uptoBulkAll r
def uptoBulkEntries {H : Type} : List (Lit × DataW H) → Nat
  | [] => 0
  | x :: r => uptoBulkEntry x + uptoBulkEntries r
def uptoBulkEntry {H : Type} : Lit × DataW H → Nat
  | (.string bytes, d) => bytes.length + uptoBulk d + 1
  | (_, d) => uptoBulk d + 1
 end
def uptoSmall : (H : Type) → List (DataW H) → Bool := fun _ ds => decide (uptoBulkAll ds ≤ 1048576)
def OpenSpec.upto (s : _root_.Go.ChangeSpec) : _root_.Go.OpenSpec := { _root_.Go.OpenSpec.ofChange s with cond := some uptoSmall }

/-- 'laws.FnSeeks', WHERE WHAT IT READS IS OF BULK AT MOST 1048576: true; the input reads as it did. -/
def fnSeeksUptoRow : OpenClaim := { program := "ytpibemlganeacaagreatdoor", sum := "57931483f07461210544fac58edc09c79450b7cf638fccaa2fcedfb2c3a7818b", func := "loop.example/g00971/laws.FnSeeks", spec := "fnSeeks", inPlace := ["internal/abi.NoEscape", "internal/bytealg.MakeNoZero"], unfollowed := true, recurses := true, named := ["loop.example/g00971/impl.errNoHead", "loop.example/g00971/impl.errNoMark", "loop.example/g00971/impl.errOtherText"], ifaces := true, apart := false, laid := [("loop.example/g00971/impl.errNoHead", laid_loop_example_g00971_impl_errNoHead), ("loop.example/g00971/impl.errNoMark", laid_loop_example_g00971_impl_errNoMark), ("loop.example/g00971/impl.errOtherText", laid_loop_example_g00971_impl_errOtherText)], narrowed := true }
def FnSeeksUptoSaid : Prop := fnSeeksUptoRow.holds Tryz.pinned (OpenSpec.upto fnSeeksSpec)

end Rows
end Go.Proofs.YtpibemlganeacaaGreatDoor
