/-
  NARROWER THAN 'FOR EVERY INPUT', by the rows' own cells (each row's printed sentence says how): FnSealed: ifaces, laid · FnBent: ifaces, laid · FnExactReadSealed: ifaces, laid · FnExactSealedOk: ifaces, laid · FnExactResealed: ifaces, laid · FnExactHeadIn: ifaces, laid · FnExactSealedAs: ifaces, laid.
  DERIVED. THE GIVEN ROWS OF THIS SEAT. 7 by the template 'for every input the law returns true; each argument reads behind the call as it read before'; 0 by the template 'total and deterministic' (their statements: YtdppflfhjmigdaaDoorTotals.lean).
  GIVEN WITH THE SEED: the statements are not yours to turn. If you find one false, say at which input.
  Laid BY PROGRAM, IN A SANDBOX (cutbox-rows.mjs): the forced cells as the released guide's own fill.sh prints them over the translation 6fe5c049ee519b13… (all of the seat's roots in one cut). By AI agents, Wed Nov 11 2026. No macro, syntax, notation, axiom, sorry.
-/
import Derived.Test.YtdppflfhjmigdaaDoorChecked
import GoSem.Claim
import GoSem.ClaimJoined
import GoSem.ClaimMapViews
import Derived.JoinedTies
import Derived.KernelRfl
namespace Go.Proofs.YtdppflfhjmigdaaDoor
/- THE CELL 'sum', in the pinned program and in every row, IS THE sha256 OF THE DUMP (.gsa) THAT YtdppflfhjmigdaaDoorProg.lean LOADS. Nothing in Lean hashes anything: it is a label: what it is worth is what the hold of that sum in a sandbox is worth. -/
noncomputable def Tryd.pinned : Pinned := { name := "ytdppflfhjmigdaadoor", sum := "6fe5c049ee519b13046383dac1fa71a21ccd4a3d091e94d0d10e4305ee09a20a", checked := Tryd.checked }
namespace Rows
def none {H : Type} : Left H := { results := [], args := [] }

/- WHAT THE LISTED PACKAGE-LEVEL VARIABLES READ AS WHEN THE CALL BEGINS. Each datum BY PROGRAM (the guide's laid-datum.mjs) off the statement by which the dump's own 'gosem.cut.vars' lays the variable. In a bare row this is a premise. The card (YtdppflfhjmigdaaDoorCards.lean) ties it to the program's text. -/
def laid_loop_example_g00971_impl_errNoHead {H : Type} : DataW H := .iface "*errors.errorString" (.ptr (.agg [.lit (.string [116, 104, 101, 114, 101, 32, 105, 115, 32, 110, 111, 32, 104, 101, 97, 100, 32, 97, 116, 32, 105, 116, 115, 32, 98, 101, 103, 105, 110, 110, 105, 110, 103])]))
def laid_loop_example_g00971_impl_errNoMark {H : Type} : DataW H := .iface "*errors.errorString" (.ptr (.agg [.lit (.string [116, 104, 101, 114, 101, 32, 105, 115, 32, 110, 111, 32, 109, 97, 114, 107, 32, 98, 101, 104, 105, 110, 100, 32, 105, 116, 115, 32, 108, 97, 115, 116, 32, 102, 114, 97, 109, 101])]))
def laid_loop_example_g00971_impl_errOtherText {H : Type} : DataW H := .iface "*errors.errorString" (.ptr (.agg [.lit (.string [105, 116, 32, 105, 115, 32, 110, 111, 116, 32, 116, 104, 101, 32, 116, 101, 120, 116, 32, 97, 115, 32, 119, 104, 105, 99, 104, 32, 105, 116, 115, 32, 104, 101, 97, 100, 32, 97, 110, 100, 32, 105, 116, 115, 32, 114, 101, 99, 111, 114, 100, 115, 32, 97, 114, 101, 32, 115, 101, 97, 108, 101, 100])]))

/-- 'laws.FnSealed': WHATEVER THE INPUT: true; the input reads as it did. -/
def fnSealedSpec : ChangeSpec := { name := "fnSealed", vars := ["loop.example/g00971/impl.errNoHead", "loop.example/g00971/impl.errNoMark", "loop.example/g00971/impl.errOtherText"], fn := fun _ => fun
  | [d, g1, g2, g3] => { results := [.lit (.bool true)], args := [d], vars := [g1, g2, g3] }
  | _ => none }
def fnSealedRow : OpenClaim := { program := "ytdppflfhjmigdaadoor", sum := "6fe5c049ee519b13046383dac1fa71a21ccd4a3d091e94d0d10e4305ee09a20a", func := "loop.example/g00971/laws.FnSealed", spec := "fnSealed", inPlace := ["internal/abi.NoEscape", "internal/bytealg.MakeNoZero"], unfollowed := true, recurses := true, named := ["loop.example/g00971/impl.errNoHead", "loop.example/g00971/impl.errNoMark", "loop.example/g00971/impl.errOtherText"], ifaces := true, apart := false, laid := [("loop.example/g00971/impl.errNoHead", laid_loop_example_g00971_impl_errNoHead), ("loop.example/g00971/impl.errNoMark", laid_loop_example_g00971_impl_errNoMark), ("loop.example/g00971/impl.errOtherText", laid_loop_example_g00971_impl_errOtherText)] }
def FnSealedSaid : Prop := fnSealedRow.holds Tryd.pinned (OpenSpec.ofChange fnSealedSpec)

/-- ITS FALSE NEIGHBOUR: 'it returns false'. Refute it at one input. -/
def fnSealedWrong : ChangeSpec := { name := "fnSealed", vars := ["loop.example/g00971/impl.errNoHead", "loop.example/g00971/impl.errNoMark", "loop.example/g00971/impl.errOtherText"], fn := fun _ => fun
  | [d, g1, g2, g3] => { results := [.lit (.bool false)], args := [d], vars := [g1, g2, g3] }
  | _ => none }
def FnSealedWrongFalsely : Prop := fnSealedRow.holds Tryd.pinned (OpenSpec.ofChange fnSealedWrong)

/-- 'laws.FnBent': WHATEVER THE INPUT: true; the input reads as it did. -/
def fnBentSpec : ChangeSpec := { name := "fnBent", vars := ["loop.example/g00971/impl.errNoHead", "loop.example/g00971/impl.errNoMark", "loop.example/g00971/impl.errOtherText"], fn := fun _ => fun
  | [d, g1, g2, g3] => { results := [.lit (.bool true)], args := [d], vars := [g1, g2, g3] }
  | _ => none }
def fnBentRow : OpenClaim := { program := "ytdppflfhjmigdaadoor", sum := "6fe5c049ee519b13046383dac1fa71a21ccd4a3d091e94d0d10e4305ee09a20a", func := "loop.example/g00971/laws.FnBent", spec := "fnBent", inPlace := ["internal/abi.NoEscape", "internal/bytealg.MakeNoZero"], unfollowed := true, recurses := true, named := ["loop.example/g00971/impl.errNoHead", "loop.example/g00971/impl.errNoMark", "loop.example/g00971/impl.errOtherText"], ifaces := true, apart := false, laid := [("loop.example/g00971/impl.errNoHead", laid_loop_example_g00971_impl_errNoHead), ("loop.example/g00971/impl.errNoMark", laid_loop_example_g00971_impl_errNoMark), ("loop.example/g00971/impl.errOtherText", laid_loop_example_g00971_impl_errOtherText)] }
def FnBentSaid : Prop := fnBentRow.holds Tryd.pinned (OpenSpec.ofChange fnBentSpec)

/-- ITS FALSE NEIGHBOUR: 'it returns false'. Refute it at one input. -/
def fnBentWrong : ChangeSpec := { name := "fnBent", vars := ["loop.example/g00971/impl.errNoHead", "loop.example/g00971/impl.errNoMark", "loop.example/g00971/impl.errOtherText"], fn := fun _ => fun
  | [d, g1, g2, g3] => { results := [.lit (.bool false)], args := [d], vars := [g1, g2, g3] }
  | _ => none }
def FnBentWrongFalsely : Prop := fnBentRow.holds Tryd.pinned (OpenSpec.ofChange fnBentWrong)

/-- 'laws.FnExactReadSealed': WHATEVER THE INPUT: true; the input reads as it did. -/
def fnExactReadSealedSpec : ChangeSpec := { name := "fnExactReadSealed", vars := ["loop.example/g00971/impl.errNoHead", "loop.example/g00971/impl.errNoMark", "loop.example/g00971/impl.errOtherText"], fn := fun _ => fun
  | [d, g1, g2, g3] => { results := [.lit (.bool true)], args := [d], vars := [g1, g2, g3] }
  | _ => none }
def fnExactReadSealedRow : OpenClaim := { program := "ytdppflfhjmigdaadoor", sum := "6fe5c049ee519b13046383dac1fa71a21ccd4a3d091e94d0d10e4305ee09a20a", func := "loop.example/g00971/laws.FnExactReadSealed", spec := "fnExactReadSealed", inPlace := ["internal/abi.NoEscape", "internal/bytealg.MakeNoZero"], unfollowed := true, recurses := true, named := ["loop.example/g00971/impl.errNoHead", "loop.example/g00971/impl.errNoMark", "loop.example/g00971/impl.errOtherText"], ifaces := true, apart := false, laid := [("loop.example/g00971/impl.errNoHead", laid_loop_example_g00971_impl_errNoHead), ("loop.example/g00971/impl.errNoMark", laid_loop_example_g00971_impl_errNoMark), ("loop.example/g00971/impl.errOtherText", laid_loop_example_g00971_impl_errOtherText)] }
def FnExactReadSealedSaid : Prop := fnExactReadSealedRow.holds Tryd.pinned (OpenSpec.ofChange fnExactReadSealedSpec)

/-- ITS FALSE NEIGHBOUR: 'it returns false'. Refute it at one input. -/
def fnExactReadSealedWrong : ChangeSpec := { name := "fnExactReadSealed", vars := ["loop.example/g00971/impl.errNoHead", "loop.example/g00971/impl.errNoMark", "loop.example/g00971/impl.errOtherText"], fn := fun _ => fun
  | [d, g1, g2, g3] => { results := [.lit (.bool false)], args := [d], vars := [g1, g2, g3] }
  | _ => none }
def FnExactReadSealedWrongFalsely : Prop := fnExactReadSealedRow.holds Tryd.pinned (OpenSpec.ofChange fnExactReadSealedWrong)

/-- 'laws.FnExactSealedOk': WHATEVER THE INPUT: true; the input reads as it did. -/
def fnExactSealedOkSpec : ChangeSpec := { name := "fnExactSealedOk", vars := ["loop.example/g00971/impl.errNoHead", "loop.example/g00971/impl.errNoMark", "loop.example/g00971/impl.errOtherText"], fn := fun _ => fun
  | [d, g1, g2, g3] => { results := [.lit (.bool true)], args := [d], vars := [g1, g2, g3] }
  | _ => none }
def fnExactSealedOkRow : OpenClaim := { program := "ytdppflfhjmigdaadoor", sum := "6fe5c049ee519b13046383dac1fa71a21ccd4a3d091e94d0d10e4305ee09a20a", func := "loop.example/g00971/laws.FnExactSealedOk", spec := "fnExactSealedOk", inPlace := ["internal/abi.NoEscape", "internal/bytealg.MakeNoZero"], unfollowed := true, recurses := true, named := ["loop.example/g00971/impl.errNoHead", "loop.example/g00971/impl.errNoMark", "loop.example/g00971/impl.errOtherText"], ifaces := true, apart := false, laid := [("loop.example/g00971/impl.errNoHead", laid_loop_example_g00971_impl_errNoHead), ("loop.example/g00971/impl.errNoMark", laid_loop_example_g00971_impl_errNoMark), ("loop.example/g00971/impl.errOtherText", laid_loop_example_g00971_impl_errOtherText)] }
def FnExactSealedOkSaid : Prop := fnExactSealedOkRow.holds Tryd.pinned (OpenSpec.ofChange fnExactSealedOkSpec)

/-- ITS FALSE NEIGHBOUR: 'it returns false'. Refute it at one input. -/
def fnExactSealedOkWrong : ChangeSpec := { name := "fnExactSealedOk", vars := ["loop.example/g00971/impl.errNoHead", "loop.example/g00971/impl.errNoMark", "loop.example/g00971/impl.errOtherText"], fn := fun _ => fun
  | [d, g1, g2, g3] => { results := [.lit (.bool false)], args := [d], vars := [g1, g2, g3] }
  | _ => none }
def FnExactSealedOkWrongFalsely : Prop := fnExactSealedOkRow.holds Tryd.pinned (OpenSpec.ofChange fnExactSealedOkWrong)

/-- 'laws.FnExactResealed': WHATEVER THE INPUT: true; the input reads as it did. -/
def fnExactResealedSpec : ChangeSpec := { name := "fnExactResealed", vars := ["loop.example/g00971/impl.errNoHead", "loop.example/g00971/impl.errNoMark", "loop.example/g00971/impl.errOtherText"], fn := fun _ => fun
  | [d1, d2, g1, g2, g3] => { results := [.lit (.bool true)], args := [d1, d2], vars := [g1, g2, g3] }
  | _ => none }
def fnExactResealedRow : OpenClaim := { program := "ytdppflfhjmigdaadoor", sum := "6fe5c049ee519b13046383dac1fa71a21ccd4a3d091e94d0d10e4305ee09a20a", func := "loop.example/g00971/laws.FnExactResealed", spec := "fnExactResealed", inPlace := ["internal/abi.NoEscape", "internal/bytealg.MakeNoZero", "internal/reflectlite.TypeOf"], unfollowed := true, recurses := true, named := ["loop.example/g00971/impl.errNoHead", "loop.example/g00971/impl.errNoMark", "loop.example/g00971/impl.errOtherText"], ifaces := true, apart := false, laid := [("loop.example/g00971/impl.errNoHead", laid_loop_example_g00971_impl_errNoHead), ("loop.example/g00971/impl.errNoMark", laid_loop_example_g00971_impl_errNoMark), ("loop.example/g00971/impl.errOtherText", laid_loop_example_g00971_impl_errOtherText)] }
def FnExactResealedSaid : Prop := fnExactResealedRow.holds Tryd.pinned (OpenSpec.ofChange fnExactResealedSpec)

/-- ITS FALSE NEIGHBOUR: 'it returns false'. Refute it at one input. -/
def fnExactResealedWrong : ChangeSpec := { name := "fnExactResealed", vars := ["loop.example/g00971/impl.errNoHead", "loop.example/g00971/impl.errNoMark", "loop.example/g00971/impl.errOtherText"], fn := fun _ => fun
  | [d1, d2, g1, g2, g3] => { results := [.lit (.bool false)], args := [d1, d2], vars := [g1, g2, g3] }
  | _ => none }
def FnExactResealedWrongFalsely : Prop := fnExactResealedRow.holds Tryd.pinned (OpenSpec.ofChange fnExactResealedWrong)

/-- 'laws.FnExactHeadIn': WHATEVER THE INPUT: true; the input reads as it did. -/
def fnExactHeadInSpec : ChangeSpec := { name := "fnExactHeadIn", vars := ["loop.example/g00971/impl.errNoHead", "loop.example/g00971/impl.errNoMark", "loop.example/g00971/impl.errOtherText"], fn := fun _ => fun
  | [d, g1, g2, g3] => { results := [.lit (.bool true)], args := [d], vars := [g1, g2, g3] }
  | _ => none }
def fnExactHeadInRow : OpenClaim := { program := "ytdppflfhjmigdaadoor", sum := "6fe5c049ee519b13046383dac1fa71a21ccd4a3d091e94d0d10e4305ee09a20a", func := "loop.example/g00971/laws.FnExactHeadIn", spec := "fnExactHeadIn", inPlace := ["internal/abi.NoEscape", "internal/bytealg.MakeNoZero"], unfollowed := true, recurses := true, named := ["loop.example/g00971/impl.errNoHead", "loop.example/g00971/impl.errNoMark", "loop.example/g00971/impl.errOtherText"], ifaces := true, apart := false, laid := [("loop.example/g00971/impl.errNoHead", laid_loop_example_g00971_impl_errNoHead), ("loop.example/g00971/impl.errNoMark", laid_loop_example_g00971_impl_errNoMark), ("loop.example/g00971/impl.errOtherText", laid_loop_example_g00971_impl_errOtherText)] }
def FnExactHeadInSaid : Prop := fnExactHeadInRow.holds Tryd.pinned (OpenSpec.ofChange fnExactHeadInSpec)

/-- ITS FALSE NEIGHBOUR: 'it returns false'. Refute it at one input. -/
def fnExactHeadInWrong : ChangeSpec := { name := "fnExactHeadIn", vars := ["loop.example/g00971/impl.errNoHead", "loop.example/g00971/impl.errNoMark", "loop.example/g00971/impl.errOtherText"], fn := fun _ => fun
  | [d, g1, g2, g3] => { results := [.lit (.bool false)], args := [d], vars := [g1, g2, g3] }
  | _ => none }
def FnExactHeadInWrongFalsely : Prop := fnExactHeadInRow.holds Tryd.pinned (OpenSpec.ofChange fnExactHeadInWrong)

/-- 'laws.FnExactSealedAs': WHATEVER THE INPUT: true; the input reads as it did. -/
def fnExactSealedAsSpec : ChangeSpec := { name := "fnExactSealedAs", vars := ["loop.example/g00971/impl.errNoHead", "loop.example/g00971/impl.errNoMark", "loop.example/g00971/impl.errOtherText"], fn := fun _ => fun
  | [d1, d2, g1, g2, g3] => { results := [.lit (.bool true)], args := [d1, d2], vars := [g1, g2, g3] }
  | _ => none }
def fnExactSealedAsRow : OpenClaim := { program := "ytdppflfhjmigdaadoor", sum := "6fe5c049ee519b13046383dac1fa71a21ccd4a3d091e94d0d10e4305ee09a20a", func := "loop.example/g00971/laws.FnExactSealedAs", spec := "fnExactSealedAs", inPlace := ["internal/abi.NoEscape", "internal/bytealg.MakeNoZero"], unfollowed := true, recurses := true, named := ["loop.example/g00971/impl.errNoHead", "loop.example/g00971/impl.errNoMark", "loop.example/g00971/impl.errOtherText"], ifaces := true, apart := false, laid := [("loop.example/g00971/impl.errNoHead", laid_loop_example_g00971_impl_errNoHead), ("loop.example/g00971/impl.errNoMark", laid_loop_example_g00971_impl_errNoMark), ("loop.example/g00971/impl.errOtherText", laid_loop_example_g00971_impl_errOtherText)] }
def FnExactSealedAsSaid : Prop := fnExactSealedAsRow.holds Tryd.pinned (OpenSpec.ofChange fnExactSealedAsSpec)

/-- ITS FALSE NEIGHBOUR: 'it returns false'. Refute it at one input. -/
def fnExactSealedAsWrong : ChangeSpec := { name := "fnExactSealedAs", vars := ["loop.example/g00971/impl.errNoHead", "loop.example/g00971/impl.errNoMark", "loop.example/g00971/impl.errOtherText"], fn := fun _ => fun
  | [d1, d2, g1, g2, g3] => { results := [.lit (.bool false)], args := [d1, d2], vars := [g1, g2, g3] }
  | _ => none }
def FnExactSealedAsWrongFalsely : Prop := fnExactSealedAsRow.holds Tryd.pinned (OpenSpec.ofChange fnExactSealedAsWrong)

/- THE SECOND FORM. 'bulk': how many values and letters a reading holds, each counted each time it is reached (what is shared counts as often as it is met; a slice's spare places count too). A statement '..UptoSaid' is the law's where the arguments, and the package variables that the reading takes, are together of bulk at most 1048576: NARROWER than '..Said'. Prove '..Said' where nothing that the law and all that it calls make is longer than what came in: it says more and counts as full. Else prove '..UptoSaid'. A law counts once. -/
mutual
def uptoBulk {H : Type} : DataW H → Nat
  | .lit (.string bytes) => bytes.length + 1
  | .lit _ => 1
  | .nil => 1
  | .ptr d => uptoBulk d + 1
  | .slice elems spare => uptoBulkAll elems + uptoBulkAll spare + 1
  | .agg parts => uptoBulkAll parts + 1
  | .iface _ d => uptoBulk d + 1
  | .map entries => uptoBulkEntries entries + 1
  | .held _ => 1
def uptoBulkAll {H : Type} : List (DataW H) → Nat
  | [] => 0
  | d :: r => uptoBulk d + uptoBulkAll r
def uptoBulkEntries {H : Type} : List (Lit × DataW H) → Nat
  | [] => 0
  | x :: r => uptoBulkEntry x + uptoBulkEntries r
def uptoBulkEntry {H : Type} : Lit × DataW H → Nat
  | (.string bytes, d) => bytes.length + uptoBulk d + 1
  | (_, d) => uptoBulk d + 1
 end
def uptoSmall : (H : Type) → List (DataW H) → Bool := fun _ ds => decide (uptoBulkAll ds ≤ 1048576)
def OpenSpec.upto (s : _root_.Go.ChangeSpec) : _root_.Go.OpenSpec := { _root_.Go.OpenSpec.ofChange s with cond := some uptoSmall }

/-- 'laws.FnSealed', WHERE WHAT IT READS IS OF BULK AT MOST 1048576: true; the input reads as it did. -/
def fnSealedUptoRow : OpenClaim := { program := "ytdppflfhjmigdaadoor", sum := "6fe5c049ee519b13046383dac1fa71a21ccd4a3d091e94d0d10e4305ee09a20a", func := "loop.example/g00971/laws.FnSealed", spec := "fnSealed", inPlace := ["internal/abi.NoEscape", "internal/bytealg.MakeNoZero"], unfollowed := true, recurses := true, named := ["loop.example/g00971/impl.errNoHead", "loop.example/g00971/impl.errNoMark", "loop.example/g00971/impl.errOtherText"], ifaces := true, apart := false, laid := [("loop.example/g00971/impl.errNoHead", laid_loop_example_g00971_impl_errNoHead), ("loop.example/g00971/impl.errNoMark", laid_loop_example_g00971_impl_errNoMark), ("loop.example/g00971/impl.errOtherText", laid_loop_example_g00971_impl_errOtherText)], narrowed := true }
def FnSealedUptoSaid : Prop := fnSealedUptoRow.holds Tryd.pinned (OpenSpec.upto fnSealedSpec)

/-- 'laws.FnBent', WHERE WHAT IT READS IS OF BULK AT MOST 1048576: true; the input reads as it did. -/
def fnBentUptoRow : OpenClaim := { program := "ytdppflfhjmigdaadoor", sum := "6fe5c049ee519b13046383dac1fa71a21ccd4a3d091e94d0d10e4305ee09a20a", func := "loop.example/g00971/laws.FnBent", spec := "fnBent", inPlace := ["internal/abi.NoEscape", "internal/bytealg.MakeNoZero"], unfollowed := true, recurses := true, named := ["loop.example/g00971/impl.errNoHead", "loop.example/g00971/impl.errNoMark", "loop.example/g00971/impl.errOtherText"], ifaces := true, apart := false, laid := [("loop.example/g00971/impl.errNoHead", laid_loop_example_g00971_impl_errNoHead), ("loop.example/g00971/impl.errNoMark", laid_loop_example_g00971_impl_errNoMark), ("loop.example/g00971/impl.errOtherText", laid_loop_example_g00971_impl_errOtherText)], narrowed := true }
def FnBentUptoSaid : Prop := fnBentUptoRow.holds Tryd.pinned (OpenSpec.upto fnBentSpec)

/-- 'laws.FnExactReadSealed', WHERE WHAT IT READS IS OF BULK AT MOST 1048576: true; the input reads as it did. -/
def fnExactReadSealedUptoRow : OpenClaim := { program := "ytdppflfhjmigdaadoor", sum := "6fe5c049ee519b13046383dac1fa71a21ccd4a3d091e94d0d10e4305ee09a20a", func := "loop.example/g00971/laws.FnExactReadSealed", spec := "fnExactReadSealed", inPlace := ["internal/abi.NoEscape", "internal/bytealg.MakeNoZero"], unfollowed := true, recurses := true, named := ["loop.example/g00971/impl.errNoHead", "loop.example/g00971/impl.errNoMark", "loop.example/g00971/impl.errOtherText"], ifaces := true, apart := false, laid := [("loop.example/g00971/impl.errNoHead", laid_loop_example_g00971_impl_errNoHead), ("loop.example/g00971/impl.errNoMark", laid_loop_example_g00971_impl_errNoMark), ("loop.example/g00971/impl.errOtherText", laid_loop_example_g00971_impl_errOtherText)], narrowed := true }
def FnExactReadSealedUptoSaid : Prop := fnExactReadSealedUptoRow.holds Tryd.pinned (OpenSpec.upto fnExactReadSealedSpec)

/-- 'laws.FnExactSealedOk', WHERE WHAT IT READS IS OF BULK AT MOST 1048576: true; the input reads as it did. -/
def fnExactSealedOkUptoRow : OpenClaim := { program := "ytdppflfhjmigdaadoor", sum := "6fe5c049ee519b13046383dac1fa71a21ccd4a3d091e94d0d10e4305ee09a20a", func := "loop.example/g00971/laws.FnExactSealedOk", spec := "fnExactSealedOk", inPlace := ["internal/abi.NoEscape", "internal/bytealg.MakeNoZero"], unfollowed := true, recurses := true, named := ["loop.example/g00971/impl.errNoHead", "loop.example/g00971/impl.errNoMark", "loop.example/g00971/impl.errOtherText"], ifaces := true, apart := false, laid := [("loop.example/g00971/impl.errNoHead", laid_loop_example_g00971_impl_errNoHead), ("loop.example/g00971/impl.errNoMark", laid_loop_example_g00971_impl_errNoMark), ("loop.example/g00971/impl.errOtherText", laid_loop_example_g00971_impl_errOtherText)], narrowed := true }
def FnExactSealedOkUptoSaid : Prop := fnExactSealedOkUptoRow.holds Tryd.pinned (OpenSpec.upto fnExactSealedOkSpec)

/-- 'laws.FnExactResealed', WHERE WHAT IT READS IS OF BULK AT MOST 1048576: true; the input reads as it did. -/
def fnExactResealedUptoRow : OpenClaim := { program := "ytdppflfhjmigdaadoor", sum := "6fe5c049ee519b13046383dac1fa71a21ccd4a3d091e94d0d10e4305ee09a20a", func := "loop.example/g00971/laws.FnExactResealed", spec := "fnExactResealed", inPlace := ["internal/abi.NoEscape", "internal/bytealg.MakeNoZero", "internal/reflectlite.TypeOf"], unfollowed := true, recurses := true, named := ["loop.example/g00971/impl.errNoHead", "loop.example/g00971/impl.errNoMark", "loop.example/g00971/impl.errOtherText"], ifaces := true, apart := false, laid := [("loop.example/g00971/impl.errNoHead", laid_loop_example_g00971_impl_errNoHead), ("loop.example/g00971/impl.errNoMark", laid_loop_example_g00971_impl_errNoMark), ("loop.example/g00971/impl.errOtherText", laid_loop_example_g00971_impl_errOtherText)], narrowed := true }
def FnExactResealedUptoSaid : Prop := fnExactResealedUptoRow.holds Tryd.pinned (OpenSpec.upto fnExactResealedSpec)

/-- 'laws.FnExactHeadIn', WHERE WHAT IT READS IS OF BULK AT MOST 1048576: true; the input reads as it did. -/
def fnExactHeadInUptoRow : OpenClaim := { program := "ytdppflfhjmigdaadoor", sum := "6fe5c049ee519b13046383dac1fa71a21ccd4a3d091e94d0d10e4305ee09a20a", func := "loop.example/g00971/laws.FnExactHeadIn", spec := "fnExactHeadIn", inPlace := ["internal/abi.NoEscape", "internal/bytealg.MakeNoZero"], unfollowed := true, recurses := true, named := ["loop.example/g00971/impl.errNoHead", "loop.example/g00971/impl.errNoMark", "loop.example/g00971/impl.errOtherText"], ifaces := true, apart := false, laid := [("loop.example/g00971/impl.errNoHead", laid_loop_example_g00971_impl_errNoHead), ("loop.example/g00971/impl.errNoMark", laid_loop_example_g00971_impl_errNoMark), ("loop.example/g00971/impl.errOtherText", laid_loop_example_g00971_impl_errOtherText)], narrowed := true }
def FnExactHeadInUptoSaid : Prop := fnExactHeadInUptoRow.holds Tryd.pinned (OpenSpec.upto fnExactHeadInSpec)

/-- 'laws.FnExactSealedAs', WHERE WHAT IT READS IS OF BULK AT MOST 1048576: true; the input reads as it did. -/
def fnExactSealedAsUptoRow : OpenClaim := { program := "ytdppflfhjmigdaadoor", sum := "6fe5c049ee519b13046383dac1fa71a21ccd4a3d091e94d0d10e4305ee09a20a", func := "loop.example/g00971/laws.FnExactSealedAs", spec := "fnExactSealedAs", inPlace := ["internal/abi.NoEscape", "internal/bytealg.MakeNoZero"], unfollowed := true, recurses := true, named := ["loop.example/g00971/impl.errNoHead", "loop.example/g00971/impl.errNoMark", "loop.example/g00971/impl.errOtherText"], ifaces := true, apart := false, laid := [("loop.example/g00971/impl.errNoHead", laid_loop_example_g00971_impl_errNoHead), ("loop.example/g00971/impl.errNoMark", laid_loop_example_g00971_impl_errNoMark), ("loop.example/g00971/impl.errOtherText", laid_loop_example_g00971_impl_errOtherText)], narrowed := true }
def FnExactSealedAsUptoSaid : Prop := fnExactSealedAsUptoRow.holds Tryd.pinned (OpenSpec.upto fnExactSealedAsSpec)

end Rows
end Go.Proofs.YtdppflfhjmigdaaDoor
