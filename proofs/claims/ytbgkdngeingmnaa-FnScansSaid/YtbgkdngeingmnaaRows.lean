/-
  No cell of these rows narrows 'for every input' (looked for: loops, veiled, ifaces, maps, wideKeys, modest, calm, conditions, laid).
  DERIVED. THE GIVEN ROWS OF THIS SEAT. 9 by the template 'for every input the law returns true; each argument reads behind the call as it read before'; 0 by the template 'total and deterministic' (their statements: YtbgkdngeingmnaaTotals.lean).
  GIVEN WITH THE SEED: the statements are not yours to turn. If you find one false, say at which input.
  Laid BY PROGRAM, IN A SANDBOX (cutbox-rows.mjs): the forced cells as the released guide's own fill.sh prints them over the translation 90c57e310b0e5491… (all of the seat's roots in one cut). By AI agents, Wed Nov 11 2026. No macro, syntax, notation, axiom, sorry.
-/
import Derived.Test.YtbgkdngeingmnaaChecked
import GoSem.Claim
import GoSem.ClaimJoined
import GoSem.ClaimMapViews
import Derived.JoinedTies
import Derived.KernelRfl
namespace Go.Proofs.Ytbgkdngeingmnaa
/- THE CELL 'sum', in the pinned program and in every row, IS THE sha256 OF THE DUMP (.gsa) THAT YtbgkdngeingmnaaProg.lean LOADS. Nothing in Lean hashes anything: it is a label: what it is worth is what the hold of that sum in a sandbox is worth. -/
noncomputable def Try.pinned : Pinned := { name := "ytbgkdngeingmnaa", sum := "90c57e310b0e5491aef2582d4b4feff814055909a22e34305c4b19a5a79510c6", checked := Try.checked }
namespace Rows
def none {H : Type} : Left H := { results := [], args := [] }

/-- 'laws.FnScans': WHATEVER THE INPUT: true; the input reads as it did. -/
def fnScansSpec : ChangeSpec := { name := "fnScans", fn := fun _ => fun
  | [d] => { results := [.lit (.bool true)], args := [d] }
  | _ => none }
def fnScansRow : OpenClaim := { program := "ytbgkdngeingmnaa", sum := "90c57e310b0e5491aef2582d4b4feff814055909a22e34305c4b19a5a79510c6", func := "loop.example/g00971/laws.FnScans", spec := "fnScans", unfollowed := true, recurses := true, apart := false }
def FnScansSaid : Prop := fnScansRow.holds Try.pinned (OpenSpec.ofChange fnScansSpec)

/-- ITS FALSE NEIGHBOUR: 'it returns false'. Refute it at one input. -/
def fnScansWrong : ChangeSpec := { name := "fnScans", fn := fun _ => fun
  | [d] => { results := [.lit (.bool false)], args := [d] }
  | _ => none }
def FnScansWrongFalsely : Prop := fnScansRow.holds Try.pinned (OpenSpec.ofChange fnScansWrong)

/-- 'laws.FnTails': WHATEVER THE INPUT: true; the input reads as it did. -/
def fnTailsSpec : ChangeSpec := { name := "fnTails", fn := fun _ => fun
  | [d] => { results := [.lit (.bool true)], args := [d] }
  | _ => none }
def fnTailsRow : OpenClaim := { program := "ytbgkdngeingmnaa", sum := "90c57e310b0e5491aef2582d4b4feff814055909a22e34305c4b19a5a79510c6", func := "loop.example/g00971/laws.FnTails", spec := "fnTails", unfollowed := true, recurses := true, apart := false }
def FnTailsSaid : Prop := fnTailsRow.holds Try.pinned (OpenSpec.ofChange fnTailsSpec)

/-- ITS FALSE NEIGHBOUR: 'it returns false'. Refute it at one input. -/
def fnTailsWrong : ChangeSpec := { name := "fnTails", fn := fun _ => fun
  | [d] => { results := [.lit (.bool false)], args := [d] }
  | _ => none }
def FnTailsWrongFalsely : Prop := fnTailsRow.holds Try.pinned (OpenSpec.ofChange fnTailsWrong)

/-- 'laws.FnExactScanText': WHATEVER THE INPUT: true; the input reads as it did. -/
def fnExactScanTextSpec : ChangeSpec := { name := "fnExactScanText", fn := fun _ => fun
  | [d] => { results := [.lit (.bool true)], args := [d] }
  | _ => none }
def fnExactScanTextRow : OpenClaim := { program := "ytbgkdngeingmnaa", sum := "90c57e310b0e5491aef2582d4b4feff814055909a22e34305c4b19a5a79510c6", func := "loop.example/g00971/laws.FnExactScanText", spec := "fnExactScanText", unfollowed := true, recurses := true, apart := false }
def FnExactScanTextSaid : Prop := fnExactScanTextRow.holds Try.pinned (OpenSpec.ofChange fnExactScanTextSpec)

/-- ITS FALSE NEIGHBOUR: 'it returns false'. Refute it at one input. -/
def fnExactScanTextWrong : ChangeSpec := { name := "fnExactScanText", fn := fun _ => fun
  | [d] => { results := [.lit (.bool false)], args := [d] }
  | _ => none }
def FnExactScanTextWrongFalsely : Prop := fnExactScanTextRow.holds Try.pinned (OpenSpec.ofChange fnExactScanTextWrong)

/-- 'laws.FnExactRecordsIn': WHATEVER THE INPUT: true; the input reads as it did. -/
def fnExactRecordsInSpec : ChangeSpec := { name := "fnExactRecordsIn", fn := fun _ => fun
  | [d] => { results := [.lit (.bool true)], args := [d] }
  | _ => none }
def fnExactRecordsInRow : OpenClaim := { program := "ytbgkdngeingmnaa", sum := "90c57e310b0e5491aef2582d4b4feff814055909a22e34305c4b19a5a79510c6", func := "loop.example/g00971/laws.FnExactRecordsIn", spec := "fnExactRecordsIn", unfollowed := true, recurses := true, apart := false }
def FnExactRecordsInSaid : Prop := fnExactRecordsInRow.holds Try.pinned (OpenSpec.ofChange fnExactRecordsInSpec)

/-- ITS FALSE NEIGHBOUR: 'it returns false'. Refute it at one input. -/
def fnExactRecordsInWrong : ChangeSpec := { name := "fnExactRecordsIn", fn := fun _ => fun
  | [d] => { results := [.lit (.bool false)], args := [d] }
  | _ => none }
def FnExactRecordsInWrongFalsely : Prop := fnExactRecordsInRow.holds Try.pinned (OpenSpec.ofChange fnExactRecordsInWrong)

/-- 'laws.FnExactLinkAfter': WHATEVER THE INPUT: true; the input reads as it did. -/
def fnExactLinkAfterSpec : ChangeSpec := { name := "fnExactLinkAfter", fn := fun _ => fun
  | [d] => { results := [.lit (.bool true)], args := [d] }
  | _ => none }
def fnExactLinkAfterRow : OpenClaim := { program := "ytbgkdngeingmnaa", sum := "90c57e310b0e5491aef2582d4b4feff814055909a22e34305c4b19a5a79510c6", func := "loop.example/g00971/laws.FnExactLinkAfter", spec := "fnExactLinkAfter", unfollowed := true, recurses := true, apart := false }
def FnExactLinkAfterSaid : Prop := fnExactLinkAfterRow.holds Try.pinned (OpenSpec.ofChange fnExactLinkAfterSpec)

/-- ITS FALSE NEIGHBOUR: 'it returns false'. Refute it at one input. -/
def fnExactLinkAfterWrong : ChangeSpec := { name := "fnExactLinkAfter", fn := fun _ => fun
  | [d] => { results := [.lit (.bool false)], args := [d] }
  | _ => none }
def FnExactLinkAfterWrongFalsely : Prop := fnExactLinkAfterRow.holds Try.pinned (OpenSpec.ofChange fnExactLinkAfterWrong)

/-- 'laws.FnExactGoesOn': WHATEVER THE INPUT: true; the input reads as it did. -/
def fnExactGoesOnSpec : ChangeSpec := { name := "fnExactGoesOn", fn := fun _ => fun
  | [d1, d2, d3] => { results := [.lit (.bool true)], args := [d1, d2, d3] }
  | _ => none }
def fnExactGoesOnRow : OpenClaim := { program := "ytbgkdngeingmnaa", sum := "90c57e310b0e5491aef2582d4b4feff814055909a22e34305c4b19a5a79510c6", func := "loop.example/g00971/laws.FnExactGoesOn", spec := "fnExactGoesOn", apart := false }
def FnExactGoesOnSaid : Prop := fnExactGoesOnRow.holds Try.pinned (OpenSpec.ofChange fnExactGoesOnSpec)

/-- ITS FALSE NEIGHBOUR: 'it returns false'. Refute it at one input. -/
def fnExactGoesOnWrong : ChangeSpec := { name := "fnExactGoesOn", fn := fun _ => fun
  | [d1, d2, d3] => { results := [.lit (.bool false)], args := [d1, d2, d3] }
  | _ => none }
def FnExactGoesOnWrongFalsely : Prop := fnExactGoesOnRow.holds Try.pinned (OpenSpec.ofChange fnExactGoesOnWrong)

/-- 'laws.FnExactSizeScanned': WHATEVER THE INPUT: true; the input reads as it did. -/
def fnExactSizeScannedSpec : ChangeSpec := { name := "fnExactSizeScanned", fn := fun _ => fun
  | [d] => { results := [.lit (.bool true)], args := [d] }
  | _ => none }
def fnExactSizeScannedRow : OpenClaim := { program := "ytbgkdngeingmnaa", sum := "90c57e310b0e5491aef2582d4b4feff814055909a22e34305c4b19a5a79510c6", func := "loop.example/g00971/laws.FnExactSizeScanned", spec := "fnExactSizeScanned", unfollowed := true, recurses := true, apart := false }
def FnExactSizeScannedSaid : Prop := fnExactSizeScannedRow.holds Try.pinned (OpenSpec.ofChange fnExactSizeScannedSpec)

/-- ITS FALSE NEIGHBOUR: 'it returns false'. Refute it at one input. -/
def fnExactSizeScannedWrong : ChangeSpec := { name := "fnExactSizeScanned", fn := fun _ => fun
  | [d] => { results := [.lit (.bool false)], args := [d] }
  | _ => none }
def FnExactSizeScannedWrongFalsely : Prop := fnExactSizeScannedRow.holds Try.pinned (OpenSpec.ofChange fnExactSizeScannedWrong)

/-- 'laws.FnExactTailOf': WHATEVER THE INPUT: true; the input reads as it did. -/
def fnExactTailOfSpec : ChangeSpec := { name := "fnExactTailOf", fn := fun _ => fun
  | [d] => { results := [.lit (.bool true)], args := [d] }
  | _ => none }
def fnExactTailOfRow : OpenClaim := { program := "ytbgkdngeingmnaa", sum := "90c57e310b0e5491aef2582d4b4feff814055909a22e34305c4b19a5a79510c6", func := "loop.example/g00971/laws.FnExactTailOf", spec := "fnExactTailOf", unfollowed := true, recurses := true, apart := false }
def FnExactTailOfSaid : Prop := fnExactTailOfRow.holds Try.pinned (OpenSpec.ofChange fnExactTailOfSpec)

/-- ITS FALSE NEIGHBOUR: 'it returns false'. Refute it at one input. -/
def fnExactTailOfWrong : ChangeSpec := { name := "fnExactTailOf", fn := fun _ => fun
  | [d] => { results := [.lit (.bool false)], args := [d] }
  | _ => none }
def FnExactTailOfWrongFalsely : Prop := fnExactTailOfRow.holds Try.pinned (OpenSpec.ofChange fnExactTailOfWrong)

/-- 'laws.FnExactOpenOk': WHATEVER THE INPUT: true; the input reads as it did. -/
def fnExactOpenOkSpec : ChangeSpec := { name := "fnExactOpenOk", fn := fun _ => fun
  | [d] => { results := [.lit (.bool true)], args := [d] }
  | _ => none }
def fnExactOpenOkRow : OpenClaim := { program := "ytbgkdngeingmnaa", sum := "90c57e310b0e5491aef2582d4b4feff814055909a22e34305c4b19a5a79510c6", func := "loop.example/g00971/laws.FnExactOpenOk", spec := "fnExactOpenOk", unfollowed := true, recurses := true, apart := false }
def FnExactOpenOkSaid : Prop := fnExactOpenOkRow.holds Try.pinned (OpenSpec.ofChange fnExactOpenOkSpec)

/-- ITS FALSE NEIGHBOUR: 'it returns false'. Refute it at one input. -/
def fnExactOpenOkWrong : ChangeSpec := { name := "fnExactOpenOk", fn := fun _ => fun
  | [d] => { results := [.lit (.bool false)], args := [d] }
  | _ => none }
def FnExactOpenOkWrongFalsely : Prop := fnExactOpenOkRow.holds Try.pinned (OpenSpec.ofChange fnExactOpenOkWrong)

/- THE SECOND FORM. 'bulk': how many values and letters a reading holds, each counted each time it is reached (what is shared counts as often as it is met; a slice's spare places count too). A statement '..UptoSaid' is the law's where the arguments, and the package variables that the reading takes, are together of bulk at most 1048576: NARROWER than '..Said'. Prove '..Said' where nothing that the law and all that it calls make is longer than what came in: it says more and counts as full. Else prove '..UptoSaid'. A law counts once. -/
mutual
def uptoBulk {H : Type} : DataW H → Nat
  | .lit (.string bytes) => bytes.length + 1
  | .lit _ => 1
  | .nil => 1
  | .ptr d => uptoBulk d + 1
  | .slice elems spare => uptoBulkAll elems + uptoBulkAll spare + 1
  | .agg parts => uptoBulkAll parts + 1
  | .iface _ d => uptoBulk d + 1
  | .map entries => uptoBulkEntries entries + 1
  | .held _ => 1
def uptoBulkAll {H : Type} : List (DataW H) → Nat
  | [] => 0
  | d :: r => uptoBulk d + uptoBulkAll r
def uptoBulkEntries {H : Type} : List (Lit × DataW H) → Nat
  | [] => 0
  | x :: r => uptoBulkEntry x + uptoBulkEntries r
def uptoBulkEntry {H : Type} : Lit × DataW H → Nat
  | (.string bytes, d) => bytes.length + uptoBulk d + 1
  | (_, d) => uptoBulk d + 1
 end
def uptoSmall : (H : Type) → List (DataW H) → Bool := fun _ ds => decide (uptoBulkAll ds ≤ 1048576)
def OpenSpec.upto (s : _root_.Go.ChangeSpec) : _root_.Go.OpenSpec := { _root_.Go.OpenSpec.ofChange s with cond := some uptoSmall }

/-- 'laws.FnScans', WHERE WHAT IT READS IS OF BULK AT MOST 1048576: true; the input reads as it did. -/
def fnScansUptoRow : OpenClaim := { program := "ytbgkdngeingmnaa", sum := "90c57e310b0e5491aef2582d4b4feff814055909a22e34305c4b19a5a79510c6", func := "loop.example/g00971/laws.FnScans", spec := "fnScans", unfollowed := true, recurses := true, apart := false, narrowed := true }
def FnScansUptoSaid : Prop := fnScansUptoRow.holds Try.pinned (OpenSpec.upto fnScansSpec)

/-- 'laws.FnTails', WHERE WHAT IT READS IS OF BULK AT MOST 1048576: true; the input reads as it did. -/
def fnTailsUptoRow : OpenClaim := { program := "ytbgkdngeingmnaa", sum := "90c57e310b0e5491aef2582d4b4feff814055909a22e34305c4b19a5a79510c6", func := "loop.example/g00971/laws.FnTails", spec := "fnTails", unfollowed := true, recurses := true, apart := false, narrowed := true }
def FnTailsUptoSaid : Prop := fnTailsUptoRow.holds Try.pinned (OpenSpec.upto fnTailsSpec)

/-- 'laws.FnExactScanText', WHERE WHAT IT READS IS OF BULK AT MOST 1048576: true; the input reads as it did. -/
def fnExactScanTextUptoRow : OpenClaim := { program := "ytbgkdngeingmnaa", sum := "90c57e310b0e5491aef2582d4b4feff814055909a22e34305c4b19a5a79510c6", func := "loop.example/g00971/laws.FnExactScanText", spec := "fnExactScanText", unfollowed := true, recurses := true, apart := false, narrowed := true }
def FnExactScanTextUptoSaid : Prop := fnExactScanTextUptoRow.holds Try.pinned (OpenSpec.upto fnExactScanTextSpec)

/-- 'laws.FnExactRecordsIn', WHERE WHAT IT READS IS OF BULK AT MOST 1048576: true; the input reads as it did. -/
def fnExactRecordsInUptoRow : OpenClaim := { program := "ytbgkdngeingmnaa", sum := "90c57e310b0e5491aef2582d4b4feff814055909a22e34305c4b19a5a79510c6", func := "loop.example/g00971/laws.FnExactRecordsIn", spec := "fnExactRecordsIn", unfollowed := true, recurses := true, apart := false, narrowed := true }
def FnExactRecordsInUptoSaid : Prop := fnExactRecordsInUptoRow.holds Try.pinned (OpenSpec.upto fnExactRecordsInSpec)

/-- 'laws.FnExactLinkAfter', WHERE WHAT IT READS IS OF BULK AT MOST 1048576: true; the input reads as it did. -/
def fnExactLinkAfterUptoRow : OpenClaim := { program := "ytbgkdngeingmnaa", sum := "90c57e310b0e5491aef2582d4b4feff814055909a22e34305c4b19a5a79510c6", func := "loop.example/g00971/laws.FnExactLinkAfter", spec := "fnExactLinkAfter", unfollowed := true, recurses := true, apart := false, narrowed := true }
def FnExactLinkAfterUptoSaid : Prop := fnExactLinkAfterUptoRow.holds Try.pinned (OpenSpec.upto fnExactLinkAfterSpec)

/-- 'laws.FnExactGoesOn', WHERE WHAT IT READS IS OF BULK AT MOST 1048576: true; the input reads as it did. -/
def fnExactGoesOnUptoRow : OpenClaim := { program := "ytbgkdngeingmnaa", sum := "90c57e310b0e5491aef2582d4b4feff814055909a22e34305c4b19a5a79510c6", func := "loop.example/g00971/laws.FnExactGoesOn", spec := "fnExactGoesOn", apart := false, narrowed := true }
def FnExactGoesOnUptoSaid : Prop := fnExactGoesOnUptoRow.holds Try.pinned (OpenSpec.upto fnExactGoesOnSpec)

/-- 'laws.FnExactSizeScanned', WHERE WHAT IT READS IS OF BULK AT MOST 1048576: true; the input reads as it did. -/
def fnExactSizeScannedUptoRow : OpenClaim := { program := "ytbgkdngeingmnaa", sum := "90c57e310b0e5491aef2582d4b4feff814055909a22e34305c4b19a5a79510c6", func := "loop.example/g00971/laws.FnExactSizeScanned", spec := "fnExactSizeScanned", unfollowed := true, recurses := true, apart := false, narrowed := true }
def FnExactSizeScannedUptoSaid : Prop := fnExactSizeScannedUptoRow.holds Try.pinned (OpenSpec.upto fnExactSizeScannedSpec)

/-- 'laws.FnExactTailOf', WHERE WHAT IT READS IS OF BULK AT MOST 1048576: true; the input reads as it did. -/
def fnExactTailOfUptoRow : OpenClaim := { program := "ytbgkdngeingmnaa", sum := "90c57e310b0e5491aef2582d4b4feff814055909a22e34305c4b19a5a79510c6", func := "loop.example/g00971/laws.FnExactTailOf", spec := "fnExactTailOf", unfollowed := true, recurses := true, apart := false, narrowed := true }
def FnExactTailOfUptoSaid : Prop := fnExactTailOfUptoRow.holds Try.pinned (OpenSpec.upto fnExactTailOfSpec)

/-- 'laws.FnExactOpenOk', WHERE WHAT IT READS IS OF BULK AT MOST 1048576: true; the input reads as it did. -/
def fnExactOpenOkUptoRow : OpenClaim := { program := "ytbgkdngeingmnaa", sum := "90c57e310b0e5491aef2582d4b4feff814055909a22e34305c4b19a5a79510c6", func := "loop.example/g00971/laws.FnExactOpenOk", spec := "fnExactOpenOk", unfollowed := true, recurses := true, apart := false, narrowed := true }
def FnExactOpenOkUptoSaid : Prop := fnExactOpenOkUptoRow.holds Try.pinned (OpenSpec.upto fnExactOpenOkSpec)

end Rows
end Go.Proofs.Ytbgkdngeingmnaa
