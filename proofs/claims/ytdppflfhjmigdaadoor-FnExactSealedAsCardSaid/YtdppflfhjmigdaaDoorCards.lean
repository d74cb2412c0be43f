/-
  DERIVED. GIVEN WITH THE SEED: THE CARDS: each row of YtdppflfhjmigdaaDoorRows.lean that lists a variable, with what it lists TIED to the program's text (the seventh form; the later family's looks); each row that meets fmt, with fmt's text TOLD by the authors' own Lean function (tested against real Go, not proved from fmt's source: count such statements apart). THE CARD IS WHAT COUNTS. Prove the row's statement (the work); the ties are given (YtdppflfhjmigdaaDoorTie.lean); close each card by the builder's one call (the guide's Derived/Test/ToyasCard.lean, 'card_holds'). Laid BY PROGRAM, IN A SANDBOX (cutbox-door.mjs). By AI agents, Wed Nov 11 2026. No macro, syntax, notation, axiom, sorry.
-/
import Derived.Test.YtdppflfhjmigdaaDoorRows
import GoSem.ClaimSeven
namespace Go.Proofs.YtdppflfhjmigdaaDoor
namespace Rows

/-- THE TIED CARD OF 'laws.FnSealed'. -/
def fnSealedCard : Claim7 := { stood := { row := fnSealedRow, standIns := [], harness := (true, "7644838a279968031a67db0d6e3416bee2b6bea08c5346e06f67622d23fff405"), looks := true }, kinds := [], alts := [], laidByText := true, laidKinds := [.sentinel, .sentinel, .sentinel], laidTests := true, laidLooks := .later }
def FnSealedCardSaid : Prop := Claim7.holds Tryd.pinned (.plain (OpenSpec.ofChange fnSealedSpec)) fnSealedCard

/-- THE TIED CARD OF 'laws.FnBent'. -/
def fnBentCard : Claim7 := { stood := { row := fnBentRow, standIns := [], harness := (true, "7644838a279968031a67db0d6e3416bee2b6bea08c5346e06f67622d23fff405"), looks := true }, kinds := [], alts := [], laidByText := true, laidKinds := [.sentinel, .sentinel, .sentinel], laidTests := true, laidLooks := .later }
def FnBentCardSaid : Prop := Claim7.holds Tryd.pinned (.plain (OpenSpec.ofChange fnBentSpec)) fnBentCard

/-- THE TIED CARD OF 'laws.FnExactReadSealed'. -/
def fnExactReadSealedCard : Claim7 := { stood := { row := fnExactReadSealedRow, standIns := [], harness := (true, "7644838a279968031a67db0d6e3416bee2b6bea08c5346e06f67622d23fff405"), looks := true }, kinds := [], alts := [], laidByText := true, laidKinds := [.sentinel, .sentinel, .sentinel], laidTests := true, laidLooks := .later }
def FnExactReadSealedCardSaid : Prop := Claim7.holds Tryd.pinned (.plain (OpenSpec.ofChange fnExactReadSealedSpec)) fnExactReadSealedCard

/-- THE TIED CARD OF 'laws.FnExactSealedOk'. -/
def fnExactSealedOkCard : Claim7 := { stood := { row := fnExactSealedOkRow, standIns := [], harness := (true, "7644838a279968031a67db0d6e3416bee2b6bea08c5346e06f67622d23fff405"), looks := true }, kinds := [], alts := [], laidByText := true, laidKinds := [.sentinel, .sentinel, .sentinel], laidTests := true, laidLooks := .later }
def FnExactSealedOkCardSaid : Prop := Claim7.holds Tryd.pinned (.plain (OpenSpec.ofChange fnExactSealedOkSpec)) fnExactSealedOkCard

/-- THE TIED CARD OF 'laws.FnExactResealed'. -/
def fnExactResealedCard : Claim7 := { stood := { row := fnExactResealedRow, standIns := [], harness := (true, "7644838a279968031a67db0d6e3416bee2b6bea08c5346e06f67622d23fff405"), looks := true }, kinds := [], alts := [], laidByText := true, laidKinds := [.sentinel, .sentinel, .sentinel], laidTests := true, laidLooks := .later }
def FnExactResealedCardSaid : Prop := Claim7.holds Tryd.pinned (.plain (OpenSpec.ofChange fnExactResealedSpec)) fnExactResealedCard

/-- THE TIED CARD OF 'laws.FnExactHeadIn'. -/
def fnExactHeadInCard : Claim7 := { stood := { row := fnExactHeadInRow, standIns := [], harness := (true, "7644838a279968031a67db0d6e3416bee2b6bea08c5346e06f67622d23fff405"), looks := true }, kinds := [], alts := [], laidByText := true, laidKinds := [.sentinel, .sentinel, .sentinel], laidTests := true, laidLooks := .later }
def FnExactHeadInCardSaid : Prop := Claim7.holds Tryd.pinned (.plain (OpenSpec.ofChange fnExactHeadInSpec)) fnExactHeadInCard

/-- THE TIED CARD OF 'laws.FnExactSealedAs'. -/
def fnExactSealedAsCard : Claim7 := { stood := { row := fnExactSealedAsRow, standIns := [], harness := (true, "7644838a279968031a67db0d6e3416bee2b6bea08c5346e06f67622d23fff405"), looks := true }, kinds := [], alts := [], laidByText := true, laidKinds := [.sentinel, .sentinel, .sentinel], laidTests := true, laidLooks := .later }
def FnExactSealedAsCardSaid : Prop := Claim7.holds Tryd.pinned (.plain (OpenSpec.ofChange fnExactSealedAsSpec)) fnExactSealedAsCard

/-- THE SECOND FORM's CARD OF 'laws.FnSealed'. -/
def fnSealedUptoCard : Claim7 := { stood := { row := fnSealedUptoRow, standIns := [], harness := (true, "7644838a279968031a67db0d6e3416bee2b6bea08c5346e06f67622d23fff405"), looks := true }, kinds := [], alts := [], laidByText := true, laidKinds := [.sentinel, .sentinel, .sentinel], laidTests := true, laidLooks := .later }
def FnSealedUptoCardSaid : Prop := Claim7.holds Tryd.pinned (.plain (OpenSpec.upto fnSealedSpec)) fnSealedUptoCard

/-- THE SECOND FORM's CARD OF 'laws.FnBent'. -/
def fnBentUptoCard : Claim7 := { stood := { row := fnBentUptoRow, standIns := [], harness := (true, "7644838a279968031a67db0d6e3416bee2b6bea08c5346e06f67622d23fff405"), looks := true }, kinds := [], alts := [], laidByText := true, laidKinds := [.sentinel, .sentinel, .sentinel], laidTests := true, laidLooks := .later }
def FnBentUptoCardSaid : Prop := Claim7.holds Tryd.pinned (.plain (OpenSpec.upto fnBentSpec)) fnBentUptoCard

/-- THE SECOND FORM's CARD OF 'laws.FnExactReadSealed'. -/
def fnExactReadSealedUptoCard : Claim7 := { stood := { row := fnExactReadSealedUptoRow, standIns := [], harness := (true, "7644838a279968031a67db0d6e3416bee2b6bea08c5346e06f67622d23fff405"), looks := true }, kinds := [], alts := [], laidByText := true, laidKinds := [.sentinel, .sentinel, .sentinel], laidTests := true, laidLooks := .later }
def FnExactReadSealedUptoCardSaid : Prop := Claim7.holds Tryd.pinned (.plain (OpenSpec.upto fnExactReadSealedSpec)) fnExactReadSealedUptoCard

/-- THE SECOND FORM's CARD OF 'laws.FnExactSealedOk'. -/
def fnExactSealedOkUptoCard : Claim7 := { stood := { row := fnExactSealedOkUptoRow, standIns := [], harness := (true, "7644838a279968031a67db0d6e3416bee2b6bea08c5346e06f67622d23fff405"), looks := true }, kinds := [], alts := [], laidByText := true, laidKinds := [.sentinel, .sentinel, .sentinel], laidTests := true, laidLooks := .later }
def FnExactSealedOkUptoCardSaid : Prop := Claim7.holds Tryd.pinned (.plain (OpenSpec.upto fnExactSealedOkSpec)) fnExactSealedOkUptoCard

/-- THE SECOND FORM's CARD OF 'laws.FnExactResealed'. -/
def fnExactResealedUptoCard : Claim7 := { stood := { row := fnExactResealedUptoRow, standIns := [], harness := (true, "7644838a279968031a67db0d6e3416bee2b6bea08c5346e06f67622d23fff405"), looks := true }, kinds := [], alts := [], laidByText := true, laidKinds := [.sentinel, .sentinel, .sentinel], laidTests := true, laidLooks := .later }
def FnExactResealedUptoCardSaid : Prop := Claim7.holds Tryd.pinned (.plain (OpenSpec.upto fnExactResealedSpec)) fnExactResealedUptoCard

/-- THE SECOND FORM's CARD OF 'laws.FnExactHeadIn'. -/
def fnExactHeadInUptoCard : Claim7 := { stood := { row := fnExactHeadInUptoRow, standIns := [], harness := (true, "7644838a279968031a67db0d6e3416bee2b6bea08c5346e06f67622d23fff405"), looks := true }, kinds := [], alts := [], laidByText := true, laidKinds := [.sentinel, .sentinel, .sentinel], laidTests := true, laidLooks := .later }
def FnExactHeadInUptoCardSaid : Prop := Claim7.holds Tryd.pinned (.plain (OpenSpec.upto fnExactHeadInSpec)) fnExactHeadInUptoCard

/-- THE SECOND FORM's CARD OF 'laws.FnExactSealedAs'. -/
def fnExactSealedAsUptoCard : Claim7 := { stood := { row := fnExactSealedAsUptoRow, standIns := [], harness := (true, "7644838a279968031a67db0d6e3416bee2b6bea08c5346e06f67622d23fff405"), looks := true }, kinds := [], alts := [], laidByText := true, laidKinds := [.sentinel, .sentinel, .sentinel], laidTests := true, laidLooks := .later }
def FnExactSealedAsUptoCardSaid : Prop := Claim7.holds Tryd.pinned (.plain (OpenSpec.upto fnExactSealedAsSpec)) fnExactSealedAsUptoCard
end Rows
end Go.Proofs.YtdppflfhjmigdaaDoor
