/-
  DERIVED. GIVEN WITH THE SEED: THE CARDS: each row of YtdppflfhjmigdaaGreatDoorRows.lean that lists a variable, with what it lists TIED to the program's text (the seventh form; the later family's looks); each row that meets fmt, with fmt's text TOLD by the authors' own Lean function (tested against real Go, not proved from fmt's source: count such statements apart). THE CARD IS WHAT COUNTS. Prove the row's statement (the work); the ties are given (YtdppflfhjmigdaaGreatDoorTie.lean); close each card by the builder's one call (the guide's Derived/Test/ToyasCard.lean, 'card_holds'). Laid BY PROGRAM, IN A SANDBOX (cutbox-door.mjs). By AI agents, Wed Nov 11 2026. No macro, syntax, notation, axiom, sorry.
-/
import Derived.Test.YtdppflfhjmigdaaGreatDoorRows
import GoSem.ClaimSeven
namespace Go.Proofs.YtdppflfhjmigdaaGreatDoor
namespace Rows

/-- THE TIED CARD OF 'laws.FnResealed'. -/
def fnResealedCard : Claim7 := { stood := { row := fnResealedRow, standIns := [], harness := (true, "6e0decf91a8c2d2a342a71fcd97231b00f04930a73c95e33a19a7035399b9d13"), looks := true }, kinds := [], alts := [], laidByText := true, laidKinds := [.sentinel, .sentinel, .sentinel], laidTests := true, laidLooks := .later }
def FnResealedCardSaid : Prop := Claim7.holds Tryz.pinned (.plain (OpenSpec.ofChange fnResealedSpec)) fnResealedCard

/-- THE SECOND FORM's CARD OF 'laws.FnResealed'. -/
def fnResealedUptoCard : Claim7 := { stood := { row := fnResealedUptoRow, standIns := [], harness := (true, "6e0decf91a8c2d2a342a71fcd97231b00f04930a73c95e33a19a7035399b9d13"), looks := true }, kinds := [], alts := [], laidByText := true, laidKinds := [.sentinel, .sentinel, .sentinel], laidTests := true, laidLooks := .later }
def FnResealedUptoCardSaid : Prop := Claim7.holds Tryz.pinned (.plain (OpenSpec.upto fnResealedSpec)) fnResealedUptoCard
end Rows
end Go.Proofs.YtdppflfhjmigdaaGreatDoor
