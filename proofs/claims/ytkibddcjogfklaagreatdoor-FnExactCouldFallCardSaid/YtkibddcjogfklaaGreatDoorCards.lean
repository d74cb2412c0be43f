/-
  DERIVED. GIVEN WITH THE SEED: THE CARDS: each row of YtkibddcjogfklaaGreatDoorRows.lean that lists a variable, with what it lists TIED to the program's text (the seventh form; the later family's looks); each row that meets fmt, with fmt's text TOLD by the authors' own Lean function (tested against real Go, not proved from fmt's source: count such statements apart). THE CARD IS WHAT COUNTS. Prove the row's statement (the work); the ties are given (YtkibddcjogfklaaGreatDoorTie.lean); close each card by the builder's one call (the guide's Derived/Test/ToyasCard.lean, 'card_holds'). Laid BY PROGRAM, IN A SANDBOX (cutbox-door.mjs). By AI agents, Wed Nov 11 2026. No macro, syntax, notation, axiom, sorry.
-/
import Derived.Test.YtkibddcjogfklaaGreatDoorRows
import GoSem.ClaimSeven
namespace Go.Proofs.YtkibddcjogfklaaGreatDoor
namespace Rows

/-- THE TIED CARD OF 'laws.FnExactCouldFall'. -/
def fnExactCouldFallCard : Claim7 := { stood := { row := fnExactCouldFallRow, standIns := [], harness := (true, "1d8ff1f3693eb71abf01b22f885dea3fba48fce13f5439dc6cdcb6b32fd78cc7"), looks := true }, kinds := [], alts := [], laidByText := true, laidKinds := [.data, .data, .data, .handle, .sentinel, .sentinel], laidTests := true, laidLooks := .later }
def FnExactCouldFallCardSaid : Prop := Claim7.holds Tryz.pinned (.plain (OpenSpec.ofChange fnExactCouldFallSpec)) fnExactCouldFallCard

/-- THE SECOND FORM's CARD OF 'laws.FnExactCouldFall'. -/
def fnExactCouldFallUptoCard : Claim7 := { stood := { row := fnExactCouldFallUptoRow, standIns := [], harness := (true, "1d8ff1f3693eb71abf01b22f885dea3fba48fce13f5439dc6cdcb6b32fd78cc7"), looks := true }, kinds := [], alts := [], laidByText := true, laidKinds := [.data, .data, .data, .handle, .sentinel, .sentinel], laidTests := true, laidLooks := .later }
def FnExactCouldFallUptoCardSaid : Prop := Claim7.holds Tryz.pinned (.plain (OpenSpec.upto fnExactCouldFallSpec)) fnExactCouldFallUptoCard
end Rows
end Go.Proofs.YtkibddcjogfklaaGreatDoor
