/-
  DERIVED. GIVEN WITH THE SEED: THE CARDS: each row of YtpibemlganeacaaGreatDoorRows.lean that lists a variable, with what it lists TIED to the program's text (the seventh form; the later family's looks); each row that meets fmt, with fmt's text TOLD by the authors' own Lean function (tested against real Go, not proved from fmt's source: count such statements apart). THE CARD IS WHAT COUNTS. Prove the row's statement (the work); the ties are given (YtpibemlganeacaaGreatDoorTie.lean); close each card by the builder's one call (the guide's Derived/Test/ToyasCard.lean, 'card_holds'). Laid BY PROGRAM, IN A SANDBOX (cutbox-door.mjs). By AI agents, Wed Nov 11 2026. No macro, syntax, notation, axiom, sorry.
-/
import Derived.Test.YtpibemlganeacaaGreatDoorRows
import GoSem.ClaimSeven
namespace Go.Proofs.YtpibemlganeacaaGreatDoor
namespace Rows

/-- THE TIED CARD OF 'laws.FnSeeks'. -/
def fnSeeksCard : Claim7 := { stood := { row := fnSeeksRow, standIns := [], harness := (true, "0e2a871096f24253909b23d55d494131ebcf17e788220522c11270255ea0b912"), looks := false }, kinds := [], alts := [], laidByText := true, laidKinds := [.sentinel, .sentinel, .sentinel], laidTests := true, laidLooks := .later }
def FnSeeksCardSaid : Prop := Claim7.holds Tryz.pinned (.plain (OpenSpec.ofChange fnSeeksSpec)) fnSeeksCard

/-- THE SECOND FORM's CARD OF 'laws.FnSeeks'. -/
def fnSeeksUptoCard : Claim7 := { stood := { row := fnSeeksUptoRow, standIns := [], harness := (true, "0e2a871096f24253909b23d55d494131ebcf17e788220522c11270255ea0b912"), looks := false }, kinds := [], alts := [], laidByText := true, laidKinds := [.sentinel, .sentinel, .sentinel], laidTests := true, laidLooks := .later }
def FnSeeksUptoCardSaid : Prop := Claim7.holds Tryz.pinned (.plain (OpenSpec.upto fnSeeksSpec)) fnSeeksUptoCard
end Rows
end Go.Proofs.YtpibemlganeacaaGreatDoor
