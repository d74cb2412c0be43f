/-
  DERIVED. GIVEN WITH THE SEED: THE CARDS: each row of YtiehfobcbhgfkaaDoorRows.lean that lists a variable, with what it lists TIED to the program's text (the seventh form; the later family's looks); each row that meets fmt, with fmt's text TOLD by the authors' own Lean function (tested against real Go, not proved from fmt's source: count such statements apart). THE CARD IS WHAT COUNTS. Prove the row's statement (the work); the ties are given (YtiehfobcbhgfkaaDoorTie.lean); close each card by the builder's one call (the guide's Derived/Test/ToyasCard.lean, 'card_holds'). Laid BY PROGRAM, IN A SANDBOX (cutbox-door.mjs). By AI agents, Wed Nov 11 2026. No macro, syntax, notation, axiom, sorry.
-/
import Derived.Test.YtiehfobcbhgfkaaDoorRows
import GoSem.ClaimSeven
namespace Go.Proofs.YtiehfobcbhgfkaaDoor
namespace Rows

/-- THE TIED CARD OF 'laws.FnExactTextAt'. -/
def fnExactTextAtCard : Claim7 := { stood := { row := fnExactTextAtRow, standIns := [], harness := (true, "6acc7cb413075080f1863888438a7ee97b24e8d0024e83e0cd5d2f813fa144e9"), looks := false }, kinds := [], alts := [], laidByText := true, laidKinds := [.data, .data, .data], laidTests := true, laidLooks := .later }
def FnExactTextAtCardSaid : Prop := Claim7.holds Tryd.pinned (.plain (OpenSpec.ofChange fnExactTextAtSpec)) fnExactTextAtCard

/-- THE SECOND FORM's CARD OF 'laws.FnExactTextAt'. -/
def fnExactTextAtUptoCard : Claim7 := { stood := { row := fnExactTextAtUptoRow, standIns := [], harness := (true, "6acc7cb413075080f1863888438a7ee97b24e8d0024e83e0cd5d2f813fa144e9"), looks := false }, kinds := [], alts := [], laidByText := true, laidKinds := [.data, .data, .data], laidTests := true, laidLooks := .later }
def FnExactTextAtUptoCardSaid : Prop := Claim7.holds Tryd.pinned (.plain (OpenSpec.upto fnExactTextAtSpec)) fnExactTextAtUptoCard
end Rows
end Go.Proofs.YtiehfobcbhgfkaaDoor
