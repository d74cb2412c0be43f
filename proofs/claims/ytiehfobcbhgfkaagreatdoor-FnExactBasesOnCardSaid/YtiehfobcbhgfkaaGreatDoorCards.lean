/-
  DERIVED. GIVEN WITH THE SEED: THE CARDS: each row of YtiehfobcbhgfkaaGreatDoorRows.lean that lists a variable, with what it lists TIED to the program's text (the seventh form; the later family's looks); each row that meets fmt, with fmt's text TOLD by the authors' own Lean function (tested against real Go, not proved from fmt's source: count such statements apart). THE CARD IS WHAT COUNTS. Prove the row's statement (the work); the ties are given (YtiehfobcbhgfkaaGreatDoorTie.lean); close each card by the builder's one call (the guide's Derived/Test/ToyasCard.lean, 'card_holds'). Laid BY PROGRAM, IN A SANDBOX (cutbox-door.mjs). By AI agents, Wed Nov 11 2026. No macro, syntax, notation, axiom, sorry.
-/
import Derived.Test.YtiehfobcbhgfkaaGreatDoorRows
import GoSem.ClaimSeven
namespace Go.Proofs.YtiehfobcbhgfkaaGreatDoor
namespace Rows

/-- THE TIED CARD OF 'laws.FnRows'. -/
def fnRowsCard : Claim7 := { stood := { row := fnRowsRow, standIns := [], harness := (true, "2ffc84cb45a148a58db5906bb1c2957de0942e8b2a4345cd7480bc7fe44abd4f"), looks := true }, kinds := [], alts := [], laidByText := true, laidKinds := [.data, .data, .data, .sentinel, .sentinel], laidTests := true, laidLooks := .later }
def FnRowsCardSaid : Prop := Claim7.holds Tryz.pinned (.plain (OpenSpec.ofChange fnRowsSpec)) fnRowsCard

/-- THE TIED CARD OF 'laws.FnChained'. -/
def fnChainedCard : Claim7 := { stood := { row := fnChainedRow, standIns := [], harness := (true, "2ffc84cb45a148a58db5906bb1c2957de0942e8b2a4345cd7480bc7fe44abd4f"), looks := true }, kinds := [], alts := [], laidByText := true, laidKinds := [.data, .data, .data], laidTests := true, laidLooks := .later }
def FnChainedCardSaid : Prop := Claim7.holds Tryz.pinned (.plain (OpenSpec.ofChange fnChainedSpec)) fnChainedCard

/-- THE TIED CARD OF 'laws.FnExactBasesOn'. -/
def fnExactBasesOnCard : Claim7 := { stood := { row := fnExactBasesOnRow, standIns := [], harness := (true, "2ffc84cb45a148a58db5906bb1c2957de0942e8b2a4345cd7480bc7fe44abd4f"), looks := true }, kinds := [], alts := [], laidByText := true, laidKinds := [.data, .data, .data, .sentinel, .sentinel], laidTests := true, laidLooks := .later }
def FnExactBasesOnCardSaid : Prop := Claim7.holds Tryz.pinned (.plain (OpenSpec.ofChange fnExactBasesOnSpec)) fnExactBasesOnCard

/-- THE TIED CARD OF 'laws.FnExactChain'. -/
def fnExactChainCard : Claim7 := { stood := { row := fnExactChainRow, standIns := [], harness := (true, "2ffc84cb45a148a58db5906bb1c2957de0942e8b2a4345cd7480bc7fe44abd4f"), looks := true }, kinds := [], alts := [], laidByText := true, laidKinds := [.data, .data, .data], laidTests := true, laidLooks := .later }
def FnExactChainCardSaid : Prop := Claim7.holds Tryz.pinned (.plain (OpenSpec.ofChange fnExactChainSpec)) fnExactChainCard

/-- THE TIED CARD OF 'laws.FnExactRowOf'. -/
def fnExactRowOfCard : Claim7 := { stood := { row := fnExactRowOfRow, standIns := [], harness := (true, "2ffc84cb45a148a58db5906bb1c2957de0942e8b2a4345cd7480bc7fe44abd4f"), looks := true }, kinds := [], alts := [], laidByText := true, laidKinds := [.data, .data, .data], laidTests := true, laidLooks := .later }
def FnExactRowOfCardSaid : Prop := Claim7.holds Tryz.pinned (.plain (OpenSpec.ofChange fnExactRowOfSpec)) fnExactRowOfCard

/-- THE TIED CARD OF 'laws.FnExactLooseNames'. -/
def fnExactLooseNamesCard : Claim7 := { stood := { row := fnExactLooseNamesRow, standIns := [], harness := (true, "2ffc84cb45a148a58db5906bb1c2957de0942e8b2a4345cd7480bc7fe44abd4f"), looks := true }, kinds := [], alts := [], laidByText := true, laidKinds := [.data, .data, .data, .sentinel, .sentinel], laidTests := true, laidLooks := .later }
def FnExactLooseNamesCardSaid : Prop := Claim7.holds Tryz.pinned (.plain (OpenSpec.ofChange fnExactLooseNamesSpec)) fnExactLooseNamesCard

/-- THE TIED CARD OF 'laws.FnExactRowLink'. -/
def fnExactRowLinkCard : Claim7 := { stood := { row := fnExactRowLinkRow, standIns := [], harness := (true, "2ffc84cb45a148a58db5906bb1c2957de0942e8b2a4345cd7480bc7fe44abd4f"), looks := true }, kinds := [], alts := [], laidByText := true, laidKinds := [.data, .data, .data], laidTests := true, laidLooks := .later }
def FnExactRowLinkCardSaid : Prop := Claim7.holds Tryz.pinned (.plain (OpenSpec.ofChange fnExactRowLinkSpec)) fnExactRowLinkCard

/-- THE TIED CARD OF 'laws.FnExactChainTexts'. -/
def fnExactChainTextsCard : Claim7 := { stood := { row := fnExactChainTextsRow, standIns := [], harness := (true, "2ffc84cb45a148a58db5906bb1c2957de0942e8b2a4345cd7480bc7fe44abd4f"), looks := true }, kinds := [], alts := [], laidByText := true, laidKinds := [.data, .data, .data], laidTests := true, laidLooks := .later }
def FnExactChainTextsCardSaid : Prop := Claim7.holds Tryz.pinned (.plain (OpenSpec.ofChange fnExactChainTextsSpec)) fnExactChainTextsCard

/-- THE TIED CARD OF 'laws.FnExactBasesBehind'. -/
def fnExactBasesBehindCard : Claim7 := { stood := { row := fnExactBasesBehindRow, standIns := [], harness := (true, "2ffc84cb45a148a58db5906bb1c2957de0942e8b2a4345cd7480bc7fe44abd4f"), looks := true }, kinds := [], alts := [], laidByText := true, laidKinds := [.data, .data, .data], laidTests := true, laidLooks := .later }
def FnExactBasesBehindCardSaid : Prop := Claim7.holds Tryz.pinned (.plain (OpenSpec.ofChange fnExactBasesBehindSpec)) fnExactBasesBehindCard

/-- THE SECOND FORM's CARD OF 'laws.FnRows'. -/
def fnRowsUptoCard : Claim7 := { stood := { row := fnRowsUptoRow, standIns := [], harness := (true, "2ffc84cb45a148a58db5906bb1c2957de0942e8b2a4345cd7480bc7fe44abd4f"), looks := true }, kinds := [], alts := [], laidByText := true, laidKinds := [.data, .data, .data, .sentinel, .sentinel], laidTests := true, laidLooks := .later }
def FnRowsUptoCardSaid : Prop := Claim7.holds Tryz.pinned (.plain (OpenSpec.upto fnRowsSpec)) fnRowsUptoCard

/-- THE SECOND FORM's CARD OF 'laws.FnChained'. -/
def fnChainedUptoCard : Claim7 := { stood := { row := fnChainedUptoRow, standIns := [], harness := (true, "2ffc84cb45a148a58db5906bb1c2957de0942e8b2a4345cd7480bc7fe44abd4f"), looks := true }, kinds := [], alts := [], laidByText := true, laidKinds := [.data, .data, .data], laidTests := true, laidLooks := .later }
def FnChainedUptoCardSaid : Prop := Claim7.holds Tryz.pinned (.plain (OpenSpec.upto fnChainedSpec)) fnChainedUptoCard

/-- THE SECOND FORM's CARD OF 'laws.FnExactBasesOn'. -/
def fnExactBasesOnUptoCard : Claim7 := { stood := { row := fnExactBasesOnUptoRow, standIns := [], harness := (true, "2ffc84cb45a148a58db5906bb1c2957de0942e8b2a4345cd7480bc7fe44abd4f"), looks := true }, kinds := [], alts := [], laidByText := true, laidKinds := [.data, .data, .data, .sentinel, .sentinel], laidTests := true, laidLooks := .later }
def FnExactBasesOnUptoCardSaid : Prop := Claim7.holds Tryz.pinned (.plain (OpenSpec.upto fnExactBasesOnSpec)) fnExactBasesOnUptoCard

/-- THE SECOND FORM's CARD OF 'laws.FnExactChain'. -/
def fnExactChainUptoCard : Claim7 := { stood := { row := fnExactChainUptoRow, standIns := [], harness := (true, "2ffc84cb45a148a58db5906bb1c2957de0942e8b2a4345cd7480bc7fe44abd4f"), looks := true }, kinds := [], alts := [], laidByText := true, laidKinds := [.data, .data, .data], laidTests := true, laidLooks := .later }
def FnExactChainUptoCardSaid : Prop := Claim7.holds Tryz.pinned (.plain (OpenSpec.upto fnExactChainSpec)) fnExactChainUptoCard

/-- THE SECOND FORM's CARD OF 'laws.FnExactRowOf'. -/
def fnExactRowOfUptoCard : Claim7 := { stood := { row := fnExactRowOfUptoRow, standIns := [], harness := (true, "2ffc84cb45a148a58db5906bb1c2957de0942e8b2a4345cd7480bc7fe44abd4f"), looks := true }, kinds := [], alts := [], laidByText := true, laidKinds := [.data, .data, .data], laidTests := true, laidLooks := .later }
def FnExactRowOfUptoCardSaid : Prop := Claim7.holds Tryz.pinned (.plain (OpenSpec.upto fnExactRowOfSpec)) fnExactRowOfUptoCard

/-- THE SECOND FORM's CARD OF 'laws.FnExactLooseNames'. -/
def fnExactLooseNamesUptoCard : Claim7 := { stood := { row := fnExactLooseNamesUptoRow, standIns := [], harness := (true, "2ffc84cb45a148a58db5906bb1c2957de0942e8b2a4345cd7480bc7fe44abd4f"), looks := true }, kinds := [], alts := [], laidByText := true, laidKinds := [.data, .data, .data, .sentinel, .sentinel], laidTests := true, laidLooks := .later }
def FnExactLooseNamesUptoCardSaid : Prop := Claim7.holds Tryz.pinned (.plain (OpenSpec.upto fnExactLooseNamesSpec)) fnExactLooseNamesUptoCard

/-- THE SECOND FORM's CARD OF 'laws.FnExactRowLink'. -/
def fnExactRowLinkUptoCard : Claim7 := { stood := { row := fnExactRowLinkUptoRow, standIns := [], harness := (true, "2ffc84cb45a148a58db5906bb1c2957de0942e8b2a4345cd7480bc7fe44abd4f"), looks := true }, kinds := [], alts := [], laidByText := true, laidKinds := [.data, .data, .data], laidTests := true, laidLooks := .later }
def FnExactRowLinkUptoCardSaid : Prop := Claim7.holds Tryz.pinned (.plain (OpenSpec.upto fnExactRowLinkSpec)) fnExactRowLinkUptoCard

/-- THE SECOND FORM's CARD OF 'laws.FnExactChainTexts'. -/
def fnExactChainTextsUptoCard : Claim7 := { stood := { row := fnExactChainTextsUptoRow, standIns := [], harness := (true, "2ffc84cb45a148a58db5906bb1c2957de0942e8b2a4345cd7480bc7fe44abd4f"), looks := true }, kinds := [], alts := [], laidByText := true, laidKinds := [.data, .data, .data], laidTests := true, laidLooks := .later }
def FnExactChainTextsUptoCardSaid : Prop := Claim7.holds Tryz.pinned (.plain (OpenSpec.upto fnExactChainTextsSpec)) fnExactChainTextsUptoCard

/-- THE SECOND FORM's CARD OF 'laws.FnExactBasesBehind'. -/
def fnExactBasesBehindUptoCard : Claim7 := { stood := { row := fnExactBasesBehindUptoRow, standIns := [], harness := (true, "2ffc84cb45a148a58db5906bb1c2957de0942e8b2a4345cd7480bc7fe44abd4f"), looks := true }, kinds := [], alts := [], laidByText := true, laidKinds := [.data, .data, .data], laidTests := true, laidLooks := .later }
def FnExactBasesBehindUptoCardSaid : Prop := Claim7.holds Tryz.pinned (.plain (OpenSpec.upto fnExactBasesBehindSpec)) fnExactBasesBehindUptoCard
end Rows
end Go.Proofs.YtiehfobcbhgfkaaGreatDoor
