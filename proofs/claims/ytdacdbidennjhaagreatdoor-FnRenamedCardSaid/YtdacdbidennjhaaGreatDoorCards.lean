/-
  DERIVED. GIVEN WITH THE SEED: THE CARDS: each row of YtdacdbidennjhaaGreatDoorRows.lean that lists a variable, with what it lists TIED to the program's text (the seventh form; the later family's looks); each row that meets fmt, with fmt's text TOLD by the authors' own Lean function (tested against real Go, not proved from fmt's source: count such statements apart). THE CARD IS WHAT COUNTS. Prove the row's statement (the work); the ties are given (YtdacdbidennjhaaGreatDoorTie.lean); close each card by the builder's one call (the guide's Derived/Test/ToyasCard.lean, 'card_holds'). Laid BY PROGRAM, IN A SANDBOX (cutbox-door.mjs). By AI agents, Wed Nov 11 2026. No macro, syntax, notation, axiom, sorry.
-/
import Derived.Test.YtdacdbidennjhaaGreatDoorRows
import GoSem.ClaimSeven
namespace Go.Proofs.YtdacdbidennjhaaGreatDoor
namespace Rows

/-- THE TIED CARD OF 'laws.FnDeeds'. -/
def fnDeedsCard : Claim7 := { stood := { row := fnDeedsRow, standIns := [], harness := (true, "c53a968136cf982609c16298765565272f8f09ea773d3691d7cc9b0d7fd005ac"), looks := true }, kinds := [], alts := [], laidByText := true, laidKinds := [.data, .data, .data, .handle, .sentinel, .sentinel], laidTests := true, laidLooks := .later }
def FnDeedsCardSaid : Prop := Claim7.holds Tryz.pinned (.plain (OpenSpec.ofChange fnDeedsSpec)) fnDeedsCard

/-- THE TIED CARD OF 'laws.FnRenamed'. -/
def fnRenamedCard : Claim7 := { stood := { row := fnRenamedRow, standIns := [], harness := (true, "c53a968136cf982609c16298765565272f8f09ea773d3691d7cc9b0d7fd005ac"), looks := true }, kinds := [], alts := [], laidByText := true, laidKinds := [.data, .data, .data, .handle, .sentinel, .sentinel], laidTests := true, laidLooks := .later }
def FnRenamedCardSaid : Prop := Claim7.holds Tryz.pinned (.plain (OpenSpec.ofChange fnRenamedSpec)) fnRenamedCard

/-- THE TIED CARD OF 'laws.FnFalls'. -/
def fnFallsCard : Claim7 := { stood := { row := fnFallsRow, standIns := [], harness := (true, "c53a968136cf982609c16298765565272f8f09ea773d3691d7cc9b0d7fd005ac"), looks := true }, kinds := [], alts := [], laidByText := true, laidKinds := [.data, .data, .data, .handle, .sentinel, .sentinel], laidTests := true, laidLooks := .later }
def FnFallsCardSaid : Prop := Claim7.holds Tryz.pinned (.plain (OpenSpec.ofChange fnFallsSpec)) fnFallsCard

/-- THE TIED CARD OF 'laws.FnExactFallen'. -/
def fnExactFallenCard : Claim7 := { stood := { row := fnExactFallenRow, standIns := [], harness := (true, "c53a968136cf982609c16298765565272f8f09ea773d3691d7cc9b0d7fd005ac"), looks := true }, kinds := [], alts := [], laidByText := true, laidKinds := [.data, .data, .data, .handle, .sentinel, .sentinel], laidTests := true, laidLooks := .later }
def FnExactFallenCardSaid : Prop := Claim7.holds Tryz.pinned (.plain (OpenSpec.ofChange fnExactFallenSpec)) fnExactFallenCard

/-- THE TIED CARD OF 'laws.FnExactCouldFall'. -/
def fnExactCouldFallCard : Claim7 := { stood := { row := fnExactCouldFallRow, standIns := [], harness := (true, "c53a968136cf982609c16298765565272f8f09ea773d3691d7cc9b0d7fd005ac"), looks := true }, kinds := [], alts := [], laidByText := true, laidKinds := [.data, .data, .data, .handle, .sentinel, .sentinel], laidTests := true, laidLooks := .later }
def FnExactCouldFallCardSaid : Prop := Claim7.holds Tryz.pinned (.plain (OpenSpec.ofChange fnExactCouldFallSpec)) fnExactCouldFallCard

/-- THE TIED CARD OF 'laws.FnExactCalmDisk'. -/
def fnExactCalmDiskCard : Claim7 := { stood := { row := fnExactCalmDiskRow, standIns := [], harness := (true, "c53a968136cf982609c16298765565272f8f09ea773d3691d7cc9b0d7fd005ac"), looks := true }, kinds := [], alts := [], laidByText := true, laidKinds := [.data, .data, .data, .handle, .sentinel, .sentinel], laidTests := true, laidLooks := .later }
def FnExactCalmDiskCardSaid : Prop := Claim7.holds Tryz.pinned (.plain (OpenSpec.ofChange fnExactCalmDiskSpec)) fnExactCalmDiskCard

/-- THE TIED CARD OF 'laws.FnExactUnsureOn'. -/
def fnExactUnsureOnCard : Claim7 := { stood := { row := fnExactUnsureOnRow, standIns := [], harness := (true, "c53a968136cf982609c16298765565272f8f09ea773d3691d7cc9b0d7fd005ac"), looks := true }, kinds := [], alts := [], laidByText := true, laidKinds := [.data, .data, .data, .handle, .sentinel, .sentinel], laidTests := true, laidLooks := .later }
def FnExactUnsureOnCardSaid : Prop := Claim7.holds Tryz.pinned (.plain (OpenSpec.ofChange fnExactUnsureOnSpec)) fnExactUnsureOnCard

/-- THE SECOND FORM's CARD OF 'laws.FnDeeds'. -/
def fnDeedsUptoCard : Claim7 := { stood := { row := fnDeedsUptoRow, standIns := [], harness := (true, "c53a968136cf982609c16298765565272f8f09ea773d3691d7cc9b0d7fd005ac"), looks := true }, kinds := [], alts := [], laidByText := true, laidKinds := [.data, .data, .data, .handle, .sentinel, .sentinel], laidTests := true, laidLooks := .later }
def FnDeedsUptoCardSaid : Prop := Claim7.holds Tryz.pinned (.plain (OpenSpec.upto fnDeedsSpec)) fnDeedsUptoCard

/-- THE SECOND FORM's CARD OF 'laws.FnRenamed'. -/
def fnRenamedUptoCard : Claim7 := { stood := { row := fnRenamedUptoRow, standIns := [], harness := (true, "c53a968136cf982609c16298765565272f8f09ea773d3691d7cc9b0d7fd005ac"), looks := true }, kinds := [], alts := [], laidByText := true, laidKinds := [.data, .data, .data, .handle, .sentinel, .sentinel], laidTests := true, laidLooks := .later }
def FnRenamedUptoCardSaid : Prop := Claim7.holds Tryz.pinned (.plain (OpenSpec.upto fnRenamedSpec)) fnRenamedUptoCard

/-- THE SECOND FORM's CARD OF 'laws.FnFalls'. -/
def fnFallsUptoCard : Claim7 := { stood := { row := fnFallsUptoRow, standIns := [], harness := (true, "c53a968136cf982609c16298765565272f8f09ea773d3691d7cc9b0d7fd005ac"), looks := true }, kinds := [], alts := [], laidByText := true, laidKinds := [.data, .data, .data, .handle, .sentinel, .sentinel], laidTests := true, laidLooks := .later }
def FnFallsUptoCardSaid : Prop := Claim7.holds Tryz.pinned (.plain (OpenSpec.upto fnFallsSpec)) fnFallsUptoCard

/-- THE SECOND FORM's CARD OF 'laws.FnExactFallen'. -/
def fnExactFallenUptoCard : Claim7 := { stood := { row := fnExactFallenUptoRow, standIns := [], harness := (true, "c53a968136cf982609c16298765565272f8f09ea773d3691d7cc9b0d7fd005ac"), looks := true }, kinds := [], alts := [], laidByText := true, laidKinds := [.data, .data, .data, .handle, .sentinel, .sentinel], laidTests := true, laidLooks := .later }
def FnExactFallenUptoCardSaid : Prop := Claim7.holds Tryz.pinned (.plain (OpenSpec.upto fnExactFallenSpec)) fnExactFallenUptoCard

/-- THE SECOND FORM's CARD OF 'laws.FnExactCouldFall'. -/
def fnExactCouldFallUptoCard : Claim7 := { stood := { row := fnExactCouldFallUptoRow, standIns := [], harness := (true, "c53a968136cf982609c16298765565272f8f09ea773d3691d7cc9b0d7fd005ac"), looks := true }, kinds := [], alts := [], laidByText := true, laidKinds := [.data, .data, .data, .handle, .sentinel, .sentinel], laidTests := true, laidLooks := .later }
def FnExactCouldFallUptoCardSaid : Prop := Claim7.holds Tryz.pinned (.plain (OpenSpec.upto fnExactCouldFallSpec)) fnExactCouldFallUptoCard

/-- THE SECOND FORM's CARD OF 'laws.FnExactCalmDisk'. -/
def fnExactCalmDiskUptoCard : Claim7 := { stood := { row := fnExactCalmDiskUptoRow, standIns := [], harness := (true, "c53a968136cf982609c16298765565272f8f09ea773d3691d7cc9b0d7fd005ac"), looks := true }, kinds := [], alts := [], laidByText := true, laidKinds := [.data, .data, .data, .handle, .sentinel, .sentinel], laidTests := true, laidLooks := .later }
def FnExactCalmDiskUptoCardSaid : Prop := Claim7.holds Tryz.pinned (.plain (OpenSpec.upto fnExactCalmDiskSpec)) fnExactCalmDiskUptoCard

/-- THE SECOND FORM's CARD OF 'laws.FnExactUnsureOn'. -/
def fnExactUnsureOnUptoCard : Claim7 := { stood := { row := fnExactUnsureOnUptoRow, standIns := [], harness := (true, "c53a968136cf982609c16298765565272f8f09ea773d3691d7cc9b0d7fd005ac"), looks := true }, kinds := [], alts := [], laidByText := true, laidKinds := [.data, .data, .data, .handle, .sentinel, .sentinel], laidTests := true, laidLooks := .later }
def FnExactUnsureOnUptoCardSaid : Prop := Claim7.holds Tryz.pinned (.plain (OpenSpec.upto fnExactUnsureOnSpec)) fnExactUnsureOnUptoCard
end Rows
end Go.Proofs.YtdacdbidennjhaaGreatDoor
