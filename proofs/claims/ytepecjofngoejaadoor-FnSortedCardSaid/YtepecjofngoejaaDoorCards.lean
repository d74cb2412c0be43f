/-
  DERIVED. GIVEN WITH THE SEED: THE CARDS: each row of YtepecjofngoejaaDoorRows.lean that lists a variable, with what it lists TIED to the program's text (the seventh form; the later family's looks); each row that meets fmt, with fmt's text TOLD by the authors' own Lean function (tested against real Go, not proved from fmt's source: count such statements apart). THE CARD IS WHAT COUNTS. Prove the row's statement (the work); the ties are given (YtepecjofngoejaaDoorTie.lean); close each card by the builder's one call (the guide's Derived/Test/ToyasCard.lean, 'card_holds'). Laid BY PROGRAM, IN A SANDBOX (cutbox-door.mjs). By AI agents, Wed Nov 11 2026. No macro, syntax, notation, axiom, sorry.
-/
import Derived.Test.YtepecjofngoejaaDoorRows
import GoSem.ClaimSeven
namespace Go.Proofs.YtepecjofngoejaaDoor
namespace Rows

/-- THE TIED CARD OF 'laws.FnNames'. -/
def fnNamesCard : Claim7 := { stood := { row := fnNamesRow, standIns := [], harness := (true, "779f6a81f896b8405999679d3b9c151fdae7555b110c6b6ed1e17cea6d409c58"), looks := true }, kinds := [], alts := [], laidByText := true, laidKinds := [.data, .data, .data, .handle, .sentinel, .sentinel], laidTests := true, laidLooks := .later }
def FnNamesCardSaid : Prop := Claim7.holds Tryd.pinned (.plain (OpenSpec.ofChange fnNamesSpec)) fnNamesCard

/-- THE TIED CARD OF 'laws.FnSorted'. -/
def fnSortedCard : Claim7 := { stood := { row := fnSortedRow, standIns := [], harness := (true, "779f6a81f896b8405999679d3b9c151fdae7555b110c6b6ed1e17cea6d409c58"), looks := true }, kinds := [], alts := [], laidByText := true, laidKinds := [.handle], laidTests := true, laidLooks := .later }
def FnSortedCardSaid : Prop := Claim7.holds Tryd.pinned (.plain (OpenSpec.ofChange fnSortedSpec)) fnSortedCard

/-- THE TIED CARD OF 'laws.FnExactSegmentName'. -/
def fnExactSegmentNameCard : Claim7 := { stood := { row := fnExactSegmentNameRow, standIns := [], harness := (true, "779f6a81f896b8405999679d3b9c151fdae7555b110c6b6ed1e17cea6d409c58"), looks := true }, kinds := [], alts := [], laidByText := true, laidKinds := [.data, .data, .data], laidTests := true, laidLooks := .later }
def FnExactSegmentNameCardSaid : Prop := Claim7.holds Tryd.pinned (.plain (OpenSpec.ofChange fnExactSegmentNameSpec)) fnExactSegmentNameCard

/-- THE TIED CARD OF 'laws.FnExactTempName'. -/
def fnExactTempNameCard : Claim7 := { stood := { row := fnExactTempNameRow, standIns := [], harness := (true, "779f6a81f896b8405999679d3b9c151fdae7555b110c6b6ed1e17cea6d409c58"), looks := true }, kinds := [], alts := [], laidByText := true, laidKinds := [.data, .data, .data], laidTests := true, laidLooks := .later }
def FnExactTempNameCardSaid : Prop := Claim7.holds Tryd.pinned (.plain (OpenSpec.ofChange fnExactTempNameSpec)) fnExactTempNameCard

/-- THE TIED CARD OF 'laws.FnExactReadName'. -/
def fnExactReadNameCard : Claim7 := { stood := { row := fnExactReadNameRow, standIns := [], harness := (true, "779f6a81f896b8405999679d3b9c151fdae7555b110c6b6ed1e17cea6d409c58"), looks := true }, kinds := [], alts := [], laidByText := true, laidKinds := [.data, .data, .data, .sentinel, .sentinel], laidTests := true, laidLooks := .later }
def FnExactReadNameCardSaid : Prop := Claim7.holds Tryd.pinned (.plain (OpenSpec.ofChange fnExactReadNameSpec)) fnExactReadNameCard

/-- THE TIED CARD OF 'laws.FnExactNameOk'. -/
def fnExactNameOkCard : Claim7 := { stood := { row := fnExactNameOkRow, standIns := [], harness := (true, "779f6a81f896b8405999679d3b9c151fdae7555b110c6b6ed1e17cea6d409c58"), looks := true }, kinds := [], alts := [], laidByText := true, laidKinds := [.handle], laidTests := true, laidLooks := .later }
def FnExactNameOkCardSaid : Prop := Claim7.holds Tryd.pinned (.plain (OpenSpec.ofChange fnExactNameOkSpec)) fnExactNameOkCard

/-- THE TIED CARD OF 'laws.FnExactNextName'. -/
def fnExactNextNameCard : Claim7 := { stood := { row := fnExactNextNameRow, standIns := [], harness := (true, "779f6a81f896b8405999679d3b9c151fdae7555b110c6b6ed1e17cea6d409c58"), looks := true }, kinds := [], alts := [], laidByText := true, laidKinds := [.data, .data, .data], laidTests := true, laidLooks := .later }
def FnExactNextNameCardSaid : Prop := Claim7.holds Tryd.pinned (.plain (OpenSpec.ofChange fnExactNextNameSpec)) fnExactNextNameCard

/-- THE TIED CARD OF 'laws.FnExactSortedNames'. -/
def fnExactSortedNamesCard : Claim7 := { stood := { row := fnExactSortedNamesRow, standIns := [], harness := (true, "779f6a81f896b8405999679d3b9c151fdae7555b110c6b6ed1e17cea6d409c58"), looks := true }, kinds := [], alts := [], laidByText := true, laidKinds := [.handle], laidTests := true, laidLooks := .later }
def FnExactSortedNamesCardSaid : Prop := Claim7.holds Tryd.pinned (.plain (OpenSpec.ofChange fnExactSortedNamesSpec)) fnExactSortedNamesCard

/-- THE SECOND FORM's CARD OF 'laws.FnNames'. -/
def fnNamesUptoCard : Claim7 := { stood := { row := fnNamesUptoRow, standIns := [], harness := (true, "779f6a81f896b8405999679d3b9c151fdae7555b110c6b6ed1e17cea6d409c58"), looks := true }, kinds := [], alts := [], laidByText := true, laidKinds := [.data, .data, .data, .handle, .sentinel, .sentinel], laidTests := true, laidLooks := .later }
def FnNamesUptoCardSaid : Prop := Claim7.holds Tryd.pinned (.plain (OpenSpec.upto fnNamesSpec)) fnNamesUptoCard

/-- THE SECOND FORM's CARD OF 'laws.FnSorted'. -/
def fnSortedUptoCard : Claim7 := { stood := { row := fnSortedUptoRow, standIns := [], harness := (true, "779f6a81f896b8405999679d3b9c151fdae7555b110c6b6ed1e17cea6d409c58"), looks := true }, kinds := [], alts := [], laidByText := true, laidKinds := [.handle], laidTests := true, laidLooks := .later }
def FnSortedUptoCardSaid : Prop := Claim7.holds Tryd.pinned (.plain (OpenSpec.upto fnSortedSpec)) fnSortedUptoCard

/-- THE SECOND FORM's CARD OF 'laws.FnExactSegmentName'. -/
def fnExactSegmentNameUptoCard : Claim7 := { stood := { row := fnExactSegmentNameUptoRow, standIns := [], harness := (true, "779f6a81f896b8405999679d3b9c151fdae7555b110c6b6ed1e17cea6d409c58"), looks := true }, kinds := [], alts := [], laidByText := true, laidKinds := [.data, .data, .data], laidTests := true, laidLooks := .later }
def FnExactSegmentNameUptoCardSaid : Prop := Claim7.holds Tryd.pinned (.plain (OpenSpec.upto fnExactSegmentNameSpec)) fnExactSegmentNameUptoCard

/-- THE SECOND FORM's CARD OF 'laws.FnExactTempName'. -/
def fnExactTempNameUptoCard : Claim7 := { stood := { row := fnExactTempNameUptoRow, standIns := [], harness := (true, "779f6a81f896b8405999679d3b9c151fdae7555b110c6b6ed1e17cea6d409c58"), looks := true }, kinds := [], alts := [], laidByText := true, laidKinds := [.data, .data, .data], laidTests := true, laidLooks := .later }
def FnExactTempNameUptoCardSaid : Prop := Claim7.holds Tryd.pinned (.plain (OpenSpec.upto fnExactTempNameSpec)) fnExactTempNameUptoCard

/-- THE SECOND FORM's CARD OF 'laws.FnExactReadName'. -/
def fnExactReadNameUptoCard : Claim7 := { stood := { row := fnExactReadNameUptoRow, standIns := [], harness := (true, "779f6a81f896b8405999679d3b9c151fdae7555b110c6b6ed1e17cea6d409c58"), looks := true }, kinds := [], alts := [], laidByText := true, laidKinds := [.data, .data, .data, .sentinel, .sentinel], laidTests := true, laidLooks := .later }
def FnExactReadNameUptoCardSaid : Prop := Claim7.holds Tryd.pinned (.plain (OpenSpec.upto fnExactReadNameSpec)) fnExactReadNameUptoCard

/-- THE SECOND FORM's CARD OF 'laws.FnExactNameOk'. -/
def fnExactNameOkUptoCard : Claim7 := { stood := { row := fnExactNameOkUptoRow, standIns := [], harness := (true, "779f6a81f896b8405999679d3b9c151fdae7555b110c6b6ed1e17cea6d409c58"), looks := true }, kinds := [], alts := [], laidByText := true, laidKinds := [.handle], laidTests := true, laidLooks := .later }
def FnExactNameOkUptoCardSaid : Prop := Claim7.holds Tryd.pinned (.plain (OpenSpec.upto fnExactNameOkSpec)) fnExactNameOkUptoCard

/-- THE SECOND FORM's CARD OF 'laws.FnExactNextName'. -/
def fnExactNextNameUptoCard : Claim7 := { stood := { row := fnExactNextNameUptoRow, standIns := [], harness := (true, "779f6a81f896b8405999679d3b9c151fdae7555b110c6b6ed1e17cea6d409c58"), looks := true }, kinds := [], alts := [], laidByText := true, laidKinds := [.data, .data, .data], laidTests := true, laidLooks := .later }
def FnExactNextNameUptoCardSaid : Prop := Claim7.holds Tryd.pinned (.plain (OpenSpec.upto fnExactNextNameSpec)) fnExactNextNameUptoCard

/-- THE SECOND FORM's CARD OF 'laws.FnExactSortedNames'. -/
def fnExactSortedNamesUptoCard : Claim7 := { stood := { row := fnExactSortedNamesUptoRow, standIns := [], harness := (true, "779f6a81f896b8405999679d3b9c151fdae7555b110c6b6ed1e17cea6d409c58"), looks := true }, kinds := [], alts := [], laidByText := true, laidKinds := [.handle], laidTests := true, laidLooks := .later }
def FnExactSortedNamesUptoCardSaid : Prop := Claim7.holds Tryd.pinned (.plain (OpenSpec.upto fnExactSortedNamesSpec)) fnExactSortedNamesUptoCard
end Rows
end Go.Proofs.YtepecjofngoejaaDoor
