/-
  DERIVED. GIVEN WITH THE SEED: THE CARDS: each row of YtpibemlganeacaaDoorRows.lean that lists a variable, with what it lists TIED to the program's text (the seventh form; the later family's looks); each row that meets fmt, with fmt's text TOLD by the authors' own Lean function (tested against real Go, not proved from fmt's source: count such statements apart). THE CARD IS WHAT COUNTS. Prove the row's statement (the work); the ties are given (YtpibemlganeacaaDoorTie.lean); close each card by the builder's one call (the guide's Derived/Test/ToyasCard.lean, 'card_holds'). Laid BY PROGRAM, IN A SANDBOX (cutbox-door.mjs). By AI agents, Wed Nov 11 2026. No macro, syntax, notation, axiom, sorry.
-/
import Derived.Test.YtpibemlganeacaaDoorRows
import GoSem.ClaimSeven
namespace Go.Proofs.YtpibemlganeacaaDoor
namespace Rows

/-- THE TIED CARD OF 'laws.FnExactListIn'. -/
def fnExactListInCard : Claim7 := { stood := { row := fnExactListInRow, standIns := [], harness := (true, "70c4fa798ec4a4e1e01f1a0e6e3b5af0b96cb97bbce6888926fb7ab31d4e9249"), looks := false }, kinds := [], alts := [], laidByText := true, laidKinds := [.sentinel, .sentinel, .sentinel], laidTests := true, laidLooks := .later }
def FnExactListInCardSaid : Prop := Claim7.holds Tryd.pinned (.plain (OpenSpec.ofChange fnExactListInSpec)) fnExactListInCard

/-- THE TIED CARD OF 'laws.FnExactSeekRecord'. -/
def fnExactSeekRecordCard : Claim7 := { stood := { row := fnExactSeekRecordRow, standIns := [], harness := (true, "70c4fa798ec4a4e1e01f1a0e6e3b5af0b96cb97bbce6888926fb7ab31d4e9249"), looks := false }, kinds := [], alts := [], laidByText := true, laidKinds := [.sentinel, .sentinel, .sentinel], laidTests := true, laidLooks := .later }
def FnExactSeekRecordCardSaid : Prop := Claim7.holds Tryd.pinned (.plain (OpenSpec.ofChange fnExactSeekRecordSpec)) fnExactSeekRecordCard

/-- THE TIED CARD OF 'laws.FnExactReadsFor'. -/
def fnExactReadsForCard : Claim7 := { stood := { row := fnExactReadsForRow, standIns := [], harness := (true, "70c4fa798ec4a4e1e01f1a0e6e3b5af0b96cb97bbce6888926fb7ab31d4e9249"), looks := false }, kinds := [], alts := [], laidByText := true, laidKinds := [.sentinel, .sentinel, .sentinel], laidTests := true, laidLooks := .later }
def FnExactReadsForCardSaid : Prop := Claim7.holds Tryd.pinned (.plain (OpenSpec.ofChange fnExactReadsForSpec)) fnExactReadsForCard

/-- THE SECOND FORM's CARD OF 'laws.FnExactListIn'. -/
def fnExactListInUptoCard : Claim7 := { stood := { row := fnExactListInUptoRow, standIns := [], harness := (true, "70c4fa798ec4a4e1e01f1a0e6e3b5af0b96cb97bbce6888926fb7ab31d4e9249"), looks := false }, kinds := [], alts := [], laidByText := true, laidKinds := [.sentinel, .sentinel, .sentinel], laidTests := true, laidLooks := .later }
def FnExactListInUptoCardSaid : Prop := Claim7.holds Tryd.pinned (.plain (OpenSpec.upto fnExactListInSpec)) fnExactListInUptoCard

/-- THE SECOND FORM's CARD OF 'laws.FnExactSeekRecord'. -/
def fnExactSeekRecordUptoCard : Claim7 := { stood := { row := fnExactSeekRecordUptoRow, standIns := [], harness := (true, "70c4fa798ec4a4e1e01f1a0e6e3b5af0b96cb97bbce6888926fb7ab31d4e9249"), looks := false }, kinds := [], alts := [], laidByText := true, laidKinds := [.sentinel, .sentinel, .sentinel], laidTests := true, laidLooks := .later }
def FnExactSeekRecordUptoCardSaid : Prop := Claim7.holds Tryd.pinned (.plain (OpenSpec.upto fnExactSeekRecordSpec)) fnExactSeekRecordUptoCard

/-- THE SECOND FORM's CARD OF 'laws.FnExactReadsFor'. -/
def fnExactReadsForUptoCard : Claim7 := { stood := { row := fnExactReadsForUptoRow, standIns := [], harness := (true, "70c4fa798ec4a4e1e01f1a0e6e3b5af0b96cb97bbce6888926fb7ab31d4e9249"), looks := false }, kinds := [], alts := [], laidByText := true, laidKinds := [.sentinel, .sentinel, .sentinel], laidTests := true, laidLooks := .later }
def FnExactReadsForUptoCardSaid : Prop := Claim7.holds Tryd.pinned (.plain (OpenSpec.upto fnExactReadsForSpec)) fnExactReadsForUptoCard
end Rows
end Go.Proofs.YtpibemlganeacaaDoor
