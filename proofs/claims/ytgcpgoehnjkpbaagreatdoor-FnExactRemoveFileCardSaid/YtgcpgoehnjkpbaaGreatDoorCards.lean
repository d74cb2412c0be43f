/-
  DERIVED. GIVEN WITH THE SEED: THE CARDS: each row of YtgcpgoehnjkpbaaGreatDoorRows.lean that lists a variable, with what it lists TIED to the program's text (the seventh form; the later family's looks); each row that meets fmt, with fmt's text TOLD by the authors' own Lean function (tested against real Go, not proved from fmt's source: count such statements apart). THE CARD IS WHAT COUNTS. Prove the row's statement (the work); the ties are given (YtgcpgoehnjkpbaaGreatDoorTie.lean); close each card by the builder's one call (the guide's Derived/Test/ToyasCard.lean, 'card_holds'). Laid BY PROGRAM, IN A SANDBOX (cutbox-door.mjs). By AI agents, Wed Nov 11 2026. No macro, syntax, notation, axiom, sorry.
-/
import Derived.Test.YtgcpgoehnjkpbaaGreatDoorRows
import GoSem.ClaimSeven
namespace Go.Proofs.YtgcpgoehnjkpbaaGreatDoor
namespace Rows

/-- THE TIED CARD OF 'laws.FnDisks'. -/
def fnDisksCard : Claim7 := { stood := { row := fnDisksRow, standIns := [], harness := (true, "35e5380274224c05595ef154c39986b9e1d0144139faf723ca397c1caba3a1ee"), looks := true }, kinds := [], alts := [], laidByText := true, laidKinds := [.data, .data, .data, .handle, .sentinel, .sentinel], laidTests := true, laidLooks := .later }
def FnDisksCardSaid : Prop := Claim7.holds Tryz.pinned (.plain (OpenSpec.ofChange fnDisksSpec)) fnDisksCard

/-- THE TIED CARD OF 'laws.FnDeeds'. -/
def fnDeedsCard : Claim7 := { stood := { row := fnDeedsRow, standIns := [], harness := (true, "35e5380274224c05595ef154c39986b9e1d0144139faf723ca397c1caba3a1ee"), looks := true }, kinds := [], alts := [], laidByText := true, laidKinds := [.data, .data, .data, .handle, .sentinel, .sentinel], laidTests := true, laidLooks := .later }
def FnDeedsCardSaid : Prop := Claim7.holds Tryz.pinned (.plain (OpenSpec.ofChange fnDeedsSpec)) fnDeedsCard

/-- THE TIED CARD OF 'laws.FnRenamed'. -/
def fnRenamedCard : Claim7 := { stood := { row := fnRenamedRow, standIns := [], harness := (true, "35e5380274224c05595ef154c39986b9e1d0144139faf723ca397c1caba3a1ee"), looks := true }, kinds := [], alts := [], laidByText := true, laidKinds := [.data, .data, .data, .handle, .sentinel, .sentinel], laidTests := true, laidLooks := .later }
def FnRenamedCardSaid : Prop := Claim7.holds Tryz.pinned (.plain (OpenSpec.ofChange fnRenamedSpec)) fnRenamedCard

/-- THE TIED CARD OF 'laws.FnExactDiskOk'. -/
def fnExactDiskOkCard : Claim7 := { stood := { row := fnExactDiskOkRow, standIns := [], harness := (true, "35e5380274224c05595ef154c39986b9e1d0144139faf723ca397c1caba3a1ee"), looks := true }, kinds := [], alts := [], laidByText := true, laidKinds := [.data, .data, .data, .handle, .sentinel, .sentinel], laidTests := true, laidLooks := .later }
def FnExactDiskOkCardSaid : Prop := Claim7.holds Tryz.pinned (.plain (OpenSpec.ofChange fnExactDiskOkSpec)) fnExactDiskOkCard

/-- THE TIED CARD OF 'laws.FnExactStepsDone'. -/
def fnExactStepsDoneCard : Claim7 := { stood := { row := fnExactStepsDoneRow, standIns := [], harness := (true, "35e5380274224c05595ef154c39986b9e1d0144139faf723ca397c1caba3a1ee"), looks := true }, kinds := [], alts := [], laidByText := true, laidKinds := [.data, .data, .data, .handle, .sentinel, .sentinel], laidTests := true, laidLooks := .later }
def FnExactStepsDoneCardSaid : Prop := Claim7.holds Tryz.pinned (.plain (OpenSpec.ofChange fnExactStepsDoneSpec)) fnExactStepsDoneCard

/-- THE TIED CARD OF 'laws.FnExactCreateFile'. -/
def fnExactCreateFileCard : Claim7 := { stood := { row := fnExactCreateFileRow, standIns := [], harness := (true, "35e5380274224c05595ef154c39986b9e1d0144139faf723ca397c1caba3a1ee"), looks := true }, kinds := [], alts := [], laidByText := true, laidKinds := [.data, .data, .data, .handle, .sentinel, .sentinel], laidTests := true, laidLooks := .later }
def FnExactCreateFileCardSaid : Prop := Claim7.holds Tryz.pinned (.plain (OpenSpec.ofChange fnExactCreateFileSpec)) fnExactCreateFileCard

/-- THE TIED CARD OF 'laws.FnExactAppendFile'. -/
def fnExactAppendFileCard : Claim7 := { stood := { row := fnExactAppendFileRow, standIns := [], harness := (true, "35e5380274224c05595ef154c39986b9e1d0144139faf723ca397c1caba3a1ee"), looks := true }, kinds := [], alts := [], laidByText := true, laidKinds := [.data, .data, .data, .handle, .sentinel, .sentinel], laidTests := true, laidLooks := .later }
def FnExactAppendFileCardSaid : Prop := Claim7.holds Tryz.pinned (.plain (OpenSpec.ofChange fnExactAppendFileSpec)) fnExactAppendFileCard

/-- THE TIED CARD OF 'laws.FnExactSyncFile'. -/
def fnExactSyncFileCard : Claim7 := { stood := { row := fnExactSyncFileRow, standIns := [], harness := (true, "35e5380274224c05595ef154c39986b9e1d0144139faf723ca397c1caba3a1ee"), looks := true }, kinds := [], alts := [], laidByText := true, laidKinds := [.data, .data, .data, .handle, .sentinel, .sentinel], laidTests := true, laidLooks := .later }
def FnExactSyncFileCardSaid : Prop := Claim7.holds Tryz.pinned (.plain (OpenSpec.ofChange fnExactSyncFileSpec)) fnExactSyncFileCard

/-- THE TIED CARD OF 'laws.FnExactRenameFile'. -/
def fnExactRenameFileCard : Claim7 := { stood := { row := fnExactRenameFileRow, standIns := [], harness := (true, "35e5380274224c05595ef154c39986b9e1d0144139faf723ca397c1caba3a1ee"), looks := true }, kinds := [], alts := [], laidByText := true, laidKinds := [.data, .data, .data, .handle, .sentinel, .sentinel], laidTests := true, laidLooks := .later }
def FnExactRenameFileCardSaid : Prop := Claim7.holds Tryz.pinned (.plain (OpenSpec.ofChange fnExactRenameFileSpec)) fnExactRenameFileCard

/-- THE TIED CARD OF 'laws.FnExactRemoveFile'. -/
def fnExactRemoveFileCard : Claim7 := { stood := { row := fnExactRemoveFileRow, standIns := [], harness := (true, "35e5380274224c05595ef154c39986b9e1d0144139faf723ca397c1caba3a1ee"), looks := true }, kinds := [], alts := [], laidByText := true, laidKinds := [.data, .data, .data, .handle, .sentinel, .sentinel], laidTests := true, laidLooks := .later }
def FnExactRemoveFileCardSaid : Prop := Claim7.holds Tryz.pinned (.plain (OpenSpec.ofChange fnExactRemoveFileSpec)) fnExactRemoveFileCard

/-- THE TIED CARD OF 'laws.FnExactSyncNames'. -/
def fnExactSyncNamesCard : Claim7 := { stood := { row := fnExactSyncNamesRow, standIns := [], harness := (true, "35e5380274224c05595ef154c39986b9e1d0144139faf723ca397c1caba3a1ee"), looks := true }, kinds := [], alts := [], laidByText := true, laidKinds := [.data, .data, .data, .handle, .sentinel, .sentinel], laidTests := true, laidLooks := .later }
def FnExactSyncNamesCardSaid : Prop := Claim7.holds Tryz.pinned (.plain (OpenSpec.ofChange fnExactSyncNamesSpec)) fnExactSyncNamesCard

/-- THE SECOND FORM's CARD OF 'laws.FnDisks'. -/
def fnDisksUptoCard : Claim7 := { stood := { row := fnDisksUptoRow, standIns := [], harness := (true, "35e5380274224c05595ef154c39986b9e1d0144139faf723ca397c1caba3a1ee"), looks := true }, kinds := [], alts := [], laidByText := true, laidKinds := [.data, .data, .data, .handle, .sentinel, .sentinel], laidTests := true, laidLooks := .later }
def FnDisksUptoCardSaid : Prop := Claim7.holds Tryz.pinned (.plain (OpenSpec.upto fnDisksSpec)) fnDisksUptoCard

/-- THE SECOND FORM's CARD OF 'laws.FnDeeds'. -/
def fnDeedsUptoCard : Claim7 := { stood := { row := fnDeedsUptoRow, standIns := [], harness := (true, "35e5380274224c05595ef154c39986b9e1d0144139faf723ca397c1caba3a1ee"), looks := true }, kinds := [], alts := [], laidByText := true, laidKinds := [.data, .data, .data, .handle, .sentinel, .sentinel], laidTests := true, laidLooks := .later }
def FnDeedsUptoCardSaid : Prop := Claim7.holds Tryz.pinned (.plain (OpenSpec.upto fnDeedsSpec)) fnDeedsUptoCard

/-- THE SECOND FORM's CARD OF 'laws.FnRenamed'. -/
def fnRenamedUptoCard : Claim7 := { stood := { row := fnRenamedUptoRow, standIns := [], harness := (true, "35e5380274224c05595ef154c39986b9e1d0144139faf723ca397c1caba3a1ee"), looks := true }, kinds := [], alts := [], laidByText := true, laidKinds := [.data, .data, .data, .handle, .sentinel, .sentinel], laidTests := true, laidLooks := .later }
def FnRenamedUptoCardSaid : Prop := Claim7.holds Tryz.pinned (.plain (OpenSpec.upto fnRenamedSpec)) fnRenamedUptoCard

/-- THE SECOND FORM's CARD OF 'laws.FnExactDiskOk'. -/
def fnExactDiskOkUptoCard : Claim7 := { stood := { row := fnExactDiskOkUptoRow, standIns := [], harness := (true, "35e5380274224c05595ef154c39986b9e1d0144139faf723ca397c1caba3a1ee"), looks := true }, kinds := [], alts := [], laidByText := true, laidKinds := [.data, .data, .data, .handle, .sentinel, .sentinel], laidTests := true, laidLooks := .later }
def FnExactDiskOkUptoCardSaid : Prop := Claim7.holds Tryz.pinned (.plain (OpenSpec.upto fnExactDiskOkSpec)) fnExactDiskOkUptoCard

/-- THE SECOND FORM's CARD OF 'laws.FnExactStepsDone'. -/
def fnExactStepsDoneUptoCard : Claim7 := { stood := { row := fnExactStepsDoneUptoRow, standIns := [], harness := (true, "35e5380274224c05595ef154c39986b9e1d0144139faf723ca397c1caba3a1ee"), looks := true }, kinds := [], alts := [], laidByText := true, laidKinds := [.data, .data, .data, .handle, .sentinel, .sentinel], laidTests := true, laidLooks := .later }
def FnExactStepsDoneUptoCardSaid : Prop := Claim7.holds Tryz.pinned (.plain (OpenSpec.upto fnExactStepsDoneSpec)) fnExactStepsDoneUptoCard

/-- THE SECOND FORM's CARD OF 'laws.FnExactCreateFile'. -/
def fnExactCreateFileUptoCard : Claim7 := { stood := { row := fnExactCreateFileUptoRow, standIns := [], harness := (true, "35e5380274224c05595ef154c39986b9e1d0144139faf723ca397c1caba3a1ee"), looks := true }, kinds := [], alts := [], laidByText := true, laidKinds := [.data, .data, .data, .handle, .sentinel, .sentinel], laidTests := true, laidLooks := .later }
def FnExactCreateFileUptoCardSaid : Prop := Claim7.holds Tryz.pinned (.plain (OpenSpec.upto fnExactCreateFileSpec)) fnExactCreateFileUptoCard

/-- THE SECOND FORM's CARD OF 'laws.FnExactAppendFile'. -/
def fnExactAppendFileUptoCard : Claim7 := { stood := { row := fnExactAppendFileUptoRow, standIns := [], harness := (true, "35e5380274224c05595ef154c39986b9e1d0144139faf723ca397c1caba3a1ee"), looks := true }, kinds := [], alts := [], laidByText := true, laidKinds := [.data, .data, .data, .handle, .sentinel, .sentinel], laidTests := true, laidLooks := .later }
def FnExactAppendFileUptoCardSaid : Prop := Claim7.holds Tryz.pinned (.plain (OpenSpec.upto fnExactAppendFileSpec)) fnExactAppendFileUptoCard

/-- THE SECOND FORM's CARD OF 'laws.FnExactSyncFile'. -/
def fnExactSyncFileUptoCard : Claim7 := { stood := { row := fnExactSyncFileUptoRow, standIns := [], harness := (true, "35e5380274224c05595ef154c39986b9e1d0144139faf723ca397c1caba3a1ee"), looks := true }, kinds := [], alts := [], laidByText := true, laidKinds := [.data, .data, .data, .handle, .sentinel, .sentinel], laidTests := true, laidLooks := .later }
def FnExactSyncFileUptoCardSaid : Prop := Claim7.holds Tryz.pinned (.plain (OpenSpec.upto fnExactSyncFileSpec)) fnExactSyncFileUptoCard

/-- THE SECOND FORM's CARD OF 'laws.FnExactRenameFile'. -/
def fnExactRenameFileUptoCard : Claim7 := { stood := { row := fnExactRenameFileUptoRow, standIns := [], harness := (true, "35e5380274224c05595ef154c39986b9e1d0144139faf723ca397c1caba3a1ee"), looks := true }, kinds := [], alts := [], laidByText := true, laidKinds := [.data, .data, .data, .handle, .sentinel, .sentinel], laidTests := true, laidLooks := .later }
def FnExactRenameFileUptoCardSaid : Prop := Claim7.holds Tryz.pinned (.plain (OpenSpec.upto fnExactRenameFileSpec)) fnExactRenameFileUptoCard

/-- THE SECOND FORM's CARD OF 'laws.FnExactRemoveFile'. -/
def fnExactRemoveFileUptoCard : Claim7 := { stood := { row := fnExactRemoveFileUptoRow, standIns := [], harness := (true, "35e5380274224c05595ef154c39986b9e1d0144139faf723ca397c1caba3a1ee"), looks := true }, kinds := [], alts := [], laidByText := true, laidKinds := [.data, .data, .data, .handle, .sentinel, .sentinel], laidTests := true, laidLooks := .later }
def FnExactRemoveFileUptoCardSaid : Prop := Claim7.holds Tryz.pinned (.plain (OpenSpec.upto fnExactRemoveFileSpec)) fnExactRemoveFileUptoCard

/-- THE SECOND FORM's CARD OF 'laws.FnExactSyncNames'. -/
def fnExactSyncNamesUptoCard : Claim7 := { stood := { row := fnExactSyncNamesUptoRow, standIns := [], harness := (true, "35e5380274224c05595ef154c39986b9e1d0144139faf723ca397c1caba3a1ee"), looks := true }, kinds := [], alts := [], laidByText := true, laidKinds := [.data, .data, .data, .handle, .sentinel, .sentinel], laidTests := true, laidLooks := .later }
def FnExactSyncNamesUptoCardSaid : Prop := Claim7.holds Tryz.pinned (.plain (OpenSpec.upto fnExactSyncNamesSpec)) fnExactSyncNamesUptoCard
end Rows
end Go.Proofs.YtgcpgoehnjkpbaaGreatDoor
