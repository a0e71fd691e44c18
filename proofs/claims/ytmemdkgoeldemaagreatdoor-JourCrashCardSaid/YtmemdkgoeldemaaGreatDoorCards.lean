/-
  DERIVED. GIVEN WITH THE SEED: THE CARDS: each row of YtmemdkgoeldemaaGreatDoorRows.lean that lists a variable, with what it lists TIED to the program's text (the seventh form; the later family's looks); each row that meets fmt, with fmt's text TOLD by the authors' own Lean function (tested against real Go, not proved from fmt's source: count such statements apart). THE CARD IS WHAT COUNTS. Prove the row's statement (the work); the ties are given (YtmemdkgoeldemaaGreatDoorTie.lean); close each card by the builder's one call (the guide's Derived/Test/ToyasCard.lean, 'card_holds'). Laid BY PROGRAM, IN A SANDBOX (cutbox-door.mjs). By AI agents, Wed Nov 11 2026. No macro, syntax, notation, axiom, sorry.
-/
import Derived.Test.YtmemdkgoeldemaaGreatDoorRows
import GoSem.ClaimSeven
namespace Go.Proofs.YtmemdkgoeldemaaGreatDoor
namespace Rows

/-- THE TIED CARD OF 'waybilllaw8.JourGaps'. -/
def jourGapsCard : Claim7 := { stood := { row := jourGapsRow, standIns := [], harness := (true, "cf6ddba8b3bd6fa0be635aba19e125f3a6462d5c7d6bbb791caf850c920425bd"), looks := true }, kinds := [], alts := [], laidByText := true, laidKinds := [.data, .data, .data, .sentinel, .sentinel], laidTests := true, laidLooks := .later }
def JourGapsCardSaid : Prop := Claim7.holds Tryz.pinned (.plain (OpenSpec.ofChange jourGapsSpec)) jourGapsCard

/-- THE TIED CARD OF 'waybilllaw8.JourTells'. -/
def jourTellsCard : Claim7 := { stood := { row := jourTellsRow, standIns := [], harness := (true, "cf6ddba8b3bd6fa0be635aba19e125f3a6462d5c7d6bbb791caf850c920425bd"), looks := true }, kinds := [], alts := [], laidByText := true, laidKinds := [.data, .data, .data, .sentinel, .sentinel], laidTests := true, laidLooks := .later }
def JourTellsCardSaid : Prop := Claim7.holds Tryz.pinned (.plain (OpenSpec.ofChange jourTellsSpec)) jourTellsCard

/-- THE TIED CARD OF 'waybilllaw8.JourPlays'. -/
def jourPlaysCard : Claim7 := { stood := { row := jourPlaysRow, standIns := [], harness := (true, "cf6ddba8b3bd6fa0be635aba19e125f3a6462d5c7d6bbb791caf850c920425bd"), looks := true }, kinds := [], alts := [], laidByText := true, laidKinds := [.data, .data, .data, .sentinel, .sentinel], laidTests := true, laidLooks := .later }
def JourPlaysCardSaid : Prop := Claim7.holds Tryz.pinned (.plain (OpenSpec.ofChange jourPlaysSpec)) jourPlaysCard

/-- THE TIED CARD OF 'waybilllaw8.JourCrash'. -/
def jourCrashCard : Claim7 := { stood := { row := jourCrashRow, standIns := [], harness := (true, "cf6ddba8b3bd6fa0be635aba19e125f3a6462d5c7d6bbb791caf850c920425bd"), looks := true }, kinds := [], alts := [], laidByText := true, laidKinds := [.data, .data, .data, .sentinel, .sentinel], laidTests := true, laidLooks := .later }
def JourCrashCardSaid : Prop := Claim7.holds Tryz.pinned (.plain (OpenSpec.ofChange jourCrashSpec)) jourCrashCard

/-- THE TIED CARD OF 'waybilllaw8.JourNeeds'. -/
def jourNeedsCard : Claim7 := { stood := { row := jourNeedsRow, standIns := [], harness := (true, "cf6ddba8b3bd6fa0be635aba19e125f3a6462d5c7d6bbb791caf850c920425bd"), looks := true }, kinds := [], alts := [], laidByText := true, laidKinds := [.data, .data, .data, .sentinel, .sentinel], laidTests := true, laidLooks := .later }
def JourNeedsCardSaid : Prop := Claim7.holds Tryz.pinned (.plain (OpenSpec.ofChange jourNeedsSpec)) jourNeedsCard

/-- THE TIED CARD OF 'waybilllaw8.JourFiles'. -/
def jourFilesCard : Claim7 := { stood := { row := jourFilesRow, standIns := [], harness := (true, "cf6ddba8b3bd6fa0be635aba19e125f3a6462d5c7d6bbb791caf850c920425bd"), looks := true }, kinds := [], alts := [], laidByText := true, laidKinds := [.data, .data, .data, .sentinel, .sentinel], laidTests := true, laidLooks := .later }
def JourFilesCardSaid : Prop := Claim7.holds Tryz.pinned (.plain (OpenSpec.ofChange jourFilesSpec)) jourFilesCard

/-- THE TIED CARD OF 'waybilllaw8.JourRoom'. -/
def jourRoomCard : Claim7 := { stood := { row := jourRoomRow, standIns := [], harness := (true, "cf6ddba8b3bd6fa0be635aba19e125f3a6462d5c7d6bbb791caf850c920425bd"), looks := true }, kinds := [], alts := [], laidByText := true, laidKinds := [.data, .data, .data, .sentinel, .sentinel], laidTests := true, laidLooks := .later }
def JourRoomCardSaid : Prop := Claim7.holds Tryz.pinned (.plain (OpenSpec.ofChange jourRoomSpec)) jourRoomCard

/-- THE SECOND FORM's CARD OF 'waybilllaw8.JourGaps'. -/
def jourGapsUptoCard : Claim7 := { stood := { row := jourGapsUptoRow, standIns := [], harness := (true, "cf6ddba8b3bd6fa0be635aba19e125f3a6462d5c7d6bbb791caf850c920425bd"), looks := true }, kinds := [], alts := [], laidByText := true, laidKinds := [.data, .data, .data, .sentinel, .sentinel], laidTests := true, laidLooks := .later }
def JourGapsUptoCardSaid : Prop := Claim7.holds Tryz.pinned (.plain (OpenSpec.upto jourGapsSpec)) jourGapsUptoCard

/-- THE SECOND FORM's CARD OF 'waybilllaw8.JourTells'. -/
def jourTellsUptoCard : Claim7 := { stood := { row := jourTellsUptoRow, standIns := [], harness := (true, "cf6ddba8b3bd6fa0be635aba19e125f3a6462d5c7d6bbb791caf850c920425bd"), looks := true }, kinds := [], alts := [], laidByText := true, laidKinds := [.data, .data, .data, .sentinel, .sentinel], laidTests := true, laidLooks := .later }
def JourTellsUptoCardSaid : Prop := Claim7.holds Tryz.pinned (.plain (OpenSpec.upto jourTellsSpec)) jourTellsUptoCard

/-- THE SECOND FORM's CARD OF 'waybilllaw8.JourPlays'. -/
def jourPlaysUptoCard : Claim7 := { stood := { row := jourPlaysUptoRow, standIns := [], harness := (true, "cf6ddba8b3bd6fa0be635aba19e125f3a6462d5c7d6bbb791caf850c920425bd"), looks := true }, kinds := [], alts := [], laidByText := true, laidKinds := [.data, .data, .data, .sentinel, .sentinel], laidTests := true, laidLooks := .later }
def JourPlaysUptoCardSaid : Prop := Claim7.holds Tryz.pinned (.plain (OpenSpec.upto jourPlaysSpec)) jourPlaysUptoCard

/-- THE SECOND FORM's CARD OF 'waybilllaw8.JourCrash'. -/
def jourCrashUptoCard : Claim7 := { stood := { row := jourCrashUptoRow, standIns := [], harness := (true, "cf6ddba8b3bd6fa0be635aba19e125f3a6462d5c7d6bbb791caf850c920425bd"), looks := true }, kinds := [], alts := [], laidByText := true, laidKinds := [.data, .data, .data, .sentinel, .sentinel], laidTests := true, laidLooks := .later }
def JourCrashUptoCardSaid : Prop := Claim7.holds Tryz.pinned (.plain (OpenSpec.upto jourCrashSpec)) jourCrashUptoCard

/-- THE SECOND FORM's CARD OF 'waybilllaw8.JourNeeds'. -/
def jourNeedsUptoCard : Claim7 := { stood := { row := jourNeedsUptoRow, standIns := [], harness := (true, "cf6ddba8b3bd6fa0be635aba19e125f3a6462d5c7d6bbb791caf850c920425bd"), looks := true }, kinds := [], alts := [], laidByText := true, laidKinds := [.data, .data, .data, .sentinel, .sentinel], laidTests := true, laidLooks := .later }
def JourNeedsUptoCardSaid : Prop := Claim7.holds Tryz.pinned (.plain (OpenSpec.upto jourNeedsSpec)) jourNeedsUptoCard

/-- THE SECOND FORM's CARD OF 'waybilllaw8.JourFiles'. -/
def jourFilesUptoCard : Claim7 := { stood := { row := jourFilesUptoRow, standIns := [], harness := (true, "cf6ddba8b3bd6fa0be635aba19e125f3a6462d5c7d6bbb791caf850c920425bd"), looks := true }, kinds := [], alts := [], laidByText := true, laidKinds := [.data, .data, .data, .sentinel, .sentinel], laidTests := true, laidLooks := .later }
def JourFilesUptoCardSaid : Prop := Claim7.holds Tryz.pinned (.plain (OpenSpec.upto jourFilesSpec)) jourFilesUptoCard

/-- THE SECOND FORM's CARD OF 'waybilllaw8.JourRoom'. -/
def jourRoomUptoCard : Claim7 := { stood := { row := jourRoomUptoRow, standIns := [], harness := (true, "cf6ddba8b3bd6fa0be635aba19e125f3a6462d5c7d6bbb791caf850c920425bd"), looks := true }, kinds := [], alts := [], laidByText := true, laidKinds := [.data, .data, .data, .sentinel, .sentinel], laidTests := true, laidLooks := .later }
def JourRoomUptoCardSaid : Prop := Claim7.holds Tryz.pinned (.plain (OpenSpec.upto jourRoomSpec)) jourRoomUptoCard
end Rows
end Go.Proofs.YtmemdkgoeldemaaGreatDoor
