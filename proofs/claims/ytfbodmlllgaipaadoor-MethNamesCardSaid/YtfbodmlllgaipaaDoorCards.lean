/-
  DERIVED. GIVEN WITH THE SEED: THE CARDS: each row of YtfbodmlllgaipaaDoorRows.lean that lists a variable, with what it lists TIED to the program's text (the seventh form; the later family's looks); each row that meets fmt, with fmt's text TOLD by the authors' own Lean function (tested against real Go, not proved from fmt's source: count such statements apart). THE CARD IS WHAT COUNTS. Prove the row's statement (the work); the ties are given (YtfbodmlllgaipaaDoorTie.lean); close each card by the builder's one call (the guide's Derived/Test/ToyasCard.lean, 'card_holds'). Laid BY PROGRAM, IN A SANDBOX (cutbox-door.mjs). By AI agents, Wed Nov 11 2026. No macro, syntax, notation, axiom, sorry.
-/
import Derived.Test.YtfbodmlllgaipaaDoorRows
import GoSem.ClaimSeven
namespace Go.Proofs.YtfbodmlllgaipaaDoor
namespace Rows

/-- THE TIED CARD OF 'waybilllaw4.MethFlags'. -/
def methFlagsCard : Claim7 := { stood := { row := methFlagsRow, standIns := [], harness := (true, "d14e99b6ea2653892a76f6997d26fc42c6834d004a2ad90ae65d326025cc986d"), looks := false }, kinds := [], alts := [], laidByText := true, laidKinds := [.data, .pinned], laidTests := true, laidLooks := .later }
def MethFlagsCardSaid : Prop := Claim7.holds Tryd.pinned (.plain (OpenSpec.ofChange methFlagsSpec)) methFlagsCard

/-- THE TIED CARD OF 'waybilllaw4.MethNames'. -/
def methNamesCard : Claim7 := { stood := { row := methNamesRow, standIns := [], harness := (true, "d14e99b6ea2653892a76f6997d26fc42c6834d004a2ad90ae65d326025cc986d"), looks := false }, kinds := [], alts := [], laidByText := true, laidKinds := [.data, .pinned], laidTests := true, laidLooks := .later }
def MethNamesCardSaid : Prop := Claim7.holds Tryd.pinned (.plain (OpenSpec.ofChange methNamesSpec)) methNamesCard

/-- THE TIED CARD OF 'waybilllaw4.MethTells'. -/
def methTellsCard : Claim7 := { stood := { row := methTellsRow, standIns := [], harness := (true, "d14e99b6ea2653892a76f6997d26fc42c6834d004a2ad90ae65d326025cc986d"), looks := false }, kinds := [], alts := [], laidByText := true, laidKinds := [.data, .pinned], laidTests := true, laidLooks := .later }
def MethTellsCardSaid : Prop := Claim7.holds Tryd.pinned (.plain (OpenSpec.ofChange methTellsSpec)) methTellsCard

/-- THE TIED CARD OF 'waybilllaw4.MethBack'. -/
def methBackCard : Claim7 := { stood := { row := methBackRow, standIns := [], harness := (true, "d14e99b6ea2653892a76f6997d26fc42c6834d004a2ad90ae65d326025cc986d"), looks := false }, kinds := [], alts := [], laidByText := true, laidKinds := [.data, .pinned], laidTests := true, laidLooks := .later }
def MethBackCardSaid : Prop := Claim7.holds Tryd.pinned (.plain (OpenSpec.ofChange methBackSpec)) methBackCard

/-- THE TIED CARD OF 'waybilllaw4.MethForms'. -/
def methFormsCard : Claim7 := { stood := { row := methFormsRow, standIns := [], harness := (true, "d14e99b6ea2653892a76f6997d26fc42c6834d004a2ad90ae65d326025cc986d"), looks := false }, kinds := [], alts := [], laidByText := true, laidKinds := [.data, .pinned], laidTests := true, laidLooks := .later }
def MethFormsCardSaid : Prop := Claim7.holds Tryd.pinned (.plain (OpenSpec.ofChange methFormsSpec)) methFormsCard

/-- THE TIED CARD OF 'waybilllaw4.MethAsks'. -/
def methAsksCard : Claim7 := { stood := { row := methAsksRow, standIns := [], harness := (true, "d14e99b6ea2653892a76f6997d26fc42c6834d004a2ad90ae65d326025cc986d"), looks := false }, kinds := [], alts := [], laidByText := true, laidKinds := [.data, .pinned], laidTests := true, laidLooks := .later }
def MethAsksCardSaid : Prop := Claim7.holds Tryd.pinned (.plain (OpenSpec.ofChange methAsksSpec)) methAsksCard

/-- THE SECOND FORM's CARD OF 'waybilllaw4.MethFlags'. -/
def methFlagsUptoCard : Claim7 := { stood := { row := methFlagsUptoRow, standIns := [], harness := (true, "d14e99b6ea2653892a76f6997d26fc42c6834d004a2ad90ae65d326025cc986d"), looks := false }, kinds := [], alts := [], laidByText := true, laidKinds := [.data, .pinned], laidTests := true, laidLooks := .later }
def MethFlagsUptoCardSaid : Prop := Claim7.holds Tryd.pinned (.plain (OpenSpec.upto methFlagsSpec)) methFlagsUptoCard

/-- THE SECOND FORM's CARD OF 'waybilllaw4.MethNames'. -/
def methNamesUptoCard : Claim7 := { stood := { row := methNamesUptoRow, standIns := [], harness := (true, "d14e99b6ea2653892a76f6997d26fc42c6834d004a2ad90ae65d326025cc986d"), looks := false }, kinds := [], alts := [], laidByText := true, laidKinds := [.data, .pinned], laidTests := true, laidLooks := .later }
def MethNamesUptoCardSaid : Prop := Claim7.holds Tryd.pinned (.plain (OpenSpec.upto methNamesSpec)) methNamesUptoCard

/-- THE SECOND FORM's CARD OF 'waybilllaw4.MethTells'. -/
def methTellsUptoCard : Claim7 := { stood := { row := methTellsUptoRow, standIns := [], harness := (true, "d14e99b6ea2653892a76f6997d26fc42c6834d004a2ad90ae65d326025cc986d"), looks := false }, kinds := [], alts := [], laidByText := true, laidKinds := [.data, .pinned], laidTests := true, laidLooks := .later }
def MethTellsUptoCardSaid : Prop := Claim7.holds Tryd.pinned (.plain (OpenSpec.upto methTellsSpec)) methTellsUptoCard

/-- THE SECOND FORM's CARD OF 'waybilllaw4.MethBack'. -/
def methBackUptoCard : Claim7 := { stood := { row := methBackUptoRow, standIns := [], harness := (true, "d14e99b6ea2653892a76f6997d26fc42c6834d004a2ad90ae65d326025cc986d"), looks := false }, kinds := [], alts := [], laidByText := true, laidKinds := [.data, .pinned], laidTests := true, laidLooks := .later }
def MethBackUptoCardSaid : Prop := Claim7.holds Tryd.pinned (.plain (OpenSpec.upto methBackSpec)) methBackUptoCard

/-- THE SECOND FORM's CARD OF 'waybilllaw4.MethForms'. -/
def methFormsUptoCard : Claim7 := { stood := { row := methFormsUptoRow, standIns := [], harness := (true, "d14e99b6ea2653892a76f6997d26fc42c6834d004a2ad90ae65d326025cc986d"), looks := false }, kinds := [], alts := [], laidByText := true, laidKinds := [.data, .pinned], laidTests := true, laidLooks := .later }
def MethFormsUptoCardSaid : Prop := Claim7.holds Tryd.pinned (.plain (OpenSpec.upto methFormsSpec)) methFormsUptoCard

/-- THE SECOND FORM's CARD OF 'waybilllaw4.MethAsks'. -/
def methAsksUptoCard : Claim7 := { stood := { row := methAsksUptoRow, standIns := [], harness := (true, "d14e99b6ea2653892a76f6997d26fc42c6834d004a2ad90ae65d326025cc986d"), looks := false }, kinds := [], alts := [], laidByText := true, laidKinds := [.data, .pinned], laidTests := true, laidLooks := .later }
def MethAsksUptoCardSaid : Prop := Claim7.holds Tryd.pinned (.plain (OpenSpec.upto methAsksSpec)) methAsksUptoCard
end Rows
end Go.Proofs.YtfbodmlllgaipaaDoor
