/-
  DERIVED. GIVEN WITH THE SEED: THE CARDS: each row of YtlfppfknelddcaaDoorRows.lean that lists a variable, with what it lists TIED to the program's text (the seventh form; the later family's looks); each row that meets fmt, with fmt's text TOLD by the authors' own Lean function (tested against real Go, not proved from fmt's source: count such statements apart). THE CARD IS WHAT COUNTS. Prove the row's statement (the work); the ties are given (YtlfppfknelddcaaDoorTie.lean); close each card by the builder's one call (the guide's Derived/Test/ToyasCard.lean, 'card_holds'). Laid BY PROGRAM, IN A SANDBOX (cutbox-door.mjs). By AI agents, Wed Nov 11 2026. No macro, syntax, notation, axiom, sorry.
-/
import Derived.Test.YtlfppfknelddcaaDoorRows
import GoSem.ClaimSeven
namespace Go.Proofs.YtlfppfknelddcaaDoor
namespace Rows

/-- THE TIED CARD OF 'waybilllaw4.MethFlags'. -/
def methFlagsCard : Claim7 := { stood := { row := methFlagsRow, standIns := [], harness := (true, "08000b567d5422710c67a24e223390ab6b5c1bc36e38cd073a394b5b193ba35f"), looks := false }, kinds := [], alts := [], laidByText := true, laidKinds := [.data, .pinned], laidTests := true, laidLooks := .later }
def MethFlagsCardSaid : Prop := Claim7.holds Tryd.pinned (.plain (OpenSpec.ofChange methFlagsSpec)) methFlagsCard

/-- THE TIED CARD OF 'waybilllaw4.MethTells'. -/
def methTellsCard : Claim7 := { stood := { row := methTellsRow, standIns := [], harness := (true, "08000b567d5422710c67a24e223390ab6b5c1bc36e38cd073a394b5b193ba35f"), looks := false }, kinds := [], alts := [], laidByText := true, laidKinds := [.data, .pinned], laidTests := true, laidLooks := .later }
def MethTellsCardSaid : Prop := Claim7.holds Tryd.pinned (.plain (OpenSpec.ofChange methTellsSpec)) methTellsCard

/-- THE TIED CARD OF 'waybilllaw4.MethBack'. -/
def methBackCard : Claim7 := { stood := { row := methBackRow, standIns := [], harness := (true, "08000b567d5422710c67a24e223390ab6b5c1bc36e38cd073a394b5b193ba35f"), looks := false }, kinds := [], alts := [], laidByText := true, laidKinds := [.data, .pinned], laidTests := true, laidLooks := .later }
def MethBackCardSaid : Prop := Claim7.holds Tryd.pinned (.plain (OpenSpec.ofChange methBackSpec)) methBackCard

/-- THE TIED CARD OF 'waybilllaw4.MethAsks'. -/
def methAsksCard : Claim7 := { stood := { row := methAsksRow, standIns := [], harness := (true, "08000b567d5422710c67a24e223390ab6b5c1bc36e38cd073a394b5b193ba35f"), looks := false }, kinds := [], alts := [], laidByText := true, laidKinds := [.data, .pinned], laidTests := true, laidLooks := .later }
def MethAsksCardSaid : Prop := Claim7.holds Tryd.pinned (.plain (OpenSpec.ofChange methAsksSpec)) methAsksCard

/-- THE SECOND FORM's CARD OF 'waybilllaw4.MethFlags'. -/
def methFlagsUptoCard : Claim7 := { stood := { row := methFlagsUptoRow, standIns := [], harness := (true, "08000b567d5422710c67a24e223390ab6b5c1bc36e38cd073a394b5b193ba35f"), looks := false }, kinds := [], alts := [], laidByText := true, laidKinds := [.data, .pinned], laidTests := true, laidLooks := .later }
def MethFlagsUptoCardSaid : Prop := Claim7.holds Tryd.pinned (.plain (OpenSpec.upto methFlagsSpec)) methFlagsUptoCard

/-- THE SECOND FORM's CARD OF 'waybilllaw4.MethTells'. -/
def methTellsUptoCard : Claim7 := { stood := { row := methTellsUptoRow, standIns := [], harness := (true, "08000b567d5422710c67a24e223390ab6b5c1bc36e38cd073a394b5b193ba35f"), looks := false }, kinds := [], alts := [], laidByText := true, laidKinds := [.data, .pinned], laidTests := true, laidLooks := .later }
def MethTellsUptoCardSaid : Prop := Claim7.holds Tryd.pinned (.plain (OpenSpec.upto methTellsSpec)) methTellsUptoCard

/-- THE SECOND FORM's CARD OF 'waybilllaw4.MethBack'. -/
def methBackUptoCard : Claim7 := { stood := { row := methBackUptoRow, standIns := [], harness := (true, "08000b567d5422710c67a24e223390ab6b5c1bc36e38cd073a394b5b193ba35f"), looks := false }, kinds := [], alts := [], laidByText := true, laidKinds := [.data, .pinned], laidTests := true, laidLooks := .later }
def MethBackUptoCardSaid : Prop := Claim7.holds Tryd.pinned (.plain (OpenSpec.upto methBackSpec)) methBackUptoCard

/-- THE SECOND FORM's CARD OF 'waybilllaw4.MethAsks'. -/
def methAsksUptoCard : Claim7 := { stood := { row := methAsksUptoRow, standIns := [], harness := (true, "08000b567d5422710c67a24e223390ab6b5c1bc36e38cd073a394b5b193ba35f"), looks := false }, kinds := [], alts := [], laidByText := true, laidKinds := [.data, .pinned], laidTests := true, laidLooks := .later }
def MethAsksUptoCardSaid : Prop := Claim7.holds Tryd.pinned (.plain (OpenSpec.upto methAsksSpec)) methAsksUptoCard
end Rows
end Go.Proofs.YtlfppfknelddcaaDoor
