/-
  DERIVED. GIVEN WITH THE SEED: THE CARDS: each row of YtlfcihanhfabmaaGreatDoorRows.lean that lists a variable, with what it lists TIED to the program's text (the seventh form; the later family's looks); each row that meets fmt, with fmt's text TOLD by the authors' own Lean function (tested against real Go, not proved from fmt's source: count such statements apart). THE CARD IS WHAT COUNTS. Prove the row's statement (the work); the ties are given (YtlfcihanhfabmaaGreatDoorTie.lean); close each card by the builder's one call (the guide's Derived/Test/ToyasCard.lean, 'card_holds'). Laid BY PROGRAM, IN A SANDBOX (cutbox-door.mjs). By AI agents, Wed Nov 11 2026. No macro, syntax, notation, axiom, sorry.
-/
import Derived.Test.YtlfcihanhfabmaaGreatDoorRows
import GoSem.ClaimSeven
namespace Go.Proofs.YtlfcihanhfabmaaGreatDoor
namespace Rows

/-- THE TIED CARD OF 'handbelllaw16.NotationTexts'. -/
def notationTextsCard : Claim7 := { stood := { row := notationTextsRow, standIns := [], harness := (true, "d0eccc5398abd9fa469ea4dcc6abfd137c203abd701577b9714d55e38fb3c1bb"), looks := true }, kinds := [], alts := [], laidByText := true, laidKinds := [.data, .data, .data, .sentinel, .sentinel], laidTests := true, laidLooks := .later }
def NotationTextsCardSaid : Prop := Claim7.holds Tryz.pinned (.plain (OpenSpec.ofChange notationTextsSpec)) notationTextsCard

/-- THE TIED CARD OF 'handbelllaw16.NotationParses'. -/
def notationParsesCard : Claim7 := { stood := { row := notationParsesRow, standIns := [], harness := (true, "d0eccc5398abd9fa469ea4dcc6abfd137c203abd701577b9714d55e38fb3c1bb"), looks := true }, kinds := [], alts := [], laidByText := true, laidKinds := [.data, .data, .data, .sentinel, .sentinel], laidTests := true, laidLooks := .later }
def NotationParsesCardSaid : Prop := Claim7.holds Tryz.pinned (.plain (OpenSpec.ofChange notationParsesSpec)) notationParsesCard

/-- THE TIED CARD OF 'handbelllaw16.NotationBack'. -/
def notationBackCard : Claim7 := { stood := { row := notationBackRow, standIns := [], harness := (true, "d0eccc5398abd9fa469ea4dcc6abfd137c203abd701577b9714d55e38fb3c1bb"), looks := true }, kinds := [], alts := [], laidByText := true, laidKinds := [.data, .data, .data, .sentinel, .sentinel], laidTests := true, laidLooks := .later }
def NotationBackCardSaid : Prop := Claim7.holds Tryz.pinned (.plain (OpenSpec.ofChange notationBackSpec)) notationBackCard

/-- THE TIED CARD OF 'handbelllaw16.NotationBlanks'. -/
def notationBlanksCard : Claim7 := { stood := { row := notationBlanksRow, standIns := [], harness := (true, "d0eccc5398abd9fa469ea4dcc6abfd137c203abd701577b9714d55e38fb3c1bb"), looks := true }, kinds := [], alts := [], laidByText := true, laidKinds := [.data, .data, .data, .sentinel, .sentinel], laidTests := true, laidLooks := .later }
def NotationBlanksCardSaid : Prop := Claim7.holds Tryz.pinned (.plain (OpenSpec.ofChange notationBlanksSpec)) notationBlanksCard

/-- THE TIED CARD OF 'handbelllaw16.NotationPlace'. -/
def notationPlaceCard : Claim7 := { stood := { row := notationPlaceRow, standIns := [], harness := (true, "d0eccc5398abd9fa469ea4dcc6abfd137c203abd701577b9714d55e38fb3c1bb"), looks := true }, kinds := [], alts := [], laidByText := true, laidKinds := [.data, .data, .data, .sentinel, .sentinel], laidTests := true, laidLooks := .later }
def NotationPlaceCardSaid : Prop := Claim7.holds Tryz.pinned (.plain (OpenSpec.ofChange notationPlaceSpec)) notationPlaceCard

/-- THE TIED CARD OF 'handbelllaw16.NotationKnown'. -/
def notationKnownCard : Claim7 := { stood := { row := notationKnownRow, standIns := [], harness := (true, "d0eccc5398abd9fa469ea4dcc6abfd137c203abd701577b9714d55e38fb3c1bb"), looks := true }, kinds := [], alts := [], laidByText := true, laidKinds := [.data, .data, .data, .sentinel, .sentinel], laidTests := true, laidLooks := .later }
def NotationKnownCardSaid : Prop := Claim7.holds Tryz.pinned (.plain (OpenSpec.ofChange notationKnownSpec)) notationKnownCard

/-- THE SECOND FORM's CARD OF 'handbelllaw16.NotationTexts'. -/
def notationTextsUptoCard : Claim7 := { stood := { row := notationTextsUptoRow, standIns := [], harness := (true, "d0eccc5398abd9fa469ea4dcc6abfd137c203abd701577b9714d55e38fb3c1bb"), looks := true }, kinds := [], alts := [], laidByText := true, laidKinds := [.data, .data, .data, .sentinel, .sentinel], laidTests := true, laidLooks := .later }
def NotationTextsUptoCardSaid : Prop := Claim7.holds Tryz.pinned (.plain (OpenSpec.upto notationTextsSpec)) notationTextsUptoCard

/-- THE SECOND FORM's CARD OF 'handbelllaw16.NotationParses'. -/
def notationParsesUptoCard : Claim7 := { stood := { row := notationParsesUptoRow, standIns := [], harness := (true, "d0eccc5398abd9fa469ea4dcc6abfd137c203abd701577b9714d55e38fb3c1bb"), looks := true }, kinds := [], alts := [], laidByText := true, laidKinds := [.data, .data, .data, .sentinel, .sentinel], laidTests := true, laidLooks := .later }
def NotationParsesUptoCardSaid : Prop := Claim7.holds Tryz.pinned (.plain (OpenSpec.upto notationParsesSpec)) notationParsesUptoCard

/-- THE SECOND FORM's CARD OF 'handbelllaw16.NotationBack'. -/
def notationBackUptoCard : Claim7 := { stood := { row := notationBackUptoRow, standIns := [], harness := (true, "d0eccc5398abd9fa469ea4dcc6abfd137c203abd701577b9714d55e38fb3c1bb"), looks := true }, kinds := [], alts := [], laidByText := true, laidKinds := [.data, .data, .data, .sentinel, .sentinel], laidTests := true, laidLooks := .later }
def NotationBackUptoCardSaid : Prop := Claim7.holds Tryz.pinned (.plain (OpenSpec.upto notationBackSpec)) notationBackUptoCard

/-- THE SECOND FORM's CARD OF 'handbelllaw16.NotationBlanks'. -/
def notationBlanksUptoCard : Claim7 := { stood := { row := notationBlanksUptoRow, standIns := [], harness := (true, "d0eccc5398abd9fa469ea4dcc6abfd137c203abd701577b9714d55e38fb3c1bb"), looks := true }, kinds := [], alts := [], laidByText := true, laidKinds := [.data, .data, .data, .sentinel, .sentinel], laidTests := true, laidLooks := .later }
def NotationBlanksUptoCardSaid : Prop := Claim7.holds Tryz.pinned (.plain (OpenSpec.upto notationBlanksSpec)) notationBlanksUptoCard

/-- THE SECOND FORM's CARD OF 'handbelllaw16.NotationPlace'. -/
def notationPlaceUptoCard : Claim7 := { stood := { row := notationPlaceUptoRow, standIns := [], harness := (true, "d0eccc5398abd9fa469ea4dcc6abfd137c203abd701577b9714d55e38fb3c1bb"), looks := true }, kinds := [], alts := [], laidByText := true, laidKinds := [.data, .data, .data, .sentinel, .sentinel], laidTests := true, laidLooks := .later }
def NotationPlaceUptoCardSaid : Prop := Claim7.holds Tryz.pinned (.plain (OpenSpec.upto notationPlaceSpec)) notationPlaceUptoCard

/-- THE SECOND FORM's CARD OF 'handbelllaw16.NotationKnown'. -/
def notationKnownUptoCard : Claim7 := { stood := { row := notationKnownUptoRow, standIns := [], harness := (true, "d0eccc5398abd9fa469ea4dcc6abfd137c203abd701577b9714d55e38fb3c1bb"), looks := true }, kinds := [], alts := [], laidByText := true, laidKinds := [.data, .data, .data, .sentinel, .sentinel], laidTests := true, laidLooks := .later }
def NotationKnownUptoCardSaid : Prop := Claim7.holds Tryz.pinned (.plain (OpenSpec.upto notationKnownSpec)) notationKnownUptoCard
end Rows
end Go.Proofs.YtlfcihanhfabmaaGreatDoor
