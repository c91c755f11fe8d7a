/-
  DERIVED. GIVEN WITH THE SEED: THE CARDS: each row of YtbjpkffhpdcapaaDoorRows.lean that lists a variable, with what it lists TIED to the program's text (the seventh form; the later family's looks); each row that meets fmt, with fmt's text TOLD by the authors' own Lean function (tested against real Go, not proved from fmt's source: count such statements apart). THE CARD IS WHAT COUNTS. Prove the row's statement (the work); the ties are given (YtbjpkffhpdcapaaDoorTie.lean); close each card by the builder's one call (the guide's Derived/Test/ToyasCard.lean, 'card_holds'). Laid BY PROGRAM, IN A SANDBOX (cutbox-door.mjs). By AI agents, Wed Nov 11 2026. No macro, syntax, notation, axiom, sorry.
-/
import Derived.Test.YtbjpkffhpdcapaaDoorRows
import GoSem.ClaimSeven
namespace Go.Proofs.YtbjpkffhpdcapaaDoor
namespace Rows

/-- THE TIED CARD OF 'souklaw07.UpcastSays'. -/
def upcastSaysCard : Claim7 := { stood := { row := upcastSaysRow, standIns := [], harness := (true, "5908bd1c50a600a8b70e2a51edf272d1bcaa4117faeee0ea6e85f185c9d812ce"), looks := false }, kinds := [], alts := [], laidByText := true, laidKinds := [.data, .data], laidTests := true, laidLooks := .later }
def UpcastSaysCardSaid : Prop := Claim7.holds Tryd.pinned (.plain (OpenSpec.ofChange upcastSaysSpec)) upcastSaysCard

/-- THE TIED CARD OF 'souklaw07.UpcastBack'. -/
def upcastBackCard : Claim7 := { stood := { row := upcastBackRow, standIns := [], harness := (true, "5908bd1c50a600a8b70e2a51edf272d1bcaa4117faeee0ea6e85f185c9d812ce"), looks := false }, kinds := [], alts := [], laidByText := true, laidKinds := [.data, .data], laidTests := true, laidLooks := .later }
def UpcastBackCardSaid : Prop := Claim7.holds Tryd.pinned (.plain (OpenSpec.ofChange upcastBackSpec)) upcastBackCard

/-- THE TIED CARD OF 'souklaw07.UpcastOne'. -/
def upcastOneCard : Claim7 := { stood := { row := upcastOneRow, standIns := [], harness := (true, "5908bd1c50a600a8b70e2a51edf272d1bcaa4117faeee0ea6e85f185c9d812ce"), looks := false }, kinds := [], alts := [], laidByText := true, laidKinds := [.data, .data], laidTests := true, laidLooks := .later }
def UpcastOneCardSaid : Prop := Claim7.holds Tryd.pinned (.plain (OpenSpec.ofChange upcastOneSpec)) upcastOneCard

/-- THE TIED CARD OF 'souklaw07.UpcastLists'. -/
def upcastListsCard : Claim7 := { stood := { row := upcastListsRow, standIns := [], harness := (true, "5908bd1c50a600a8b70e2a51edf272d1bcaa4117faeee0ea6e85f185c9d812ce"), looks := false }, kinds := [], alts := [], laidByText := true, laidKinds := [.data, .data], laidTests := true, laidLooks := .later }
def UpcastListsCardSaid : Prop := Claim7.holds Tryd.pinned (.plain (OpenSpec.ofChange upcastListsSpec)) upcastListsCard

/-- THE SECOND FORM's CARD OF 'souklaw07.UpcastSays'. -/
def upcastSaysUptoCard : Claim7 := { stood := { row := upcastSaysUptoRow, standIns := [], harness := (true, "5908bd1c50a600a8b70e2a51edf272d1bcaa4117faeee0ea6e85f185c9d812ce"), looks := false }, kinds := [], alts := [], laidByText := true, laidKinds := [.data, .data], laidTests := true, laidLooks := .later }
def UpcastSaysUptoCardSaid : Prop := Claim7.holds Tryd.pinned (.plain (OpenSpec.upto upcastSaysSpec)) upcastSaysUptoCard

/-- THE SECOND FORM's CARD OF 'souklaw07.UpcastBack'. -/
def upcastBackUptoCard : Claim7 := { stood := { row := upcastBackUptoRow, standIns := [], harness := (true, "5908bd1c50a600a8b70e2a51edf272d1bcaa4117faeee0ea6e85f185c9d812ce"), looks := false }, kinds := [], alts := [], laidByText := true, laidKinds := [.data, .data], laidTests := true, laidLooks := .later }
def UpcastBackUptoCardSaid : Prop := Claim7.holds Tryd.pinned (.plain (OpenSpec.upto upcastBackSpec)) upcastBackUptoCard

/-- THE SECOND FORM's CARD OF 'souklaw07.UpcastOne'. -/
def upcastOneUptoCard : Claim7 := { stood := { row := upcastOneUptoRow, standIns := [], harness := (true, "5908bd1c50a600a8b70e2a51edf272d1bcaa4117faeee0ea6e85f185c9d812ce"), looks := false }, kinds := [], alts := [], laidByText := true, laidKinds := [.data, .data], laidTests := true, laidLooks := .later }
def UpcastOneUptoCardSaid : Prop := Claim7.holds Tryd.pinned (.plain (OpenSpec.upto upcastOneSpec)) upcastOneUptoCard

/-- THE SECOND FORM's CARD OF 'souklaw07.UpcastLists'. -/
def upcastListsUptoCard : Claim7 := { stood := { row := upcastListsUptoRow, standIns := [], harness := (true, "5908bd1c50a600a8b70e2a51edf272d1bcaa4117faeee0ea6e85f185c9d812ce"), looks := false }, kinds := [], alts := [], laidByText := true, laidKinds := [.data, .data], laidTests := true, laidLooks := .later }
def UpcastListsUptoCardSaid : Prop := Claim7.holds Tryd.pinned (.plain (OpenSpec.upto upcastListsSpec)) upcastListsUptoCard
end Rows
end Go.Proofs.YtbjpkffhpdcapaaDoor
