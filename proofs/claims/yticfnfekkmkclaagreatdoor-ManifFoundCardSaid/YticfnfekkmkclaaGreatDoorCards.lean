/-
  DERIVED. GIVEN WITH THE SEED: THE CARDS: each row of YticfnfekkmkclaaGreatDoorRows.lean that lists a variable, with what it lists TIED to the program's text (the seventh form; the later family's looks); each row that meets fmt, with fmt's text TOLD by the authors' own Lean function (tested against real Go, not proved from fmt's source: count such statements apart). THE CARD IS WHAT COUNTS. Prove the row's statement (the work); the ties are given (YticfnfekkmkclaaGreatDoorTie.lean); close each card by the builder's one call (the guide's Derived/Test/ToyasCard.lean, 'card_holds'). Laid BY PROGRAM, IN A SANDBOX (cutbox-door.mjs). By AI agents, Wed Nov 11 2026. No macro, syntax, notation, axiom, sorry.
-/
import Derived.Test.YticfnfekkmkclaaGreatDoorRows
import GoSem.ClaimSeven
namespace Go.Proofs.YticfnfekkmkclaaGreatDoor
namespace Rows

/-- THE TIED CARD OF 'souklaw13.ManifNames'. -/
def manifNamesCard : Claim7 := { stood := { row := manifNamesRow, standIns := [], harness := (true, "31aebfadb952389067828a1ab5acf19cce18041f7b37ef285c039ab465bcdab4"), looks := true }, kinds := [], alts := [], laidByText := true, laidKinds := [.data, .data, .data], laidTests := true, laidLooks := .later }
def ManifNamesCardSaid : Prop := Claim7.holds Tryz.pinned (.plain (OpenSpec.ofChange manifNamesSpec)) manifNamesCard

/-- THE TIED CARD OF 'souklaw13.ManifSwaps'. -/
def manifSwapsCard : Claim7 := { stood := { row := manifSwapsRow, standIns := [], harness := (true, "31aebfadb952389067828a1ab5acf19cce18041f7b37ef285c039ab465bcdab4"), looks := true }, kinds := [], alts := [], laidByText := true, laidKinds := [.data, .data, .data], laidTests := true, laidLooks := .later }
def ManifSwapsCardSaid : Prop := Claim7.holds Tryz.pinned (.plain (OpenSpec.ofChange manifSwapsSpec)) manifSwapsCard

/-- THE TIED CARD OF 'souklaw13.ManifBack'. -/
def manifBackCard : Claim7 := { stood := { row := manifBackRow, standIns := [], harness := (true, "31aebfadb952389067828a1ab5acf19cce18041f7b37ef285c039ab465bcdab4"), looks := true }, kinds := [], alts := [], laidByText := true, laidKinds := [.data, .data, .data], laidTests := true, laidLooks := .later }
def ManifBackCardSaid : Prop := Claim7.holds Tryz.pinned (.plain (OpenSpec.ofChange manifBackSpec)) manifBackCard

/-- THE TIED CARD OF 'souklaw13.ManifWhole'. -/
def manifWholeCard : Claim7 := { stood := { row := manifWholeRow, standIns := [], harness := (true, "31aebfadb952389067828a1ab5acf19cce18041f7b37ef285c039ab465bcdab4"), looks := true }, kinds := [], alts := [], laidByText := true, laidKinds := [.data, .data, .data], laidTests := true, laidLooks := .later }
def ManifWholeCardSaid : Prop := Claim7.holds Tryz.pinned (.plain (OpenSpec.ofChange manifWholeSpec)) manifWholeCard

/-- THE TIED CARD OF 'souklaw13.ManifRoom'. -/
def manifRoomCard : Claim7 := { stood := { row := manifRoomRow, standIns := [], harness := (true, "31aebfadb952389067828a1ab5acf19cce18041f7b37ef285c039ab465bcdab4"), looks := true }, kinds := [], alts := [], laidByText := true, laidKinds := [.data, .data, .data], laidTests := true, laidLooks := .later }
def ManifRoomCardSaid : Prop := Claim7.holds Tryz.pinned (.plain (OpenSpec.ofChange manifRoomSpec)) manifRoomCard

/-- THE TIED CARD OF 'souklaw13.ManifFound'. -/
def manifFoundCard : Claim7 := { stood := { row := manifFoundRow, standIns := [], harness := (true, "31aebfadb952389067828a1ab5acf19cce18041f7b37ef285c039ab465bcdab4"), looks := true }, kinds := [], alts := [], laidByText := true, laidKinds := [.data, .data, .data, .sentinel, .sentinel], laidTests := true, laidLooks := .later }
def ManifFoundCardSaid : Prop := Claim7.holds Tryz.pinned (.plain (OpenSpec.ofChange manifFoundSpec)) manifFoundCard

/-- THE TIED CARD OF 'souklaw13.ManifBurst'. -/
def manifBurstCard : Claim7 := { stood := { row := manifBurstRow, standIns := [], harness := (true, "31aebfadb952389067828a1ab5acf19cce18041f7b37ef285c039ab465bcdab4"), looks := true }, kinds := [], alts := [], laidByText := true, laidKinds := [.data, .data, .data], laidTests := true, laidLooks := .later }
def ManifBurstCardSaid : Prop := Claim7.holds Tryz.pinned (.plain (OpenSpec.ofChange manifBurstSpec)) manifBurstCard

/-- THE SECOND FORM's CARD OF 'souklaw13.ManifNames'. -/
def manifNamesUptoCard : Claim7 := { stood := { row := manifNamesUptoRow, standIns := [], harness := (true, "31aebfadb952389067828a1ab5acf19cce18041f7b37ef285c039ab465bcdab4"), looks := true }, kinds := [], alts := [], laidByText := true, laidKinds := [.data, .data, .data], laidTests := true, laidLooks := .later }
def ManifNamesUptoCardSaid : Prop := Claim7.holds Tryz.pinned (.plain (OpenSpec.upto manifNamesSpec)) manifNamesUptoCard

/-- THE SECOND FORM's CARD OF 'souklaw13.ManifSwaps'. -/
def manifSwapsUptoCard : Claim7 := { stood := { row := manifSwapsUptoRow, standIns := [], harness := (true, "31aebfadb952389067828a1ab5acf19cce18041f7b37ef285c039ab465bcdab4"), looks := true }, kinds := [], alts := [], laidByText := true, laidKinds := [.data, .data, .data], laidTests := true, laidLooks := .later }
def ManifSwapsUptoCardSaid : Prop := Claim7.holds Tryz.pinned (.plain (OpenSpec.upto manifSwapsSpec)) manifSwapsUptoCard

/-- THE SECOND FORM's CARD OF 'souklaw13.ManifBack'. -/
def manifBackUptoCard : Claim7 := { stood := { row := manifBackUptoRow, standIns := [], harness := (true, "31aebfadb952389067828a1ab5acf19cce18041f7b37ef285c039ab465bcdab4"), looks := true }, kinds := [], alts := [], laidByText := true, laidKinds := [.data, .data, .data], laidTests := true, laidLooks := .later }
def ManifBackUptoCardSaid : Prop := Claim7.holds Tryz.pinned (.plain (OpenSpec.upto manifBackSpec)) manifBackUptoCard

/-- THE SECOND FORM's CARD OF 'souklaw13.ManifWhole'. -/
def manifWholeUptoCard : Claim7 := { stood := { row := manifWholeUptoRow, standIns := [], harness := (true, "31aebfadb952389067828a1ab5acf19cce18041f7b37ef285c039ab465bcdab4"), looks := true }, kinds := [], alts := [], laidByText := true, laidKinds := [.data, .data, .data], laidTests := true, laidLooks := .later }
def ManifWholeUptoCardSaid : Prop := Claim7.holds Tryz.pinned (.plain (OpenSpec.upto manifWholeSpec)) manifWholeUptoCard

/-- THE SECOND FORM's CARD OF 'souklaw13.ManifRoom'. -/
def manifRoomUptoCard : Claim7 := { stood := { row := manifRoomUptoRow, standIns := [], harness := (true, "31aebfadb952389067828a1ab5acf19cce18041f7b37ef285c039ab465bcdab4"), looks := true }, kinds := [], alts := [], laidByText := true, laidKinds := [.data, .data, .data], laidTests := true, laidLooks := .later }
def ManifRoomUptoCardSaid : Prop := Claim7.holds Tryz.pinned (.plain (OpenSpec.upto manifRoomSpec)) manifRoomUptoCard

/-- THE SECOND FORM's CARD OF 'souklaw13.ManifFound'. -/
def manifFoundUptoCard : Claim7 := { stood := { row := manifFoundUptoRow, standIns := [], harness := (true, "31aebfadb952389067828a1ab5acf19cce18041f7b37ef285c039ab465bcdab4"), looks := true }, kinds := [], alts := [], laidByText := true, laidKinds := [.data, .data, .data, .sentinel, .sentinel], laidTests := true, laidLooks := .later }
def ManifFoundUptoCardSaid : Prop := Claim7.holds Tryz.pinned (.plain (OpenSpec.upto manifFoundSpec)) manifFoundUptoCard

/-- THE SECOND FORM's CARD OF 'souklaw13.ManifBurst'. -/
def manifBurstUptoCard : Claim7 := { stood := { row := manifBurstUptoRow, standIns := [], harness := (true, "31aebfadb952389067828a1ab5acf19cce18041f7b37ef285c039ab465bcdab4"), looks := true }, kinds := [], alts := [], laidByText := true, laidKinds := [.data, .data, .data], laidTests := true, laidLooks := .later }
def ManifBurstUptoCardSaid : Prop := Claim7.holds Tryz.pinned (.plain (OpenSpec.upto manifBurstSpec)) manifBurstUptoCard
end Rows
end Go.Proofs.YticfnfekkmkclaaGreatDoor
