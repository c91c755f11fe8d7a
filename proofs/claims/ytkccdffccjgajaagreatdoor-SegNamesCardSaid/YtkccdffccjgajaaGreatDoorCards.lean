/-
  DERIVED. GIVEN WITH THE SEED: THE CARDS: each row of YtkccdffccjgajaaGreatDoorRows.lean that lists a variable, with what it lists TIED to the program's text (the seventh form; the later family's looks); each row that meets fmt, with fmt's text TOLD by the authors' own Lean function (tested against real Go, not proved from fmt's source: count such statements apart). THE CARD IS WHAT COUNTS. Prove the row's statement (the work); the ties are given (YtkccdffccjgajaaGreatDoorTie.lean); close each card by the builder's one call (the guide's Derived/Test/ToyasCard.lean, 'card_holds'). Laid BY PROGRAM, IN A SANDBOX (cutbox-door.mjs). By AI agents, Wed Nov 11 2026. No macro, syntax, notation, axiom, sorry.
-/
import Derived.Test.YtkccdffccjgajaaGreatDoorRows
import GoSem.ClaimSeven
namespace Go.Proofs.YtkccdffccjgajaaGreatDoor
namespace Rows

/-- THE TIED CARD OF 'souklaw11.SegNames'. -/
def segNamesCard : Claim7 := { stood := { row := segNamesRow, standIns := [], harness := (true, "9b70575f19b1b07eefa65663dc0126d8f1129e18e93bfc3a4e872e5edf2bf374"), looks := true }, kinds := [], alts := [], laidByText := true, laidKinds := [.data, .data, .data, .sentinel, .sentinel], laidTests := true, laidLooks := .later }
def SegNamesCardSaid : Prop := Claim7.holds Tryz.pinned (.plain (OpenSpec.ofChange segNamesSpec)) segNamesCard

/-- THE TIED CARD OF 'souklaw11.SegHeads'. -/
def segHeadsCard : Claim7 := { stood := { row := segHeadsRow, standIns := [], harness := (true, "9b70575f19b1b07eefa65663dc0126d8f1129e18e93bfc3a4e872e5edf2bf374"), looks := true }, kinds := [], alts := [], laidByText := true, laidKinds := [.data, .data, .data, .sentinel, .sentinel], laidTests := true, laidLooks := .later }
def SegHeadsCardSaid : Prop := Claim7.holds Tryz.pinned (.plain (OpenSpec.ofChange segHeadsSpec)) segHeadsCard

/-- THE TIED CARD OF 'souklaw11.SegScans'. -/
def segScansCard : Claim7 := { stood := { row := segScansRow, standIns := [], harness := (true, "9b70575f19b1b07eefa65663dc0126d8f1129e18e93bfc3a4e872e5edf2bf374"), looks := true }, kinds := [], alts := [], laidByText := true, laidKinds := [.data, .data, .data, .sentinel, .sentinel], laidTests := true, laidLooks := .later }
def SegScansCardSaid : Prop := Claim7.holds Tryz.pinned (.plain (OpenSpec.ofChange segScansSpec)) segScansCard

/-- THE TIED CARD OF 'souklaw11.SegJoins'. -/
def segJoinsCard : Claim7 := { stood := { row := segJoinsRow, standIns := [], harness := (true, "9b70575f19b1b07eefa65663dc0126d8f1129e18e93bfc3a4e872e5edf2bf374"), looks := true }, kinds := [], alts := [], laidByText := true, laidKinds := [.data, .data, .data, .sentinel, .sentinel], laidTests := true, laidLooks := .later }
def SegJoinsCardSaid : Prop := Claim7.holds Tryz.pinned (.plain (OpenSpec.ofChange segJoinsSpec)) segJoinsCard

/-- THE TIED CARD OF 'souklaw11.SegBack'. -/
def segBackCard : Claim7 := { stood := { row := segBackRow, standIns := [], harness := (true, "9b70575f19b1b07eefa65663dc0126d8f1129e18e93bfc3a4e872e5edf2bf374"), looks := true }, kinds := [], alts := [], laidByText := true, laidKinds := [.data, .data, .data, .sentinel, .sentinel], laidTests := true, laidLooks := .later }
def SegBackCardSaid : Prop := Claim7.holds Tryz.pinned (.plain (OpenSpec.ofChange segBackSpec)) segBackCard

/-- THE TIED CARD OF 'souklaw11.SegTorn'. -/
def segTornCard : Claim7 := { stood := { row := segTornRow, standIns := [], harness := (true, "9b70575f19b1b07eefa65663dc0126d8f1129e18e93bfc3a4e872e5edf2bf374"), looks := true }, kinds := [], alts := [], laidByText := true, laidKinds := [.data, .data, .data, .sentinel, .sentinel], laidTests := true, laidLooks := .later }
def SegTornCardSaid : Prop := Claim7.holds Tryz.pinned (.plain (OpenSpec.ofChange segTornSpec)) segTornCard

/-- THE TIED CARD OF 'souklaw11.SegSplit'. -/
def segSplitCard : Claim7 := { stood := { row := segSplitRow, standIns := [], harness := (true, "9b70575f19b1b07eefa65663dc0126d8f1129e18e93bfc3a4e872e5edf2bf374"), looks := true }, kinds := [], alts := [], laidByText := true, laidKinds := [.data, .data, .data, .sentinel, .sentinel], laidTests := true, laidLooks := .later }
def SegSplitCardSaid : Prop := Claim7.holds Tryz.pinned (.plain (OpenSpec.ofChange segSplitSpec)) segSplitCard

/-- THE TIED CARD OF 'souklaw11.SegCalled'. -/
def segCalledCard : Claim7 := { stood := { row := segCalledRow, standIns := [], harness := (true, "9b70575f19b1b07eefa65663dc0126d8f1129e18e93bfc3a4e872e5edf2bf374"), looks := true }, kinds := [], alts := [], laidByText := true, laidKinds := [.data, .data, .data, .sentinel, .sentinel], laidTests := true, laidLooks := .later }
def SegCalledCardSaid : Prop := Claim7.holds Tryz.pinned (.plain (OpenSpec.ofChange segCalledSpec)) segCalledCard

/-- THE TIED CARD OF 'souklaw11.SegBurst'. -/
def segBurstCard : Claim7 := { stood := { row := segBurstRow, standIns := [], harness := (true, "9b70575f19b1b07eefa65663dc0126d8f1129e18e93bfc3a4e872e5edf2bf374"), looks := true }, kinds := [], alts := [], laidByText := true, laidKinds := [.data, .data, .data, .sentinel, .sentinel], laidTests := true, laidLooks := .later }
def SegBurstCardSaid : Prop := Claim7.holds Tryz.pinned (.plain (OpenSpec.ofChange segBurstSpec)) segBurstCard

/-- THE SECOND FORM's CARD OF 'souklaw11.SegNames'. -/
def segNamesUptoCard : Claim7 := { stood := { row := segNamesUptoRow, standIns := [], harness := (true, "9b70575f19b1b07eefa65663dc0126d8f1129e18e93bfc3a4e872e5edf2bf374"), looks := true }, kinds := [], alts := [], laidByText := true, laidKinds := [.data, .data, .data, .sentinel, .sentinel], laidTests := true, laidLooks := .later }
def SegNamesUptoCardSaid : Prop := Claim7.holds Tryz.pinned (.plain (OpenSpec.upto segNamesSpec)) segNamesUptoCard

/-- THE SECOND FORM's CARD OF 'souklaw11.SegHeads'. -/
def segHeadsUptoCard : Claim7 := { stood := { row := segHeadsUptoRow, standIns := [], harness := (true, "9b70575f19b1b07eefa65663dc0126d8f1129e18e93bfc3a4e872e5edf2bf374"), looks := true }, kinds := [], alts := [], laidByText := true, laidKinds := [.data, .data, .data, .sentinel, .sentinel], laidTests := true, laidLooks := .later }
def SegHeadsUptoCardSaid : Prop := Claim7.holds Tryz.pinned (.plain (OpenSpec.upto segHeadsSpec)) segHeadsUptoCard

/-- THE SECOND FORM's CARD OF 'souklaw11.SegScans'. -/
def segScansUptoCard : Claim7 := { stood := { row := segScansUptoRow, standIns := [], harness := (true, "9b70575f19b1b07eefa65663dc0126d8f1129e18e93bfc3a4e872e5edf2bf374"), looks := true }, kinds := [], alts := [], laidByText := true, laidKinds := [.data, .data, .data, .sentinel, .sentinel], laidTests := true, laidLooks := .later }
def SegScansUptoCardSaid : Prop := Claim7.holds Tryz.pinned (.plain (OpenSpec.upto segScansSpec)) segScansUptoCard

/-- THE SECOND FORM's CARD OF 'souklaw11.SegJoins'. -/
def segJoinsUptoCard : Claim7 := { stood := { row := segJoinsUptoRow, standIns := [], harness := (true, "9b70575f19b1b07eefa65663dc0126d8f1129e18e93bfc3a4e872e5edf2bf374"), looks := true }, kinds := [], alts := [], laidByText := true, laidKinds := [.data, .data, .data, .sentinel, .sentinel], laidTests := true, laidLooks := .later }
def SegJoinsUptoCardSaid : Prop := Claim7.holds Tryz.pinned (.plain (OpenSpec.upto segJoinsSpec)) segJoinsUptoCard

/-- THE SECOND FORM's CARD OF 'souklaw11.SegBack'. -/
def segBackUptoCard : Claim7 := { stood := { row := segBackUptoRow, standIns := [], harness := (true, "9b70575f19b1b07eefa65663dc0126d8f1129e18e93bfc3a4e872e5edf2bf374"), looks := true }, kinds := [], alts := [], laidByText := true, laidKinds := [.data, .data, .data, .sentinel, .sentinel], laidTests := true, laidLooks := .later }
def SegBackUptoCardSaid : Prop := Claim7.holds Tryz.pinned (.plain (OpenSpec.upto segBackSpec)) segBackUptoCard

/-- THE SECOND FORM's CARD OF 'souklaw11.SegTorn'. -/
def segTornUptoCard : Claim7 := { stood := { row := segTornUptoRow, standIns := [], harness := (true, "9b70575f19b1b07eefa65663dc0126d8f1129e18e93bfc3a4e872e5edf2bf374"), looks := true }, kinds := [], alts := [], laidByText := true, laidKinds := [.data, .data, .data, .sentinel, .sentinel], laidTests := true, laidLooks := .later }
def SegTornUptoCardSaid : Prop := Claim7.holds Tryz.pinned (.plain (OpenSpec.upto segTornSpec)) segTornUptoCard

/-- THE SECOND FORM's CARD OF 'souklaw11.SegSplit'. -/
def segSplitUptoCard : Claim7 := { stood := { row := segSplitUptoRow, standIns := [], harness := (true, "9b70575f19b1b07eefa65663dc0126d8f1129e18e93bfc3a4e872e5edf2bf374"), looks := true }, kinds := [], alts := [], laidByText := true, laidKinds := [.data, .data, .data, .sentinel, .sentinel], laidTests := true, laidLooks := .later }
def SegSplitUptoCardSaid : Prop := Claim7.holds Tryz.pinned (.plain (OpenSpec.upto segSplitSpec)) segSplitUptoCard

/-- THE SECOND FORM's CARD OF 'souklaw11.SegCalled'. -/
def segCalledUptoCard : Claim7 := { stood := { row := segCalledUptoRow, standIns := [], harness := (true, "9b70575f19b1b07eefa65663dc0126d8f1129e18e93bfc3a4e872e5edf2bf374"), looks := true }, kinds := [], alts := [], laidByText := true, laidKinds := [.data, .data, .data, .sentinel, .sentinel], laidTests := true, laidLooks := .later }
def SegCalledUptoCardSaid : Prop := Claim7.holds Tryz.pinned (.plain (OpenSpec.upto segCalledSpec)) segCalledUptoCard

/-- THE SECOND FORM's CARD OF 'souklaw11.SegBurst'. -/
def segBurstUptoCard : Claim7 := { stood := { row := segBurstUptoRow, standIns := [], harness := (true, "9b70575f19b1b07eefa65663dc0126d8f1129e18e93bfc3a4e872e5edf2bf374"), looks := true }, kinds := [], alts := [], laidByText := true, laidKinds := [.data, .data, .data, .sentinel, .sentinel], laidTests := true, laidLooks := .later }
def SegBurstUptoCardSaid : Prop := Claim7.holds Tryz.pinned (.plain (OpenSpec.upto segBurstSpec)) segBurstUptoCard
end Rows
end Go.Proofs.YtkccdffccjgajaaGreatDoor
