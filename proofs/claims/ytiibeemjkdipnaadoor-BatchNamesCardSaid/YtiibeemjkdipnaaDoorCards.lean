/-
  DERIVED. GIVEN WITH THE SEED: THE CARDS: each row of YtiibeemjkdipnaaDoorRows.lean that lists a variable, with what it lists TIED to the program's text (the seventh form; the later family's looks); each row that meets fmt, with fmt's text TOLD by the authors' own Lean function (tested against real Go, not proved from fmt's source: count such statements apart). THE CARD IS WHAT COUNTS. Prove the row's statement (the work); the ties are given (YtiibeemjkdipnaaDoorTie.lean); close each card by the builder's one call (the guide's Derived/Test/ToyasCard.lean, 'card_holds'). Laid BY PROGRAM, IN A SANDBOX (cutbox-door.mjs). By AI agents, Wed Nov 11 2026. No macro, syntax, notation, axiom, sorry.
-/
import Derived.Test.YtiibeemjkdipnaaDoorRows
import GoSem.ClaimSeven
namespace Go.Proofs.YtiibeemjkdipnaaDoor
namespace Rows

/-- THE TIED CARD OF 'souklaw08.BatchNames'. -/
def batchNamesCard : Claim7 := { stood := { row := batchNamesRow, standIns := [], harness := (true, "75dcc9d31f51ad8615a7cfa0fcc7156d4202975904db2be78eb415971eb9e5b9"), looks := false }, kinds := [], alts := [], laidByText := true, laidKinds := [.data, .data], laidTests := true, laidLooks := .later }
def BatchNamesCardSaid : Prop := Claim7.holds Tryd.pinned (.plain (OpenSpec.ofChange batchNamesSpec)) batchNamesCard

/-- THE TIED CARD OF 'souklaw08.BatchBack'. -/
def batchBackCard : Claim7 := { stood := { row := batchBackRow, standIns := [], harness := (true, "75dcc9d31f51ad8615a7cfa0fcc7156d4202975904db2be78eb415971eb9e5b9"), looks := false }, kinds := [], alts := [], laidByText := true, laidKinds := [.data, .data], laidTests := true, laidLooks := .later }
def BatchBackCardSaid : Prop := Claim7.holds Tryd.pinned (.plain (OpenSpec.ofChange batchBackSpec)) batchBackCard

/-- THE TIED CARD OF 'souklaw08.BatchLifted'. -/
def batchLiftedCard : Claim7 := { stood := { row := batchLiftedRow, standIns := [], harness := (true, "75dcc9d31f51ad8615a7cfa0fcc7156d4202975904db2be78eb415971eb9e5b9"), looks := false }, kinds := [], alts := [], laidByText := true, laidKinds := [.data, .data], laidTests := true, laidLooks := .later }
def BatchLiftedCardSaid : Prop := Claim7.holds Tryd.pinned (.plain (OpenSpec.ofChange batchLiftedSpec)) batchLiftedCard

/-- THE TIED CARD OF 'souklaw08.BatchCut'. -/
def batchCutCard : Claim7 := { stood := { row := batchCutRow, standIns := [], harness := (true, "75dcc9d31f51ad8615a7cfa0fcc7156d4202975904db2be78eb415971eb9e5b9"), looks := false }, kinds := [], alts := [], laidByText := true, laidKinds := [.data, .data], laidTests := true, laidLooks := .later }
def BatchCutCardSaid : Prop := Claim7.holds Tryd.pinned (.plain (OpenSpec.ofChange batchCutSpec)) batchCutCard

/-- THE SECOND FORM's CARD OF 'souklaw08.BatchNames'. -/
def batchNamesUptoCard : Claim7 := { stood := { row := batchNamesUptoRow, standIns := [], harness := (true, "75dcc9d31f51ad8615a7cfa0fcc7156d4202975904db2be78eb415971eb9e5b9"), looks := false }, kinds := [], alts := [], laidByText := true, laidKinds := [.data, .data], laidTests := true, laidLooks := .later }
def BatchNamesUptoCardSaid : Prop := Claim7.holds Tryd.pinned (.plain (OpenSpec.upto batchNamesSpec)) batchNamesUptoCard

/-- THE SECOND FORM's CARD OF 'souklaw08.BatchBack'. -/
def batchBackUptoCard : Claim7 := { stood := { row := batchBackUptoRow, standIns := [], harness := (true, "75dcc9d31f51ad8615a7cfa0fcc7156d4202975904db2be78eb415971eb9e5b9"), looks := false }, kinds := [], alts := [], laidByText := true, laidKinds := [.data, .data], laidTests := true, laidLooks := .later }
def BatchBackUptoCardSaid : Prop := Claim7.holds Tryd.pinned (.plain (OpenSpec.upto batchBackSpec)) batchBackUptoCard

/-- THE SECOND FORM's CARD OF 'souklaw08.BatchLifted'. -/
def batchLiftedUptoCard : Claim7 := { stood := { row := batchLiftedUptoRow, standIns := [], harness := (true, "75dcc9d31f51ad8615a7cfa0fcc7156d4202975904db2be78eb415971eb9e5b9"), looks := false }, kinds := [], alts := [], laidByText := true, laidKinds := [.data, .data], laidTests := true, laidLooks := .later }
def BatchLiftedUptoCardSaid : Prop := Claim7.holds Tryd.pinned (.plain (OpenSpec.upto batchLiftedSpec)) batchLiftedUptoCard

/-- THE SECOND FORM's CARD OF 'souklaw08.BatchCut'. -/
def batchCutUptoCard : Claim7 := { stood := { row := batchCutUptoRow, standIns := [], harness := (true, "75dcc9d31f51ad8615a7cfa0fcc7156d4202975904db2be78eb415971eb9e5b9"), looks := false }, kinds := [], alts := [], laidByText := true, laidKinds := [.data, .data], laidTests := true, laidLooks := .later }
def BatchCutUptoCardSaid : Prop := Claim7.holds Tryd.pinned (.plain (OpenSpec.upto batchCutSpec)) batchCutUptoCard
end Rows
end Go.Proofs.YtiibeemjkdipnaaDoor
