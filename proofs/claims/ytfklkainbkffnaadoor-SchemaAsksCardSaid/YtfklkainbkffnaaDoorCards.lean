/-
  DERIVED. GIVEN WITH THE SEED: THE CARDS: each row of YtfklkainbkffnaaDoorRows.lean that lists a variable, with what it lists TIED to the program's text (the seventh form; the later family's looks); each row that meets fmt, with fmt's text TOLD by the authors' own Lean function (tested against real Go, not proved from fmt's source: count such statements apart). THE CARD IS WHAT COUNTS. Prove the row's statement (the work); the ties are given (YtfklkainbkffnaaDoorTie.lean); close each card by the builder's one call (the guide's Derived/Test/ToyasCard.lean, 'card_holds'). Laid BY PROGRAM, IN A SANDBOX (cutbox-door.mjs). By AI agents, Wed Nov 11 2026. No macro, syntax, notation, axiom, sorry.
-/
import Derived.Test.YtfklkainbkffnaaDoorRows
import GoSem.ClaimSeven
namespace Go.Proofs.YtfklkainbkffnaaDoor
namespace Rows

/-- THE TIED CARD OF 'souklaw05.SchemaTells'. -/
def schemaTellsCard : Claim7 := { stood := { row := schemaTellsRow, standIns := [], harness := (true, "b34fecb89aca23a17ccc29e84c11760dc85e4018d5b19db082ef072492edd3af"), looks := false }, kinds := [], alts := [], laidByText := true, laidKinds := [.data, .data, .data], laidTests := true, laidLooks := .later }
def SchemaTellsCardSaid : Prop := Claim7.holds Tryd.pinned (.plain (OpenSpec.ofChange schemaTellsSpec)) schemaTellsCard

/-- THE TIED CARD OF 'souklaw05.SchemaMay'. -/
def schemaMayCard : Claim7 := { stood := { row := schemaMayRow, standIns := [], harness := (true, "b34fecb89aca23a17ccc29e84c11760dc85e4018d5b19db082ef072492edd3af"), looks := false }, kinds := [], alts := [], laidByText := true, laidKinds := [.data, .data, .data], laidTests := true, laidLooks := .later }
def SchemaMayCardSaid : Prop := Claim7.holds Tryd.pinned (.plain (OpenSpec.ofChange schemaMaySpec)) schemaMayCard

/-- THE TIED CARD OF 'souklaw05.SchemaAsks'. -/
def schemaAsksCard : Claim7 := { stood := { row := schemaAsksRow, standIns := [], harness := (true, "b34fecb89aca23a17ccc29e84c11760dc85e4018d5b19db082ef072492edd3af"), looks := false }, kinds := [], alts := [], laidByText := true, laidKinds := [.data, .data, .data], laidTests := true, laidLooks := .later }
def SchemaAsksCardSaid : Prop := Claim7.holds Tryd.pinned (.plain (OpenSpec.ofChange schemaAsksSpec)) schemaAsksCard

/-- THE TIED CARD OF 'souklaw05.SchemaGrows'. -/
def schemaGrowsCard : Claim7 := { stood := { row := schemaGrowsRow, standIns := [], harness := (true, "b34fecb89aca23a17ccc29e84c11760dc85e4018d5b19db082ef072492edd3af"), looks := false }, kinds := [], alts := [], laidByText := true, laidKinds := [.data, .data, .data], laidTests := true, laidLooks := .later }
def SchemaGrowsCardSaid : Prop := Claim7.holds Tryd.pinned (.plain (OpenSpec.ofChange schemaGrowsSpec)) schemaGrowsCard

/-- THE TIED CARD OF 'souklaw05.SchemaWords'. -/
def schemaWordsCard : Claim7 := { stood := { row := schemaWordsRow, standIns := [], harness := (true, "b34fecb89aca23a17ccc29e84c11760dc85e4018d5b19db082ef072492edd3af"), looks := false }, kinds := [], alts := [], laidByText := true, laidKinds := [.data, .data, .data], laidTests := true, laidLooks := .later }
def SchemaWordsCardSaid : Prop := Claim7.holds Tryd.pinned (.plain (OpenSpec.ofChange schemaWordsSpec)) schemaWordsCard

/-- THE TIED CARD OF 'souklaw05.SchemaBounds'. -/
def schemaBoundsCard : Claim7 := { stood := { row := schemaBoundsRow, standIns := [], harness := (true, "b34fecb89aca23a17ccc29e84c11760dc85e4018d5b19db082ef072492edd3af"), looks := false }, kinds := [], alts := [], laidByText := true, laidKinds := [.data, .data, .data], laidTests := true, laidLooks := .later }
def SchemaBoundsCardSaid : Prop := Claim7.holds Tryd.pinned (.plain (OpenSpec.ofChange schemaBoundsSpec)) schemaBoundsCard

/-- THE TIED CARD OF 'souklaw05.SchemaCommand'. -/
def schemaCommandCard : Claim7 := { stood := { row := schemaCommandRow, standIns := [], harness := (true, "b34fecb89aca23a17ccc29e84c11760dc85e4018d5b19db082ef072492edd3af"), looks := false }, kinds := [], alts := [], laidByText := true, laidKinds := [.data, .data, .data], laidTests := true, laidLooks := .later }
def SchemaCommandCardSaid : Prop := Claim7.holds Tryd.pinned (.plain (OpenSpec.ofChange schemaCommandSpec)) schemaCommandCard

/-- THE TIED CARD OF 'souklaw05.SchemaSame'. -/
def schemaSameCard : Claim7 := { stood := { row := schemaSameRow, standIns := [], harness := (true, "b34fecb89aca23a17ccc29e84c11760dc85e4018d5b19db082ef072492edd3af"), looks := false }, kinds := [], alts := [], laidByText := true, laidKinds := [.data, .data, .data], laidTests := true, laidLooks := .later }
def SchemaSameCardSaid : Prop := Claim7.holds Tryd.pinned (.plain (OpenSpec.ofChange schemaSameSpec)) schemaSameCard

/-- THE SECOND FORM's CARD OF 'souklaw05.SchemaTells'. -/
def schemaTellsUptoCard : Claim7 := { stood := { row := schemaTellsUptoRow, standIns := [], harness := (true, "b34fecb89aca23a17ccc29e84c11760dc85e4018d5b19db082ef072492edd3af"), looks := false }, kinds := [], alts := [], laidByText := true, laidKinds := [.data, .data, .data], laidTests := true, laidLooks := .later }
def SchemaTellsUptoCardSaid : Prop := Claim7.holds Tryd.pinned (.plain (OpenSpec.upto schemaTellsSpec)) schemaTellsUptoCard

/-- THE SECOND FORM's CARD OF 'souklaw05.SchemaMay'. -/
def schemaMayUptoCard : Claim7 := { stood := { row := schemaMayUptoRow, standIns := [], harness := (true, "b34fecb89aca23a17ccc29e84c11760dc85e4018d5b19db082ef072492edd3af"), looks := false }, kinds := [], alts := [], laidByText := true, laidKinds := [.data, .data, .data], laidTests := true, laidLooks := .later }
def SchemaMayUptoCardSaid : Prop := Claim7.holds Tryd.pinned (.plain (OpenSpec.upto schemaMaySpec)) schemaMayUptoCard

/-- THE SECOND FORM's CARD OF 'souklaw05.SchemaAsks'. -/
def schemaAsksUptoCard : Claim7 := { stood := { row := schemaAsksUptoRow, standIns := [], harness := (true, "b34fecb89aca23a17ccc29e84c11760dc85e4018d5b19db082ef072492edd3af"), looks := false }, kinds := [], alts := [], laidByText := true, laidKinds := [.data, .data, .data], laidTests := true, laidLooks := .later }
def SchemaAsksUptoCardSaid : Prop := Claim7.holds Tryd.pinned (.plain (OpenSpec.upto schemaAsksSpec)) schemaAsksUptoCard

/-- THE SECOND FORM's CARD OF 'souklaw05.SchemaGrows'. -/
def schemaGrowsUptoCard : Claim7 := { stood := { row := schemaGrowsUptoRow, standIns := [], harness := (true, "b34fecb89aca23a17ccc29e84c11760dc85e4018d5b19db082ef072492edd3af"), looks := false }, kinds := [], alts := [], laidByText := true, laidKinds := [.data, .data, .data], laidTests := true, laidLooks := .later }
def SchemaGrowsUptoCardSaid : Prop := Claim7.holds Tryd.pinned (.plain (OpenSpec.upto schemaGrowsSpec)) schemaGrowsUptoCard

/-- THE SECOND FORM's CARD OF 'souklaw05.SchemaWords'. -/
def schemaWordsUptoCard : Claim7 := { stood := { row := schemaWordsUptoRow, standIns := [], harness := (true, "b34fecb89aca23a17ccc29e84c11760dc85e4018d5b19db082ef072492edd3af"), looks := false }, kinds := [], alts := [], laidByText := true, laidKinds := [.data, .data, .data], laidTests := true, laidLooks := .later }
def SchemaWordsUptoCardSaid : Prop := Claim7.holds Tryd.pinned (.plain (OpenSpec.upto schemaWordsSpec)) schemaWordsUptoCard

/-- THE SECOND FORM's CARD OF 'souklaw05.SchemaBounds'. -/
def schemaBoundsUptoCard : Claim7 := { stood := { row := schemaBoundsUptoRow, standIns := [], harness := (true, "b34fecb89aca23a17ccc29e84c11760dc85e4018d5b19db082ef072492edd3af"), looks := false }, kinds := [], alts := [], laidByText := true, laidKinds := [.data, .data, .data], laidTests := true, laidLooks := .later }
def SchemaBoundsUptoCardSaid : Prop := Claim7.holds Tryd.pinned (.plain (OpenSpec.upto schemaBoundsSpec)) schemaBoundsUptoCard

/-- THE SECOND FORM's CARD OF 'souklaw05.SchemaCommand'. -/
def schemaCommandUptoCard : Claim7 := { stood := { row := schemaCommandUptoRow, standIns := [], harness := (true, "b34fecb89aca23a17ccc29e84c11760dc85e4018d5b19db082ef072492edd3af"), looks := false }, kinds := [], alts := [], laidByText := true, laidKinds := [.data, .data, .data], laidTests := true, laidLooks := .later }
def SchemaCommandUptoCardSaid : Prop := Claim7.holds Tryd.pinned (.plain (OpenSpec.upto schemaCommandSpec)) schemaCommandUptoCard

/-- THE SECOND FORM's CARD OF 'souklaw05.SchemaSame'. -/
def schemaSameUptoCard : Claim7 := { stood := { row := schemaSameUptoRow, standIns := [], harness := (true, "b34fecb89aca23a17ccc29e84c11760dc85e4018d5b19db082ef072492edd3af"), looks := false }, kinds := [], alts := [], laidByText := true, laidKinds := [.data, .data, .data], laidTests := true, laidLooks := .later }
def SchemaSameUptoCardSaid : Prop := Claim7.holds Tryd.pinned (.plain (OpenSpec.upto schemaSameSpec)) schemaSameUptoCard
end Rows
end Go.Proofs.YtfklkainbkffnaaDoor
