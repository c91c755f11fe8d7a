/-
  NARROWER THAN 'FOR EVERY INPUT', by the rows' own cells (each row's printed sentence says how): SchemaTells: laid · SchemaMay: laid · SchemaAsks: laid · SchemaGrows: laid · SchemaWords: laid · SchemaBounds: laid · SchemaCommand: laid · SchemaSame: laid.
  DERIVED. THE GIVEN ROWS OF THIS SEAT. 8 by the template 'for every input the law returns true; each argument reads behind the call as it read before'; 0 by the template 'total and deterministic' (their statements: YtfklkainbkffnaaDoorTotals.lean).
  GIVEN WITH THE SEED: the statements are not yours to turn. If you find one false, say at which input.
  Laid BY PROGRAM, IN A SANDBOX (cutbox-rows.mjs): the forced cells as the released guide's own fill.sh prints them over the translation 588cff116c51e9c8… (all of the seat's roots in one cut). By AI agents, Wed Nov 11 2026. No macro, syntax, notation, axiom, sorry.
-/
import Derived.Test.YtfklkainbkffnaaDoorChecked
import GoSem.Claim
import GoSem.ClaimJoined
import GoSem.ClaimMapViews
import Derived.JoinedTies
import Derived.KernelRfl
namespace Go.Proofs.YtfklkainbkffnaaDoor
/- THE CELL 'sum', in the pinned program and in every row, IS THE sha256 OF THE DUMP (.gsa) THAT YtfklkainbkffnaaDoorProg.lean LOADS. Nothing in Lean hashes anything: it is a label: what it is worth is what the hold of that sum in a sandbox is worth. -/
noncomputable def Tryd.pinned : Pinned := { name := "ytfklkainbkffnaadoor", sum := "588cff116c51e9c8745711cfcc4c7f35074ae84becfbe1116ebae02a35c13203", checked := Tryd.checked }
namespace Rows
def none {H : Type} : Left H := { results := [], args := [] }

/- WHAT THE LISTED PACKAGE-LEVEL VARIABLES READ AS WHEN THE CALL BEGINS. Each datum BY PROGRAM (the guide's laid-datum.mjs) off the statement by which the dump's own 'gosem.cut.vars' lays the variable. In a bare row this is a premise. The card (YtfklkainbkffnaaDoorCards.lean) ties it to the program's text. -/
def laid_souk_schema_events {H : Type} : DataW H := .agg [.agg [.lit (.string []), .agg [.lit (.string []), .lit (.string []), .lit (.string [])], .lit (.bool false)], .agg [.lit (.string [111, 112, 101, 110, 101, 100]), .agg [.lit (.string [97]), .lit (.string [97]), .lit (.string [97])], .lit (.bool true)], .agg [.lit (.string [99, 108, 111, 115, 101, 100]), .agg [.lit (.string [97]), .lit (.string [97]), .lit (.string [97])], .lit (.bool false)], .agg [.lit (.string [108, 105, 115, 116, 101, 100]), .agg [.lit (.string [105]), .lit (.string [105, 107]), .lit (.string [105, 107])], .lit (.bool true)], .agg [.lit (.string [104, 97, 108, 116, 101, 100]), .agg [.lit (.string [105]), .lit (.string [105]), .lit (.string [105])], .lit (.bool false)], .agg [.lit (.string [114, 101, 115, 117, 109, 101, 100]), .agg [.lit (.string [105]), .lit (.string [105]), .lit (.string [105])], .lit (.bool false)], .agg [.lit (.string [100, 101, 112, 111, 115, 105, 116, 101, 100]), .agg [.lit (.string [97, 109]), .lit (.string [97, 109]), .lit (.string [97, 109])], .lit (.bool false)], .agg [.lit (.string [119, 105, 116, 104, 100, 114, 97, 119, 110]), .agg [.lit (.string [97, 109]), .lit (.string [97, 109]), .lit (.string [97, 109])], .lit (.bool false)], .agg [.lit (.string [105, 115, 115, 117, 101, 100]), .agg [.lit (.string [97, 105, 113]), .lit (.string [97, 105, 113]), .lit (.string [97, 105, 113])], .lit (.bool false)], .agg [.lit (.string [114, 101, 100, 101, 101, 109, 101, 100]), .agg [.lit (.string [97, 105, 113]), .lit (.string [97, 105, 113]), .lit (.string [97, 105, 113])], .lit (.bool false)], .agg [.lit (.string [102, 101, 101, 32, 115, 101, 116]), .agg [.lit (.string [98]), .lit (.string [98]), .lit (.string [98])], .lit (.bool false)], .agg [.lit (.string [112, 108, 97, 99, 101, 100]), .agg [.lit (.string [111, 97, 105, 115, 112, 113]), .lit (.string [111, 97, 105, 115, 112, 113]), .lit (.string [111, 97, 105, 115, 112, 113])], .lit (.bool false)], .agg [.lit (.string [99, 97, 110, 99, 101, 108, 108, 101, 100]), .agg [.lit (.string [111]), .lit (.string [111]), .lit (.string [111])], .lit (.bool false)], .agg [.lit (.string [116, 114, 97, 100, 101, 100]), .agg [.lit (.string [111, 111, 112, 113]), .lit (.string [111, 111, 112, 113, 122]), .lit (.string [111, 111, 112, 113, 122])], .lit (.bool false)], .agg [.lit (.string [101, 110, 103, 108, 105, 115, 104]), .agg [.lit (.string [99, 97, 105, 113, 109, 116]), .lit (.string [99, 97, 105, 113, 109, 109, 116]), .lit (.string [99, 97, 105, 113, 109, 109, 116])], .lit (.bool false)], .agg [.lit (.string [114, 97, 105, 115, 101, 100]), .agg [.lit (.string [99, 97, 109]), .lit (.string [99, 97, 109]), .lit (.string [99, 97, 109])], .lit (.bool false)], .agg [.lit (.string [115, 101, 97, 108, 101, 100]), .agg [.lit (.string [99, 97, 105, 113, 109, 116]), .lit (.string [99, 97, 105, 113, 109, 116]), .lit (.string [99, 97, 105, 113, 109, 116])], .lit (.bool false)], .agg [.lit (.string [98, 105, 100]), .agg [.lit (.string [99, 97, 109]), .lit (.string [99, 97, 109]), .lit (.string [99, 97, 109])], .lit (.bool false)], .agg [.lit (.string [115, 111, 108, 100]), .agg [.lit (.string [99, 97, 109]), .lit (.string [99, 97, 109, 122]), .lit (.string [99, 97, 109, 122])], .lit (.bool false)], .agg [.lit (.string [117, 110, 115, 111, 108, 100]), .agg [.lit (.string [99]), .lit (.string [99]), .lit (.string [99])], .lit (.bool false)], .agg [.lit (.string [109, 111, 118, 101, 100]), .agg [.lit (.string [116]), .lit (.string [116]), .lit (.string [116])], .lit (.bool false)], .agg [.lit (.string [116, 114, 97, 110, 115, 102, 101, 114, 114, 101, 100]), .agg [.lit (.string []), .lit (.string [97, 97, 109]), .lit (.string [97, 97, 109])], .lit (.bool false)], .agg [.lit (.string [114, 101, 110, 97, 109, 101, 100]), .agg [.lit (.string []), .lit (.string []), .lit (.string [97])], .lit (.bool true)], .agg [.lit (.string [116, 105, 99, 107, 101, 100]), .agg [.lit (.string []), .lit (.string []), .lit (.string [105, 107])], .lit (.bool false)]]
def laid_souk_schema_bounds {H : Type} : DataW H := .agg [.agg [.lit (.int .u8 97), .lit (.int .u8 1), .lit (.int .i64 1), .lit (.int .i64 64)], .agg [.lit (.int .u8 105), .lit (.int .u8 1), .lit (.int .i64 1), .lit (.int .i64 16)], .agg [.lit (.int .u8 111), .lit (.int .u8 1), .lit (.int .i64 1), .lit (.int .i64 1099511627776)], .agg [.lit (.int .u8 99), .lit (.int .u8 1), .lit (.int .i64 1), .lit (.int .i64 1099511627776)], .agg [.lit (.int .u8 109), .lit (.int .u8 1), .lit (.int .i64 1), .lit (.int .i64 11258999068426)], .agg [.lit (.int .u8 109), .lit (.int .u8 2), .lit (.int .i64 1), .lit (.int .i64 1125899906842624)], .agg [.lit (.int .u8 122), .lit (.int .u8 1), .lit (.int .i64 0), .lit (.int .i64 11258999068426)], .agg [.lit (.int .u8 122), .lit (.int .u8 2), .lit (.int .i64 0), .lit (.int .i64 1125899906842624)], .agg [.lit (.int .u8 112), .lit (.int .u8 1), .lit (.int .i64 1), .lit (.int .i64 10737418)], .agg [.lit (.int .u8 112), .lit (.int .u8 2), .lit (.int .i64 1), .lit (.int .i64 1073741824)], .agg [.lit (.int .u8 107), .lit (.int .u8 1), .lit (.int .i64 1), .lit (.int .i64 1073741824)], .agg [.lit (.int .u8 113), .lit (.int .u8 1), .lit (.int .i64 1), .lit (.int .i64 1048576)], .agg [.lit (.int .u8 115), .lit (.int .u8 1), .lit (.int .i64 0), .lit (.int .i64 1)], .agg [.lit (.int .u8 115), .lit (.int .u8 3), .lit (.int .i64 1), .lit (.int .i64 2)], .agg [.lit (.int .u8 98), .lit (.int .u8 1), .lit (.int .i64 0), .lit (.int .i64 10)], .agg [.lit (.int .u8 98), .lit (.int .u8 2), .lit (.int .i64 0), .lit (.int .i64 1000)], .agg [.lit (.int .u8 116), .lit (.int .u8 1), .lit (.int .i64 1), .lit (.int .i64 109951162777)], .agg [.lit (.int .u8 116), .lit (.int .u8 3), .lit (.int .i64 1), .lit (.int .i64 1099511627776)]]
def laid_souk_schema_commands {H : Type} : DataW H := .agg [.agg [.lit (.string []), .lit (.string []), .lit (.bool false)], .agg [.lit (.string [111, 112, 101, 110]), .lit (.string []), .lit (.bool true)], .agg [.lit (.string [99, 108, 111, 115, 101]), .lit (.string [97]), .lit (.bool false)], .agg [.lit (.string [108, 105, 115, 116]), .lit (.string [107]), .lit (.bool true)], .agg [.lit (.string [104, 97, 108, 116]), .lit (.string [105]), .lit (.bool false)], .agg [.lit (.string [114, 101, 115, 117, 109, 101]), .lit (.string [105]), .lit (.bool false)], .agg [.lit (.string [100, 101, 112, 111, 115, 105, 116]), .lit (.string [97, 109]), .lit (.bool false)], .agg [.lit (.string [119, 105, 116, 104, 100, 114, 97, 119]), .lit (.string [97, 109]), .lit (.bool false)], .agg [.lit (.string [105, 115, 115, 117, 101]), .lit (.string [97, 105, 113]), .lit (.bool false)], .agg [.lit (.string [114, 101, 100, 101, 101, 109]), .lit (.string [97, 105, 113]), .lit (.bool false)], .agg [.lit (.string [102, 101, 101]), .lit (.string [98]), .lit (.bool false)], .agg [.lit (.string [112, 108, 97, 99, 101]), .lit (.string [97, 105, 115, 112, 113]), .lit (.bool false)], .agg [.lit (.string [99, 97, 110, 99, 101, 108]), .lit (.string [97, 111]), .lit (.bool false)], .agg [.lit (.string [101, 110, 103, 108, 105, 115, 104]), .lit (.string [97, 105, 113, 109, 109, 116]), .lit (.bool false)], .agg [.lit (.string [114, 97, 105, 115, 101]), .lit (.string [97, 99, 109]), .lit (.bool false)], .agg [.lit (.string [115, 101, 97, 108, 101, 100]), .lit (.string [97, 105, 113, 109, 116]), .lit (.bool false)], .agg [.lit (.string [98, 105, 100]), .lit (.string [97, 99, 109]), .lit (.bool false)], .agg [.lit (.string [109, 111, 118, 101]), .lit (.string [116]), .lit (.bool false)], .agg [.lit (.string [116, 114, 97, 110, 115, 102, 101, 114]), .lit (.string [97, 97, 109]), .lit (.bool false)], .agg [.lit (.string [114, 101, 110, 97, 109, 101]), .lit (.string [97]), .lit (.bool true)], .agg [.lit (.string [116, 105, 99, 107]), .lit (.string [105, 107]), .lit (.bool false)]]

/-- 'souklaw05.SchemaTells': WHATEVER THE INPUT: true; the input reads as it did. -/
def schemaTellsSpec : ChangeSpec := { name := "schemaTells", fn := fun _ => fun
  | [d1, d2, d3, d4, d5] => { results := [.lit (.bool true)], args := [d1, d2, d3, d4, d5] }
  | _ => none }
def schemaTellsRow : OpenClaim := { program := "ytfklkainbkffnaadoor", sum := "588cff116c51e9c8745711cfcc4c7f35074ae84becfbe1116ebae02a35c13203", func := "souk/souklaw05.SchemaTells", spec := "schemaTells", named := ["souk/schema.events", "souk/schema.bounds", "souk/schema.commands"], apart := false, laid := [("souk/schema.events", laid_souk_schema_events), ("souk/schema.bounds", laid_souk_schema_bounds), ("souk/schema.commands", laid_souk_schema_commands)] }
def SchemaTellsSaid : Prop := schemaTellsRow.holds Tryd.pinned (OpenSpec.ofChange schemaTellsSpec)

/-- ITS FALSE NEIGHBOUR: 'it returns false'. Refute it at one input. -/
def schemaTellsWrong : ChangeSpec := { name := "schemaTells", fn := fun _ => fun
  | [d1, d2, d3, d4, d5] => { results := [.lit (.bool false)], args := [d1, d2, d3, d4, d5] }
  | _ => none }
def SchemaTellsWrongFalsely : Prop := schemaTellsRow.holds Tryd.pinned (OpenSpec.ofChange schemaTellsWrong)

/-- 'souklaw05.SchemaMay': WHATEVER THE INPUT: true; the input reads as it did. -/
def schemaMaySpec : ChangeSpec := { name := "schemaMay", fn := fun _ => fun
  | [d1, d2, d3] => { results := [.lit (.bool true)], args := [d1, d2, d3] }
  | _ => none }
def schemaMayRow : OpenClaim := { program := "ytfklkainbkffnaadoor", sum := "588cff116c51e9c8745711cfcc4c7f35074ae84becfbe1116ebae02a35c13203", func := "souk/souklaw05.SchemaMay", spec := "schemaMay", named := ["souk/schema.events", "souk/schema.bounds", "souk/schema.commands"], apart := false, laid := [("souk/schema.events", laid_souk_schema_events), ("souk/schema.bounds", laid_souk_schema_bounds), ("souk/schema.commands", laid_souk_schema_commands)] }
def SchemaMaySaid : Prop := schemaMayRow.holds Tryd.pinned (OpenSpec.ofChange schemaMaySpec)

/-- ITS FALSE NEIGHBOUR: 'it returns false'. Refute it at one input. -/
def schemaMayWrong : ChangeSpec := { name := "schemaMay", fn := fun _ => fun
  | [d1, d2, d3] => { results := [.lit (.bool false)], args := [d1, d2, d3] }
  | _ => none }
def SchemaMayWrongFalsely : Prop := schemaMayRow.holds Tryd.pinned (OpenSpec.ofChange schemaMayWrong)

/-- 'souklaw05.SchemaAsks': WHATEVER THE INPUT: true; the input reads as it did. -/
def schemaAsksSpec : ChangeSpec := { name := "schemaAsks", fn := fun _ => fun
  | [d1, d2, d3] => { results := [.lit (.bool true)], args := [d1, d2, d3] }
  | _ => none }
def schemaAsksRow : OpenClaim := { program := "ytfklkainbkffnaadoor", sum := "588cff116c51e9c8745711cfcc4c7f35074ae84becfbe1116ebae02a35c13203", func := "souk/souklaw05.SchemaAsks", spec := "schemaAsks", named := ["souk/schema.events", "souk/schema.bounds", "souk/schema.commands"], apart := false, laid := [("souk/schema.events", laid_souk_schema_events), ("souk/schema.bounds", laid_souk_schema_bounds), ("souk/schema.commands", laid_souk_schema_commands)] }
def SchemaAsksSaid : Prop := schemaAsksRow.holds Tryd.pinned (OpenSpec.ofChange schemaAsksSpec)

/-- ITS FALSE NEIGHBOUR: 'it returns false'. Refute it at one input. -/
def schemaAsksWrong : ChangeSpec := { name := "schemaAsks", fn := fun _ => fun
  | [d1, d2, d3] => { results := [.lit (.bool false)], args := [d1, d2, d3] }
  | _ => none }
def SchemaAsksWrongFalsely : Prop := schemaAsksRow.holds Tryd.pinned (OpenSpec.ofChange schemaAsksWrong)

/-- 'souklaw05.SchemaGrows': WHATEVER THE INPUT: true; the input reads as it did. -/
def schemaGrowsSpec : ChangeSpec := { name := "schemaGrows", fn := fun _ => fun
  | [d1, d2] => { results := [.lit (.bool true)], args := [d1, d2] }
  | _ => none }
def schemaGrowsRow : OpenClaim := { program := "ytfklkainbkffnaadoor", sum := "588cff116c51e9c8745711cfcc4c7f35074ae84becfbe1116ebae02a35c13203", func := "souk/souklaw05.SchemaGrows", spec := "schemaGrows", named := ["souk/schema.events", "souk/schema.bounds", "souk/schema.commands"], apart := false, laid := [("souk/schema.events", laid_souk_schema_events), ("souk/schema.bounds", laid_souk_schema_bounds), ("souk/schema.commands", laid_souk_schema_commands)] }
def SchemaGrowsSaid : Prop := schemaGrowsRow.holds Tryd.pinned (OpenSpec.ofChange schemaGrowsSpec)

/-- ITS FALSE NEIGHBOUR: 'it returns false'. Refute it at one input. -/
def schemaGrowsWrong : ChangeSpec := { name := "schemaGrows", fn := fun _ => fun
  | [d1, d2] => { results := [.lit (.bool false)], args := [d1, d2] }
  | _ => none }
def SchemaGrowsWrongFalsely : Prop := schemaGrowsRow.holds Tryd.pinned (OpenSpec.ofChange schemaGrowsWrong)

/-- 'souklaw05.SchemaWords': WHATEVER THE INPUT: true; the input reads as it did. -/
def schemaWordsSpec : ChangeSpec := { name := "schemaWords", fn := fun _ => fun
  | [d1, d2, d3] => { results := [.lit (.bool true)], args := [d1, d2, d3] }
  | _ => none }
def schemaWordsRow : OpenClaim := { program := "ytfklkainbkffnaadoor", sum := "588cff116c51e9c8745711cfcc4c7f35074ae84becfbe1116ebae02a35c13203", func := "souk/souklaw05.SchemaWords", spec := "schemaWords", named := ["souk/schema.events", "souk/schema.bounds", "souk/schema.commands"], apart := false, laid := [("souk/schema.events", laid_souk_schema_events), ("souk/schema.bounds", laid_souk_schema_bounds), ("souk/schema.commands", laid_souk_schema_commands)] }
def SchemaWordsSaid : Prop := schemaWordsRow.holds Tryd.pinned (OpenSpec.ofChange schemaWordsSpec)

/-- ITS FALSE NEIGHBOUR: 'it returns false'. Refute it at one input. -/
def schemaWordsWrong : ChangeSpec := { name := "schemaWords", fn := fun _ => fun
  | [d1, d2, d3] => { results := [.lit (.bool false)], args := [d1, d2, d3] }
  | _ => none }
def SchemaWordsWrongFalsely : Prop := schemaWordsRow.holds Tryd.pinned (OpenSpec.ofChange schemaWordsWrong)

/-- 'souklaw05.SchemaBounds': WHATEVER THE INPUT: true; the input reads as it did. -/
def schemaBoundsSpec : ChangeSpec := { name := "schemaBounds", fn := fun _ => fun
  | [d1, d2, d3] => { results := [.lit (.bool true)], args := [d1, d2, d3] }
  | _ => none }
def schemaBoundsRow : OpenClaim := { program := "ytfklkainbkffnaadoor", sum := "588cff116c51e9c8745711cfcc4c7f35074ae84becfbe1116ebae02a35c13203", func := "souk/souklaw05.SchemaBounds", spec := "schemaBounds", named := ["souk/schema.events", "souk/schema.bounds", "souk/schema.commands"], apart := false, laid := [("souk/schema.events", laid_souk_schema_events), ("souk/schema.bounds", laid_souk_schema_bounds), ("souk/schema.commands", laid_souk_schema_commands)] }
def SchemaBoundsSaid : Prop := schemaBoundsRow.holds Tryd.pinned (OpenSpec.ofChange schemaBoundsSpec)

/-- ITS FALSE NEIGHBOUR: 'it returns false'. Refute it at one input. -/
def schemaBoundsWrong : ChangeSpec := { name := "schemaBounds", fn := fun _ => fun
  | [d1, d2, d3] => { results := [.lit (.bool false)], args := [d1, d2, d3] }
  | _ => none }
def SchemaBoundsWrongFalsely : Prop := schemaBoundsRow.holds Tryd.pinned (OpenSpec.ofChange schemaBoundsWrong)

/-- 'souklaw05.SchemaCommand': WHATEVER THE INPUT: true; the input reads as it did. -/
def schemaCommandSpec : ChangeSpec := { name := "schemaCommand", fn := fun _ => fun
  | [d1, d2, d3] => { results := [.lit (.bool true)], args := [d1, d2, d3] }
  | _ => none }
def schemaCommandRow : OpenClaim := { program := "ytfklkainbkffnaadoor", sum := "588cff116c51e9c8745711cfcc4c7f35074ae84becfbe1116ebae02a35c13203", func := "souk/souklaw05.SchemaCommand", spec := "schemaCommand", named := ["souk/schema.events", "souk/schema.bounds", "souk/schema.commands"], apart := false, laid := [("souk/schema.events", laid_souk_schema_events), ("souk/schema.bounds", laid_souk_schema_bounds), ("souk/schema.commands", laid_souk_schema_commands)] }
def SchemaCommandSaid : Prop := schemaCommandRow.holds Tryd.pinned (OpenSpec.ofChange schemaCommandSpec)

/-- ITS FALSE NEIGHBOUR: 'it returns false'. Refute it at one input. -/
def schemaCommandWrong : ChangeSpec := { name := "schemaCommand", fn := fun _ => fun
  | [d1, d2, d3] => { results := [.lit (.bool false)], args := [d1, d2, d3] }
  | _ => none }
def SchemaCommandWrongFalsely : Prop := schemaCommandRow.holds Tryd.pinned (OpenSpec.ofChange schemaCommandWrong)

/-- 'souklaw05.SchemaSame': WHATEVER THE INPUT: true; the input reads as it did. -/
def schemaSameSpec : ChangeSpec := { name := "schemaSame", fn := fun _ => fun
  | [d1, d2, d3, d4] => { results := [.lit (.bool true)], args := [d1, d2, d3, d4] }
  | _ => none }
def schemaSameRow : OpenClaim := { program := "ytfklkainbkffnaadoor", sum := "588cff116c51e9c8745711cfcc4c7f35074ae84becfbe1116ebae02a35c13203", func := "souk/souklaw05.SchemaSame", spec := "schemaSame", named := ["souk/schema.events", "souk/schema.bounds", "souk/schema.commands"], apart := false, laid := [("souk/schema.events", laid_souk_schema_events), ("souk/schema.bounds", laid_souk_schema_bounds), ("souk/schema.commands", laid_souk_schema_commands)] }
def SchemaSameSaid : Prop := schemaSameRow.holds Tryd.pinned (OpenSpec.ofChange schemaSameSpec)

/-- ITS FALSE NEIGHBOUR: 'it returns false'. Refute it at one input. -/
def schemaSameWrong : ChangeSpec := { name := "schemaSame", fn := fun _ => fun
  | [d1, d2, d3, d4] => { results := [.lit (.bool false)], args := [d1, d2, d3, d4] }
  | _ => none }
def SchemaSameWrongFalsely : Prop := schemaSameRow.holds Tryd.pinned (OpenSpec.ofChange schemaSameWrong)

/- THE SECOND FORM. 'bulk': how many values and letters a reading holds, each counted each time it is reached (what is shared counts as often as it is met; a slice's spare places count too). A statement '..UptoSaid' is the law's where the arguments, and the package variables that the reading takes, are together of bulk at most 1048576: NARROWER than '..Said'. Prove '..Said' where nothing that the law and all that it calls make is longer than what came in: it says more and counts as full. Else prove '..UptoSaid'. A law counts once. -/
mutual
def uptoBulk {H : Type} : DataW H → Nat
  | .lit (.string bytes) => bytes.length + 1
  | .lit _ => 1
  | .nil => 1
  | .ptr d => uptoBulk d + 1
  | .slice elems spare => uptoBulkAll elems + uptoBulkAll spare + 1
  | .agg parts => uptoBulkAll parts + 1
  | .iface _ d => uptoBulk d + 1
  | .map entries => uptoBulkEntries entries + 1
  | .held _ => 1
def uptoBulkAll {H : Type} : List (DataW H) → Nat
  | [] => 0
  | d :: r => uptoBulk d + uptoBulkAll r
def uptoBulkEntries {H : Type} : List (Lit × DataW H) → Nat
  | [] => 0
  | x :: r => uptoBulkEntry x + uptoBulkEntries r
def uptoBulkEntry {H : Type} : Lit × DataW H → Nat
  | (.string bytes, d) => bytes.length + uptoBulk d + 1
  | (_, d) => uptoBulk d + 1
 end
def uptoSmall : (H : Type) → List (DataW H) → Bool := fun _ ds => decide (uptoBulkAll ds ≤ 1048576)
def OpenSpec.upto (s : _root_.Go.ChangeSpec) : _root_.Go.OpenSpec := { _root_.Go.OpenSpec.ofChange s with cond := some uptoSmall }

/-- 'souklaw05.SchemaTells', WHERE WHAT IT READS IS OF BULK AT MOST 1048576: true; the input reads as it did. -/
def schemaTellsUptoRow : OpenClaim := { program := "ytfklkainbkffnaadoor", sum := "588cff116c51e9c8745711cfcc4c7f35074ae84becfbe1116ebae02a35c13203", func := "souk/souklaw05.SchemaTells", spec := "schemaTells", named := ["souk/schema.events", "souk/schema.bounds", "souk/schema.commands"], apart := false, laid := [("souk/schema.events", laid_souk_schema_events), ("souk/schema.bounds", laid_souk_schema_bounds), ("souk/schema.commands", laid_souk_schema_commands)], narrowed := true }
def SchemaTellsUptoSaid : Prop := schemaTellsUptoRow.holds Tryd.pinned (OpenSpec.upto schemaTellsSpec)

/-- 'souklaw05.SchemaMay', WHERE WHAT IT READS IS OF BULK AT MOST 1048576: true; the input reads as it did. -/
def schemaMayUptoRow : OpenClaim := { program := "ytfklkainbkffnaadoor", sum := "588cff116c51e9c8745711cfcc4c7f35074ae84becfbe1116ebae02a35c13203", func := "souk/souklaw05.SchemaMay", spec := "schemaMay", named := ["souk/schema.events", "souk/schema.bounds", "souk/schema.commands"], apart := false, laid := [("souk/schema.events", laid_souk_schema_events), ("souk/schema.bounds", laid_souk_schema_bounds), ("souk/schema.commands", laid_souk_schema_commands)], narrowed := true }
def SchemaMayUptoSaid : Prop := schemaMayUptoRow.holds Tryd.pinned (OpenSpec.upto schemaMaySpec)

/-- 'souklaw05.SchemaAsks', WHERE WHAT IT READS IS OF BULK AT MOST 1048576: true; the input reads as it did. -/
def schemaAsksUptoRow : OpenClaim := { program := "ytfklkainbkffnaadoor", sum := "588cff116c51e9c8745711cfcc4c7f35074ae84becfbe1116ebae02a35c13203", func := "souk/souklaw05.SchemaAsks", spec := "schemaAsks", named := ["souk/schema.events", "souk/schema.bounds", "souk/schema.commands"], apart := false, laid := [("souk/schema.events", laid_souk_schema_events), ("souk/schema.bounds", laid_souk_schema_bounds), ("souk/schema.commands", laid_souk_schema_commands)], narrowed := true }
def SchemaAsksUptoSaid : Prop := schemaAsksUptoRow.holds Tryd.pinned (OpenSpec.upto schemaAsksSpec)

/-- 'souklaw05.SchemaGrows', WHERE WHAT IT READS IS OF BULK AT MOST 1048576: true; the input reads as it did. -/
def schemaGrowsUptoRow : OpenClaim := { program := "ytfklkainbkffnaadoor", sum := "588cff116c51e9c8745711cfcc4c7f35074ae84becfbe1116ebae02a35c13203", func := "souk/souklaw05.SchemaGrows", spec := "schemaGrows", named := ["souk/schema.events", "souk/schema.bounds", "souk/schema.commands"], apart := false, laid := [("souk/schema.events", laid_souk_schema_events), ("souk/schema.bounds", laid_souk_schema_bounds), ("souk/schema.commands", laid_souk_schema_commands)], narrowed := true }
def SchemaGrowsUptoSaid : Prop := schemaGrowsUptoRow.holds Tryd.pinned (OpenSpec.upto schemaGrowsSpec)

/-- 'souklaw05.SchemaWords', WHERE WHAT IT READS IS OF BULK AT MOST 1048576: true; the input reads as it did. -/
def schemaWordsUptoRow : OpenClaim := { program := "ytfklkainbkffnaadoor", sum := "588cff116c51e9c8745711cfcc4c7f35074ae84becfbe1116ebae02a35c13203", func := "souk/souklaw05.SchemaWords", spec := "schemaWords", named := ["souk/schema.events", "souk/schema.bounds", "souk/schema.commands"], apart := false, laid := [("souk/schema.events", laid_souk_schema_events), ("souk/schema.bounds", laid_souk_schema_bounds), ("souk/schema.commands", laid_souk_schema_commands)], narrowed := true }
def SchemaWordsUptoSaid : Prop := schemaWordsUptoRow.holds Tryd.pinned (OpenSpec.upto schemaWordsSpec)

/-- 'souklaw05.SchemaBounds', WHERE WHAT IT READS IS OF BULK AT MOST 1048576: true; the input reads as it did. -/
def schemaBoundsUptoRow : OpenClaim := { program := "ytfklkainbkffnaadoor", sum := "588cff116c51e9c8745711cfcc4c7f35074ae84becfbe1116ebae02a35c13203", func := "souk/souklaw05.SchemaBounds", spec := "schemaBounds", named := ["souk/schema.events", "souk/schema.bounds", "souk/schema.commands"], apart := false, laid := [("souk/schema.events", laid_souk_schema_events), ("souk/schema.bounds", laid_souk_schema_bounds), ("souk/schema.commands", laid_souk_schema_commands)], narrowed := true }
def SchemaBoundsUptoSaid : Prop := schemaBoundsUptoRow.holds Tryd.pinned (OpenSpec.upto schemaBoundsSpec)

/-- 'souklaw05.SchemaCommand', WHERE WHAT IT READS IS OF BULK AT MOST 1048576: true; the input reads as it did. -/
def schemaCommandUptoRow : OpenClaim := { program := "ytfklkainbkffnaadoor", sum := "588cff116c51e9c8745711cfcc4c7f35074ae84becfbe1116ebae02a35c13203", func := "souk/souklaw05.SchemaCommand", spec := "schemaCommand", named := ["souk/schema.events", "souk/schema.bounds", "souk/schema.commands"], apart := false, laid := [("souk/schema.events", laid_souk_schema_events), ("souk/schema.bounds", laid_souk_schema_bounds), ("souk/schema.commands", laid_souk_schema_commands)], narrowed := true }
def SchemaCommandUptoSaid : Prop := schemaCommandUptoRow.holds Tryd.pinned (OpenSpec.upto schemaCommandSpec)

/-- 'souklaw05.SchemaSame', WHERE WHAT IT READS IS OF BULK AT MOST 1048576: true; the input reads as it did. -/
def schemaSameUptoRow : OpenClaim := { program := "ytfklkainbkffnaadoor", sum := "588cff116c51e9c8745711cfcc4c7f35074ae84becfbe1116ebae02a35c13203", func := "souk/souklaw05.SchemaSame", spec := "schemaSame", named := ["souk/schema.events", "souk/schema.bounds", "souk/schema.commands"], apart := false, laid := [("souk/schema.events", laid_souk_schema_events), ("souk/schema.bounds", laid_souk_schema_bounds), ("souk/schema.commands", laid_souk_schema_commands)], narrowed := true }
def SchemaSameUptoSaid : Prop := schemaSameUptoRow.holds Tryd.pinned (OpenSpec.upto schemaSameSpec)

end Rows
end Go.Proofs.YtfklkainbkffnaaDoor
