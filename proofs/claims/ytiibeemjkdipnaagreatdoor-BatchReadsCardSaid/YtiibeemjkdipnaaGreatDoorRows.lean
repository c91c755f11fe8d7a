/-
  NARROWER THAN 'FOR EVERY INPUT', by the rows' own cells (each row's printed sentence says how): BatchTells: laid · BatchReads: laid.
  DERIVED. THE GIVEN ROWS OF THIS SEAT. 2 by the template 'for every input the law returns true; each argument reads behind the call as it read before'; 0 by the template 'total and deterministic' (their statements: YtiibeemjkdipnaaGreatDoorTotals.lean).
  GIVEN WITH THE SEED: the statements are not yours to turn. If you find one false, say at which input.
  Laid BY PROGRAM, IN A SANDBOX (cutbox-rows.mjs): the forced cells as the released guide's own fill.sh prints them over the translation b70c01969fb51e2a… (all of the seat's roots in one cut). By AI agents, Wed Nov 11 2026. No macro, syntax, notation, axiom, sorry.
-/
import Derived.Test.YtiibeemjkdipnaaGreatDoorChecked
import GoSem.Claim
import GoSem.ClaimJoined
import GoSem.ClaimMapViews
import Derived.JoinedTies
import Derived.KernelRfl
namespace Go.Proofs.YtiibeemjkdipnaaGreatDoor
/- THE CELL 'sum', in the pinned program and in every row, IS THE sha256 OF THE DUMP (.gsa) THAT YtiibeemjkdipnaaGreatDoorProg.lean LOADS. Nothing in Lean hashes anything: it is a label: what it is worth is what the hold of that sum in a sandbox is worth. -/
noncomputable def Tryz.pinned : Pinned := { name := "ytiibeemjkdipnaagreatdoor", sum := "b70c01969fb51e2a0bb70c37368596ec5abc7e1483d87aefffe17a935ebb4130", checked := Tryz.checked }
namespace Rows
def none {H : Type} : Left H := { results := [], args := [] }

/- WHAT THE LISTED PACKAGE-LEVEL VARIABLES READ AS WHEN THE CALL BEGINS. Each datum BY PROGRAM (the guide's laid-datum.mjs) off the statement by which the dump's own 'gosem.cut.vars' lays the variable. In a bare row this is a premise. The card (YtiibeemjkdipnaaGreatDoorCards.lean) ties it to the program's text. -/
def laid_souk_schema_events {H : Type} : DataW H := .agg [.agg [.lit (.string []), .agg [.lit (.string []), .lit (.string []), .lit (.string [])], .lit (.bool false)], .agg [.lit (.string [111, 112, 101, 110, 101, 100]), .agg [.lit (.string [97]), .lit (.string [97]), .lit (.string [97])], .lit (.bool true)], .agg [.lit (.string [99, 108, 111, 115, 101, 100]), .agg [.lit (.string [97]), .lit (.string [97]), .lit (.string [97])], .lit (.bool false)], .agg [.lit (.string [108, 105, 115, 116, 101, 100]), .agg [.lit (.string [105]), .lit (.string [105, 107]), .lit (.string [105, 107])], .lit (.bool true)], .agg [.lit (.string [104, 97, 108, 116, 101, 100]), .agg [.lit (.string [105]), .lit (.string [105]), .lit (.string [105])], .lit (.bool false)], .agg [.lit (.string [114, 101, 115, 117, 109, 101, 100]), .agg [.lit (.string [105]), .lit (.string [105]), .lit (.string [105])], .lit (.bool false)], .agg [.lit (.string [100, 101, 112, 111, 115, 105, 116, 101, 100]), .agg [.lit (.string [97, 109]), .lit (.string [97, 109]), .lit (.string [97, 109])], .lit (.bool false)], .agg [.lit (.string [119, 105, 116, 104, 100, 114, 97, 119, 110]), .agg [.lit (.string [97, 109]), .lit (.string [97, 109]), .lit (.string [97, 109])], .lit (.bool false)], .agg [.lit (.string [105, 115, 115, 117, 101, 100]), .agg [.lit (.string [97, 105, 113]), .lit (.string [97, 105, 113]), .lit (.string [97, 105, 113])], .lit (.bool false)], .agg [.lit (.string [114, 101, 100, 101, 101, 109, 101, 100]), .agg [.lit (.string [97, 105, 113]), .lit (.string [97, 105, 113]), .lit (.string [97, 105, 113])], .lit (.bool false)], .agg [.lit (.string [102, 101, 101, 32, 115, 101, 116]), .agg [.lit (.string [98]), .lit (.string [98]), .lit (.string [98])], .lit (.bool false)], .agg [.lit (.string [112, 108, 97, 99, 101, 100]), .agg [.lit (.string [111, 97, 105, 115, 112, 113]), .lit (.string [111, 97, 105, 115, 112, 113]), .lit (.string [111, 97, 105, 115, 112, 113])], .lit (.bool false)], .agg [.lit (.string [99, 97, 110, 99, 101, 108, 108, 101, 100]), .agg [.lit (.string [111]), .lit (.string [111]), .lit (.string [111])], .lit (.bool false)], .agg [.lit (.string [116, 114, 97, 100, 101, 100]), .agg [.lit (.string [111, 111, 112, 113]), .lit (.string [111, 111, 112, 113, 122]), .lit (.string [111, 111, 112, 113, 122])], .lit (.bool false)], .agg [.lit (.string [101, 110, 103, 108, 105, 115, 104]), .agg [.lit (.string [99, 97, 105, 113, 109, 116]), .lit (.string [99, 97, 105, 113, 109, 109, 116]), .lit (.string [99, 97, 105, 113, 109, 109, 116])], .lit (.bool false)], .agg [.lit (.string [114, 97, 105, 115, 101, 100]), .agg [.lit (.string [99, 97, 109]), .lit (.string [99, 97, 109]), .lit (.string [99, 97, 109])], .lit (.bool false)], .agg [.lit (.string [115, 101, 97, 108, 101, 100]), .agg [.lit (.string [99, 97, 105, 113, 109, 116]), .lit (.string [99, 97, 105, 113, 109, 116]), .lit (.string [99, 97, 105, 113, 109, 116])], .lit (.bool false)], .agg [.lit (.string [98, 105, 100]), .agg [.lit (.string [99, 97, 109]), .lit (.string [99, 97, 109]), .lit (.string [99, 97, 109])], .lit (.bool false)], .agg [.lit (.string [115, 111, 108, 100]), .agg [.lit (.string [99, 97, 109]), .lit (.string [99, 97, 109, 122]), .lit (.string [99, 97, 109, 122])], .lit (.bool false)], .agg [.lit (.string [117, 110, 115, 111, 108, 100]), .agg [.lit (.string [99]), .lit (.string [99]), .lit (.string [99])], .lit (.bool false)], .agg [.lit (.string [109, 111, 118, 101, 100]), .agg [.lit (.string [116]), .lit (.string [116]), .lit (.string [116])], .lit (.bool false)], .agg [.lit (.string [116, 114, 97, 110, 115, 102, 101, 114, 114, 101, 100]), .agg [.lit (.string []), .lit (.string [97, 97, 109]), .lit (.string [97, 97, 109])], .lit (.bool false)], .agg [.lit (.string [114, 101, 110, 97, 109, 101, 100]), .agg [.lit (.string []), .lit (.string []), .lit (.string [97])], .lit (.bool true)], .agg [.lit (.string [116, 105, 99, 107, 101, 100]), .agg [.lit (.string []), .lit (.string []), .lit (.string [105, 107])], .lit (.bool false)]]
def laid_souk_schema_bounds {H : Type} : DataW H := .agg [.agg [.lit (.int .u8 97), .lit (.int .u8 1), .lit (.int .i64 1), .lit (.int .i64 64)], .agg [.lit (.int .u8 105), .lit (.int .u8 1), .lit (.int .i64 1), .lit (.int .i64 16)], .agg [.lit (.int .u8 111), .lit (.int .u8 1), .lit (.int .i64 1), .lit (.int .i64 1099511627776)], .agg [.lit (.int .u8 99), .lit (.int .u8 1), .lit (.int .i64 1), .lit (.int .i64 1099511627776)], .agg [.lit (.int .u8 109), .lit (.int .u8 1), .lit (.int .i64 1), .lit (.int .i64 11258999068426)], .agg [.lit (.int .u8 109), .lit (.int .u8 2), .lit (.int .i64 1), .lit (.int .i64 1125899906842624)], .agg [.lit (.int .u8 122), .lit (.int .u8 1), .lit (.int .i64 0), .lit (.int .i64 11258999068426)], .agg [.lit (.int .u8 122), .lit (.int .u8 2), .lit (.int .i64 0), .lit (.int .i64 1125899906842624)], .agg [.lit (.int .u8 112), .lit (.int .u8 1), .lit (.int .i64 1), .lit (.int .i64 10737418)], .agg [.lit (.int .u8 112), .lit (.int .u8 2), .lit (.int .i64 1), .lit (.int .i64 1073741824)], .agg [.lit (.int .u8 107), .lit (.int .u8 1), .lit (.int .i64 1), .lit (.int .i64 1073741824)], .agg [.lit (.int .u8 113), .lit (.int .u8 1), .lit (.int .i64 1), .lit (.int .i64 1048576)], .agg [.lit (.int .u8 115), .lit (.int .u8 1), .lit (.int .i64 0), .lit (.int .i64 1)], .agg [.lit (.int .u8 115), .lit (.int .u8 3), .lit (.int .i64 1), .lit (.int .i64 2)], .agg [.lit (.int .u8 98), .lit (.int .u8 1), .lit (.int .i64 0), .lit (.int .i64 10)], .agg [.lit (.int .u8 98), .lit (.int .u8 2), .lit (.int .i64 0), .lit (.int .i64 1000)], .agg [.lit (.int .u8 116), .lit (.int .u8 1), .lit (.int .i64 1), .lit (.int .i64 109951162777)], .agg [.lit (.int .u8 116), .lit (.int .u8 3), .lit (.int .i64 1), .lit (.int .i64 1099511627776)]]

/-- 'souklaw08.BatchTells': WHATEVER THE INPUT: true; the input reads as it did. -/
def batchTellsSpec : ChangeSpec := { name := "batchTells", fn := fun _ => fun
  | [d1, d2, d3] => { results := [.lit (.bool true)], args := [d1, d2, d3] }
  | _ => none }
def batchTellsRow : OpenClaim := { program := "ytiibeemjkdipnaagreatdoor", sum := "b70c01969fb51e2a0bb70c37368596ec5abc7e1483d87aefffe17a935ebb4130", func := "souk/souklaw08.BatchTells", spec := "batchTells", unfollowed := true, recurses := true, named := ["souk/schema.events", "souk/schema.bounds"], apart := false, laid := [("souk/schema.events", laid_souk_schema_events), ("souk/schema.bounds", laid_souk_schema_bounds)] }
def BatchTellsSaid : Prop := batchTellsRow.holds Tryz.pinned (OpenSpec.ofChange batchTellsSpec)

/-- ITS FALSE NEIGHBOUR: 'it returns false'. Refute it at one input. -/
def batchTellsWrong : ChangeSpec := { name := "batchTells", fn := fun _ => fun
  | [d1, d2, d3] => { results := [.lit (.bool false)], args := [d1, d2, d3] }
  | _ => none }
def BatchTellsWrongFalsely : Prop := batchTellsRow.holds Tryz.pinned (OpenSpec.ofChange batchTellsWrong)

/-- 'souklaw08.BatchReads': WHATEVER THE INPUT: true; the input reads as it did. -/
def batchReadsSpec : ChangeSpec := { name := "batchReads", fn := fun _ => fun
  | [d] => { results := [.lit (.bool true)], args := [d] }
  | _ => none }
def batchReadsRow : OpenClaim := { program := "ytiibeemjkdipnaagreatdoor", sum := "b70c01969fb51e2a0bb70c37368596ec5abc7e1483d87aefffe17a935ebb4130", func := "souk/souklaw08.BatchReads", spec := "batchReads", unfollowed := true, recurses := true, named := ["souk/schema.events", "souk/schema.bounds"], apart := false, laid := [("souk/schema.events", laid_souk_schema_events), ("souk/schema.bounds", laid_souk_schema_bounds)] }
def BatchReadsSaid : Prop := batchReadsRow.holds Tryz.pinned (OpenSpec.ofChange batchReadsSpec)

/-- ITS FALSE NEIGHBOUR: 'it returns false'. Refute it at one input. -/
def batchReadsWrong : ChangeSpec := { name := "batchReads", fn := fun _ => fun
  | [d] => { results := [.lit (.bool false)], args := [d] }
  | _ => none }
def BatchReadsWrongFalsely : Prop := batchReadsRow.holds Tryz.pinned (OpenSpec.ofChange batchReadsWrong)

/- THE SECOND FORM. 'bulk': how many values and letters a reading holds, each counted each time it is reached (what is shared counts as often as it is met; a slice's spare places count too). A statement '..UptoSaid' is the law's where the arguments, and the package variables that the reading takes, are together of bulk at most 1048576: NARROWER than '..Said'. Prove '..Said' where nothing that the law and all that it calls make is longer than what came in: it says more and counts as full. Else prove '..UptoSaid'. A law counts once. -/
mutual
def uptoBulk {H : Type} : DataW H → Nat
  | .lit (.string bytes) => bytes.length + 1
  | .lit _ => 1
  | .nil => 1
  | .ptr d => uptoBulk d + 1
  | .slice elems spare => uptoBulkAll elems + uptoBulkAll spare + 1
  | .agg parts => uptoBulkAll parts + 1
  | .iface _ d => uptoBulk d + 1
  | .map entries => uptoBulkEntries entries + 1
  | .held _ => 1
def uptoBulkAll {H : Type} : List (DataW H) → Nat
  | [] => 0
  | d :: r => uptoBulk d + uptoBulkAll r
def uptoBulkEntries {H : Type} : List (Lit × DataW H) → Nat
  | [] => 0
  | x :: r => uptoBulkEntry x + uptoBulkEntries r
def uptoBulkEntry {H : Type} : Lit × DataW H → Nat
  | (.string bytes, d) => bytes.length + uptoBulk d + 1
  | (_, d) => uptoBulk d + 1
 end
def uptoSmall : (H : Type) → List (DataW H) → Bool := fun _ ds => decide (uptoBulkAll ds ≤ 1048576)
def OpenSpec.upto (s : _root_.Go.ChangeSpec) : _root_.Go.OpenSpec := { _root_.Go.OpenSpec.ofChange s with cond := some uptoSmall }

/-- 'souklaw08.BatchTells', WHERE WHAT IT READS IS OF BULK AT MOST 1048576: true; the input reads as it did. -/
def batchTellsUptoRow : OpenClaim := { program := "ytiibeemjkdipnaagreatdoor", sum := "b70c01969fb51e2a0bb70c37368596ec5abc7e1483d87aefffe17a935ebb4130", func := "souk/souklaw08.BatchTells", spec := "batchTells", unfollowed := true, recurses := true, named := ["souk/schema.events", "souk/schema.bounds"], apart := false, laid := [("souk/schema.events", laid_souk_schema_events), ("souk/schema.bounds", laid_souk_schema_bounds)], narrowed := true }
def BatchTellsUptoSaid : Prop := batchTellsUptoRow.holds Tryz.pinned (OpenSpec.upto batchTellsSpec)

/-- 'souklaw08.BatchReads', WHERE WHAT IT READS IS OF BULK AT MOST 1048576: true; the input reads as it did. -/
def batchReadsUptoRow : OpenClaim := { program := "ytiibeemjkdipnaagreatdoor", sum := "b70c01969fb51e2a0bb70c37368596ec5abc7e1483d87aefffe17a935ebb4130", func := "souk/souklaw08.BatchReads", spec := "batchReads", unfollowed := true, recurses := true, named := ["souk/schema.events", "souk/schema.bounds"], apart := false, laid := [("souk/schema.events", laid_souk_schema_events), ("souk/schema.bounds", laid_souk_schema_bounds)], narrowed := true }
def BatchReadsUptoSaid : Prop := batchReadsUptoRow.holds Tryz.pinned (OpenSpec.upto batchReadsSpec)

end Rows
end Go.Proofs.YtiibeemjkdipnaaGreatDoor
