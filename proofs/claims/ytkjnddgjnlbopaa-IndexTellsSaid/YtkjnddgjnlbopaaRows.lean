/-
  No cell of these rows narrows 'for every input' (looked for: loops, veiled, ifaces, maps, wideKeys, modest, calm, conditions, laid).
  DERIVED. THE GIVEN ROWS OF THIS SEAT. 6 by the template 'for every input the law returns true; each argument reads behind the call as it read before'; 0 by the template 'total and deterministic' (their statements: YtkjnddgjnlbopaaTotals.lean).
  GIVEN WITH THE SEED: the statements are not yours to turn. If you find one false, say at which input.
  Laid BY PROGRAM, IN A SANDBOX (cutbox-rows.mjs): the forced cells as the released guide's own fill.sh prints them over the translation 62c47c1fa0033c76… (all of the seat's roots in one cut). By AI agents, Wed Nov 11 2026. No macro, syntax, notation, axiom, sorry.
-/
import Derived.Test.YtkjnddgjnlbopaaChecked
import GoSem.Claim
import GoSem.ClaimJoined
import GoSem.ClaimMapViews
import Derived.JoinedTies
import Derived.KernelRfl
namespace Go.Proofs.Ytkjnddgjnlbopaa
/- THE CELL 'sum', in the pinned program and in every row, IS THE sha256 OF THE DUMP (.gsa) THAT YtkjnddgjnlbopaaProg.lean LOADS. Nothing in Lean hashes anything: it is a label: what it is worth is what the hold of that sum in a sandbox is worth. -/
noncomputable def Try.pinned : Pinned := { name := "ytkjnddgjnlbopaa", sum := "62c47c1fa0033c762c74c9de11edb64501396bad56d1d05c23f6322689bbf364", checked := Try.checked }
namespace Rows
def none {H : Type} : Left H := { results := [], args := [] }

/-- 'souklaw12.IndexNames': WHATEVER THE INPUT: true; the input reads as it did. -/
def indexNamesSpec : ChangeSpec := { name := "indexNames", fn := fun _ => fun
  | [] => { results := [.lit (.bool true)], args := [] }
  | _ => none }
def indexNamesRow : OpenClaim := { program := "ytkjnddgjnlbopaa", sum := "62c47c1fa0033c762c74c9de11edb64501396bad56d1d05c23f6322689bbf364", func := "souk/souklaw12.IndexNames", spec := "indexNames", unfollowed := true, recurses := true, apart := false }
def IndexNamesSaid : Prop := indexNamesRow.holds Try.pinned (OpenSpec.ofChange indexNamesSpec)

/-- ITS FALSE NEIGHBOUR: 'it returns false'. Refute it at one input. -/
def indexNamesWrong : ChangeSpec := { name := "indexNames", fn := fun _ => fun
  | [] => { results := [.lit (.bool false)], args := [] }
  | _ => none }
def IndexNamesWrongFalsely : Prop := indexNamesRow.holds Try.pinned (OpenSpec.ofChange indexNamesWrong)

/-- 'souklaw12.IndexTells': WHATEVER THE INPUT: true; the input reads as it did. -/
def indexTellsSpec : ChangeSpec := { name := "indexTells", fn := fun _ => fun
  | [d1, d2, d3] => { results := [.lit (.bool true)], args := [d1, d2, d3] }
  | _ => none }
def indexTellsRow : OpenClaim := { program := "ytkjnddgjnlbopaa", sum := "62c47c1fa0033c762c74c9de11edb64501396bad56d1d05c23f6322689bbf364", func := "souk/souklaw12.IndexTells", spec := "indexTells", unfollowed := true, recurses := true, apart := false }
def IndexTellsSaid : Prop := indexTellsRow.holds Try.pinned (OpenSpec.ofChange indexTellsSpec)

/-- ITS FALSE NEIGHBOUR: 'it returns false'. Refute it at one input. -/
def indexTellsWrong : ChangeSpec := { name := "indexTells", fn := fun _ => fun
  | [d1, d2, d3] => { results := [.lit (.bool false)], args := [d1, d2, d3] }
  | _ => none }
def IndexTellsWrongFalsely : Prop := indexTellsRow.holds Try.pinned (OpenSpec.ofChange indexTellsWrong)

/-- 'souklaw12.IndexGets': WHATEVER THE INPUT: true; the input reads as it did. -/
def indexGetsSpec : ChangeSpec := { name := "indexGets", fn := fun _ => fun
  | [d1, d2, d3, d4] => { results := [.lit (.bool true)], args := [d1, d2, d3, d4] }
  | _ => none }
def indexGetsRow : OpenClaim := { program := "ytkjnddgjnlbopaa", sum := "62c47c1fa0033c762c74c9de11edb64501396bad56d1d05c23f6322689bbf364", func := "souk/souklaw12.IndexGets", spec := "indexGets", unfollowed := true, recurses := true, apart := false }
def IndexGetsSaid : Prop := indexGetsRow.holds Try.pinned (OpenSpec.ofChange indexGetsSpec)

/-- ITS FALSE NEIGHBOUR: 'it returns false'. Refute it at one input. -/
def indexGetsWrong : ChangeSpec := { name := "indexGets", fn := fun _ => fun
  | [d1, d2, d3, d4] => { results := [.lit (.bool false)], args := [d1, d2, d3, d4] }
  | _ => none }
def IndexGetsWrongFalsely : Prop := indexGetsRow.holds Try.pinned (OpenSpec.ofChange indexGetsWrong)

/-- 'souklaw12.IndexFound': WHATEVER THE INPUT: true; the input reads as it did. -/
def indexFoundSpec : ChangeSpec := { name := "indexFound", fn := fun _ => fun
  | [d1, d2, d3] => { results := [.lit (.bool true)], args := [d1, d2, d3] }
  | _ => none }
def indexFoundRow : OpenClaim := { program := "ytkjnddgjnlbopaa", sum := "62c47c1fa0033c762c74c9de11edb64501396bad56d1d05c23f6322689bbf364", func := "souk/souklaw12.IndexFound", spec := "indexFound", unfollowed := true, recurses := true, apart := false }
def IndexFoundSaid : Prop := indexFoundRow.holds Try.pinned (OpenSpec.ofChange indexFoundSpec)

/-- ITS FALSE NEIGHBOUR: 'it returns false'. Refute it at one input. -/
def indexFoundWrong : ChangeSpec := { name := "indexFound", fn := fun _ => fun
  | [d1, d2, d3] => { results := [.lit (.bool false)], args := [d1, d2, d3] }
  | _ => none }
def IndexFoundWrongFalsely : Prop := indexFoundRow.holds Try.pinned (OpenSpec.ofChange indexFoundWrong)

/-- 'souklaw12.IndexAdds': WHATEVER THE INPUT: true; the input reads as it did. -/
def indexAddsSpec : ChangeSpec := { name := "indexAdds", fn := fun _ => fun
  | [d1, d2, d3, d4] => { results := [.lit (.bool true)], args := [d1, d2, d3, d4] }
  | _ => none }
def indexAddsRow : OpenClaim := { program := "ytkjnddgjnlbopaa", sum := "62c47c1fa0033c762c74c9de11edb64501396bad56d1d05c23f6322689bbf364", func := "souk/souklaw12.IndexAdds", spec := "indexAdds", unfollowed := true, recurses := true, apart := false }
def IndexAddsSaid : Prop := indexAddsRow.holds Try.pinned (OpenSpec.ofChange indexAddsSpec)

/-- ITS FALSE NEIGHBOUR: 'it returns false'. Refute it at one input. -/
def indexAddsWrong : ChangeSpec := { name := "indexAdds", fn := fun _ => fun
  | [d1, d2, d3, d4] => { results := [.lit (.bool false)], args := [d1, d2, d3, d4] }
  | _ => none }
def IndexAddsWrongFalsely : Prop := indexAddsRow.holds Try.pinned (OpenSpec.ofChange indexAddsWrong)

/-- 'souklaw12.IndexOther': WHATEVER THE INPUT: true; the input reads as it did. -/
def indexOtherSpec : ChangeSpec := { name := "indexOther", fn := fun _ => fun
  | [d1, d2, d3, d4] => { results := [.lit (.bool true)], args := [d1, d2, d3, d4] }
  | _ => none }
def indexOtherRow : OpenClaim := { program := "ytkjnddgjnlbopaa", sum := "62c47c1fa0033c762c74c9de11edb64501396bad56d1d05c23f6322689bbf364", func := "souk/souklaw12.IndexOther", spec := "indexOther", unfollowed := true, recurses := true, apart := false }
def IndexOtherSaid : Prop := indexOtherRow.holds Try.pinned (OpenSpec.ofChange indexOtherSpec)

/-- ITS FALSE NEIGHBOUR: 'it returns false'. Refute it at one input. -/
def indexOtherWrong : ChangeSpec := { name := "indexOther", fn := fun _ => fun
  | [d1, d2, d3, d4] => { results := [.lit (.bool false)], args := [d1, d2, d3, d4] }
  | _ => none }
def IndexOtherWrongFalsely : Prop := indexOtherRow.holds Try.pinned (OpenSpec.ofChange indexOtherWrong)

/- THE SECOND FORM. 'bulk': how many values and letters a reading holds, each counted each time it is reached (what is shared counts as often as it is met; a slice's spare places count too). A statement '..UptoSaid' is the law's where the arguments, and the package variables that the reading takes, are together of bulk at most 1048576: NARROWER than '..Said'. Prove '..Said' where nothing that the law and all that it calls make is longer than what came in: it says more and counts as full. Else prove '..UptoSaid'. A law counts once. -/
mutual
def uptoBulk {H : Type} : DataW H → Nat
  | .lit (.string bytes) => bytes.length + 1
  | .lit _ => 1
  | .nil => 1
  | .ptr d => uptoBulk d + 1
  | .slice elems spare => uptoBulkAll elems + uptoBulkAll spare + 1
  | .agg parts => uptoBulkAll parts + 1
  | .iface _ d => uptoBulk d + 1
  | .map entries => uptoBulkEntries entries + 1
  | .held _ => 1
def uptoBulkAll {H : Type} : List (DataW H) → Nat
  | [] => 0
  | d :: r => uptoBulk d + uptoBulkAll r
def uptoBulkEntries {H : Type} : List (Lit × DataW H) → Nat
  | [] => 0
  | x :: r => uptoBulkEntry x + uptoBulkEntries r
def uptoBulkEntry {H : Type} : Lit × DataW H → Nat
  | (.string bytes, d) => bytes.length + uptoBulk d + 1
  | (_, d) => uptoBulk d + 1
 end
def uptoSmall : (H : Type) → List (DataW H) → Bool := fun _ ds => decide (uptoBulkAll ds ≤ 1048576)
def OpenSpec.upto (s : _root_.Go.ChangeSpec) : _root_.Go.OpenSpec := { _root_.Go.OpenSpec.ofChange s with cond := some uptoSmall }

/-- 'souklaw12.IndexNames', WHERE WHAT IT READS IS OF BULK AT MOST 1048576: true; the input reads as it did. -/
def indexNamesUptoRow : OpenClaim := { program := "ytkjnddgjnlbopaa", sum := "62c47c1fa0033c762c74c9de11edb64501396bad56d1d05c23f6322689bbf364", func := "souk/souklaw12.IndexNames", spec := "indexNames", unfollowed := true, recurses := true, apart := false, narrowed := true }
def IndexNamesUptoSaid : Prop := indexNamesUptoRow.holds Try.pinned (OpenSpec.upto indexNamesSpec)

/-- 'souklaw12.IndexTells', WHERE WHAT IT READS IS OF BULK AT MOST 1048576: true; the input reads as it did. -/
def indexTellsUptoRow : OpenClaim := { program := "ytkjnddgjnlbopaa", sum := "62c47c1fa0033c762c74c9de11edb64501396bad56d1d05c23f6322689bbf364", func := "souk/souklaw12.IndexTells", spec := "indexTells", unfollowed := true, recurses := true, apart := false, narrowed := true }
def IndexTellsUptoSaid : Prop := indexTellsUptoRow.holds Try.pinned (OpenSpec.upto indexTellsSpec)

/-- 'souklaw12.IndexGets', WHERE WHAT IT READS IS OF BULK AT MOST 1048576: true; the input reads as it did. -/
def indexGetsUptoRow : OpenClaim := { program := "ytkjnddgjnlbopaa", sum := "62c47c1fa0033c762c74c9de11edb64501396bad56d1d05c23f6322689bbf364", func := "souk/souklaw12.IndexGets", spec := "indexGets", unfollowed := true, recurses := true, apart := false, narrowed := true }
def IndexGetsUptoSaid : Prop := indexGetsUptoRow.holds Try.pinned (OpenSpec.upto indexGetsSpec)

/-- 'souklaw12.IndexFound', WHERE WHAT IT READS IS OF BULK AT MOST 1048576: true; the input reads as it did. -/
def indexFoundUptoRow : OpenClaim := { program := "ytkjnddgjnlbopaa", sum := "62c47c1fa0033c762c74c9de11edb64501396bad56d1d05c23f6322689bbf364", func := "souk/souklaw12.IndexFound", spec := "indexFound", unfollowed := true, recurses := true, apart := false, narrowed := true }
def IndexFoundUptoSaid : Prop := indexFoundUptoRow.holds Try.pinned (OpenSpec.upto indexFoundSpec)

/-- 'souklaw12.IndexAdds', WHERE WHAT IT READS IS OF BULK AT MOST 1048576: true; the input reads as it did. -/
def indexAddsUptoRow : OpenClaim := { program := "ytkjnddgjnlbopaa", sum := "62c47c1fa0033c762c74c9de11edb64501396bad56d1d05c23f6322689bbf364", func := "souk/souklaw12.IndexAdds", spec := "indexAdds", unfollowed := true, recurses := true, apart := false, narrowed := true }
def IndexAddsUptoSaid : Prop := indexAddsUptoRow.holds Try.pinned (OpenSpec.upto indexAddsSpec)

/-- 'souklaw12.IndexOther', WHERE WHAT IT READS IS OF BULK AT MOST 1048576: true; the input reads as it did. -/
def indexOtherUptoRow : OpenClaim := { program := "ytkjnddgjnlbopaa", sum := "62c47c1fa0033c762c74c9de11edb64501396bad56d1d05c23f6322689bbf364", func := "souk/souklaw12.IndexOther", spec := "indexOther", unfollowed := true, recurses := true, apart := false, narrowed := true }
def IndexOtherUptoSaid : Prop := indexOtherUptoRow.holds Try.pinned (OpenSpec.upto indexOtherSpec)

end Rows
end Go.Proofs.Ytkjnddgjnlbopaa
