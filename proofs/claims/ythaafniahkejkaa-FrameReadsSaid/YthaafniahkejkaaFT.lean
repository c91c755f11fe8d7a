import Derived.Test.YthaafniahkejkaaRows
import Derived.ProofKit
/-
  The program lays out its own memory, and reads no setting: what each frame asks.
-/
namespace Go.Proofs.Ythaafniahkejkaa.Frame
open Go Go.RowKit
theorem own : ownKnob Try.prog.godebug = none := by kernel_rfl
theorem laid : laidOutB Try.prog = true := by kernel_rfl
end Go.Proofs.Ythaafniahkejkaa.Frame
