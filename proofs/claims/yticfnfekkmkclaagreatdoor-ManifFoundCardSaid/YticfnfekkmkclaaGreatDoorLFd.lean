import Derived.Test.YticfnfekkmkclaaGreatDoorFN
import Derived.Test.YticfnfekkmkclaaGreatDoorFQ
/-
  ManifFound.
-/
namespace Go.Proofs.YticfnfekkmkclaaGreatDoor.Manif
open Go Go.RowKit
open Go.Proofs.YticfnfekkmkclaaGreatDoor.Seg (Env)
theorem found_law (w : World) (g : Int) (A : Option Addr) (cap : Nat) (l : List (Int × Int)) (x y q : Int) (hx : RowE w A l) (E : Env w) :
    Calls Tryz.prog 8 #[.agg #[.int .i64 g, .slice A l.length cap], .agg #[.int .i64 x, .int .i64 y], .int .i64 q] w fun e w' => e = .returned (.bool true) ∧ Below w.heap.size w w' := by
  by_cases hl : 100 < l.length
  · exact found_many w g A cap l x y q hl E
  cases hm : mayM g l with
  | true => exact found_may w g A cap l x y q hx hl hm E
  | false => exact found_not w g A cap l x y q hx hl hm E
end Go.Proofs.YticfnfekkmkclaaGreatDoor.Manif
