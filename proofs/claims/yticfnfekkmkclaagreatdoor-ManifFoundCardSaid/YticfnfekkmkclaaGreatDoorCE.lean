/-
  What the rows' listed variables give a walk, and a world that holds them.
-/
import Derived.Test.YticfnfekkmkclaaGreatDoorRows
import Derived.Test.YticfnfekkmkclaaGreatDoorMT
import Derived.Lay
import Derived.Stop.LaidErr
import Derived.Lib.LaidTab
import Derived.MakeChecks
import Derived.Shelf.Vars
namespace Go.Proofs.YticfnfekkmkclaaGreatDoor.Seg
open Go.RowKit

/-- what every row of this seat lists -/
def listed : List (String × DataW Unit) := [("math/bits.deBruijn32tab", Rows.laid_math_bits_deBruijn32tab), ("math/bits.deBruijn64tab", Rows.laid_math_bits_deBruijn64tab), ("internal/strconv.uint64pow10", Rows.laid_internal_strconv_uint64pow10)]
theorem listed_plain (w : World) : laidMetH Tryz.prog listed w = laidMet Tryz.prog listed w := MakeChecks.laidMetH_plain _ _ _ (by kernel_rfl)
theorem gTabType : (Tryz.prog.globals[3]?).map (·.type) = some 230 := by kernel_rfl
theorem cellsT : Tryz.prog.cellsOf 230 = 20 := by kernel_rfl
theorem cellsU : Tryz.prog.cellsOf 96 = 1 := by kernel_rfl
theorem pow_data : (Rows.laid_internal_strconv_uint64pow10 : DataW Unit) = Lib.tabData .u64 Lib.pow10Tab := by
  unfold Rows.laid_internal_strconv_uint64pow10 Lib.tabData; kernel_rfl
theorem heap_of {W : World} {b : Nat} {v : Value} (h : W.cell? ⟨b, 0, none⟩ = some v) : b < W.heap.size := by
  rcases Nat.lt_or_ge b W.heap.size with g | g
  · exact g
  · simp [World.cell?, Array.getElem?_eq_none g] at h
theorem env_ofP {W : World} (hL : laidMetH Tryz.prog listed W) : EnvP W := by
  rw [listed_plain] at hL
  have h2 : laidMet Tryz.prog (("internal/strconv.uint64pow10", Lib.tabData .u64 Lib.pow10Tab) :: listed.drop 3) W := by rw [← pow_data]; exact hL.tail.tail
  have ht := Lib.tabIs_of_head gTab gTabType Tryz.underlying230 Tryz.underlying96 cellsU cellsT h2
  have htb := heap_of (b := 3) (by have := World.var?_cell gTab ht 0; simpa [Lib.pow10Tab] using this)
  exact ⟨htb, ht⟩

/-- a world for the witness: the settled one, the listed variables laid -/
theorem own : ownKnob Tryz.prog.godebug = none := by kernel_rfl
theorem met (os : Os) (args : Array Value) : laidMetH Tryz.prog listed ((World.laidAll Tryz.prog os listed).forCall (fun _ _ => 0) ⟨#[], args, []⟩).memory := by
  rw [listed_plain]; exact laidMet_laidAll _ (by kernel_rfl) (by kernel_rfl)
theorem shaped (os : Os) (args : Array Value) : ((World.laidAll Tryz.prog os listed).forCall (fun _ _ => 0) ⟨#[], args, []⟩).Shaped Tryz.prog :=
  World.shaped_of_ZipB (by kernel_rfl) (by kernel_rfl)

end Go.Proofs.YticfnfekkmkclaaGreatDoor.Seg
