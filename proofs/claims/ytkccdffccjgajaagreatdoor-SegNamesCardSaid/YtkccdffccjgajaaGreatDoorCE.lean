/-
  What the rows' listed variables give a walk, and a world that holds them.
-/
import Derived.Test.YtkccdffccjgajaaGreatDoorRows
import Derived.Test.YtkccdffccjgajaaGreatDoorNC
import Derived.Lay
import Derived.Stop.LaidErr
import Derived.Lib.LaidTab
import Derived.MakeChecks
import Derived.Shelf.Vars
namespace Go.Proofs.YtkccdffccjgajaaGreatDoor.Seg
open Go.RowKit

/-- what every row of this seat lists -/
def listed : List (String × DataW Unit) := [("math/bits.deBruijn32tab", Rows.laid_math_bits_deBruijn32tab), ("math/bits.deBruijn64tab", Rows.laid_math_bits_deBruijn64tab), ("internal/strconv.uint64pow10", Rows.laid_internal_strconv_uint64pow10), ("strconv.ErrRange", Rows.laid_strconv_ErrRange), ("strconv.ErrSyntax", Rows.laid_strconv_ErrSyntax)]
theorem listed_plain (w : World) : laidMetH Tryz.prog listed w = laidMet Tryz.prog listed w := MakeChecks.laidMetH_plain _ _ _ (by kernel_rfl)
theorem gErrType : (Tryz.prog.globals[2]?).map (·.type) = some 70 := by kernel_rfl
theorem gSynType : (Tryz.prog.globals[1]?).map (·.type) = some 70 := by kernel_rfl
theorem gTabType : (Tryz.prog.globals[3]?).map (·.type) = some 181 := by kernel_rfl
theorem cellsE : Tryz.prog.cellsOf 179 = 1 := by kernel_rfl
theorem cellsS : Tryz.prog.cellsOf 9 = 1 := by kernel_rfl
theorem cellsT : Tryz.prog.cellsOf 181 = 20 := by kernel_rfl
theorem cellsU : Tryz.prog.cellsOf 77 = 1 := by kernel_rfl
theorem star : "*" ++ "errors.errorString" = "*errors.errorString" := by decide
theorem rowE (u : TypeId) (h : Tryz.prog.typeName? 3 u = some "*errors.errorString") : u = 177 :=
  typeName_ptr_named (nm := "errors.errorString") (by rw [star]; kernel_rfl) (by kernel_rfl) (by decide) u (by rw [star]; exact h)
theorem pow_data : (Rows.laid_internal_strconv_uint64pow10 : DataW Unit) = Lib.tabData .u64 Lib.pow10Tab := by
  unfold Rows.laid_internal_strconv_uint64pow10 Lib.tabData; kernel_rfl
theorem heap_of {W : World} {b : Nat} {v : Value} (h : W.cell? ⟨b, 0, none⟩ = some v) : b < W.heap.size := by
  rcases Nat.lt_or_ge b W.heap.size with g | g
  · exact g
  · simp [World.cell?, Array.getElem?_eq_none g] at h
theorem env_of {W : World} (hL : laidMetH Tryz.prog listed W) (hS : W.ShapedOpen Tryz.prog) : Env W := by
  rw [listed_plain] at hL
  have h2 : laidMet Tryz.prog (("internal/strconv.uint64pow10", Lib.tabData .u64 Lib.pow10Tab) :: listed.drop 3) W := by rw [← pow_data]; exact hL.tail.tail
  have h4 := h2.tail
  obtain ⟨a, s, hv, _⟩ := laid_sentinel h4 gErr gErrType Tryz.underlying70 rowE Tryz.underlying177 Tryz.underlying179 rfl rfl Tryz.underlying9 cellsE cellsS
  obtain ⟨b, s2, hs, _⟩ := laid_sentinel h4.tail gSyn gSynType Tryz.underlying70 rowE Tryz.underlying177 Tryz.underlying179 rfl rfl Tryz.underlying9 cellsE cellsS
  have ht := Lib.tabIs_of_head gTab gTabType Tryz.underlying181 Tryz.underlying77 cellsU cellsT h2
  obtain ⟨m, hm⟩ := cell_of_shapedOpen_int (P := Tryz.prog) (g := 0) (t := 3) (zero := #[.int .i64 0]) hS (of_decide_eq_true (by kernel_rfl)) (by kernel_rfl) rfl (by kernel_rfl) (by kernel_rfl) Tryz.underlying3
  have hlt : 0 < W.heap.size := heap_of hm
  have hr := heap_of (by have := World.var?_cell gErr hv 0; simpa using this)
  have hy := heap_of (by have := World.var?_cell gSyn hs 0; simpa using this)
  have htb := heap_of (b := 3) (by have := World.var?_cell gTab ht 0; simpa [Lib.pow10Tab] using this)
  exact ⟨hlt, hr, hy, htb, ⟨m, hm⟩, ⟨a, hv⟩, ⟨b, hs⟩, ht⟩

/-- a world for the witness: the settled one, the listed variables laid -/
theorem own : ownKnob Tryz.prog.godebug = none := by kernel_rfl
theorem met (os : Os) (args : Array Value) : laidMetH Tryz.prog listed ((World.laidAll Tryz.prog os listed).forCall (fun _ _ => 0) ⟨#[], args, []⟩).memory := by
  rw [listed_plain]; exact laidMet_laidAll _ (by kernel_rfl) (by kernel_rfl)
theorem shaped (os : Os) (args : Array Value) : ((World.laidAll Tryz.prog os listed).forCall (fun _ _ => 0) ⟨#[], args, []⟩).Shaped Tryz.prog :=
  World.shaped_of_ZipB (by kernel_rfl) (by kernel_rfl)

end Go.Proofs.YtkccdffccjgajaaGreatDoor.Seg
