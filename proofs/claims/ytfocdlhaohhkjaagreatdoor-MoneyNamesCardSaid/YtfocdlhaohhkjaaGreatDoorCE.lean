/-
  What the rows' listed variables give a walk, and a world that holds them.
-/
import Derived.Test.YtfocdlhaohhkjaaGreatDoorRows
import Derived.Test.YtfocdlhaohhkjaaGreatDoorC17
import Derived.Lay
import Derived.Stop.LaidErr
import Derived.Lib.LaidTab
import Derived.MakeChecks
import Derived.Shelf.Vars
namespace Go.Proofs.YtfocdlhaohhkjaaGreatDoor.Money
open Go.RowKit

/-- what every row of this seat lists -/
def listed : List (String × DataW Unit) := [("math/bits.deBruijn32tab", Rows.laid_math_bits_deBruijn32tab), ("math/bits.deBruijn64tab", Rows.laid_math_bits_deBruijn64tab), ("internal/strconv.uint64pow10", Rows.laid_internal_strconv_uint64pow10), ("unicode/utf8.acceptRanges", Rows.laid_unicode_utf8_acceptRanges), ("strconv.ErrRange", Rows.laid_strconv_ErrRange), ("strconv.ErrSyntax", Rows.laid_strconv_ErrSyntax), ("unicode/utf8.first", Rows.laid_unicode_utf8_first)]
theorem listed_plain (w : World) : laidMetH Tryz.prog listed w = laidMet Tryz.prog listed w := MakeChecks.laidMetH_plain _ _ _ (by kernel_rfl)
theorem gErrType : (Tryz.prog.globals[0]?).map (·.type) = some 45 := by kernel_rfl
theorem gTabType : (Tryz.prog.globals[2]?).map (·.type) = some 119 := by kernel_rfl
theorem cellsE : Tryz.prog.cellsOf 135 = 1 := by kernel_rfl
theorem cellsS : Tryz.prog.cellsOf 9 = 1 := by kernel_rfl
theorem cellsT : Tryz.prog.cellsOf 119 = 20 := by kernel_rfl
theorem cellsU : Tryz.prog.cellsOf 50 = 1 := by kernel_rfl
theorem star : "*" ++ "errors.errorString" = "*errors.errorString" := by decide
theorem rowE (u : TypeId) (h : Tryz.prog.typeName? 3 u = some "*errors.errorString") : u = 133 :=
  typeName_ptr_named (nm := "errors.errorString") (by rw [star]; kernel_rfl) (by kernel_rfl) (by decide) u (by rw [star]; exact h)
theorem pow_data : (Rows.laid_internal_strconv_uint64pow10 : DataW Unit) = Lib.tabData .u64 Lib.pow10Tab := by
  unfold Rows.laid_internal_strconv_uint64pow10 Lib.tabData; kernel_rfl
theorem env_of {W : World} (hL : laidMetH Tryz.prog listed W) (hS : W.ShapedOpen Tryz.prog) : Env W := by
  rw [listed_plain] at hL
  have h2 : laidMet Tryz.prog (("internal/strconv.uint64pow10", Lib.tabData .u64 Lib.pow10Tab) :: listed.drop 3) W := by rw [← pow_data]; exact hL.tail.tail
  have h4 := h2.tail.tail
  obtain ⟨a, s, hv, _⟩ := laid_sentinel h4 gErr gErrType Tryz.underlying45 rowE Tryz.underlying133 Tryz.underlying135 rfl rfl Tryz.underlying9 cellsE cellsS
  have ht := Lib.tabIs_of_head gTab gTabType Tryz.underlying119 Tryz.underlying50 cellsU cellsT h2
  obtain ⟨m, hm⟩ := cell_of_shapedOpen_int (P := Tryz.prog) (g := 3) (t := 3) (zero := #[.int .i64 0]) hS (of_decide_eq_true (by kernel_rfl)) (by kernel_rfl) rfl (by kernel_rfl) (by kernel_rfl) Tryz.underlying3
  have hlt : 3 < W.heap.size := by
    rcases Nat.lt_or_ge 3 W.heap.size with h | h
    · exact h
    · simp [World.cell?, Array.getElem?_eq_none h] at hm
  exact ⟨by omega, ⟨m, hm⟩, ⟨a, hv⟩, ht⟩

/-- a world for the witness: the settled one, the listed variables laid -/
theorem own : ownKnob Tryz.prog.godebug = none := by kernel_rfl
theorem met (os : Os) (args : Array Value) : laidMetH Tryz.prog listed ((World.laidAll Tryz.prog os listed).forCall (fun _ _ => 0) ⟨#[], args, []⟩).memory := by
  rw [listed_plain]; exact laidMet_laidAll _ (by kernel_rfl) (by kernel_rfl)
theorem shaped (os : Os) (args : Array Value) : ((World.laidAll Tryz.prog os listed).forCall (fun _ _ => 0) ⟨#[], args, []⟩).Shaped Tryz.prog :=
  World.shaped_of_ZipB (by kernel_rfl) (by kernel_rfl)

end Go.Proofs.YtfocdlhaohhkjaaGreatDoor.Money
