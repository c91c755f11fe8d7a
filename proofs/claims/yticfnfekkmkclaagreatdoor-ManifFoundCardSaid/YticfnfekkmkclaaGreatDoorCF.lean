/-
  The rows that list the parser's errors besides: what their variables give a walk; an entry that is handed in, opened.
-/
import Derived.Test.YticfnfekkmkclaaGreatDoorCE
import Derived.Test.YticfnfekkmkclaaGreatDoorOP
namespace Go.Proofs.YticfnfekkmkclaaGreatDoor.Seg
open Go.RowKit

def listedF : List (String × DataW Unit) := [("math/bits.deBruijn32tab", Rows.laid_math_bits_deBruijn32tab), ("math/bits.deBruijn64tab", Rows.laid_math_bits_deBruijn64tab), ("internal/strconv.uint64pow10", Rows.laid_internal_strconv_uint64pow10), ("strconv.ErrRange", Rows.laid_strconv_ErrRange), ("strconv.ErrSyntax", Rows.laid_strconv_ErrSyntax)]
theorem listed_plainF (w : World) : laidMetH Tryz.prog listedF w = laidMet Tryz.prog listedF w := MakeChecks.laidMetH_plain _ _ _ (by kernel_rfl)
theorem gErrType : (Tryz.prog.globals[2]?).map (·.type) = some 139 := by kernel_rfl
theorem gSynType : (Tryz.prog.globals[1]?).map (·.type) = some 139 := by kernel_rfl
theorem cellsE : Tryz.prog.cellsOf 228 = 1 := by kernel_rfl
theorem cellsS : Tryz.prog.cellsOf 9 = 1 := by kernel_rfl
theorem star : "*" ++ "errors.errorString" = "*errors.errorString" := by decide
theorem rowE (u : TypeId) (h : Tryz.prog.typeName? 3 u = some "*errors.errorString") : u = 226 :=
  typeName_ptr_named (nm := "errors.errorString") (by rw [star]; kernel_rfl) (by kernel_rfl) (by decide) u (by rw [star]; exact h)
theorem env_of {W : World} (hL : laidMetH Tryz.prog listedF W) (hS : W.ShapedOpen Tryz.prog) : Env W := by
  rw [listed_plainF] at hL
  have h2 : laidMet Tryz.prog (("internal/strconv.uint64pow10", Lib.tabData .u64 Lib.pow10Tab) :: listedF.drop 3) W := by rw [← pow_data]; exact hL.tail.tail
  have h4 := h2.tail
  obtain ⟨a, s, hv, _⟩ := laid_sentinel h4 gErr gErrType Tryz.underlying139 rowE Tryz.underlying226 Tryz.underlying228 rfl rfl Tryz.underlying9 cellsE cellsS
  obtain ⟨b, s2, hs, _⟩ := laid_sentinel h4.tail gSyn gSynType Tryz.underlying139 rowE Tryz.underlying226 Tryz.underlying228 rfl rfl Tryz.underlying9 cellsE cellsS
  have ht := Lib.tabIs_of_head gTab gTabType Tryz.underlying230 Tryz.underlying96 cellsU cellsT h2
  obtain ⟨m, hm⟩ := cell_of_shapedOpen_int (P := Tryz.prog) (g := 0) (t := 3) (zero := #[.int .i64 0]) hS (of_decide_eq_true (by kernel_rfl)) (by kernel_rfl) rfl (by kernel_rfl) (by kernel_rfl) Tryz.underlying3
  have hlt : 0 < W.heap.size := heap_of hm
  have hr := heap_of (by have := World.var?_cell gErr hv 0; simpa using this)
  have hy := heap_of (by have := World.var?_cell gSyn hs 0; simpa using this)
  have htb := heap_of (b := 3) (by have := World.var?_cell gTab ht 0; simpa [Lib.pow10Tab] using this)
  exact ⟨hlt, hr, hy, htb, ⟨m, hm⟩, ⟨a, hv⟩, ⟨b, hs⟩, ht⟩

theorem metF (os : Os) (args : Array Value) : laidMetH Tryz.prog listedF ((World.laidAll Tryz.prog os listedF).forCall (fun _ _ => 0) ⟨#[], args, []⟩).memory := by
  rw [listed_plainF]; exact laidMet_laidAll _ (by kernel_rfl) (by kernel_rfl)
end Go.Proofs.YticfnfekkmkclaaGreatDoor.Seg
namespace Go.Proofs.YticfnfekkmkclaaGreatDoor.Manif
open Go Go.ChangeShapes Go.WideShapes Go.ChangeAt Go.RowKit
variable {H : Type} {enc : TypeId × Value → H} {w : World} {base : Nat} {spare : Nat → Bool} {held : Bool}
set_option maxRecDepth 100000 in
theorem open_entry {v : Value} {d : DataW H} {p : List MemPlace} {r : Reach} {b0 : Nat} (hv : Value.okWide Tryz.prog w r b0 80 v) (h : DataW.Trod enc Tryz.prog w base spare held 80 v d p) :
    ∃ (a b : Int), v = .agg #[.int .i64 a, .int .i64 b] ∧ (-9223372036854775808 ≤ a ∧ a ≤ 9223372036854775807) ∧ (-9223372036854775808 ≤ b ∧ b ≤ 9223372036854775807) := by
  obtain ⟨v0, v1, y0, y1, n, rfl, rfl, _, h0, h1⟩ := Joins.open_agg2 Tryz.underlying80 (by kernel_rfl) (by kernel_rfl) hv h
  obtain ⟨a, rfl, ha⟩ := open_i64 h0
  obtain ⟨b, rfl, hb⟩ := open_i64 h1
  exact ⟨a, b, rfl, ha, hb⟩
end Go.Proofs.YticfnfekkmkclaaGreatDoor.Manif
