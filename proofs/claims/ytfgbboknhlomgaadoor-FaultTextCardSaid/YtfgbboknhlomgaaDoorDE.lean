/-
  What the row of FaultText lists gives a walk, and a world that holds it.
-/
import Derived.Test.YtfgbboknhlomgaaDoorDF
import Derived.Test.YtfgbboknhlomgaaDoorDLText
import Derived.Lay
import Derived.Lib.LaidTab
import Derived.Stop.LaidErr
import Derived.MakeChecks
namespace Go.Proofs.YtfgbboknhlomgaaDoor.Fault
open Go Go.RowKit

def dataT : List (String × DataW Unit) := [("math/bits.deBruijn32tab", Rows.laid_math_bits_deBruijn32tab), ("math/bits.deBruijn64tab", Rows.laid_math_bits_deBruijn64tab), ("internal/strconv.uint64pow10", Rows.laid_internal_strconv_uint64pow10)]
def listedT : List (String × DataW Unit) := [("math/bits.deBruijn32tab", Rows.laid_math_bits_deBruijn32tab), ("math/bits.deBruijn64tab", Rows.laid_math_bits_deBruijn64tab), ("internal/strconv.uint64pow10", Rows.laid_internal_strconv_uint64pow10), ("errors.errorType", Rows.laid_errors_errorType)]
theorem gTabType : (Tryd.prog.globals[2]?).map (·.type) = some 108 := by kernel_rfl
theorem cellsT : Tryd.prog.cellsOf 108 = 20 := by kernel_rfl
theorem cellsU : Tryd.prog.cellsOf 100 = 1 := by kernel_rfl
theorem pow_data : (Rows.laid_internal_strconv_uint64pow10 : DataW Unit) = Lib.tabData .u64 Lib.pow10Tab := by
  unfold Rows.laid_internal_strconv_uint64pow10 Lib.tabData; kernel_rfl
theorem envT {W : World} (h : laidMetH Tryd.prog listedT W) : ErrT W ∧ Tab W := by
  have h' : laidMet Tryd.prog dataT W ∧ handlesMet Tryd.prog [("errors.errorType", Rows.laid_errors_errorType)] W := h
  have h2 : laidMet Tryd.prog [("internal/strconv.uint64pow10", Lib.tabData .u64 Lib.pow10Tab)] W := by rw [← pow_data]; exact h'.1.tail.tail
  have ht := Lib.tabIs_of_head gTab gTabType Tryd.underlying108 Tryd.underlying100 cellsU cellsT h2
  refine ⟨errT_of_handles h'.2, ht, ?_⟩
  have hc := World.var?_cell gTab ht 0
  rcases Nat.lt_or_ge 2 W.heap.size with h1 | h1
  · exact h1
  · simp [World.cell?, Array.getElem?_eq_none h1, Lib.pow10Tab] at hc
noncomputable def worldT (os : Os) : World := (laidWorld os).layVars Tryd.prog dataT
theorem worldT_os (os : Os) : (worldT os).os = os := World.layVars_os _ _ _
theorem metT (os : Os) (args : Array Value) : laidMetH Tryd.prog listedT ((worldT os).forCall (fun _ _ => 0) ⟨#[], args, []⟩).memory := by
  have e1 : (dataT.filter fun x => (dataT.map (·.1)).contains x.1) = dataT := List.filter_eq_self.2 fun x hx => List.contains_iff_mem.2 (List.mem_map.2 ⟨x, hx, rfl⟩)
  have e2 : (dataT.filter fun x => !(dataT.map (·.1)).contains x.1) = [] := List.filter_eq_nil_iff.2 fun x hx => by rw [List.contains_iff_mem.2 (List.mem_map.2 ⟨x, hx, rfl⟩)]; simp
  have h : laidMet Tryd.prog dataT (worldT os) := laidMet_layVars (w0 := laidWorld os) (dataT.map (·.1)) [] (by rw [e1]; rfl) (by rw [e1]; kernel_rfl) (by rw [e1]; kernel_rfl) (by rw [e2]; exact LaidIn.none)
  exact laidMetH_of_parts (h.of_heap (by simp [World.memory, World.forCall, Input.heap])) (by kernel_rfl)

theorem faultText_walk (A : Option Addr) (cap : Nat) (xs : List Wr) (e : Int) (op : ByteArray) (w : World) (hx : Wraps w A xs w.heap.size) (hl : xs.length ≤ cap) (hcap : cap ≤ maxLen) (he : (Lit.int .i64 e).wf = true) (hop : op.size ≤ maxLen) (E : ErrT w ∧ Tab w) :
    Calls Tryd.prog 5 #[.slice A xs.length cap, .int .i64 e, .string op] w fun ev w' => ev = .returned (.bool true) ∧ Below w.heap.size w w' :=
  faultText_any itoa_zero A cap xs e op w (says_tab E.2) hx hl hcap he hop E.1

end Go.Proofs.YtfgbboknhlomgaaDoor.Fault
