/-
  What the row of FaultWrapped gives a walk: whatever the table of powers of ten holds; what is said of the parts of a list.
-/
import Derived.Test.YtdaeiapogipjbaaDoorT2
import Derived.Test.YtdaeiapogipjbaaDoorDF
import Derived.Shelf.Vars
namespace Go.Proofs.YtdaeiapogipjbaaDoor.Fault
open Go Go.RowKit

/-- an array of numbers that stands among the variables holds some numbers -/
theorem cells_of_shapedOpen_ints {P : Program} {w : World} {g n : Nat} {t e : TypeId} {zero : Array Value} {k : IntKind}
    (h : w.ShapedOpen P) (hg : g < P.globals.size) (h0 : ((begin P (fun _ _ => 0) default).world.heap[g]?).bind Obj.row? = some (zero, t)) (hz : zero.size = n)
    (hb : P.buildable t = true) (hc : P.cellTypes P.depth t = some (List.replicate n e)) (hu : P.underlying e = some (.int k)) :
    ∃ T : Nat → Int, ∀ i, i < n → w.cell? ⟨g, i, none⟩ = some (.int k (T i)) := by
  obtain ⟨cs, hh, hs, hr⟩ := h.1 g zero t hg h0
  obtain ⟨ts, hts, _, hall⟩ := hr hb
  rw [hc] at hts
  cases hts
  have hsz : cs.size = n := by omega
  have one : ∀ i, i < n → ∃ m, cs[i]? = some (.int k m) := fun i hi => by
    have h1 : i < cs.size := by omega
    obtain ⟨u, hu', hok⟩ := hall i cs[i] (by simp [h1])
    have hue : u = e := by
      have hu2 : (List.replicate n e)[i % n]? = some u := by simpa using hu'
      rw [List.getElem?_replicate, if_pos (Nat.mod_lt _ (by omega))] at hu2
      exact (Option.some.inj hu2).symm
    subst hue
    unfold Cell.ok at hok
    rw [hu] at hok
    have hcs : cs[i]? = some cs[i] := by simp [h1]
    rw [hcs]
    cases hv : cs[i] <;> rw [hv] at hok <;> simp at hok
    case int k' m => exact ⟨m, by rw [hok.1]⟩
  classical
  refine ⟨fun i => if hi : i < n then Classical.choose (one i hi) else 0, fun i hi => ?_⟩
  have hc1 := Classical.choose_spec (one i hi)
  simp only [dif_pos hi]
  unfold World.cell?
  rw [show w.heap[(⟨g, i, none⟩ : Addr).block]? = _ from hh]
  exact hc1
/-- what FaultWrapped's row gives -/
def EnvX (w : World) : Prop := ErrT w ∧ ∃ T, TabX T w
theorem gCells : Tryd.prog.cellTypes Tryd.prog.depth 108 = some (List.replicate 20 100) := by kernel_rfl
theorem gBuild : Tryd.prog.buildable 108 = true := by kernel_rfl
theorem gRow : ((begin Tryd.prog (fun _ _ => 0) default).world.heap[2]?).bind Obj.row? = some (Array.replicate 20 (.int .u64 0), 108) := by kernel_rfl
theorem envX {W : World} (hL : laidMetH Tryd.prog listed1 W) (hS : W.ShapedOpen Tryd.prog) : EnvX W := by
  obtain ⟨T, hT⟩ := cells_of_shapedOpen_ints (n := 20) hS (of_decide_eq_true (by kernel_rfl)) gRow (by simp) gBuild gCells Tryd.underlying100
  refine ⟨errT1 hL, T, hT, ?_⟩
  have hm := hT 0 (by decide)
  rcases Nat.lt_or_ge 2 W.heap.size with h | h
  · exact h
  · simp [World.cell?, Array.getElem?_eq_none h] at hm

theorem tot_drop (xs : List Wr) (k : Nat) : tot (xs.drop k) ≤ tot xs := by
  unfold tot
  conv => rhs; rw [← List.take_append_drop k xs]
  rw [List.map_append, List.sum_append]; omega
theorem classOf_range (e : Int) : 0 ≤ classOf e ∧ classOf e ≤ 4 := by
  unfold classOf
  repeat' split
  all_goals omega

end Go.Proofs.YtdaeiapogipjbaaDoor.Fault
