/-
  The walks of slices.Equal, at numbers and at texts, and of Same.
-/
import Derived.Test.YtefkfjbdmglkjaaDoorE11
import Derived.StillTailTactics
namespace Go.Proofs.YtefkfjbdmglkjaaDoor.Schema
open Go Go.RowKit

def texts (xs : List ByteArray) : List Value := xs.map Value.string
theorem texts_at (xs : List ByteArray) (j : Nat) (h : j < xs.length) : (texts xs)[j]? = some (.string (xs.getD j ByteArray.empty)) := by
  unfold texts
  rw [List.getElem?_map, List.getElem?_eq_getElem h, List.getD_eq_getElem?_getD, List.getElem?_eq_getElem h]; rfl
theorem eq_of_getD {α : Type} (d : α) {xs ys : List α} (hl : xs.length = ys.length) (h : ∀ j, j < xs.length → xs.getD j d = ys.getD j d) : xs = ys := by
  apply List.ext_getElem hl
  intro j h1 h2
  have := h j h1
  rw [List.getD_eq_getElem?_getD, List.getD_eq_getElem?_getD, List.getElem?_eq_getElem h1, List.getElem?_eq_getElem h2] at this
  exact this
theorem ne_of_getD {α : Type} (d : α) {xs ys : List α} (j : Nat) (h : ¬ xs.getD j d = ys.getD j d) : ¬ xs = ys := fun e => h (by rw [e])
theorem all_step {p : Nat → Prop} {k : Nat} (h : Hid (∀ j, j < k → p j)) (hk : p k) : Hid (∀ j, j < k + 1 → p j) := fun j hj => by
  by_cases e : j = k
  · exact e ▸ hk
  · exact h j (by omega)

end Go.Proofs.YtefkfjbdmglkjaaDoor.Schema
