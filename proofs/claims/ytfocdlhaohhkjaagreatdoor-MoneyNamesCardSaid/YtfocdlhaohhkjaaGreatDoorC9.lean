/-
  What a product is; what stays below.
-/
import Derived.Test.YtfocdlhaohhkjaaGreatDoorC8
namespace Go.Proofs.YtfocdlhaohhkjaaGreatDoor.Money
open Go.RowKit

theorem m_ok {p q : Int} (hp : 0 ≤ p) (hq : 0 ≤ q) : mN p q = tN (p * q) ∧ mE p q = tE (p * q) := by
  unfold mN mE; rw [if_neg (show ¬ (p < 0 ∨ q < 0) by omega), if_neg (show ¬ (p < 0 ∨ q < 0) by omega)]; exact ⟨rfl, rfl⟩
theorem m_arg {p q : Int} (h : p < 0 ∨ q < 0) : mN p q = 0 ∧ mE p q = 1 := by
  unfold mN mE; rw [if_pos h, if_pos h]; exact ⟨rfl, rfl⟩
theorem tE_two (n : Int) : tE n = 0 ∨ tE n = 41 := by unfold tE; split <;> simp
/-- what was below stays, through a call that began in a world that had grown -/
theorem below_on {w w1 w2 : World} (h : Below w.heap.size w w1) (k : Below w1.heap.size w1 w2) : Below w.heap.size w w2 := h.trans (k.mono h.size)

end Go.Proofs.YtfocdlhaohhkjaaGreatDoor.Money
