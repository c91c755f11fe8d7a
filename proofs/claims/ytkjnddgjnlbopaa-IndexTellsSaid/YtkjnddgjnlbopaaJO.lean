import Derived.Test.YtkjnddgjnlbopaaFT
import Derived.OpenShut
/-
  A slice of ints that comes in, opened.
-/
namespace Go.Proofs.Ytkjnddgjnlbopaa.Index
open Go Go.ChangeShapes Go.WideShapes Go.ChangeAt Go.RowKit
open Go.Proofs.Ytkjnddgjnlbopaa.Frame (cell_spot cell_lt)
/-- numbers that lie in a slice that came in -/
def IntsI (w : World) (A : Option Addr) (xs : List Int) : Prop := ∀ k, k < xs.length → ∃ b o, A = some ⟨b, o, none⟩ ∧ b < w.heap.size ∧ w.cell? ⟨b, o + k, none⟩ = some (.int .i64 (xs.getD k 0))
theorem IntsI.below {w w' : World} {A : Option Addr} {xs : List Int} (h : IntsI w A xs) (hb : Below w.heap.size w w') : IntsI w' A xs := fun k hk => by
  obtain ⟨b, o, e, h1, h2⟩ := h k hk
  exact ⟨b, o, e, Nat.lt_of_lt_of_le h1 hb.size, (hb.cell (p := ⟨b, o + k, none⟩) h1).trans h2⟩
variable {H : Type} {enc : TypeId × Value → H} {w : World} {base : Nat} {spare : Nat → Bool} {held : Bool}
set_option maxRecDepth 100000 in
theorem open_intsI {v : Value} {d : DataW H} {p : List MemPlace} {r : Reach} {b0 : Nat} (hv : Value.okWide Try.prog w r b0 40 v) (h : DataW.Trod enc Try.prog w base spare held 40 v d p) :
    ∃ (A : Option Addr) (cap : Nat) (xs : List Int), v = .slice A xs.length cap ∧ xs.length ≤ cap ∧ cap ≤ maxLen ∧ IntsI w A xs := by
  obtain ⟨A, len, cap, rfl⟩ := okWide_slice Try.underlying40 hv
  obtain ⟨fuel, hf⟩ := h
  rcases Go.ChangeShapes.open_ints Try.underlying40 Try.underlying3 (by kernel_rfl) hf with ⟨hcs, _⟩ | ⟨a, len', cap', zs, hcs, hb, hl, hm, hz, _, hat, hwf⟩
  · have e : Value.slice A len cap = .slice none 0 0 := by simpa [Value.cells] using hcs
    injection e with e1 e2 e3
    subst e1 e2 e3
    exact ⟨none, 0, [], rfl, Nat.le_refl _, Nat.zero_le _, fun k hk => absurd hk (by simp)⟩
  · have e : Value.slice A len cap = .slice (some a) len' cap' := by simpa [Value.cells] using hcs
    injection e with e1 e2 e3
    subst e1 e2 e3
    have hlm : len ≤ zs.length := by rw [hz]; split <;> omega
    have htl : (zs.take len).length = len := by rw [List.length_take]; omega
    refine ⟨some a, cap, zs.take len, by rw [htl], by rw [htl]; exact hl, hm, ?_⟩
    intro k hk
    rw [htl] at hk
    have c0 := hat 0 (by omega)
    have hsp : a.spot = none := by
      have := cell_spot c0
      simpa [Addr.add] using this
    have ck := hat k (by omega)
    obtain ⟨ab, ao, sp⟩ := a
    simp only [] at hsp
    subst hsp
    rw [(Go.Proofs.Ytkjnddgjnlbopaa.Frame.add_spot _ _ rfl).1] at ck
    refine ⟨ab, ao, rfl, cell_lt ck, ?_⟩
    rw [ck]
    rw [List.getD_eq_getElem?_getD, List.getD_eq_getElem?_getD, List.getElem?_take, if_pos hk]
end Go.Proofs.Ytkjnddgjnlbopaa.Index
