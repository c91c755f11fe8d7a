/-
  A slice of numbers that came in, opened.
-/
import Derived.Test.YtfocdlhaohhkjaaGreatDoorC17
import Derived.ProofKit
import Derived.OpenShut
import Derived.ChangeSlices
namespace Go.Proofs.YtfocdlhaohhkjaaGreatDoor.Money
open Go.ChangeShapes Go.WideShapes Go.ChangeAt Go.RowKit

theorem cell_lt {w : World} {b o : Nat} {v : Value} (h : w.cell? ⟨b, o, none⟩ = some v) : b < w.heap.size := by
  rcases Nat.lt_or_ge b w.heap.size with h1 | h1
  · exact h1
  · unfold World.cell? at h
    rw [show w.heap[(⟨b, o, none⟩ : Addr).block]? = none from Array.getElem?_eq_none h1] at h
    cases h
theorem cell_spot {w : World} {a : Addr} {v : Value} (h : w.cell? a = some v) : a.spot = none := by
  unfold World.cell? at h
  split at h
  · split at h
    · cases h
    · rename_i hs; simpa using hs
  · cases h
/-- numbers that lie in a slice that came in -/
def Ints (w : World) (A : Option Addr) (cap : Nat) (xs : List Int) : Prop := (A = none → cap = 0) ∧ Fits xs ∧ ∀ k, k < xs.length → ∃ b o, A = some ⟨b, o, none⟩ ∧ b < w.heap.size ∧ w.cell? ⟨b, o + k, none⟩ = some (.int .i64 (xs.getD k 0))
theorem Ints.nums {w w' : World} {A : Option Addr} {cap : Nat} {xs : List Int} (h : Ints w A cap xs) (hl : xs.length ≤ 4611686018427387903) (hb : Below w.heap.size w w') : Nums w' A xs :=
  ⟨hl, h.2.1, fun k hk => by
    obtain ⟨b, o, e, hlt, hc⟩ := h.2.2 k hk
    exact ⟨b, o, e, by rw [hb.cell (show b < w.heap.size from hlt)]; exact hc⟩⟩
variable {H : Type} {enc : TypeId × Value → H} {w : World} {base : Nat} {spare : Nat → Bool} {held : Bool}
set_option maxRecDepth 100000 in
theorem open_ints {v : Value} {d : DataW H} {p : List MemPlace} {r : Reach} {b0 : Nat} (hv : Value.okWide Tryz.prog w r b0 31 v) (h : DataW.Trod enc Tryz.prog w base spare held 31 v d p) :
    ∃ (A : Option Addr) (cap : Nat) (xs : List Int), v = .slice A xs.length cap ∧ xs.length ≤ cap ∧ cap ≤ maxLen ∧ Ints w A cap xs := by
  obtain ⟨A, len, cap, rfl⟩ := okWide_slice Tryz.underlying31 hv
  obtain ⟨fuel, hf⟩ := h
  rcases Go.ChangeShapes.open_ints Tryz.underlying31 Tryz.underlying2 (by kernel_rfl) hf with ⟨hcs, _⟩ | ⟨a, len', cap', zs, hcs, hb, hl, hm, hz, _, hat, hwf⟩
  · have e : Value.slice A len cap = .slice none 0 0 := by simpa [Value.cells] using hcs
    injection e with e1 e2 e3
    subst e1 e2 e3
    exact ⟨none, 0, [], rfl, Nat.le_refl _, Nat.zero_le _, (fun _ => rfl), (fun x hx => by cases hx), fun k hk => absurd hk (by simp)⟩
  · have e : Value.slice A len cap = .slice (some a) len' cap' := by simpa [Value.cells] using hcs
    injection e with e1 e2 e3
    subst e1 e2 e3
    have hlm : len ≤ zs.length := by rw [hz]; split <;> omega
    have htl : (zs.take len).length = len := by rw [List.length_take]; omega
    refine ⟨some a, cap, zs.take len, by rw [htl], by rw [htl]; exact hl, hm, (fun h => by cases h), ?_, ?_⟩
    · intro x hx
      have := hwf x (List.mem_of_mem_take hx)
      simp [Lit.wf, IntKind.min, IntKind.max, IntKind.bits, IntKind.signed] at this
      omega
    · intro k hk
      rw [htl] at hk
      have c0 := hat 0 (by omega)
      have hsp : a.spot = none := by
        have := cell_spot c0
        simpa [Addr.add] using this
      have ck := hat k (by omega)
      obtain ⟨ab, ao, sp⟩ := a
      simp only [] at hsp
      subst hsp
      rw [Lib.add_plain] at ck
      refine ⟨ab, ao, rfl, cell_lt ck, ?_⟩
      rw [ck]
      rw [List.getD_eq_getElem?_getD, List.getD_eq_getElem?_getD, List.getElem?_take, if_pos hk]

end Go.Proofs.YtfocdlhaohhkjaaGreatDoor.Money
