import Derived.Test.YtkjnddgjnlbopaaNH
/-
  The walk of the function that Split's iterator hands about: a payload goes into the last segment.
-/
namespace Go.Proofs.Ytkjnddgjnlbopaa.Seg
open Go Go.RowKit
open Go.Proofs.Ytkjnddgjnlbopaa.Wire (S S_list S_size cell_row frozen_row row_lt heap_set U)
open Go.Proofs.Ytkjnddgjnlbopaa.Frame Go.Proofs.Ytkjnddgjnlbopaa.Ranges
attribute [local go_sem] Oper.semAt_some

theorem wf_nat (n : Nat) (h : n ≤ 1000000000000) : (Lit.int .i64 (n : Int)).wf = true := by simp [Lit.wf, IntKind.min, IntKind.max, IntKind.bits, IntKind.signed]; omega
theorem Wr.off {N : Int} {B : Nat} {w : World} {p r : Nat} {l : List UInt8} (h : Opn.Wr N B w p l) (hr : r < B) (v : Value) : Opn.Wr N B (w.setCell ⟨r, 0, none⟩ v) p l := by
  obtain ⟨hB, h⟩ := h
  refine ⟨hB, ?_⟩
  rcases h with ⟨h, e⟩ | ⟨q, g, cap, h1, h2, h3, h4, h5⟩
  · exact Or.inl ⟨(Wire.heap_far 0 v (by omega)).trans h, e⟩
  · exact Or.inr ⟨q, g, cap, h1, h2, (Wire.heap_far 0 v (by omega)).trans h3, (Wire.heap_far 0 v (by omega)).trans h4, h5.same (Wire.heap_far 0 v (by omega))⟩
theorem yields_all {P : Program} {l : Nat} {args : Array Value} {X : World} {R : Ending → World → Prop} (h : ∀ n, YieldAt Fence.wide 0 P l args (X.drewN n) R) :
    ∃ (fn : Nat → _) (tmps : Nat → _) (assign : Nat → _) (body : Nat → _), (∀ n, (Instr.yield l args).run P (X.drewN n) = .ok (.round l (fn n) (tmps n) (assign n) (body n)) (X.drewN n)) ∧ ∀ n, RoundIn Fence.wide 0 P l (fn n) (tmps n) (assign n) (body n) (X.drewN n) R :=
  ⟨fun n => (h n).choose, fun n => (h n).choose_spec.choose, fun n => (h n).choose_spec.choose_spec.choose, fun n => (h n).choose_spec.choose_spec.choose_spec.choose,
    fun n => (h n).choose_spec.choose_spec.choose_spec.choose_spec.1, fun n => (h n).choose_spec.choose_spec.choose_spec.choose_spec.2⟩
end Go.Proofs.Ytkjnddgjnlbopaa.Seg

/-
  The walk of segments: what its iterator hands over.
-/
namespace Go.Proofs.Ytkjnddgjnlbopaa.Seg
open Go Go.RowKit
open Go.Proofs.Ytkjnddgjnlbopaa.Wire (S S_list S_size cell_row frozen_row row_lt heap_set U)
open Go.Proofs.Ytkjnddgjnlbopaa.Frame Go.Proofs.Ytkjnddgjnlbopaa.Ranges
attribute [local go_sem] Oper.semAt_some

def grp (most : Int) (q0 : Nat) (xs : List ByteArray) : List (Nat × List (List UInt8)) := spl most q0 [] (bytesP xs)
def RelS (most : Int) (q0 : Nat) (xs : List ByteArray) (i _sz : Nat) (args : Array Value) (_W : World) : Prop :=
  ∃ g, (grp most q0 xs)[i]? = some g ∧ args = #[.string (S (segB g.1 g.2))]
theorem strs_over {X X' : World} {A : Option Addr} {xs : List ByteArray} (h : Strs X A xs) (hs : X.heap.size ≤ X'.heap.size) (hA : ∀ a, A = some a → 0 < xs.length → X'.heap[a.block]? = X.heap[a.block]?) : Strs X' A xs := fun j hj => by
  obtain ⟨b, o, e, h1, h2, h3⟩ := h j hj
  exact ⟨b, o, e, Nat.lt_of_lt_of_le h1 hs, h2, (World.cell?_of_block (w := X) (w' := X') (show X'.heap[b]? = X.heap[b]? from hA _ e (by omega))).trans h3⟩
theorem drop_head {α : Type} {l : List α} {i : Nat} {a : α} {m : List α} (h : l.drop i = a :: m) : l[i]? = some a ∧ l.drop (i + 1) = m ∧ i < l.length := by
  have h1 : (l.drop i)[0]? = some a := by rw [h]; rfl
  rw [List.getElem?_drop, Nat.add_zero] at h1
  refine ⟨h1, ?_, (List.getElem?_eq_some_iff.1 h1).1⟩
  rw [← List.drop_drop, h]; rfl
theorem drop_pay (xs : List ByteArray) (j : Nat) (h : j < xs.length) : (bytesP xs).drop j = (xs[j]'h).data.toList :: (bytesP xs).drop (j + 1) := by
  have hl : j < (bytesP xs).length := by rw [bytesP_len]; exact h
  rw [List.drop_eq_getElem_cons hl, bytesP_at xs j h]
theorem kq_dn {o m c B : Nat} {R : Nat → Prop} {X W' : World} {n : Nat} (h : Kq o m c B R (X.drewN n) W') : Kq o m c B R X W' := ⟨h.size, h.same, h.os, h.tape, h.output⟩
end Go.Proofs.Ytkjnddgjnlbopaa.Seg
