import Derived.Test.YtkjnddgjnlbopaaNQ
/-
  The laws' own helpers: many, texts.
-/
namespace Go.Proofs.Ytkjnddgjnlbopaa.Seg
open Go Go.RowKit
open Go.Proofs.Ytkjnddgjnlbopaa.Wire (S S_list S_size S_append cell_row frozen_row row_lt heap_set U)
open Go.Proofs.Ytkjnddgjnlbopaa.Frame Go.Proofs.Ytkjnddgjnlbopaa.Ranges

/-! ### many -/
def sumM : List ByteArray → Nat
  | [] => 0
  | x :: r => 1 + min x.size 20001 + sumM r
theorem sumM_take (xs : List ByteArray) (j : Nat) (h : j < xs.length) : sumM (xs.take (j + 1)) = sumM (xs.take j) + (1 + min (xs[j]'h).size 20001) := by
  induction xs generalizing j with
  | nil => simp at h
  | cons x r ih =>
    cases j with
    | zero => simp [sumM]
    | succ j =>
      have := ih j (by simpa using h)
      simp only [List.take_succ_cons, sumM, List.getElem_cons_succ]
      omega
theorem sumM_small (xs : List ByteArray) (h : sumM xs ≤ 20000) : xs.length ≤ 20000 ∧ ∀ j (hj : j < xs.length), xs[j].size ≤ 20000 := by
  have key : xs.length ≤ sumM xs ∧ ∀ j (hj : j < xs.length), min xs[j].size 20001 ≤ sumM xs := by
    clear h
    induction xs with
    | nil => exact ⟨Nat.zero_le _, fun j hj => absurd hj (Nat.not_lt_zero _)⟩
    | cons x r ih =>
      obtain ⟨h1, h2⟩ := ih
      refine ⟨by rw [List.length_cons, sumM]; omega, fun j hj => ?_⟩
      cases j with
      | zero => rw [sumM, List.getElem_cons_zero]; omega
      | succ j => have := h2 j (by simpa using hj); rw [sumM, List.getElem_cons_succ]; omega
  refine ⟨Nat.le_trans key.1 h, fun j hj => ?_⟩
  have := key.2 j hj
  omega
/-! ### texts -/
def spoilt : ByteArray := ⟨#[115, 112, 111, 105, 108, 116]⟩
def spo (xs : List ByteArray) (i : Nat) : List ByteArray := List.replicate i spoilt ++ xs.drop i
theorem spo_len (xs : List ByteArray) (i : Nat) (h : i ≤ xs.length) : (spo xs i).length = xs.length := by unfold spo; rw [List.length_append, List.length_replicate, List.length_drop]; omega
theorem spo_at (xs : List ByteArray) (i : Nat) (h : i < xs.length) : (spo xs i)[i]? = some xs[i] := by
  unfold spo; rw [List.getElem?_append_right (by rw [List.length_replicate]; exact Nat.le_refl _), List.length_replicate, Nat.sub_self, List.getElem?_drop, Nat.add_zero, List.getElem?_eq_getElem h]
theorem spo_set (xs : List ByteArray) (i : Nat) (h : i < xs.length) : (spo xs i).set i spoilt = spo xs (i + 1) := by
  unfold spo
  rw [List.set_append_right _ _ (by rw [List.length_replicate]; exact Nat.le_refl _), List.length_replicate, Nat.sub_self, List.drop_eq_getElem_cons h, List.set_cons_zero, List.replicate_succ', List.append_assoc]
  rfl
/-- a text of one's own, written over -/
theorem OwnS.set {w : World} {base g cap : Nat} {ys : List ByteArray} (h : OwnS w base (.slice (some ⟨g, 0, none⟩) ys.length cap) ys) (j : Nat) (hj : j < ys.length) (y : ByteArray) : OwnS (w.setCell ⟨g, j, none⟩ (.string y)) base (.slice (some ⟨g, 0, none⟩) (ys.set j y).length cap) (ys.set j y) := by
  rcases h.2 with ⟨e, _⟩ | ⟨g', cap', cur, e, hb, hg, h1, h2, h3, h4⟩
  · cases e
  · cases e
    refine ⟨by rw [strV_len, Nat.mul_one], Or.inr ⟨g, cap, cur.setIfInBounds j (.string y), rfl, hb, heap_set hg j _, by rw [List.length_set]; exact h1, h2, by rw [Array.size_setIfInBounds]; exact h3, ?_⟩⟩
    have e2 : strV (ys.set j y) = (strV ys).set j (.string y) := by unfold strV; rw [List.map_set]
    rw [e2, Array.toList_setIfInBounds, List.length_set, List.take_set, h4]
end Go.Proofs.Ytkjnddgjnlbopaa.Seg
