import Derived.Test.YtkccdffccjgajaaGreatDoorRP
import Derived.Test.YtkccdffccjgajaaGreatDoorLB
/-
  A segment that is cut short: plain mathematics, and what stands while it is gone over.
-/
namespace Go.Proofs.YtkccdffccjgajaaGreatDoor.Seg
open Go Go.RowKit
open Go.Proofs.YtkccdffccjgajaaGreatDoor.Wire (S S_list S_size S_append cell_row frozen_row row_lt heap_set heap_far U)
open Go.Proofs.YtkccdffccjgajaaGreatDoor.Frame Go.Proofs.YtkccdffccjgajaaGreatDoor.Ranges

theorem rem_ok (a : Int) (n : Nat) (h0 : 0 < n) (hn : n ≤ 10000000) : ∃ f : Nat, f < n ∧ wrap64 ((IntKind.u64.wrap a).tmod (n : Int)) = (f : Int) := by
  have h1 : 0 ≤ IntKind.u64.wrap a := by rw [IntKind.wrap_u64]; exact Int.emod_nonneg _ (by decide)
  rw [Int.tmod_eq_emod_of_nonneg h1]
  have h2 := Int.emod_nonneg (IntKind.u64.wrap a) (show (n : Int) ≠ 0 by omega)
  have h3 := Int.emod_lt_of_pos (IntKind.u64.wrap a) (show 0 < (n : Int) by omega)
  generalize IntKind.u64.wrap a % (n : Int) = z at *
  exact ⟨z.toNat, by omega, by rw [IntWalk.wrap64_in z ⟨by omega, by omega⟩]; omega⟩
/-- where a segment's i-th frame begins -/
def EN (xs : List ByteArray) (i : Nat) : Nat := 16 + RB xs i
theorem EN_zero (xs : List ByteArray) : EN xs 0 = 16 := by unfold EN; rw [RB_zero]
theorem EN_succ (xs : List ByteArray) (i : Nat) (h : i < xs.length) : EN xs (i + 1) = EN xs i + (16 + xs[i].size) := by unfold EN; rw [RB_succ xs i h]; omega
theorem EN_all (xs : List ByteArray) : EN xs xs.length = segN (bytesP xs) := by
  unfold EN segN RB
  rw [List.take_of_length_le (by rw [bytesP_len]; exact Nat.le_refl _)]
theorem seg_take (a : Nat) (xs : List ByteArray) (j : Nat) : (segB a (bytesP xs)).take (EN xs j) = segB a ((bytesP xs).take j) := by
  have h1 : rowB a (bytesP xs) = rowB a ((bytesP xs).take j) ++ rowB (a + ((bytesP xs).take j).length) ((bytesP xs).drop j) := by
    rw [← rowB_append, List.take_append_drop]
  unfold segB
  rw [h1, ← List.append_assoc]
  exact take_front (by rw [List.length_append, segH_length, RB_any]; rfl)
theorem strs_take {w : World} {A : Option Addr} {xs : List ByteArray} (h : Strs w A xs) (j : Nat) : Strs w A (xs.take j) := fun i hi => by
  have h2 : i < xs.length := by rw [List.length_take] at hi; omega
  obtain ⟨b, o, e, h3, h4, h5⟩ := h i h2
  exact ⟨b, o, e, h3, by rw [List.getElem_take]; exact h4, by rw [List.getElem_take]; exact h5⟩
theorem map_S (xs : List ByteArray) : (bytesP xs).map S = xs := by
  unfold bytesP; rw [List.map_map]
  conv => rhs; rw [← List.map_id xs]
  rfl
theorem map_S_take (xs : List ByteArray) (j : Nat) : ((bytesP xs).take j).map S = xs.take j := by rw [List.map_take, map_S]
theorem paysF_any (ps : List (List UInt8)) (q i : Nat) : paysF (rowF q i ps) = ps.map S := by
  have h : paysF (rowF q i ps) = (pays (rowF q i ps)).map S := by unfold paysF pays; rw [List.map_map]; rfl
  rw [h, pays_row]
/-- where a segment is cut -/
theorem cut_facts (a : Nat) (xs : List ByteArray) (h : okP a (bytesP xs)) (n : Nat) (h16 : 16 ≤ n) (hn : n ≤ EN xs xs.length) :
    ∃ j, j ≤ xs.length ∧ EN xs j ≤ n ∧ (∀ i, i ≤ xs.length → (i ≤ j ↔ EN xs i ≤ n)) ∧ fiE ((segB a (bytesP xs)).take n) = 0 ∧ fiQ ((segB a (bytesP xs)).take n) = a ∧ scL ((segB a (bytesP xs)).take n) = rowF a 16 ((bytesP xs).take j) ∧ scG ((segB a (bytesP xs)).take n) = EN xs j ∧ scW ((segB a (bytesP xs)).take n) = decide (EN xs j = n) := by
  obtain ⟨e1, e2, e3⟩ := sc_cut a (bytesP xs) n h h16
  have hw := wholeN_le (bytesP xs) (n - 16)
  rw [bytesP_len] at hw
  have hi : ∀ i, i ≤ xs.length → (i ≤ wholeN (bytesP xs) (n - 16) ↔ EN xs i ≤ n) := fun i hi => by
    rw [wholeN_iff (bytesP xs) 0 (n - 16) i (by rw [bytesP_len]; exact hi)]
    show RB xs i ≤ n - 16 ↔ 16 + RB xs i ≤ n
    omega
  have hl : ((segB a (bytesP xs)).take n).length = n := by
    rw [List.length_take, segB_length, ← EN_all]; omega
  have hg : scG ((segB a (bytesP xs)).take n) = EN xs (wholeN (bytesP xs) (n - 16)) := by
    unfold scG
    rw [if_pos e1, e3, bytesOf_row, RB_any]; rfl
  exact ⟨wholeN (bytesP xs) (n - 16), hw, (hi _ hw).1 (Nat.le_refl _), hi, e1, by unfold fiQ; rw [if_pos e1, e2], e3, hg, by unfold scW; rw [if_pos e1, hg, hl]⟩
theorem fr_at (a : Nat) (xs : List ByteArray) (j i : Nat) (hi : i < j) (hj : j ≤ xs.length) (h : i < (rowF a 16 ((bytesP xs).take j)).length) : (rowF a 16 ((bytesP xs).take j))[i]'h = ⟨a + i, (xs[i]'(by omega)).data.toList, EN xs i⟩ := by
  have h2 := rowF_at ((bytesP xs).take j) a 16 i (by rw [List.length_take, bytesP_len]; omega)
  rw [List.getElem?_eq_getElem h] at h2
  injection h2 with h2
  rw [h2, List.getElem_take, bytesP_at, List.take_take, Nat.min_eq_left (Nat.le_of_lt hi), RB_any]
  rfl
/-- what stands while the frames of a segment that was cut are gone over -/
structure Tb (w wr : World) (A A2 A1 : Option Addr) (xs ys : List ByteArray) (FR : List Fr) (j c1 bx a g : Nat) (W : Bool) : Prop where
  st : Strs wr A xs
  mo : Strs wr A2 ys
  fr : RowFr wr A1 FR
  box : SBx wr bx (a : Int) (.slice A1 j c1) (g : Int) W
  bel : Below w.heap.size w wr
theorem Tb.below {w wr wr' : World} {A A2 A1 : Option Addr} {xs ys : List ByteArray} {FR : List Fr} {j c1 bx a g : Nat} {W : Bool} (h : Tb w wr A A2 A1 xs ys FR j c1 bx a g W) (hb : Below wr.heap.size wr wr') : Tb w wr' A A2 A1 xs ys FR j c1 bx a g W :=
  ⟨h.st.below hb, h.mo.below hb, h.fr.below hb, (hb.block _ (row_lt h.box)).trans h.box, h.bel.trans (hb.mono h.bel.size)⟩
/-- a row of texts, cut -/
theorem cut_strs (A : Option Addr) (n cap j : Nat) (hj : j ≤ n) (hc : n ≤ cap) (W : World) :
    (Instr.slice 23 (.slice A n cap) none (some (.int .i64 (j : Int))) none).run Tryz.prog W = .ok (.slice A j cap) W := by
  obtain ⟨i0, hi, hz0, hz1, hz2⟩ := info_parts infoS
  rw [run_slice_h W 23 A n cap (by kernel_rfl) .i64 (j : Int) (by omega) (by omega)]
  have he : Tryz.prog.elem 23 = 9 := by kernel_rfl
  cases A with
  | none => simp [he, sizeOf, typeInfo, hi, hz1, Result.andThen, sliced]
  | some ad =>
    simp [he, sizeOf, typeInfo, hi, hz1, Result.andThen, sliced, Addr.add]
end Go.Proofs.YtkccdffccjgajaaGreatDoor.Seg
