import Derived.Test.YtkjnddgjnlbopaaIK
import Derived.Test.YtkjnddgjnlbopaaIC
/-
  The frames from a mark on, one by one: what is handed over.
-/
namespace Go.Proofs.Ytkjnddgjnlbopaa.Index
open Go Go.RowKit
open Go.Proofs.Ytkjnddgjnlbopaa.Wire (S S_list S_size cell_row frozen_row row_lt heap_set heap_far)
open Go.Proofs.Ytkjnddgjnlbopaa.Frame Go.Proofs.Ytkjnddgjnlbopaa.Seg

/-- the frames from a place on that are numbered on from q -/
def isL (s : ByteArray) (p q : Nat) : List Fr := scanF (s.data.toList.drop p) p (q : Int)
/-- what one reads behind them -/
def isX (s : ByteArray) (p q : Nat) : Nat := if rdE (s.data.toList.drop p) = 0 then (if rdQ (s.data.toList.drop p) = q then 0 else 4) else rdE (s.data.toList.drop p)
theorem isL_yes {s : ByteArray} {p q : Nat} (h : isX s p q = 0) : rdE (s.data.toList.drop p) = 0 ∧ rdQ (s.data.toList.drop p) = q ∧ p ≤ s.size ∧ isL s p q = ⟨q, rdP (s.data.toList.drop p), p⟩ :: isL s (p + rdK (s.data.toList.drop p)) (q + 1) := by
  unfold isX at h
  by_cases h0 : rdE (s.data.toList.drop p) = 0
  · rw [if_pos h0] at h
    by_cases hq : rdQ (s.data.toList.drop p) = q
    · have hk := rdK_le h0
      rw [List.length_drop] at hk
      have hz : s.data.toList.length = s.size := by simp
      refine ⟨h0, hq, by omega, ?_⟩
      unfold isL
      rw [scan_step h0 (by rw [hq]), List.drop_drop, hq]
      rw [show ((q : Int) + 1) = ((q + 1 : Nat) : Int) by omega]
    · rw [if_neg hq] at h; cases h
  · rw [if_neg h0] at h; exact absurd h h0
theorem isL_no {s : ByteArray} {p q : Nat} (h : ¬ isX s p q = 0) : isL s p q = [] := by
  unfold isL
  refine scan_none (fun hh => h ?_)
  unfold isX
  rw [if_pos hh.1, if_pos (by have := hh.2; omega)]
theorem irV_eq (s : ByteArray) (p q : Nat) : irV s p (q : Int) = if isX s p q = 0 then .tuple #[frV (q : Int) (rdP (s.data.toList.drop p)) (p : Int), .int .i64 ((p : Int) + rdK (s.data.toList.drop p)), .int .i64 0] else .tuple #[frV 0 [] 0, .int .i64 0, .int .i64 (isX s p q : Int)] := by
  have hz : s.data.toList.length = s.size := by simp
  have hd : s.data.toList.drop (min p s.size) = s.data.toList.drop p := by
    by_cases h : p ≤ s.size
    · rw [Nat.min_eq_left h]
    · rw [Nat.min_eq_right (by omega), List.drop_of_length_le (by omega), List.drop_of_length_le (by omega)]
  unfold irV
  rw [hd]
  by_cases h0 : rdE (s.data.toList.drop p) = 0
  · rw [if_pos h0]
    have hk := rdK_le h0
    rw [List.length_drop] at hk
    by_cases hq : rdQ (s.data.toList.drop p) = q
    · have hx : isX s p q = 0 := by unfold isX; rw [if_pos h0, if_pos hq]
      rw [if_pos (by rw [hq]), if_pos hx, Nat.min_eq_left (by omega), hq]
    · have hx : isX s p q = 4 := by unfold isX; rw [if_pos h0, if_neg hq]
      rw [if_neg (by omega), if_neg (by rw [hx]; decide), hx]; rfl
  · have hx : isX s p q = rdE (s.data.toList.drop p) := by unfold isX; rw [if_neg h0]
    rw [if_neg h0, if_neg (by rw [hx]; exact h0), hx]
/-- where the reading stands behind i frames -/
def plI (s : ByteArray) : Nat → Nat → Nat
  | p, 0 => p
  | p, i + 1 => plI s (p + rdK (s.data.toList.drop p)) i
end Go.Proofs.Ytkjnddgjnlbopaa.Index
