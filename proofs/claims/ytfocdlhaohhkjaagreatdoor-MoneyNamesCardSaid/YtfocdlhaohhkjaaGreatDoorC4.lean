/-
  Money, plain: an amount's text, read byte by byte. No program.
-/
import Derived.Test.YtfocdlhaohhkjaaGreatDoorC3
namespace Go.Proofs.YtfocdlhaohhkjaaGreatDoor.Money
open Go

/-- the number of the first i bytes, the one at k left out -/
def pv (t : List UInt8) (k : Nat) : Nat → Nat
  | 0 => 0
  | i + 1 => if i = k then pv t k i else pv t k i * 10 + ((t.getD i 0).toNat - 48)
/-- are the first i bytes digits, the one at k left out? -/
def pok (t : List UInt8) (k : Nat) : Nat → Bool
  | 0 => true
  | i + 1 => pok t k i && (decide (i = k) || isD (t.getD i 0))
theorem pv_at (t : List UInt8) (k : Nat) : pv t k (k + 1) = pv t k k := if_pos rfl
theorem pv_next (t : List UInt8) (k i : Nat) (h : i ≠ k) : pv t k (i + 1) = pv t k i * 10 + ((t.getD i 0).toNat - 48) := if_neg h
theorem pv_mono (t : List UInt8) (k i : Nat) : pv t k i ≤ pv t k (i + 1) := by
  by_cases h : i = k
  · subst h; rw [pv_at]; exact Nat.le_refl _
  · rw [pv_next t k i h]; omega
theorem pok_at (t : List UInt8) (k : Nat) : pok t k (k + 1) = pok t k k := by
  show (pok t k k && (decide (k = k) || _)) = _; simp
theorem pok_next (t : List UInt8) (k i : Nat) (h : i ≠ k) : pok t k (i + 1) = (pok t k i && isD (t.getD i 0)) := by
  show (pok t k i && (decide (i = k) || _)) = _; rw [decide_eq_false h, Bool.false_or]
theorem pok_down (t : List UInt8) (k i m : Nat) (h : pok t k i = false) : pok t k (i + m) = false := by
  induction m with
  | zero => exact h
  | succ m ih => show (pok t k (i + m) && _) = false; rw [ih]; rfl
theorem take_all_succ (t : List UInt8) (i : Nat) (h : i < t.length) : (t.take (i + 1)).all isD = ((t.take i).all isD && isD (t.getD i 0)) := by
  rw [List.take_succ_eq_append_getElem h, List.all_append, List.getD_eq_getElem?_getD, List.getElem?_eq_getElem h]; simp
theorem pok_upto (t : List UInt8) (k i : Nat) (h : i ≤ k) (hi : i ≤ t.length) : pok t k i = (t.take i).all isD ∧ pv t k i = valD (t.take i) := by
  induction i with
  | zero => exact ⟨rfl, rfl⟩
  | succ i ih =>
    obtain ⟨a, b⟩ := ih (by omega) (by omega)
    rw [pok_next t k i (by omega), pv_next t k i (by omega), take_all_succ t i (by omega), a, b, List.take_succ_eq_append_getElem (by omega), valD_snoc, List.getD_eq_getElem?_getD, List.getElem?_eq_getElem (by omega)]
    exact ⟨rfl, rfl⟩
/-- all of it: what is asked of an amount's text, but for the point and the first digit -/
theorem pok_whole (t : List UInt8) (h4 : 4 ≤ t.length) : pok t (t.length - 3) t.length = ((t.take (t.length - 3)).all isD && (t.drop (t.length - 2)).all isD) ∧ pv t (t.length - 3) t.length = bodyV t := by
  obtain ⟨k, hk⟩ : ∃ k, t.length = k + 3 := ⟨t.length - 3, by omega⟩
  have k3 : t.length - 3 = k := by omega
  have k2 : t.length - 2 = k + 1 := by omega
  obtain ⟨a, b⟩ := pok_upto t k k (Nat.le_refl _) (by omega)
  have hcd : t.drop (k + 1) = [t.getD (k + 1) 0, t.getD (k + 2) 0] := by
    rw [List.drop_eq_getElem_cons (by omega), List.drop_eq_getElem_cons (by omega), List.drop_of_length_le (by omega), List.getD_eq_getElem?_getD, List.getD_eq_getElem?_getD, List.getElem?_eq_getElem (by omega), List.getElem?_eq_getElem (by omega)]; rfl
  unfold bodyV
  rw [k3, k2, hcd, hk, show k + 3 = k + 1 + 1 + 1 from rfl, pok_next t k (k + 2) (by omega), pok_next t k (k + 1) (by omega), pok_at, pv_next t k (k + 2) (by omega), pv_next t k (k + 1) (by omega), pv_at, a, b, show [t.getD (k + 1) 0, t.getD (k + 2) 0] = [t.getD (k + 1) 0] ++ [t.getD (k + 2) 0] from rfl, ← List.append_assoc, valD_snoc, valD_snoc]
  refine ⟨?_, rfl⟩
  generalize (t.take k).all isD = x
  simp [Bool.and_assoc]

/-- the tests ahead of the digits -/
def ahead (t : List UInt8) : Bool := decide (4 ≤ t.length) && (t[t.length - 3]? == some 46) && (decide (t.length = 4) || (t.head? != some 48))
theorem body_ahead (t : List UInt8) : body t = (ahead t && pok t (t.length - 3) t.length) := by
  unfold body ahead
  by_cases h : 4 ≤ t.length
  · rw [(pok_whole t h).1]
    generalize (t.take (t.length - 3)).all isD = x
    generalize (t.drop (t.length - 2)).all isD = y
    generalize (t[t.length - 3]? == some 46) = z
    generalize (decide (t.length = 4) || (t.head? != some 48)) = u
    cases x <;> cases y <;> cases z <;> cases u <;> simp
  · rw [decide_eq_false h]; simp
/-- what Parse tells, by the reader's cases -/
theorem parse_no_ahead {l : List UInt8} (h : ahead (rest l) = false) : pN l = 0 ∧ pE l = 4 := by
  have hb : amt l = false := by unfold amt; rw [body_ahead, h]; rfl
  unfold pN pE; rw [hb]; exact ⟨rfl, rfl⟩
theorem parse_no_digit {l : List UInt8} (i m : Nat) (hi : i + m = (rest l).length) (h : pok (rest l) ((rest l).length - 3) i = false) : pN l = 0 ∧ pE l = 4 := by
  have hp := pok_down _ _ i m h
  rw [hi] at hp
  have hb : amt l = false := by unfold amt; rw [body_ahead, hp]; simp
  unfold pN pE; rw [hb]; exact ⟨rfl, rfl⟩
theorem parse_zero {l : List UInt8} (hn : isNeg l = true) (h0 : bodyV (rest l) = 0) : pN l = 0 ∧ pE l = 4 := by
  have hb : amt l = false := by unfold amt; rw [hn, h0]; simp
  unfold pN pE; rw [hb]; exact ⟨rfl, rfl⟩
theorem parse_yes {l : List UInt8} (h1 : ahead (rest l) = true) (h2 : pok (rest l) ((rest l).length - 3) (rest l).length = true) (h3 : isNeg l = false ∨ bodyV (rest l) ≠ 0) : pN l = tN (amtV l) ∧ pE l = tE (amtV l) := by
  have hb : amt l = true := by
    unfold amt; rw [body_ahead, h1, h2]
    rcases h3 with h3 | h3
    · rw [h3]; rfl
    · rw [decide_eq_false h3]; simp
  unfold pN pE; rw [if_pos hb, if_pos hb]; exact ⟨rfl, rfl⟩

end Go.Proofs.YtfocdlhaohhkjaaGreatDoor.Money
