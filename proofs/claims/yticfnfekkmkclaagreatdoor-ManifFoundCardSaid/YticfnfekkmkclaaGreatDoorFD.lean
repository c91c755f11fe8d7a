import Derived.Test.YticfnfekkmkclaaGreatDoorMV
import Derived.Test.YticfnfekkmkclaaGreatDoorMW
import Derived.Test.YticfnfekkmkclaaGreatDoorMT
/-
  ManifFound: what Find tells, what With takes, that names are all unlike.
-/
namespace Go.Proofs.YticfnfekkmkclaaGreatDoor.Manif
open Go Go.RowKit
open Go.Proofs.YticfnfekkmkclaaGreatDoor.Wire (S S_list)
open Go.Proofs.YticfnfekkmkclaaGreatDoor.Seg (nameE namedR named_name)

theorem fdN_facts (l : List (Int × Int)) (q : Int) : ∀ n : Nat, -1 ≤ fdN l q n ∧ fdN l q n < (n : Int) ∧ (0 ≤ fdN l q n → (l.getD (fdN l q n).toNat (0, 0)).2 ≤ q) ∧ (∀ j : Nat, fdN l q n < (j : Int) → j < n → q < (l.getD j (0, 0)).2)
  | 0 => ⟨by unfold fdN; omega, by unfold fdN; omega, fun h => by unfold fdN at h; omega, fun j _ h => absurd h (Nat.not_lt_zero _)⟩
  | n + 1 => by
    unfold fdN
    by_cases h : (l.getD n (0, 0)).2 ≤ q
    · rw [if_pos h]
      exact ⟨by omega, by omega, fun _ => by rw [Int.toNat_natCast]; exact h, fun j h1 h2 => by omega⟩
    · rw [if_neg h]
      obtain ⟨a, b, c, d⟩ := fdN_facts l q n
      refine ⟨a, by omega, c, fun j h1 h2 => ?_⟩
      rcases Nat.lt_or_ge j n with h3 | h3
      · exact d j h1 h3
      · obtain rfl : j = n := by omega
        omega
theorem fdN_app (l m : List (Int × Int)) (q : Int) : ∀ n : Nat, n ≤ l.length → fdN (l ++ m) q n = fdN l q n
  | 0, _ => rfl
  | n + 1, h => by
    unfold fdN
    have e : (l ++ m).getD n (0, 0) = l.getD n (0, 0) := by
      simp only [List.getD_eq_getElem?_getD]
      rw [List.getElem?_append_left (by omega)]
    rw [e, fdN_app l m q n (by omega)]
/-- one segment more -/
theorem fd_snoc (l : List (Int × Int)) (x y q : Int) : fdI (l ++ [(x, y)]) q = if y ≤ q then (l.length : Int) else fdI l q := by
  unfold fdI
  rw [List.length_append, List.length_singleton]
  rw [fdN]
  have e : (l ++ [(x, y)]).getD l.length (0, 0) = (x, y) := by simp
  rw [e, fdN_app l _ q l.length (Nat.le_refl _)]
/-- the last one's first batch -/
def lastF (L : Int) : List (Int × Int) → Int
  | [] => L
  | p :: r => lastF p.2 r
theorem mayS_snoc (g x y : Int) : ∀ (l : List (Int × Int)) (L : Int), mayS g L (l ++ [(x, y)]) = (mayS g L l && decide (0 ≤ x ∧ x ≤ g ∧ lastF L l < y ∧ y ≤ 1048576))
  | [], L => by rw [List.nil_append, mayS, mayS, mayS, lastF, Bool.and_true, Bool.true_and]
  | p :: r, L => by
    rw [List.cons_append, mayS, mayS, mayS_snoc g x y r p.2, lastF, Bool.and_assoc]
theorem lastF_at : ∀ (l : List (Int × Int)) (L : Int), 1 ≤ l.length → lastF L l = (l.getD (l.length - 1) (0, 0)).2
  | [], _, h => absurd h (by simp)
  | [p], L, _ => rfl
  | p :: p2 :: r, L, _ => by
    rw [lastF, lastF_at (p2 :: r) p.2 (by simp)]
    simp
theorem may_snoc {g x y : Int} {l : List (Int × Int)} (h : mayM g l = true) : (mayM g (l ++ [(x, y)]) = true) ↔ (0 ≤ x ∧ x ≤ g ∧ (l.getD (l.length - 1) (0, 0)).2 < y ∧ y ≤ 1048576 ∧ l.length < 64) := by
  unfold mayM at h ⊢
  simp only [Bool.and_eq_true, decide_eq_true_eq] at h ⊢
  obtain ⟨⟨a, b, c, d⟩, e⟩ := h
  rw [mayS_snoc, e, Bool.true_and, decide_eq_true_eq, lastF_at l (-1) c, List.length_append, List.length_singleton]
  constructor
  · rintro ⟨⟨-, -, -, h1⟩, h2, h3, h4, h5⟩; exact ⟨h2, h3, h4, h5, by omega⟩
  · rintro ⟨h1, h2, h3, h4, h5⟩; exact ⟨⟨a, b, by omega, by omega⟩, h1, h2, h3, h4⟩
theorem mayS_low {g : Int} : ∀ (l : List (Int × Int)) (L : Int), mayS g L l = true → ∀ p ∈ l, L < p.2
  | [], _, _, _, hp => by cases hp
  | q :: r, L, h, p, hp => by
    rw [mayS, Bool.and_eq_true, decide_eq_true_eq] at h
    rcases List.mem_cons.1 hp with rfl | hp
    · exact h.1.2.2.1
    · have := mayS_low r q.2 h.2 p hp
      have := h.1.2.2.1
      omega
theorem mayS_up {g : Int} : ∀ (l : List (Int × Int)) (L : Int), mayS g L l = true → ∀ (j i : Nat) (hji : j < i) (hi : i < l.length), (l[j]'(by omega)).2 < (l[i]).2
  | [], _, _, _, _, _, hi => absurd hi (Nat.not_lt_zero _)
  | q :: r, L, h, j, i, hji, hi => by
    rw [mayS, Bool.and_eq_true, decide_eq_true_eq] at h
    cases i with
    | zero => exact absurd hji (Nat.not_lt_zero _)
    | succ i =>
      have hi' : i < r.length := by simpa using hi
      cases j with
      | zero => exact mayS_low r q.2 h.2 _ (List.getElem_mem hi')
      | succ j => exact mayS_up r q.2 h.2 j i (by omega) hi'
theorem may_named {g : Int} {l : List (Int × Int)} (h : mayM g l = true) (j : Nat) (hj : j < l.length) : namedR (nameE (l[j]).1 (l[j]).2) = ((l[j]).1, (l[j]).2, true) := by
  obtain ⟨a, b, c, d, e⟩ := mayM_parts h
  obtain ⟨e1, e2, e3, e4⟩ := e j hj
  exact named_name ⟨e1, by omega, e3, e4⟩
theorem names_ne {g : Int} {l : List (Int × Int)} (h : mayM g l = true) (j i : Nat) (hji : j < i) (hi : i < l.length) : S (nameE (l[j]'(by omega)).1 (l[j]'(by omega)).2) ≠ S (nameE (l[i]).1 (l[i]).2) := by
  intro e
  have e2 : nameE (l[j]'(by omega)).1 (l[j]'(by omega)).2 = nameE (l[i]).1 (l[i]).2 := by
    have := congrArg (fun s : ByteArray => s.data.toList) e
    simpa [S] using this
  have h1 := may_named h j (by omega)
  have h2 := may_named h i hi
  rw [e2, h2] at h1
  have h3 := mayS_up l (-1) (by unfold mayM at h; exact (Bool.and_eq_true _ _ ▸ h).2) j i hji hi
  have := congrArg (fun t : Int × Int × Bool => t.2.1) h1
  simp at this
  omega
end Go.Proofs.YticfnfekkmkclaaGreatDoor.Manif
