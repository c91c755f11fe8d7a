import Derived.Test.YtkjnddgjnlbopaaIP
/-
  What a frame that is got is made of: plain mathematics for the statement IndexOther.
-/
namespace Go.Proofs.Ytkjnddgjnlbopaa.Index
open Go Go.RowKit
open Go.Proofs.Ytkjnddgjnlbopaa.Wire (S S_list S_size)
open Go.Proofs.Ytkjnddgjnlbopaa.Frame Go.Proofs.Ytkjnddgjnlbopaa.Seg

/-- a frame that is handed over stands there, byte by byte -/
theorem isL_at (s : ByteArray) : ∀ (i p q : Nat), i < (isL s p q).length → ∃ (pl : List UInt8) (at_ : Nat), (isL s p q).getD i fr0 = ⟨q + i, pl, at_⟩ ∧ q + i < 1048576 ∧ 1 ≤ pl.length ∧ pl.length ≤ 4096 ∧ at_ + (16 + pl.length) ≤ s.size ∧ (s.data.toList.drop at_).take (16 + pl.length) = frB (q + i) pl
  | 0, p, q, h => by
    by_cases hx : isX s p q = 0
    · obtain ⟨h0, h1, h2, h3⟩ := isL_yes hx
      rw [h3]
      obtain ⟨z1, z2, z3, z4, _⟩ := rd_zero h0
      have hpl := rdP_length z1
      have hk := rdK_le h0
      have hz : s.data.toList.length = s.size := by simp
      rw [List.length_drop, hz] at hk
      obtain ⟨hb, _⟩ := rd_back h0
      have hkk : rdK (s.data.toList.drop p) = 16 + (rdP (s.data.toList.drop p)).length := by unfold rdK; rw [hpl]
      refine ⟨rdP (s.data.toList.drop p), p, rfl, by omega, by omega, by omega, by omega, ?_⟩
      rw [← hkk, ← hb, h1]; rfl
    · rw [isL_no hx] at h
      exact absurd h (Nat.not_lt_zero _)
  | i + 1, p, q, h => by
    by_cases hx : isX s p q = 0
    · obtain ⟨h0, h1, h2, h3⟩ := isL_yes hx
      rw [h3] at h ⊢
      obtain ⟨pl, at_, e, h4, h5, h6, h7, h8⟩ := isL_at s i (p + rdK (s.data.toList.drop p)) (q + 1) (by simpa using h)
      rw [show q + 1 + i = q + (i + 1) by omega] at e h4 h8
      exact ⟨pl, at_, by rw [← e]; rfl, h4, h5, h6, h7, h8⟩
    · rw [isL_no hx] at h
      exact absurd h (Nat.not_lt_zero _)
/-- what Get tells, where it is no error -/
theorem gt_there {s : ByteArray} {p q D : Nat} (h : gtE s p q D = 0) (hx : ¬ exE s p q = 0) : ∃ at_, 1 ≤ (gtP s p q D).length ∧ (gtP s p q D).length ≤ 4096 ∧ q + D < 1048576 ∧ at_ + (16 + (gtP s p q D).length) ≤ s.size ∧ (s.data.toList.drop at_).take (16 + (gtP s p q D).length) = frB (q + D) (gtP s p q D) := by
  unfold gtE at h
  by_cases hd : D < (isL s p q).length
  · obtain ⟨pl, at_, e, h4, h5, h6, h7, h8⟩ := isL_at s D p q hd
    have hp : gtP s p q D = pl := by unfold gtP; rw [if_pos hd, e]
    rw [hp]
    exact ⟨at_, h5, h6, h4, h7, h8⟩
  · rw [if_neg hd] at h; exact absurd h hx
theorem exE_ne (s : ByteArray) (p q : Nat) : ¬ exE s p q = 0 := by
  have key : ∀ (n : Nat) (p q : Nat), (isL s p q).length = n → ¬ isX s (p + bytesOf (isL s p q)) (q + (isL s p q).length) = 0 := by
    intro n
    induction n with
    | zero =>
      intro p q hn
      have hL : isL s p q = [] := List.eq_nil_of_length_eq_zero hn
      rw [hL]
      intro hx
      obtain ⟨_, _, _, h3⟩ := isL_yes (show isX s p q = 0 from hx)
      rw [hL] at h3; cases h3
    | succ n ih =>
      intro p q hn
      by_cases hx : isX s p q = 0
      · obtain ⟨h0, h1, h2, h3⟩ := isL_yes hx
        have hk : rdK (s.data.toList.drop p) = 16 + (rdP (s.data.toList.drop p)).length := by
          unfold rdK; rw [rdP_length (rd_zero h0).1]
        rw [h3, List.length_cons] at hn
        have := ih (p + rdK (s.data.toList.drop p)) (q + 1) (by omega)
        rw [h3, List.length_cons, bytesOf]
        rw [show p + (16 + (rdP (s.data.toList.drop p)).length + bytesOf (isL s (p + rdK (s.data.toList.drop p)) (q + 1))) = p + rdK (s.data.toList.drop p) + bytesOf (isL s (p + rdK (s.data.toList.drop p)) (q + 1)) by omega, show q + ((isL s (p + rdK (s.data.toList.drop p)) (q + 1)).length + 1) = q + 1 + (isL s (p + rdK (s.data.toList.drop p)) (q + 1)).length by omega]
        exact this
      · rw [isL_no hx] at hn; cases hn
  exact key _ p q rfl
end Go.Proofs.Ytkjnddgjnlbopaa.Index
