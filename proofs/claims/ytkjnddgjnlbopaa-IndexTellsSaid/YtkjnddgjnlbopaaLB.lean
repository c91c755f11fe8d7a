import Derived.Test.YtkjnddgjnlbopaaLA
/-
  What is scanned of any bytes, joined: plain mathematics.
-/
namespace Go.Proofs.Ytkjnddgjnlbopaa.Seg
open Go
open Go.Proofs.Ytkjnddgjnlbopaa.Wire (S S_list S_size)
open Go.Proofs.Ytkjnddgjnlbopaa.Frame

def pays (L : List Fr) : List (List UInt8) := L.map fun f => f.p
theorem pays_len (L : List Fr) : (pays L).length = L.length := by unfold pays; simp
theorem bytesP_pays (L : List Fr) : bytesP (paysF L) = pays L := by
  unfold bytesP paysF pays; rw [List.map_map]; rfl
theorem pays_row : ∀ (ps : List (List UInt8)) (q i : Nat), pays (rowF q i ps) = ps
  | [], _, _ => rfl
  | p :: r, q, i => by
    have := pays_row r (q + 1) (i + (16 + p.length))
    unfold pays at *
    rw [rowF, List.map_cons, this]
theorem paysF_row (xs : List ByteArray) (q i : Nat) : paysF (rowF q i (bytesP xs)) = xs := by
  have h : paysF (rowF q i (bytesP xs)) = (pays (rowF q i (bytesP xs))).map S := by unfold paysF pays; rw [List.map_map]; rfl
  rw [h, pays_row]
  unfold bytesP; rw [List.map_map]
  conv => rhs; rw [← List.map_id xs]
  rfl
theorem row_q : ∀ (ps : List (List UInt8)) (q i : Nat), okP q ps → ∀ f ∈ rowF q i ps, f.q < 1048576
  | [], _, _, _, f, h => by cases h
  | p :: r, q, i, hk, f, h => by
    obtain ⟨h1, _, _, h4⟩ := hk.cons
    rw [rowF, List.mem_cons] at h
    rcases h with rfl | h
    · exact h1
    · exact row_q r (q + 1) _ h4 f h
theorem nx_row : ∀ (ps : List (List UInt8)) (q i : Nat), nxI (q : Int) (rowF q i ps) = (q : Int) + ps.length
  | [], q, i => by simp [nxI, rowF]
  | [p], q, i => by simp [nxI, rowF]
  | p :: p2 :: r, q, i => by
    have ih := nx_row (p2 :: r) (q + 1) (i + (16 + p.length))
    have e : rowF q i (p :: p2 :: r) = ⟨q, p, i⟩ :: rowF (q + 1) (i + (16 + p.length)) (p2 :: r) := rfl
    have hne : rowF (q + 1) (i + (16 + p.length)) (p2 :: r) ≠ [] := by rw [rowF]; simp
    unfold nxI at ih ⊢
    rw [dif_neg hne] at ih
    rw [e, dif_neg (by simp), List.getLast_cons hne, ih]
    simp only [List.length_cons]
    omega
/-- **what is scanned, made again** -/
theorem scan_again : ∀ (n : Nat) (l : List UInt8) (i q : Nat), l.length ≤ n → q ≤ 1048576 →
    okP q (pays (scanF l i (q : Int))) ∧ rowF q i (pays (scanF l i (q : Int))) = scanF l i (q : Int) ∧ rowB q (pays (scanF l i (q : Int))) = l.take (bytesOf (scanF l i (q : Int))) ∧ bytesOf (scanF l i (q : Int)) ≤ l.length
  | n, l, i, q, hn, hq => by
    by_cases h : rdE l = 0 ∧ (rdQ l : Int) = (q : Int)
    · obtain ⟨h0, h1⟩ := h
      have hk := rdK_le h0
      obtain ⟨z1, z2, z3, z4, _⟩ := rd_zero h0
      have hpl := rdP_length z1
      obtain ⟨hb, _⟩ := rd_back h0
      have hqq : rdQ l = q := by omega
      match n, hn with
      | 0, hn => omega
      | n + 1, hn =>
        obtain ⟨a1, a2, a3, a4⟩ := scan_again n (l.drop (rdK l)) (i + rdK l) (q + 1) (by rw [List.length_drop]; omega) (by omega)
        rw [scan_step h0 h1, show ((q : Int) + 1) = ((q + 1 : Nat) : Int) by omega]
        generalize scanF (l.drop (rdK l)) (i + rdK l) ((q + 1 : Nat) : Int) = L at *
        have hkk : rdK l = 16 + (rdP l).length := by unfold rdK; rw [hpl]
        refine ⟨⟨?_, ?_⟩, ?_, ?_, ?_⟩
        · have := a1.1; unfold pays at *; rw [List.map_cons, List.length_cons]; omega
        · intro p hp
          unfold pays at hp
          rw [List.map_cons, List.mem_cons] at hp
          rcases hp with rfl | hp
          · show 1 ≤ (rdP l).length ∧ (rdP l).length ≤ 4096
            omega
          · exact a1.2 p hp
        · unfold pays at *
          rw [List.map_cons, rowF, hqq]
          show _ :: rowF (q + 1) (i + (16 + (rdP l).length)) _ = _
          rw [← hkk, a2]
        · unfold pays at *
          rw [List.map_cons, rowB]
          show frB q (rdP l) ++ _ = _
          rw [a3, ← hqq, hb, bytesOf]
          show _ = l.take (16 + (rdP l).length + bytesOf L)
          rw [← hkk, List.take_add]
        · rw [bytesOf]
          show 16 + (rdP l).length + bytesOf L ≤ _
          rw [List.length_drop] at a4
          omega
    · rw [scan_none h]
      exact ⟨⟨by simp [pays]; exact hq, fun p hp => by cases hp⟩, rfl, by simp [pays, rowB, bytesOf], Nat.zero_le _⟩
/-- **a segment of any bytes, up to Good** -/
theorem sc_again (l : List UInt8) (h : fiE l = 0) : okP (fiN l) (pays (scL l)) ∧ segB (fiN l) (pays (scL l)) = l.take (scG l) ∧ 16 ≤ scG l ∧ scG l ≤ l.length ∧ rowF (fiN l) 16 (pays (scL l)) = scL l := by
  obtain ⟨h16, _, _, hq⟩ := fi_parts h
  have eL : scL l = scanF (l.drop 16) 16 (fiN l : Int) := if_pos h
  have eG : scG l = 16 + bytesOf (scL l) := if_pos h
  obtain ⟨a1, a2, a3, a4⟩ := scan_again _ (l.drop 16) 16 (fiN l) (Nat.le_refl _) hq
  rw [← eL] at a1 a2 a3 a4
  rw [List.length_drop] at a4
  refine ⟨a1, ?_, by omega, by omega, a2⟩
  unfold segB
  rw [fi_back h, a3, eG, List.take_add]
theorem sc_join (l : List UInt8) (h : fiE l = 0) (hl : l.length ≤ 1048576) : joE (fiN l : Int) (pays (scL l)) = 0 ∧ joB (fiN l : Int) (pays (scL l)) = l.take (scG l) := by
  obtain ⟨a1, a2, a3, a4, _⟩ := sc_again l h
  have hw := wrE_ok a1
  have hn : segN (pays (scL l)) ≤ 1048576 := by
    rw [← segB_length (fiN l), a2, List.length_take]; omega
  have he : joE (fiN l : Int) (pays (scL l)) = 0 := by unfold joE; rw [if_pos hw, if_neg (by omega)]
  refine ⟨he, ?_⟩
  unfold joB; rw [if_pos he, Int.toNat_natCast, a2]
end Go.Proofs.Ytkjnddgjnlbopaa.Seg
