import Derived.Test.YtkjnddgjnlbopaaIQ
/-
  Segments of payloads: what is read of them by an index. Plain mathematics for the statements IndexFound and IndexAdds.
-/
namespace Go.Proofs.Ytkjnddgjnlbopaa.Index
open Go Go.RowKit
open Go.Proofs.Ytkjnddgjnlbopaa.Wire (S S_list S_size)
open Go.Proofs.Ytkjnddgjnlbopaa.Frame Go.Proofs.Ytkjnddgjnlbopaa.Seg

theorem seg_split (q k : Nat) (ps : List (List UInt8)) (hk : k ≤ ps.length) : segB q ps = segB q (ps.take k) ++ rowB (q + k) (ps.drop k) := by
  unfold segB
  rw [List.append_assoc]
  congr 1
  conv => lhs; rw [← List.take_append_drop k ps]
  rw [rowB_append, List.length_take, Nat.min_eq_left hk]
theorem seg_drop (q k : Nat) (ps : List (List UInt8)) (hk : k ≤ ps.length) : (segB q ps).drop (segN (ps.take k)) = rowB (q + k) (ps.drop k) := by
  rw [seg_split q k ps hk, ← segB_length q (ps.take k), List.drop_left]
theorem okP_drop {q : Nat} {ps : List (List UInt8)} (h : okP q ps) (k : Nat) (hk : k ≤ ps.length) : okP (q + k) (ps.drop k) :=
  ⟨by rw [List.length_drop]; have := h.1; omega, fun p hp => h.2 p (List.mem_of_mem_drop hp)⟩
theorem okP_take {q : Nat} {ps : List (List UInt8)} (h : okP q ps) (k : Nat) : okP q (ps.take k) :=
  ⟨by rw [List.length_take]; have := h.1; omega, fun p hp => h.2 p (List.mem_of_mem_take hp)⟩
theorem isL_row (q k : Nat) (ps : List (List UInt8)) (h : okP q ps) (hk : k ≤ ps.length) : isL (S (segB q ps)) (segN (ps.take k)) (q + k) = rowF (q + k) (segN (ps.take k)) (ps.drop k) := by
  unfold isL
  rw [S_list, seg_drop q k ps hk]
  have := scan_row (ps.drop k) (q + k) (segN (ps.take k)) [] (okP_drop h k hk)
  rw [List.append_nil, scan_nil, List.append_nil] at this
  exact this
/-- **each frame is found** -/
theorem get_row (q ev k : Nat) (ps : List (List UInt8)) (h : okP q ps) (hk : k < ps.length) :
    gtP (S (segB q ps)) (frA ev q (q + k) (atsP ps)) (frS ev q (q + k)) (q + k - frS ev q (q + k)) = ps[k] ∧ gtE (S (segB q ps)) (frA ev q (q + k) (atsP ps)) (frS ev q (q + k)) (q + k - frS ev q (q + k)) = 0 := by
  obtain ⟨j, hj⟩ : ∃ j, k / ev * ev = j := ⟨_, rfl⟩
  have hjk : j ≤ k := by rw [← hj]; exact Nat.div_mul_le_self k ev
  have e1 : frS ev q (q + k) = q + j := by unfold frS; rw [Nat.add_sub_cancel_left, hj]
  have e2 : frA ev q (q + k) (atsP ps) = segN (ps.take j) := by unfold frA; rw [Nat.add_sub_cancel_left, hj, atsP_at ps j (by omega)]
  rw [e1, e2, show q + k - (q + j) = k - j by omega]
  have hL := isL_row q j ps h (by omega)
  have hlen : k - j < (isL (S (segB q ps)) (segN (ps.take j)) (q + j)).length := by rw [hL, rowF_length, List.length_drop]; omega
  have hat := rowF_at (ps.drop j) (q + j) (segN (ps.take j)) (k - j) (by rw [List.length_drop]; omega)
  unfold gtP gtE
  rw [if_pos hlen, if_pos hlen, hL, List.getD_eq_getElem?_getD, hat]
  refine ⟨?_, rfl⟩
  show (ps.drop j)[k - j]'_ = ps[k]
  rw [List.getElem_drop]
  congr 1; omega
/-- **each frame stands there** -/
theorem read_row (q k : Nat) (ps : List (List UInt8)) (h : okP q ps) (hk : k < ps.length) :
    rdV (S (segB q ps)) (segN (ps.take k) : Nat) = .tuple #[frV ((q + k : Nat) : Int) ps[k] (segN (ps.take k) : Nat), .int .i64 ((segN (ps.take k) : Nat) + (16 + ps[k].length : Nat) : Int), .int .i64 0] := by
  have hd := seg_drop q k ps (Nat.le_of_lt hk)
  rw [List.drop_eq_getElem_cons hk, rowB] at hd
  have hp := h.2 ps[k] (List.getElem_mem hk)
  have hq : q + k < 1048576 := by have := h.1; omega
  obtain ⟨f1, f2, f3, f4⟩ := fr_parts (q + k) ps[k] (rowB (q + k + 1) (ps.drop (k + 1))) hq hp.2
  have f0 := rd_fr (q + k) ps[k] (rowB (q + k + 1) (ps.drop (k + 1))) hq hp.1 hp.2
  have hle : segN (ps.take k) ≤ (S (segB q ps)).size := by
    have := congrArg List.length (seg_split q k ps (Nat.le_of_lt hk))
    rw [List.length_append, segB_length q (ps.take k)] at this
    rw [S_size]; omega
  unfold rdV
  rw [if_pos ⟨by omega, by omega⟩, S_list, Int.toNat_natCast, hd, if_pos f0, f2, f4]
  unfold rdK
  rw [f1]
theorem okP_of {q : Int} {xs : List ByteArray} (h : joE q (bytesP xs) = 0) : ∃ a : Nat, q = (a : Int) ∧ okP a (bytesP xs) ∧ segN (bytesP xs) ≤ 1048576 ∧ joB q (bytesP xs) = segB a (bytesP xs) := by
  obtain ⟨h1, h2⟩ := joE_zero h
  obtain ⟨hm, hk⟩ := wrE_zero h1
  refine ⟨q.toNat, by have := hm.1; omega, hk, h2, ?_⟩
  unfold joB; rw [if_pos h]
end Go.Proofs.Ytkjnddgjnlbopaa.Index
