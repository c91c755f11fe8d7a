/-
  Elimination: rows, each with a highest bit of its own, and the words that made them.
-/
import Derived.Test.YtmmggkjfhiflaaaW12
namespace Go.Proofs.Ytmmggkjfhiflaaa.Crc

/-- no bit from n on -/
def Lo (n : Nat) (x : W) : Prop := ∀ i, n ≤ i → x.getLsbD i = false
theorem Lo.xor {n : Nat} {x y : W} (h : Lo n x) (g : Lo n y) : Lo n (x ^^^ y) := fun i hi => by rw [BitVec.getLsbD_xor, h i hi, g i hi]; rfl
theorem Lo.zero {x : W} (h : Lo 0 x) : x = 0 := by
  apply BitVec.eq_of_getLsbD_eq; intro i hi; rw [h i (Nat.zero_le _)]; simp
theorem Lo.all (x : W) : Lo 32 x := fun i hi => BitVec.getLsbD_of_ge _ _ hi
theorem Lo.mono {n m : Nat} {x : W} (h : Lo n x) (g : n ≤ m) : Lo m x := fun i hi => h i (Nat.le_trans g hi)
theorem Lo.down {n : Nat} {x : W} (h : Lo (n + 1) x) (g : x.getLsbD n = false) : Lo n x := fun i hi => by
  by_cases e : i = n
  · subst e; exact g
  · exact h i (by omega)
theorem lo_zero (n : Nat) : Lo n 0 := fun i _ => by simp
theorem lo_unit (j : Nat) : Lo (j + 1) ((1 : W) <<< j) := fun i hi => by
  rw [BitVec.getLsbD_shiftLeft]
  have : (1 : W).getLsbD (i - j) = decide (i - j = 0) := by simp [BitVec.getLsbD_one]
  rw [this]
  have : ¬ (i - j = 0) := by omega
  simp [this]
theorem bit_unit (j : Nat) (h : j < 32) : ((1 : W) <<< j).getLsbD j = true := by
  rw [BitVec.getLsbD_shiftLeft, Nat.sub_self]; simp [h]

/-- j rows are in -/
structure Elim (k : Nat) (R M : List W) (j : Nat) : Prop where
  rl : R.length = 32
  ml : M.length = 32
  im : ∀ b, b < 32 → wat R b = it k (wat M b)
  lo : ∀ b, b < 32 → Lo j (wat M b)
  top : ∀ b, b < 32 → wat R b ≠ 0 → (wat R b).getLsbD b = true ∧ Lo (b + 1) (wat R b)
  cnt : R.countP (fun x => x != 0) = j
/-- a row on its way in: bits from n on are gone -/
structure Way (k : Nat) (j : Nat) (v m : W) (n : Nat) : Prop where
  im : v = it k m
  bit : m.getLsbD j = true
  lo : Lo (j + 1) m
  vlo : Lo n v
theorem Way.nz {k j n : Nat} {v m : W} (h : Way k j v m n) : v ≠ 0 := fun e => by
  have h1 : it k m = it k 0 := by rw [← h.im, e]; exact (it_zero k).symm
  have h2 := it_inj h1
  have := h.bit
  rw [h2] at this; simp at this
theorem Way.first (k j : Nat) (hj : j < 32) : Way k j (it k ((1 : W) <<< j)) ((1 : W) <<< j) 32 := ⟨rfl, bit_unit j hj, lo_unit j, Lo.all _⟩
theorem Way.skip {k j n : Nat} {v m : W} (h : Way k j v m (n + 1)) (g : v.getLsbD n = false) : Way k j v m n := ⟨h.im, h.bit, h.lo, h.vlo.down g⟩
theorem Way.take {k j n : Nat} {v m : W} {R M : List W} (h : Way k j v m (n + 1)) (E : Elim k R M j) (hn : n < 32) (g : v.getLsbD n = true) (z : wat R n ≠ 0) : Way k j (v ^^^ wat R n) (m ^^^ wat M n) n := by
  have ht := E.top n hn z
  refine ⟨?_, ?_, ?_, ?_⟩
  · rw [h.im, E.im n hn, it_xor]
  · rw [BitVec.getLsbD_xor, h.bit, E.lo n hn j (Nat.le_refl _)]; rfl
  · exact h.lo.xor ((E.lo n hn).mono (Nat.le_succ _))
  · exact (h.vlo.xor ht.2).down (by rw [BitVec.getLsbD_xor, g, ht.1]; rfl)
theorem Way.never {k j : Nat} {v m : W} (h : Way k j v m 0) : False := h.nz h.vlo.zero
theorem wat_set (R : List W) (b i : Nat) (v : W) (hb : b < R.length) : wat (R.set b v) i = if i = b then v else wat R i := by
  unfold wat
  rw [List.getD_eq_getElem?_getD, List.getD_eq_getElem?_getD, List.getElem?_set]
  by_cases e : b = i
  · subst e; simp [hb]
  · rw [if_neg e, if_neg (fun h => e h.symm)]
theorem Elim.put {k j n : Nat} {v m : W} {R M : List W} (E : Elim k R M j) (h : Way k j v m (n + 1)) (hn : n < 32) (g : v.getLsbD n = true) (z : wat R n = 0) : Elim k (R.set n v) (M.set n m) (j + 1) := by
  have hr : n < R.length := by rw [E.rl]; exact hn
  have hm : n < M.length := by rw [E.ml]; exact hn
  refine ⟨by rw [List.length_set]; exact E.rl, by rw [List.length_set]; exact E.ml, ?_, ?_, ?_, ?_⟩
  · intro b hb
    rw [wat_set R n b v hr, wat_set M n b m hm]
    split
    · exact h.im
    · exact E.im b hb
  · intro b hb
    rw [wat_set M n b m hm]
    split
    · exact h.lo
    · exact (E.lo b hb).mono (Nat.le_succ _)
  · intro b hb
    rw [wat_set R n b v hr]
    by_cases e : b = n
    · subst e; rw [if_pos rfl]; intro _; exact ⟨g, h.vlo⟩
    · rw [if_neg e]; exact E.top b hb
  · have hz : R[n] = 0 := by
      have : wat R n = R[n] := by unfold wat; rw [List.getD_eq_getElem?_getD, List.getElem?_eq_getElem hr]; rfl
      rw [← this]; exact z
    rw [List.countP_set hr, hz, E.cnt]
    have hv : (v != 0) = true := bne_iff_ne.2 h.nz
    rw [hv]; simp
theorem Elim.full {k : Nat} {R M : List W} (E : Elim k R M 32) (b : Nat) (hb : b < 32) : (wat R b).getLsbD b = true ∧ Lo (b + 1) (wat R b) := by
  refine E.top b hb ?_
  have hr : b < R.length := by rw [E.rl]; exact hb
  have h := List.countP_eq_length.1 (E.cnt.trans E.rl.symm) R[b] (List.getElem_mem hr)
  have : wat R b = R[b] := by unfold wat; rw [List.getD_eq_getElem?_getD, List.getElem?_eq_getElem hr]; rfl
  rw [this]; exact bne_iff_ne.1 h
theorem Elim.first (k : Nat) : Elim k (List.replicate 32 0) (List.replicate 32 0) 0 := by
  have hw : ∀ b, wat (List.replicate 32 (0 : W)) b = 0 := fun b => by
    unfold wat; rw [List.getD_eq_getElem?_getD, List.getElem?_replicate]; split <;> rfl
  refine ⟨List.length_replicate, List.length_replicate, ?_, ?_, ?_, by decide⟩
  · intro b _; rw [hw]; exact (it_zero k).symm
  · intro b _; rw [hw]; exact lo_zero _
  · intro b _ h; exact absurd (hw b) h
/-- what is left of x, with w taken -/
structure Rest (k : Nat) (x left w : W) (n : Nat) : Prop where
  sum : left ^^^ it k w = x
  lo : Lo n left
theorem Rest.first (k : Nat) (x : W) : Rest k x x 0 32 := ⟨by rw [it_zero]; exact BitVec.xor_zero, Lo.all _⟩
theorem Rest.skip {k n : Nat} {x left w : W} (h : Rest k x left w (n + 1)) (g : left.getLsbD n = false) : Rest k x left w n := ⟨h.sum, h.lo.down g⟩
theorem Rest.take {k n : Nat} {x left w : W} {R M : List W} (h : Rest k x left w (n + 1)) (E : Elim k R M 32) (hn : n < 32) (g : left.getLsbD n = true) : Rest k x (left ^^^ wat R n) (w ^^^ wat M n) n := by
  have ht := E.full n hn
  refine ⟨?_, (h.lo.xor ht.2).down (by rw [BitVec.getLsbD_xor, g, ht.1]; rfl)⟩
  rw [it_xor, E.im n hn, ← h.sum]
  apply BitVec.eq_of_getLsbD_eq; intro i hi
  simp only [BitVec.getLsbD_xor]
  cases left.getLsbD i <;> cases (it k (wat M n)).getLsbD i <;> cases (it k w).getLsbD i <;> rfl
theorem Rest.done {k : Nat} {x left w : W} (h : Rest k x left w 0) : it k w = x := by
  have := h.sum; rw [h.lo.zero] at this
  rw [← this]; exact (BitVec.zero_xor).symm

end Go.Proofs.Ytmmggkjfhiflaaa.Crc
