import Derived.Test.YtkjnddgjnlbopaaNM
/-
  Split, whatever is handed in; the laws' payloads.
-/
namespace Go.Proofs.Ytkjnddgjnlbopaa.Seg
open Go Go.RowKit
open Go.Proofs.Ytkjnddgjnlbopaa.Wire (S S_list S_size cell_row frozen_row row_lt heap_set U)
open Go.Proofs.Ytkjnddgjnlbopaa.Frame Go.Proofs.Ytkjnddgjnlbopaa.Ranges

/-- what Split tells -/
def spS (q : Int) (xs : List ByteArray) (most : Int) : List ByteArray := if spE q (bytesP xs) most = 0 then outs most q.toNat xs else []
theorem wpList_append_s {ops : Array Oper} {rest : List Oper} {o : Oper} {a : Act} {w : World} {Q : Exit → Act → World → Prop} (hgd : o.guard = none) (s x : Operand)
    (ho : o.op = .call { callee := .builtin .append, args := #[s, x], argTypes := #[26, 26] })
    (base : Nat) (v : Value) (ys : List ByteArray) (hs : a.eval s = v) (hown : OwnS w base v ys)
    (g : Nat) (cap : Nat) (y : ByteArray) (hx : a.eval x = .slice (some ⟨g, 0, none⟩) 1 cap) (hn : w.cell? ⟨g, 0, none⟩ = some (.string y))
    (hlen : ys.length ≤ 1000000) (hbase : base ≤ w.heap.size)
    (h : ∀ v' w', OwnS w' base v' (ys ++ [y]) → w.grownBy w' v.ownBlock → wpList Try.prog ops Q rest (a.put o.dst v') w') : wpList Try.prog ops Q (o :: rest) a w := by
  obtain ⟨i0, hi, hz0, hz1, hz2⟩ := info_parts infoS
  refine wpList_append_own w hgd s x 26 ho base 9 i0 _ 1 16 Try.underlying26 hi hz0 hz1 hz2 rfl (by decide) v ys.length (strV ys) hs hown ⟨g, 0, none⟩ 1 cap [.string y] hx rfl ?_ (by intro u hu; rw [List.mem_singleton.1 hu]; rfl) (by unfold maxLen; omega) (by omega) hbase ?_
  · intro j u hj
    cases j with
    | zero => rw [addr_add0]; rw [hn]; simpa using hj
    | succ j => simp at hj
  · intro v' w' hown' hg _
    exact h v' w' (by unfold OwnS; rw [strV_snoc, List.length_append]; exact hown') hg
theorem OwnS.below {w w' : World} {base : Nat} {v : Value} {ys : List ByteArray} (h : OwnS w base v ys) (hb : Below w.heap.size w w') : OwnS w' base v ys := h.keep (fun g hg => hb.block g (h.lt g hg).1)
theorem OwnS.strs {w : World} {base : Nat} {v : Value} {ys : List ByteArray} (h : OwnS w base v ys) (hz : ∀ y ∈ ys, y.size ≤ maxLen) : ∃ A cap, v = .slice A ys.length cap ∧ ys.length ≤ cap ∧ cap ≤ maxLen ∧ Strs w A ys := by
  obtain ⟨A, cap, e, h1, h2, h3⟩ := h.row
  refine ⟨A, cap, e, h2, h1, fun j hj => ?_⟩
  obtain ⟨g, e2, h4, _, h5, _⟩ := h3 j hj
  exact ⟨g, 0, e2, h4, hz _ (List.getElem_mem _), by rw [Nat.zero_add]; exact h5⟩
theorem below_own {n : Nat} {a b c : World} {v : Value} {ys : List ByteArray} (h : Below n a b) (ho : OwnS b n v ys) (g : b.grownBy c v.ownBlock) (hn : n ≤ a.heap.size) : Below n a c :=
  ⟨g.os.trans h.os, g.tape.trans h.tape, g.output.trans h.output, Nat.le_trans h.size g.size, fun k hk => (g.block k (by have := h.size; omega) (fun e => by have := (ho.lt k e.symm).2; omega)).trans (h.block k hk)⟩
/-- the payloads of frames -/
def paysF (L : List Fr) : List ByteArray := L.map fun f => S f.p
theorem paysF_len (L : List Fr) : (paysF L).length = L.length := by unfold paysF; simp
theorem paysF_take (L : List Fr) (j : Nat) (h : j < L.length) : paysF (L.take (j + 1)) = paysF (L.take j) ++ [S (L[j]'h).p] := by
  rw [List.take_succ_eq_append_getElem h]; unfold paysF; rw [List.map_append]; rfl
end Go.Proofs.Ytkjnddgjnlbopaa.Seg

/-
  Are the examples as they are told?
-/
namespace Go.Proofs.Ytkjnddgjnlbopaa.Seg
open Go Go.RowKit
open Go.Proofs.Ytkjnddgjnlbopaa.Wire (S S_list S_size S_append cell_row frozen_row row_lt heap_set U)
open Go.Proofs.Ytkjnddgjnlbopaa.Frame Go.Proofs.Ytkjnddgjnlbopaa.Ranges

def ten : List ByteArray := List.replicate 10 ⟨#[49, 50, 51, 52, 53, 54, 55, 56, 57, 48, 49, 50, 51, 52, 53, 54, 55, 56, 57, 48]⟩
def abc : List ByteArray := [S [97], S [98, 99]]
theorem aw_head : (segH 0).take 12 = [115, 101, 103, 49, 0, 0, 0, 0, 0, 0, 0, 0] := by
  unfold segH; rw [take_front (bareH_length 0)]; decide +kernel
theorem aw_name : nameE 3 17 = [115, 48, 48, 48, 48, 48, 48, 48, 51, 45, 48, 48, 48, 48, 48, 48, 48, 48, 49, 55] := by decide +kernel
theorem aw_named : namedR [115, 48, 48, 48, 48, 48, 48, 48, 51, 45, 48, 48, 48, 48, 48, 48, 48, 48, 49, 55] = (3, 17, true) := by
  rw [← aw_name]; exact named_name (by decide)
theorem aw_ok : okP 5 (bytesP abc) := ⟨by decide +kernel, by decide +kernel⟩
theorem aw_join : joE 5 (bytesP abc) = 0 ∧ joB 5 (bytesP abc) = segB 5 (bytesP abc) := by
  have he : joE 5 (bytesP abc) = 0 := by
    unfold joE; rw [if_pos (show wrE 5 (bytesP abc) = 0 from wrE_ok aw_ok), if_neg (by decide +kernel)]
  exact ⟨he, if_pos he⟩
theorem aw_len : (segB 5 (bytesP abc)).length = 51 := by rw [segB_length]; decide +kernel
theorem aw_scan : fiE ((segB 5 (bytesP abc)).take 50) = 0 ∧ fiQ ((segB 5 (bytesP abc)).take 50) = 5 ∧ scL ((segB 5 (bytesP abc)).take 50) = [⟨5, [97], 16⟩] ∧ scG ((segB 5 (bytesP abc)).take 50) = 33 ∧ scW ((segB 5 (bytesP abc)).take 50) = false := by
  obtain ⟨a, b, c⟩ := sc_cut 5 (bytesP abc) 50 aw_ok (by decide)
  have c2 : scL ((segB 5 (bytesP abc)).take 50) = [⟨5, [97], 16⟩] := c.trans (by decide +kernel)
  have g : scG ((segB 5 (bytesP abc)).take 50) = 33 := by unfold scG; rw [if_pos a, c2]; rfl
  refine ⟨a, by unfold fiQ; rw [if_pos a, b], c2, g, ?_⟩
  unfold scW; rw [if_pos a, g, List.length_take, aw_len]; rfl
theorem aw_split : spE 0 (bytesP ten) 100 = 0 ∧ (spS 0 ten 100).length = 5 := by
  have h0 : spE 0 (bytesP ten) 100 = 0 := by decide +kernel
  refine ⟨h0, ?_⟩
  unfold spS; rw [if_pos h0, outs_len]; decide +kernel
theorem aw_fits : fitsB 16 4096 64 = true ∧ fitsB 33 16 64 = false ∧ fitsB 32 16 64 = true := by decide +kernel
theorem ten_take (j : Nat) (T : ByteArray) : List.replicate (j + 1) T = List.replicate j T ++ [T] := List.replicate_succ'
theorem strs_abc (w : World) : Strs (w.alloc (.cells #[.string ⟨#[97]⟩, .string ⟨#[98, 99]⟩] 9)) (some ⟨w.heap.size, 0, none⟩) abc := fun j hj => by
  have hb := heap_alloc_new w (.cells #[.string ⟨#[97]⟩, .string ⟨#[98, 99]⟩] 9)
  refine ⟨w.heap.size, 0, rfl, by simp, ?_, ?_⟩
  · have h2 : j < 2 := hj
    have : ∀ k (h : k < abc.length), abc[k].size ≤ 2 := by decide +kernel
    have := this j hj
    unfold maxLen; omega
  · rw [cell_row hb, Nat.zero_add]
    have h2 : j < 2 := hj
    match j, h2 with
    | 0, _ => rfl
    | 1, _ => rfl
end Go.Proofs.Ytkjnddgjnlbopaa.Seg
