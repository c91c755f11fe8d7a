import Derived.Test.YtkjnddgjnlbopaaNK
import Derived.Maps.AppendAt
/-
  The walk of segments: its iterator.
-/
namespace Go.Proofs.Ytkjnddgjnlbopaa.Seg
open Go Go.RowKit
open Go.Proofs.Ytkjnddgjnlbopaa.Wire (S S_list S_size cell_row frozen_row row_lt heap_set U)
open Go.Proofs.Ytkjnddgjnlbopaa.Frame Go.Proofs.Ytkjnddgjnlbopaa.Ranges
attribute [local go_sem] Oper.semAt_some

end Go.Proofs.Ytkjnddgjnlbopaa.Seg

/-
  The walk of Split.
-/
namespace Go.Proofs.Ytkjnddgjnlbopaa.Seg
open Go Go.RowKit
open Go.Proofs.Ytkjnddgjnlbopaa.Wire (S S_list S_size cell_row frozen_row row_lt heap_set U)
open Go.Proofs.Ytkjnddgjnlbopaa.Frame Go.Proofs.Ytkjnddgjnlbopaa.Ranges
attribute [local go_sem] Oper.semAt_some

/-! ### texts of one's own -/
def strV (ys : List ByteArray) : List Value := ys.map Value.string
def OwnS (w : World) (base : Nat) (v : Value) (ys : List ByteArray) : Prop := w.ownsRow base 9 1 v ys.length (strV ys)
theorem infoS : (Try.prog.info? 9).map (fun i => (i.zero, i.size, i.bytes)) = some (some (.string ⟨#[]⟩), 1, 16) := by kernel_rfl
theorem strV_snoc (ys : List ByteArray) (y : ByteArray) : strV (ys ++ [y]) = strV ys ++ [.string y] := by unfold strV; rw [List.map_append]; rfl
theorem strV_len (ys : List ByteArray) : (strV ys).length = ys.length := by unfold strV; simp
theorem OwnS.nil (w : World) (base : Nat) : OwnS w base (.slice none 0 0) [] := ⟨rfl, Or.inl ⟨rfl, rfl⟩⟩
theorem OwnS.keep {w w' : World} {base : Nat} {v : Value} {ys : List ByteArray} (h : OwnS w base v ys) (hk : ∀ g, v.ownBlock = some g → w'.heap[g]? = w.heap[g]?) : OwnS w' base v ys := by
  obtain ⟨h1, h2⟩ := h
  refine ⟨h1, ?_⟩
  rcases h2 with h2 | ⟨b, cap, cur, e, hbg, hh, r⟩
  · exact Or.inl h2
  · exact Or.inr ⟨b, cap, cur, e, hbg, (hk b (by rw [e]; rfl)).trans hh, r⟩
theorem OwnS.less {w : World} {base base' : Nat} {v : Value} {ys : List ByteArray} (h : OwnS w base v ys) (hb : base' ≤ base) : OwnS w base' v ys := by
  obtain ⟨h1, h2⟩ := h
  refine ⟨h1, ?_⟩
  rcases h2 with h2 | ⟨b, cap, cur, e, hbg, r⟩
  · exact Or.inl h2
  · exact Or.inr ⟨b, cap, cur, e, Nat.le_trans hb hbg, r⟩
theorem OwnS.lt {w : World} {base : Nat} {v : Value} {ys : List ByteArray} (h : OwnS w base v ys) (g : Nat) (hg : v.ownBlock = some g) : g < w.heap.size ∧ base ≤ g := by
  rcases h.2 with ⟨rfl, _⟩ | ⟨b, cap, cur, rfl, hbg, hh, _⟩
  · cases hg
  · have : b = g := by simpa [Value.ownBlock] using hg
    subst this; exact ⟨row_lt hh, hbg⟩
theorem OwnS.row {w : World} {base : Nat} {v : Value} {ys : List ByteArray} (h : OwnS w base v ys) : ∃ A cap, v = .slice A ys.length cap ∧ cap ≤ maxLen ∧ ys.length ≤ cap ∧ (∀ j (hj : j < ys.length), ∃ g, A = some ⟨g, 0, none⟩ ∧ g < w.heap.size ∧ base ≤ g ∧ w.cell? ⟨g, j, none⟩ = some (.string ys[j]) ∧ w.frozen? ⟨g, j, none⟩ = false) := by
  rcases h.2 with ⟨rfl, hn⟩ | ⟨g, cap, cur, rfl, hb, hg, h1, h2, h3, h4⟩
  · have hx : ys = [] := List.eq_nil_of_length_eq_zero hn
    subst hx
    exact ⟨none, 0, rfl, Nat.zero_le _, Nat.zero_le _, fun i hi => absurd hi (Nat.not_lt_zero _)⟩
  · refine ⟨some ⟨g, 0, none⟩, cap, rfl, h2, h1, fun j hj => ⟨g, rfl, row_lt hg, hb, ?_, frozen_row hg j⟩⟩
    have e : (strV ys)[j]? = some (.string ys[j]) := by unfold strV; rw [List.getElem?_map, List.getElem?_eq_getElem hj]; rfl
    rw [cell_row hg, ← e, ← h4, List.getElem?_take, if_pos (by omega), ← Array.getElem?_toList]
theorem wpListIn_append_s {F : Fence} {n : Nat} {ops : Array Oper} {rest : List Oper} {o : Oper} {a : Act} {w : World} {Q : Exit → Act → World → Prop} (hgd : o.guard = none) (s x : Operand)
    (ho : o.op = .call { callee := .builtin .append, args := #[s, x], argTypes := #[26, 26] })
    (base : Nat) (v : Value) (ys : List ByteArray) (hs : a.eval s = v) (hown : OwnS w base v ys)
    (g : Nat) (cap : Nat) (y : ByteArray) (hx : a.eval x = .slice (some ⟨g, 0, none⟩) 1 cap) (hn : w.heap[g]? = some (.cells #[.string y] 9 (0, 0)))
    (hlen : ys.length ≤ 1000000) (hbase : base ≤ w.heap.size)
    (h : ∀ v' w', OwnS w' base v' (ys ++ [y]) → w.grownBy w' v.ownBlock → (v'.ownBlock = v.ownBlock ∨ v'.ownBlock = some w.heap.size) → wpListIn F n Try.prog ops Q rest (a.put o.dst v') w') : wpListIn F n Try.prog ops Q (o :: rest) a w := by
  obtain ⟨i0, hi, hz0, hz1, hz2⟩ := info_parts infoS
  obtain ⟨v', w', hrun, r1, r2, r3, r4⟩ := run_append_own_at (P := Try.prog) w base 26 o.type 9 i0 _ 1 16 Try.underlying26 hi hz0 hz1 hz2 rfl (by decide) v ys.length (strV ys) hown ⟨g, 0, none⟩ 1 cap [.string y] rfl
    (fun j u hj => by rw [addr_add0, cell_row hn]; simpa using hj) (fun u hu => by obtain rfl := List.mem_singleton.1 hu; rfl) (by unfold maxLen; omega) (by omega) hbase
  refine wpListIn_plain hgd fun K hK' => ?_
  unfold Oper.wpIn
  refine ⟨?_, ?_⟩
  · simp [Oper.about, ho, resolve, Target.leads, Sem.run_pure]
  · rw [Oper.semAt_plain F _ _ (by rw [ho]; intro c hc'; cases hc')]
    simp [execOp, ho, resolve, invoke, builtin, hs, hx, hrun, Result.andThen]
    exact hK' _ _ (h v' w' (by unfold OwnS; rw [strV_snoc, List.length_append]; exact r1) r2 r4)
/-- the segments as texts -/
def outs (most : Int) (q0 : Nat) (xs : List ByteArray) : List ByteArray := (grp most q0 xs).map fun g => S (segB g.1 g.2)
theorem outs_len (most : Int) (q0 : Nat) (xs : List ByteArray) : (outs most q0 xs).length = (grp most q0 xs).length := by unfold outs; simp
theorem spl_len (most : Int) : ∀ (ps : List (List UInt8)) (q : Nat) (cur : List (List UInt8)), (spl most q cur ps).length ≤ ps.length + 1
  | [], q, cur => by simp [spl]
  | p :: r, q, cur => by
    rw [spl]
    split
    · have := spl_len most r q (cur ++ [p]); rw [List.length_cons]; omega
    · have := spl_len most r (q + cur.length) [p]; rw [List.length_cons, List.length_cons]; omega
theorem grp_len (most : Int) (q0 : Nat) (xs : List ByteArray) : (grp most q0 xs).length ≤ xs.length + 1 := by
  have := spl_len most (bytesP xs) q0 []
  rw [bytesP_len] at this; exact this
/-- what stands between two rounds -/
def SpI (most : Int) (q0 : Nat) (xs : List ByteArray) (w : World) (R : Nat → Prop) (i : Nat) (X : World) : Prop :=
  ∃ v, Boxed X w.heap.size 26 v ∧ OwnS X w.heap.size v ((outs most q0 xs).take i) ∧ (∀ g, v.ownBlock = some g → R g) ∧ Below w.heap.size w X
theorem SpI.grw {most : Int} {q0 : Nat} {xs : List ByteArray} {w : World} {R : Nat → Prop} {i : Nat} {X X' : World} {T : Nat → Prop} (h : SpI most q0 xs w R i X) (g : Grw T X X') (hT : ∀ r, T r → w.heap.size < r ∧ ¬ R r) : SpI most q0 xs w R i X' := by
  obtain ⟨v, h1, h2, h3, h4⟩ := h
  exact ⟨v, boxed_grw h1 g (fun h => by have := (hT _ h).1; omega), h2.keep (fun b hb => g.block b (h2.lt b hb).1 (fun h => (hT _ h).2 (h3 b hb))), h3, g.below h4 (Nat.le_refl _) (fun r hr => by have := (hT r hr).1; omega)⟩
end Go.Proofs.Ytkjnddgjnlbopaa.Seg
