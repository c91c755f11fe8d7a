import Derived.Test.YtkjnddgjnlbopaaJC
import Derived.BigQuiet
/-
  The document's Index: Marks; are marks the document's?
-/
namespace Go.Proofs.Ytkjnddgjnlbopaa.Index
open Go Go.RowKit
open Go.Proofs.Ytkjnddgjnlbopaa.Wire (S S_list S_size cell_row frozen_row row_lt heap_set heap_far)
open Go.Proofs.Ytkjnddgjnlbopaa.Frame Go.Proofs.Ytkjnddgjnlbopaa.Seg

def OwnR (w : World) (base : Nat) (v : Value) (l : List (Nat × Nat)) : Prop := w.ownsRow base 122 2 v l.length (cellsM l)
theorem infoR : (Try.prog.info? 122).map (fun i => (i.zero, i.size, i.bytes)) = some (some (.agg #[.int .i64 0, .int .i64 0]), 2, 16) := by kernel_rfl
theorem OwnR.nil (w : World) (base : Nat) : OwnR w base (.slice none 0 0) [] := ⟨rfl, Or.inl ⟨rfl, rfl⟩⟩
theorem OwnR.row {w : World} {base : Nat} {v : Value} {l : List (Nat × Nat)} (h : OwnR w base v l) : ∃ A cap, v = .slice A l.length cap ∧ cap ≤ maxLen ∧ l.length ≤ cap ∧ RowM w A l := by
  rcases h.2 with ⟨rfl, hn⟩ | ⟨g, cap, cur, rfl, hb, hg, h1, h2, h3, h4⟩
  · have hx : l = [] := List.eq_nil_of_length_eq_zero hn
    subst hx
    exact ⟨none, 0, rfl, Nat.zero_le _, Nat.zero_le _, fun i hi => absurd hi (Nat.not_lt_zero _)⟩
  · have hm : ∃ A cap', Value.slice (some ⟨g, 0, none⟩) l.length cap = .slice A l.length cap' ∧ RowM w A l := by
      refine ⟨some ⟨g, 0, none⟩, cap, rfl, fun k hk => ⟨g, rfl, row_lt hg, ?_, ?_⟩⟩
      · rw [cell_row hg, ← Array.getElem?_toList]
        have e : cur.toList[k * 2]? = (cellsM l)[k * 2]? := by rw [← h4, List.getElem?_take, if_pos (by omega)]
        rw [e]; have := cellsM_at l k 0 hk (by decide); rw [Nat.add_zero] at this; rw [this]; rfl
      · rw [cell_row hg, ← Array.getElem?_toList]
        have e : cur.toList[k * 2 + 1]? = (cellsM l)[k * 2 + 1]? := by rw [← h4, List.getElem?_take, if_pos (by omega)]
        rw [e]; have := cellsM_at l k 1 hk (by decide); rw [this]; rfl
    obtain ⟨A, cap', e, hr⟩ := hm
    injection e with e1 e2 e3
    subst e1 e3
    exact ⟨_, _, rfl, h2, h1, hr⟩
theorem OwnR.below {w w' : World} {base : Nat} {v : Value} {l : List (Nat × Nat)} (h : OwnR w base v l) (hb : Below w.heap.size w w') : OwnR w' base v l := by
  obtain ⟨h1, h2⟩ := h
  refine ⟨h1, ?_⟩
  rcases h2 with h2 | ⟨b, cap, cur, e, hbg, hh, r⟩
  · exact Or.inl h2
  · exact Or.inr ⟨b, cap, cur, e, hbg, (hb.block b (row_lt hh)).trans hh, r⟩
theorem OwnR.lt {w : World} {base : Nat} {v : Value} {l : List (Nat × Nat)} (h : OwnR w base v l) (g : Nat) (hg : v.ownBlock = some g) : g < w.heap.size ∧ base ≤ g := by
  rcases h.2 with ⟨rfl, _⟩ | ⟨b, cap, cur, rfl, hbg, hh, _⟩
  · cases hg
  · have : b = g := by simpa [Value.ownBlock] using hg
    subst this
    exact ⟨row_lt hh, hbg⟩
theorem step_append_r {ops : Array Oper} {o : Oper} {a : Act} {w : World} {K : Act → World → Prop} {Q : Exit → Act → World → Prop} {X : Prop} (hgd : o.guard = none) (s x : Operand)
    (ho : o.op = .call { callee := .builtin .append, args := #[s, x], argTypes := #[93, 93] })
    (base : Nat) (v : Value) (xs : List (Nat × Nat)) (hs : a.eval s = v) (hown : OwnR w base v xs)
    (g : Nat) (cap : Nat) (y : Nat × Nat) (hx : a.eval x = .slice (some ⟨g, 0, none⟩) 1 cap) (hn : w.heap[g]? = some (.cells (mkC y).toArray 122 (0, 0)))
    (hlen : xs.length ≤ 1000000) (hbase : base ≤ w.heap.size)
    (h : ∀ v' w', OwnR w' base v' (xs ++ [y]) → w.grownBy w' v.ownBlock → K (a.put o.dst v') w') :
    if Region.wanted o (yielded ops a.tmps) = true then Oper.wp Try.prog o a w K Q else X := by
  obtain ⟨i0, hi, hz0, hz1, hz2⟩ := info_parts infoR
  rw [if_pos (by simp [Region.wanted, hgd])]
  refine wp_append_own w s x 93 ho base 122 i0 _ 2 16 Try.underlying93 hi hz0 hz1 hz2 rfl (by decide) v xs.length (cellsM xs) hs hown ⟨g, 0, none⟩ 1 cap (mkC y) hx rfl ?_ (fun u hu => cellsM_one [y] u (by rw [cellsM, cellsM, List.append_nil]; exact hu)) (by unfold maxLen; omega) (by omega) hbase ?_
  · intro j u hj
    rw [addr_add0, cell_row hn]
    simpa using hj
  · intro v' w' hown' hg _
    exact h v' w' (by unfold OwnR; rw [cellsM_append, List.length_append, cellsM, cellsM, List.append_nil]; exact hown') hg
set_option maxRecDepth 100000 in
set_option maxHeartbeats 2000000 in
/-- **are marks the document's?** -/
theorem same_any (w : World) (A B : Option Addr) (c d : Nat) (l : List (Nat × Nat)) (hl : l.length ≤ 1000000) (h1 : RowM w A l) (h2 : RowM w B l) :
    Calls Try.prog 43 #[.slice A l.length c, .slice B l.length d] w fun e w' => e = .returned (.bool true) ∧ Below w.heap.size w w' := by
  have H1 := Lib.hid h1
  have H2 := Lib.hid h2
  have HL := Lib.hid hl
  clear h1 h2 hl
  go_enter Try.func43, Try.ntmps43
  go_wp2_with fail
  go_loopw [5] (fun y wr => ∃ j : Nat, j ≤ l.length ∧ y = .int .i64 (j : Int) ∧ Hid (RowM wr A l) ∧ Hid (RowM wr B l) ∧ Hid (Below w.heap.size w wr)) (fun y _ => l.length - (intOf y).toNat)
  case atStart => exact ⟨0, Nat.zero_le _, rfl, H1, H2, Lib.hid (Below.refl _ _)⟩
  case round =>
    clear H1 H2
    obtain ⟨j, hj, rfl, HR, HS, HB⟩ := hrel
    by_cases hlt : j < l.length
    · as_aux_lemma =>
        have e1 : decide ((j : Int) < (l.length : Int)) = true := decide_eq_true (by omega)
        have HLT := Lib.hid hlt
        obtain ⟨g2, rfl, -, d0, d1⟩ := HR.out j hlt
        obtain ⟨g3, rfl, -, d2, d3⟩ := HS.out j hlt
        have HI1 := Lib.hid (show wrap64 ((j : Int) + 1) = (j : Int) + 1 from IntWalk.wrap64_in _ ⟨by omega, by have := HL.out; omega⟩)
        generalize (l[j]'hlt).1 = m1 at *
        generalize (l[j]'hlt).2 = m2 at *
        clear hj
        go_wp2_with fail
        go_quiet (fail)
        go_wp2_with fail
        clear d0 d1 d2 d3
        go_roundw
        case rel => exact ⟨j + 1, HLT.out, by rw [HI1.out]; rfl, HR, HS, Lib.hid (HB.out.trans (below_dn _ _ _))⟩
        case measure =>
          rw [HI1.out]
          show l.length - ((j : Int) + 1).toNat < l.length - (j : Int).toNat
          have := HLT.out; omega
    · as_aux_lemma =>
        have e1 : decide ((j : Int) < (l.length : Int)) = false := decide_eq_false (by omega)
        clear hj
        go_wp2_with fail
        go_ret
        exact ⟨rfl, HB.out⟩
theorem mks_take (ev a : Nat) (l : List Nat) (k : Nat) (h : k < nm ev l.length) : (mks ev a l).take (k + 1) = (mks ev a l).take k ++ [(a + k * ev, l.getD (k * ev) 0)] := by
  have hk : k < (mks ev a l).length := by rw [mks_len]; exact h
  rw [List.take_succ_eq_append_getElem hk, mks_at]
end Go.Proofs.Ytkjnddgjnlbopaa.Index
