import Derived.Test.YtkjnddgjnlbopaaIF
/-
  What Build refuses; an index's Marks and Copy.
-/
namespace Go.Proofs.Ytkjnddgjnlbopaa.Index
open Go Go.RowKit
open Go.Proofs.Ytkjnddgjnlbopaa.Wire (S S_list S_size cell_row frozen_row row_lt heap_set heap_far)
open Go.Proofs.Ytkjnddgjnlbopaa.Frame Go.Proofs.Ytkjnddgjnlbopaa.Seg

theorem build_arg (s : ByteArray) (every : Int) (hev : ¬ (1 ≤ every ∧ every ≤ 64)) (w : World) :
    Calls Try.prog 11 #[.string s, .int .i64 every] w fun e w' => e = .returned (.tuple #[.pointer none, .int .i64 1]) ∧ w = w' := by
  by_cases h1 : every < 1
  · have k1 : decide (every < 1) = true := decide_eq_true h1
    go_enter Try.func11, Try.ntmps11
    go_wp2_with fail
    go_ret2
    exact ⟨rfl, rfl⟩
  · have k1 : decide (every < 1) = false := decide_eq_false h1
    have h2 : 64 < every := by omega
    have k2 : decide ((64 : Int) < every) = true := decide_eq_true h2
    go_enter Try.func11, Try.ntmps11
    go_wp2_with fail
    go_ret2
    exact ⟨rfl, rfl⟩
theorem build_no (s : ByteArray) (hs : s.size ≤ 10000000) (ev : Nat) (hev : 1 ≤ ev ∧ ev ≤ 64) (h0 : ¬ fiE s.data.toList = 0) (w : World) :
    Calls Try.prog 11 #[.string s, .int .i64 (ev : Int)] w fun e w' => e = .returned (.tuple #[.pointer none, .int .i64 (fiE s.data.toList : Int)]) ∧ Below w.heap.size w w' := by
  have HSC := Lib.hid (fun W => SScan_any s hs W)
  obtain ⟨q1, q2, q3, q4, q5⟩ := nat_ne h0
  generalize fiE s.data.toList = x at *
  generalize fiQ s.data.toList = y at *
  generalize scL s.data.toList = L at *
  generalize scG s.data.toList = G at *
  generalize scW s.data.toList = WW at *
  have k1 : decide ((ev : Int) < 1) = false := decide_eq_false (by omega)
  have k2 : decide ((64 : Int) < (ev : Int)) = false := decide_eq_false (by omega)
  have k3 : ¬ (64 : Int) < (ev : Int) := by omega
  have k4 : ¬ (ev : Int) < 1 := by omega
  have k5 : ¬ ev < 1 := by omega
  have k6 : ¬ 64 < ev := by omega
  clear hev h0
  go_enter Try.func11, Try.ntmps11
  go_wp2_with fail
  refine (HSC.out w).mono ?_
  rintro e w3 ⟨A1, c1, rfl, -, hb3⟩
  have HB3 := Lib.hid hb3
  clear hb3
  go_wp2_with fail
  go_ret2
  exact ⟨rfl, HB3.out.alloc HB3.out.size _⟩
/-! ### Marks -/
theorem src_cells {w : World} {base g cap : Nat} {ys : List (Nat × Nat)} (h : OwnM w base (.slice (some ⟨g, 0, none⟩) ys.length cap) ys) (j : Nat) (u : Value) (hj : (cellsM ys)[j]? = some u) : w.cell? ⟨g, j, none⟩ = some u := by
  rcases h.2 with ⟨e, _⟩ | ⟨g2, cap2, cur, e, hb, hg, h1, h2, h3, h4⟩
  · cases e
  · injection e with e1 e2 e3
    injection e1 with e1
    injection e1 with e1
    subst e1
    rw [cell_row hg, ← Array.getElem?_toList]
    rw [← h4, List.getElem?_take] at hj
    split at hj
    · exact hj
    · cases hj
theorem wpList_append_ms {ops : Array Oper} {rest : List Oper} {o : Oper} {a : Act} {w : World} {Q : Exit → Act → World → Prop} (hgd : o.guard = none) (s x : Operand)
    (ho : o.op = .call { callee := .builtin .append, args := #[s, x], argTypes := #[30, 30] })
    (base : Nat) (v : Value) (xs : List (Nat × Nat)) (hs : a.eval s = v) (hown : OwnM w base v xs)
    (base2 g cap : Nat) (ys : List (Nat × Nat)) (hx : a.eval x = .slice (some ⟨g, 0, none⟩) ys.length cap) (hsrc : OwnM w base2 (.slice (some ⟨g, 0, none⟩) ys.length cap) ys)
    (hlen : xs.length + ys.length ≤ 1000000) (hbase : base ≤ w.heap.size)
    (h : ∀ v' w', OwnM w' base v' (xs ++ ys) → w.grownBy w' v.ownBlock → wpList Try.prog ops Q rest (a.put o.dst v') w') : wpList Try.prog ops Q (o :: rest) a w := by
  obtain ⟨i0, hi, hz0, hz1, hz2⟩ := info_parts infoM
  refine wpList_append_own w hgd s x 30 ho base 46 i0 _ 2 16 Try.underlying30 hi hz0 hz1 hz2 rfl (by decide) v xs.length (cellsM xs) hs hown ⟨g, 0, none⟩ ys.length cap (cellsM ys) hx (cellsM_len ys) ?_ (cellsM_one ys) (by unfold maxLen; omega) (by omega) hbase ?_
  · intro j u hj
    rw [addr_add0]; exact src_cells hsrc j u hj
  · intro v' w' hown' hg _
    exact h v' w' (by unfold OwnM; rw [cellsM_append, List.length_append]; exact hown') hg
theorem ownM_none {w : World} {base : Nat} (hb : base ≤ w.heap.size) : OwnM (w.alloc (.cells #[] 46)) base (.slice (some ⟨w.heap.size, 0, none⟩) 0 0) [] :=
  ⟨rfl, Or.inr ⟨w.heap.size, 0, #[], rfl, hb, heap_alloc_new w _, Nat.le_refl _, by decide, rfl, rfl⟩⟩
set_option maxRecDepth 100000 in
set_option maxHeartbeats 1000000 in
/-- **slices.Clone** of marks -/
theorem clone_any (w : World) (base : Nat) (v : Value) (l : List (Nat × Nat)) (h : OwnM w base v l) (hl : l.length ≤ 1000000) :
    Calls Try.prog 37 #[v] w fun e w' => ∃ u, e = .returned u ∧ OwnM w' w.heap.size u l ∧ Below w.heap.size w w' := by
  rcases h.2 with ⟨rfl, hn⟩ | ⟨g, cap, cur, rfl, -⟩
  · have hx : l = [] := List.eq_nil_of_length_eq_zero hn
    subst hx
    have hnil : ∀ W, (binOp .eql 30 (.slice none 0 0) (.slice none 0 0)).run Try.prog W = .ok (.bool true) W := fun _ => rfl
    go_enter Try.func37, Try.ntmps37
    go_wp2_with fail
    go_ret
    exact ⟨_, rfl, OwnM.nil _ _, Below.refl _ _⟩
  · have hbn := (Below.refl w.heap.size w).alloc (Nat.le_refl _) (.cells #[] 46)
    have HS := Lib.hid (h.below hbn)
    have HO := Lib.hid (ownM_none (w := w) (base := w.heap.size) (Nat.le_refl _))
    have HB := Lib.hid hbn
    have HL := Lib.hid (show ([] : List (Nat × Nat)).length + l.length ≤ 1000000 by show 0 + _ ≤ _; omega)
    clear h hl hbn
    have hnil : ∀ W, (binOp .eql 30 (.slice (some ⟨g, 0, none⟩) l.length cap) (.slice none 0 0)).run Try.prog W = .ok (.bool false) W := fun _ => rfl
    go_enter Try.func37, Try.ntmps37
    go_wp2_with (at_builtin; refine wpList_append_ms rfl _ _ rfl w.heap.size (.slice (some ⟨w.heap.size, 0, none⟩) 0 0) [] rfl HO.out base g cap l rfl HS.out HL.out HB.out.size ?_)
    intro v' w2 hown hg
    have HO2 := Lib.hid (show OwnM w2 w.heap.size v' l from hown)
    have HB2 := Lib.hid (HB.out.grown hg HB.out.size (fun r hr => (HO.out.lt r hr).2))
    clear hown hg
    go_wp2_with fail
    go_ret
    exact ⟨_, rfl, HO2.out, HB2.out⟩
/-- **Marks** -/
theorem marks_any (w : World) (base b ev a : Nat) (ats : List Nat) (g : Nat) (h : Ix w base b ev a ats g) (hev : 1 ≤ ev) (hl : ats.length ≤ 900000) :
    Calls Try.prog 12 #[.pointer (some ⟨b, 0, none⟩)] w fun e w' => ∃ u, e = .returned u ∧ OwnM w' w.heap.size u (mks ev a ats) ∧ Below w.heap.size w w' := by
  obtain ⟨v, h1, h2⟩ := h
  have HC := Lib.hid (clone_any w base v _ h2 (by rw [mks_len]; have := nm_le (n := ats.length) hev; omega))
  obtain ⟨⟨c0, c1, c2, c3, c4⟩, -⟩ := h1.facts
  clear h1 h2 hl
  go_enter Try.func12, Try.ntmps12
  go_wp2_with fail
  refine HC.out.mono ?_
  rintro e w2 ⟨u, rfl, ho, hb⟩
  have HO := Lib.hid ho
  have HB := Lib.hid hb
  clear ho hb
  go_wp2_with fail
  go_ret
  exact ⟨_, rfl, HO.out, HB.out⟩
theorem marks_nil (w : World) : Calls Try.prog 12 #[.pointer none] w fun e w' => e = .returned (.slice none 0 0) ∧ w = w' := by
  go_enter Try.func12, Try.ntmps12
  go_wp2_with fail
  go_ret
  exact ⟨rfl, rfl⟩
end Go.Proofs.Ytkjnddgjnlbopaa.Index
