import Derived.Test.YthaafniahkejkaaFD
import Derived.ScopeJumps
/-
  Scan: the frames that are numbered on, gathered from the function that tells them one by one; rows of frames in memory.
-/
namespace Go.Proofs.Ythaafniahkejkaa.Frame
open Go Go.RowKit
open Go.Proofs.Ythaafniahkejkaa.Wire (S S_list S_size cell_row frozen_row row_lt)
open Go.Proofs.Ythaafniahkejkaa.Ranges
attribute [local go_sem] Oper.semAt_some

/-! ### rows of frames in memory -/
def frC (x : Fr) : List Value := [.int .i64 (x.q : Int), .string (S x.p), .int .i64 (x.i : Int)]
def cellsFr : List Fr → List Value
  | [] => []
  | x :: r => frC x ++ cellsFr r
theorem cellsFr_snoc (l : List Fr) (x : Fr) : cellsFr (l ++ [x]) = cellsFr l ++ frC x := by
  induction l with
  | nil => simp [cellsFr]
  | cons y r ih => simp only [List.cons_append, cellsFr, ih, List.append_assoc]
theorem cellsFr_at (l : List Fr) (k j : Nat) (hk : k < l.length) (hj : j < 3) : (cellsFr l)[k * 3 + j]? = (frC l[k])[j]? := by
  induction l generalizing k with
  | nil => simp at hk
  | cons x r ih =>
    cases k with
    | zero =>
      have : j < (frC x).length := by simpa [frC] using hj
      simp only [cellsFr, Nat.zero_mul, Nat.zero_add, List.getElem_cons_zero]
      rw [List.getElem?_append_left this]
    | succ k =>
      have h := ih k (by simpa using hk)
      have : (k + 1) * 3 + j = (frC x).length + (k * 3 + j) := by simp [frC]; omega
      simp only [cellsFr, List.getElem_cons_succ]
      rw [this, List.getElem?_append_right (Nat.le_add_right _ _), Nat.add_sub_cancel_left]
      exact h
theorem frC_cell (x : Fr) : ∀ u ∈ frC x, u.oneCell' = true := by
  intro u hu
  simp only [frC, List.mem_cons, List.mem_nil_iff, or_false] at hu
  rcases hu with rfl | rfl | rfl <;> rfl
/-- a row of frames that the call itself has made -/
def OwnFr (w : World) (base : Nat) (v : Value) (xs : List Fr) : Prop := w.ownsRow base 26 3 v xs.length (cellsFr xs)
/-- a row of frames, wherever it lies -/
def RowFr (w : World) (A : Option Addr) (xs : List Fr) : Prop := ∀ i (h : i < xs.length), ∃ b o, A = some ⟨b, o, none⟩ ∧ b < w.heap.size ∧ w.cell? ⟨b, o + i * 3, none⟩ = some (.int .i64 (xs[i].q : Int)) ∧ w.cell? ⟨b, o + i * 3 + 1, none⟩ = some (.string (S xs[i].p)) ∧ w.cell? ⟨b, o + i * 3 + 2, none⟩ = some (.int .i64 (xs[i].i : Int))
theorem RowFr.below {w w' : World} {A : Option Addr} {xs : List Fr} (h : RowFr w A xs) (hb : Below w.heap.size w w') : RowFr w' A xs := fun i hi => by
  obtain ⟨b, o, e, h1, h2, h3, h4⟩ := h i hi
  exact ⟨b, o, e, Nat.lt_of_lt_of_le h1 hb.size, (hb.cell h1).trans h2, (hb.cell h1).trans h3, (hb.cell h1).trans h4⟩
theorem OwnFr.row {w : World} {base : Nat} {v : Value} {xs : List Fr} (h : OwnFr w base v xs) : ∃ A cap, v = .slice A xs.length cap ∧ cap ≤ maxLen ∧ xs.length ≤ cap ∧ RowFr w A xs ∧ (∀ a, A = some a → base ≤ a.block) := by
  rcases h.2 with ⟨rfl, hn⟩ | ⟨g, cap, cur, rfl, hb, hg, h1, h2, h3, h4⟩
  · have hx : xs = [] := List.eq_nil_of_length_eq_zero hn
    subst hx
    exact ⟨none, 0, rfl, Nat.zero_le _, Nat.zero_le _, fun i hi => absurd hi (Nat.not_lt_zero _), fun a e => by cases e⟩
  · refine ⟨some ⟨g, 0, none⟩, cap, rfl, h2, h1, fun i hi => ?_, fun a e => by injection e with e; subst e; exact hb⟩
    have key : ∀ j, j < 3 → w.cell? ⟨g, 0 + (i * 3 + j), none⟩ = (frC xs[i])[j]? := fun j hj => by
      rw [cell_row hg, Nat.zero_add, ← cellsFr_at xs i j hi hj, ← h4, List.getElem?_take, if_pos (by omega), ← Array.getElem?_toList]
    have k0 := key 0 (by omega)
    have k1 := key 1 (by omega)
    have k2 := key 2 (by omega)
    exact ⟨g, 0, rfl, row_lt hg, k0, k1, k2⟩
theorem infoFr : (Try.prog.info? 26).map (fun i => (i.zero, i.size, i.bytes)) = some (some (.agg #[.int .i64 0, .string ⟨#[]⟩, .int .i64 0]), 3, 32) := by kernel_rfl
theorem addr_add0 (g j : Nat) : (Addr.mk g 0 none).add j = ⟨g, j, none⟩ := by
  cases j <;> simp [Addr.add]
theorem wpList_append_fr {ops : Array Oper} {rest : List Oper} {o : Oper} {a : Act} {w : World} {Q : Exit → Act → World → Prop} (hgd : o.guard = none) (s x : Operand)
    (ho : o.op = .call { callee := .builtin .append, args := #[s, x], argTypes := #[34, 34] })
    (base : Nat) (v : Value) (xs : List Fr) (hs : a.eval s = v) (hown : OwnFr w base v xs)
    (g : Nat) (cap : Nat) (y : Fr) (hx : a.eval x = .slice (some ⟨g, 0, none⟩) 1 cap) (hn : w.heap[g]? = some (.cells (frC y).toArray 26 (0, 0)))
    (hlen : xs.length ≤ 1000000) (hbase : base ≤ w.heap.size)
    (h : ∀ v' w', OwnFr w' base v' (xs ++ [y]) → w.grownBy w' v.ownBlock → wpList Try.prog ops Q rest (a.put o.dst v') w') : wpList Try.prog ops Q (o :: rest) a w := by
  obtain ⟨i0, hi, hz0, hz1, hz2⟩ := info_parts infoFr
  refine wpList_append_own w hgd s x 34 ho base 26 i0 _ 3 32 Try.underlying34 hi hz0 hz1 hz2 rfl (by decide) v xs.length (cellsFr xs) hs hown ⟨g, 0, none⟩ 1 cap (frC y) hx rfl ?_ (frC_cell y) (by unfold maxLen; omega) (by omega) hbase ?_
  · intro j u hj
    rw [addr_add0, cell_row hn]
    simpa using hj
  · intro v' w' hown' hg _
    exact h v' w' (by unfold OwnFr; rw [cellsFr_snoc, List.length_append]; exact hown') hg
theorem wpListIn_append_fr {F : Fence} {n : Nat} {ops : Array Oper} {rest : List Oper} {o : Oper} {a : Act} {w : World} {Q : Exit → Act → World → Prop} (hgd : o.guard = none) (s x : Operand)
    (ho : o.op = .call { callee := .builtin .append, args := #[s, x], argTypes := #[34, 34] })
    (base : Nat) (v : Value) (xs : List Fr) (hs : a.eval s = v) (hown : OwnFr w base v xs)
    (g : Nat) (cap : Nat) (y : Fr) (hx : a.eval x = .slice (some ⟨g, 0, none⟩) 1 cap) (hn : w.heap[g]? = some (.cells (frC y).toArray 26 (0, 0)))
    (hlen : xs.length ≤ 1000000) (hbase : base ≤ w.heap.size)
    (h : ∀ v' w', OwnFr w' base v' (xs ++ [y]) → w.grownBy w' v.ownBlock → wpListIn F n Try.prog ops Q rest (a.put o.dst v') w') : wpListIn F n Try.prog ops Q (o :: rest) a w := by
  obtain ⟨i0, hi, hz0, hz1, hz2⟩ := info_parts infoFr
  refine wpListIn_append_own w hgd s x 34 ho base 26 i0 _ 3 32 Try.underlying34 hi hz0 hz1 hz2 rfl (by decide) v xs.length (cellsFr xs) hs hown ⟨g, 0, none⟩ 1 cap (frC y) hx rfl ?_ (frC_cell y) (by unfold maxLen; omega) (by omega) hbase ?_
  · intro j u hj
    rw [addr_add0, cell_row hn]
    simpa using hj
  · intro v' w' hown' hg _
    exact h v' w' (by unfold OwnFr; rw [cellsFr_snoc, List.length_append]; exact hown') hg
theorem OwnFr.nil (w : World) (base : Nat) : OwnFr w base (.slice none 0 0) [] := ⟨rfl, Or.inl ⟨rfl, rfl⟩⟩
theorem OwnFr.grw {T : Nat → Prop} {w w' : World} {base : Nat} {v : Value} {xs : List Fr} (h : OwnFr w base v xs) (g : Grw T w w') (hT : ∀ r, base ≤ r → ¬ T r) : OwnFr w' base v xs := by
  obtain ⟨h1, h2⟩ := h
  refine ⟨h1, ?_⟩
  rcases h2 with h2 | ⟨b, cap, cur, e, hbg, hh, r⟩
  · exact Or.inl h2
  · exact Or.inr ⟨b, cap, cur, e, hbg, (g.block b (row_lt hh) (hT b hbg)).trans hh, r⟩
theorem OwnFr.less {w : World} {base base' : Nat} {v : Value} {xs : List Fr} (h : OwnFr w base v xs) (hb : base' ≤ base) : OwnFr w base' v xs := by
  obtain ⟨h1, h2⟩ := h
  refine ⟨h1, ?_⟩
  rcases h2 with h2 | ⟨b, cap, cur, e, hbg, r⟩
  · exact Or.inl h2
  · exact Or.inr ⟨b, cap, cur, e, Nat.le_trans hb hbg, r⟩
theorem OwnFr.lt {w : World} {base : Nat} {v : Value} {xs : List Fr} (h : OwnFr w base v xs) (g : Nat) (hg : v.ownBlock = some g) : g < w.heap.size := by
  rcases h.2 with ⟨rfl, _⟩ | ⟨b, cap, cur, rfl, _, hh, _⟩
  · cases hg
  · have : b = g := by simpa [Value.ownBlock] using hg
    subst this; exact row_lt hh
theorem OwnFr.ge {w : World} {base : Nat} {v : Value} {xs : List Fr} (h : OwnFr w base v xs) (g : Nat) (hg : v.ownBlock = some g) : base ≤ g := by
  rcases h.2 with ⟨rfl, _⟩ | ⟨b, cap, cur, rfl, hbg, _⟩
  · cases hg
  · have : b = g := by simpa [Value.ownBlock] using hg
    omega
theorem boxed_grw {T : Nat → Prop} {w w' : World} {b : Nat} {t : TypeId} {v : Value} (h : Boxed w b t v) (g : Grw T w w') (hT : ¬ T b) : Boxed w' b t v := (g.block b h.lt hT).trans h

/-! ### mathematics of a scan's rounds -/
theorem allF_all : ∀ (n : Nat) (l : List UInt8) (i : Nat), ∀ j (h : j < (allF n l i).length), ((allF n l i)[j]).q < 1048576 ∧ 1 ≤ ((allF n l i)[j]).p.length ∧ ((allF n l i)[j]).p.length ≤ 4096 ∧ bytesOf ((allF n l i).take (j + 1)) ≤ l.length ∧ ((allF n l i)[j]).i = i + bytesOf ((allF n l i).take j)
  | 0, _, _, j, h => by simp [allF] at h
  | n + 1, l, i, j, h => by
    by_cases h0 : rdE l = 0
    · have he : allF (n + 1) l i = ⟨rdQ l, rdP l, i⟩ :: allF n (l.drop (rdK l)) (i + rdK l) := by rw [allF, if_pos h0]
      obtain ⟨z1, z2, z3, z4, _⟩ := rd_zero h0
      have hp := rdP_length z1
      have hk : rdK l = 16 + (rdP l).length := by unfold rdK; rw [hp]
      cases j with
      | zero =>
        simp only [he, List.getElem_cons_zero, List.take_succ_cons, List.take_zero, bytesOf]
        refine ⟨z4, by omega, by omega, by omega, by omega⟩
      | succ j =>
        have hj : j < (allF n (l.drop (rdK l)) (i + rdK l)).length := by rw [he] at h; simpa using h
        obtain ⟨a1, a2, a3, a4, a5⟩ := allF_all n (l.drop (rdK l)) (i + rdK l) j hj
        simp only [he, List.getElem_cons_succ, List.take_succ_cons, bytesOf]
        rw [List.length_drop] at a4
        refine ⟨a1, a2, a3, by omega, by omega⟩
    · have : allF (n + 1) l i = [] := by rw [allF, if_neg h0]
      rw [this] at h; simp at h
theorem allS_len (s : ByteArray) (k : Nat) : (allS s k).length * 17 ≤ s.size := by
  have key : ∀ (n : Nat) (l : List UInt8) (i : Nat), (allF n l i).length * 17 ≤ l.length := by
    intro n
    induction n with
    | zero => intro l i; simp [allF]
    | succ n ih =>
      intro l i
      by_cases h0 : rdE l = 0
      · have h := ih (l.drop (rdK l)) (i + rdK l)
        have hk := rdK_le h0
        rw [List.length_drop] at h
        rw [allF, if_pos h0, List.length_cons]; omega
      · rw [allF, if_neg h0]; simp
  have := key (s.data.toList.drop k).length (s.data.toList.drop k) k
  rw [List.length_drop] at this
  unfold allS
  simp at this ⊢; omega
/-- the frames that a scan tells, in the row of all -/
theorem pref_more (first : Int) (L : List Fr) (i : Nat) (h : i < L.length) (hp : ((L.getD i fr0).q : Int) = first + i) (he : pref first L = L.take i ++ pref (first + i) (L.drop i)) : pref first L = L.take (i + 1) ++ pref (first + (i + 1 : Nat)) (L.drop (i + 1)) := by
  rw [he, List.drop_eq_getElem_cons h, pref]
  rw [List.getD_eq_getElem?_getD, List.getElem?_eq_getElem h, Option.getD_some] at hp
  rw [if_pos hp, List.take_succ_eq_append_getElem h, List.append_assoc]
  have : first + (i : Int) + 1 = first + ((i + 1 : Nat) : Int) := by omega
  rw [this]; rfl
theorem pref_stop (first : Int) (L : List Fr) (i : Nat) (h : i < L.length) (hp : ¬ ((L.getD i fr0).q : Int) = first + i) (he : pref first L = L.take i ++ pref (first + i) (L.drop i)) : pref first L = L.take i := by
  rw [he, List.drop_eq_getElem_cons h, pref]
  rw [List.getD_eq_getElem?_getD, List.getElem?_eq_getElem h, Option.getD_some] at hp
  rw [if_neg hp, List.append_nil]
theorem pref_end (first : Int) (L : List Fr) (he : pref first L = L.take L.length ++ pref (first + L.length) (L.drop L.length)) : pref first L = L.take L.length := by
  rw [he, List.drop_length, pref, List.append_nil]
end Go.Proofs.Ythaafniahkejkaa.Frame
