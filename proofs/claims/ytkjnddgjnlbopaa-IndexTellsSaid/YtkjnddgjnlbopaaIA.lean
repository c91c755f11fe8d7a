import Derived.Test.YtkjnddgjnlbopaaSA
import Derived.Deep.RegionWith
/-
  An index's marks: plain mathematics, and how they lie in memory.
-/
namespace Go.Proofs.Ytkjnddgjnlbopaa.Index
open Go Go.RowKit
open Go.Proofs.Ytkjnddgjnlbopaa.Wire (S S_list S_size cell_row frozen_row row_lt heap_set heap_far)
open Go.Proofs.Ytkjnddgjnlbopaa.Frame

/-- how many marks there are of n frames -/
def nm (ev n : Nat) : Nat := (n + ev - 1) / ev
theorem nm_zero {ev : Nat} (h : 1 ≤ ev) : nm ev 0 = 0 := by
  unfold nm; exact Nat.div_eq_of_lt (by omega)
theorem nm_eq {ev : Nat} (h : 1 ≤ ev) (q r : Nat) (hr : r < ev) : nm ev (ev * q + r) = if r = 0 then q else q + 1 := by
  unfold nm
  split
  · rename_i h0
    subst h0
    rw [show ev * q + 0 + ev - 1 = (ev - 1) + ev * q by omega, Nat.add_mul_div_left _ _ (by omega), Nat.div_eq_of_lt (by omega), Nat.zero_add]
  · rw [show ev * q + r + ev - 1 = (r - 1) + ev * (q + 1) by rw [Nat.mul_succ]; omega, Nat.add_mul_div_left _ _ (by omega), Nat.div_eq_of_lt (by omega), Nat.zero_add]
/-- a frame that has a mark of its own -/
theorem nm_due {ev n : Nat} (h : 1 ≤ ev) (hd : n % ev = 0) : nm ev (n + 1) = nm ev n + 1 ∧ n = nm ev n * ev := by
  have e := Nat.div_add_mod n ev
  rw [hd, Nat.add_zero] at e
  have h1 := nm_eq h (n / ev) 0 (by omega)
  rw [Nat.add_zero, e, if_pos rfl] at h1
  refine ⟨?_, by rw [h1, Nat.mul_comm]; exact e.symm⟩
  by_cases h2 : ev = 1
  · subst h2
    unfold nm; rw [Nat.div_one, Nat.div_one]; omega
  · have h3 := nm_eq h (n / ev) 1 (by omega)
    rw [e, if_neg (by decide)] at h3
    rw [h3, h1]
/-- a frame that has none -/
theorem div_of (ev n : Nat) (h : 1 ≤ ev) : ∃ q r, ev * q + r = n ∧ r < ev ∧ n % ev = r := ⟨n / ev, n % ev, Nat.div_add_mod n ev, Nat.mod_lt _ (by omega), rfl⟩
theorem nm_not {ev n : Nat} (h : 1 ≤ ev) (hd : ¬ n % ev = 0) : nm ev (n + 1) = nm ev n ∧ n < nm ev n * ev ∧ 0 < nm ev n ∧ (nm ev n - 1) * ev ≤ n := by
  obtain ⟨q, r, e, hlt, hr⟩ := div_of ev n h
  rw [hr] at hd
  have h1 := nm_eq h q r hlt
  rw [e, if_neg hd] at h1
  have h3 : (q + 1) * ev = ev * q + ev := by rw [Nat.mul_comm, Nat.mul_succ]
  have h4 : q * ev = ev * q := Nat.mul_comm _ _
  refine ⟨?_, by rw [h1, h3]; omega, by omega, by rw [h1, Nat.add_sub_cancel, h4]; omega⟩
  by_cases h2 : r + 1 < ev
  · have h5 := nm_eq h q (r + 1) h2
    rw [if_neg (by omega), ← Nat.add_assoc, e] at h5
    rw [h5, h1]
  · have h6 : n + 1 = ev * (q + 1) + 0 := by rw [Nat.mul_succ]; omega
    have h5 := nm_eq h (q + 1) 0 (by omega)
    rw [← h6, if_pos rfl] at h5
    rw [h5, h1]
theorem nm_lt {ev n k : Nat} (h : 1 ≤ ev) (hk : k < nm ev n) : k * ev < n := by
  obtain ⟨q, r, e, hlt, hr⟩ := div_of ev n h
  have h1 := nm_eq h q r hlt
  rw [e] at h1
  have h4 : q * ev = ev * q := Nat.mul_comm _ _
  by_cases h0 : r = 0
  · rw [if_pos h0] at h1
    have h5 : (k + 1) * ev ≤ q * ev := Nat.mul_le_mul_right _ (by omega)
    rw [Nat.succ_mul] at h5
    omega
  · rw [if_neg h0] at h1
    have h5 : k * ev ≤ q * ev := Nat.mul_le_mul_right _ (by omega)
    omega
theorem nm_le {ev n : Nat} (h : 1 ≤ ev) : nm ev n ≤ n := by
  unfold nm
  rcases Nat.eq_zero_or_pos n with h0 | h0
  · subst h0; rw [Nat.div_eq_of_lt (by omega)]; exact Nat.le_refl _
  · refine Nat.le_of_lt_succ (Nat.div_lt_of_lt_mul ?_)
    rw [Nat.mul_succ]
    have : n ≤ ev * n := Nat.le_mul_of_pos_left n (by omega)
    omega
/-- the marks of frames that stand at these places, of which the first one has the number a -/
def mks (ev a : Nat) (l : List Nat) : List (Nat × Nat) := (List.range (nm ev l.length)).map fun k => (a + k * ev, l.getD (k * ev) 0)
theorem mks_len (ev a : Nat) (l : List Nat) : (mks ev a l).length = nm ev l.length := by unfold mks; simp
theorem mks_at (ev a : Nat) (l : List Nat) (k : Nat) (h : k < (mks ev a l).length) : (mks ev a l)[k] = (a + k * ev, l.getD (k * ev) 0) := by simp [mks]
theorem mks_nil {ev : Nat} (h : 1 ≤ ev) (a : Nat) : mks ev a [] = [] := by unfold mks; rw [show ([] : List Nat).length = 0 from rfl, nm_zero h]; rfl
theorem mks_pre {ev : Nat} (h : 1 ≤ ev) (a : Nat) (l : List Nat) (p : Nat) : (List.range (nm ev l.length)).map (fun k => (a + k * ev, (l ++ [p]).getD (k * ev) 0)) = mks ev a l := by
  unfold mks
  refine List.map_congr_left (fun k hk => ?_)
  have hlt := nm_lt h (List.mem_range.1 hk)
  rw [List.getD_eq_getElem?_getD, List.getD_eq_getElem?_getD, List.getElem?_append_left hlt]
theorem mks_due {ev : Nat} (h : 1 ≤ ev) (a : Nat) (l : List Nat) (p : Nat) (hd : l.length % ev = 0) : mks ev a (l ++ [p]) = mks ev a l ++ [(a + l.length, p)] := by
  obtain ⟨h1, h2⟩ := nm_due h hd
  have e : mks ev a (l ++ [p]) = (List.range (nm ev l.length + 1)).map fun k => (a + k * ev, (l ++ [p]).getD (k * ev) 0) := by
    unfold mks; rw [List.length_append, List.length_singleton, h1]
  rw [e, List.range_succ, List.map_append, mks_pre h, List.map_singleton, ← h2]
  rw [List.getD_eq_getElem?_getD, List.getElem?_append_right (Nat.le_refl _), Nat.sub_self]; rfl
theorem mks_not {ev : Nat} (h : 1 ≤ ev) (a : Nat) (l : List Nat) (p : Nat) (hd : ¬ l.length % ev = 0) : mks ev a (l ++ [p]) = mks ev a l := by
  have e : mks ev a (l ++ [p]) = (List.range (nm ev l.length)).map fun k => (a + k * ev, (l ++ [p]).getD (k * ev) 0) := by
    unfold mks; rw [List.length_append, List.length_singleton, (nm_not h hd).1]
  rw [e, mks_pre h]
/-- what the code asks: is a mark due? -/
theorem due_iff {ev n : Nat} (h : 1 ≤ ev) (hn : 0 < nm ev n) : (ev ≤ n - (nm ev n - 1) * ev) ↔ n % ev = 0 := by
  have hm : nm ev n * ev = (nm ev n - 1) * ev + ev := by
    rw [← Nat.succ_mul]; congr 1; omega
  constructor
  · intro h1
    by_cases hd : n % ev = 0
    · exact hd
    · have := nm_not h hd; omega
  · intro hd
    have := (nm_due h hd).2
    omega
theorem nm_pos {ev n : Nat} (h : 1 ≤ ev) (hn : 0 < n) : 0 < nm ev n := by
  by_cases hd : n % ev = 0
  · have h1 := (nm_due h hd).2
    rcases Nat.eq_zero_or_pos (nm ev n) with h2 | h2
    · rw [h2, Nat.zero_mul] at h1; omega
    · exact h2
  · exact (nm_not h hd).2.2.1

/-! ### in memory -/
def mkC (x : Nat × Nat) : List Value := [.int .i64 (x.1 : Int), .int .i64 (x.2 : Int)]
def cellsM : List (Nat × Nat) → List Value
  | [] => []
  | x :: r => mkC x ++ cellsM r
theorem cellsM_append (l m : List (Nat × Nat)) : cellsM (l ++ m) = cellsM l ++ cellsM m := by
  induction l with
  | nil => rfl
  | cons x r ih => rw [List.cons_append, cellsM, cellsM, ih, List.append_assoc]
theorem cellsM_len (l : List (Nat × Nat)) : (cellsM l).length = l.length * 2 := by
  induction l with
  | nil => rfl
  | cons x r ih => rw [cellsM, List.length_append, ih, List.length_cons]; show 2 + _ = _; omega
theorem cellsM_at (l : List (Nat × Nat)) (k j : Nat) (hk : k < l.length) (hj : j < 2) : (cellsM l)[k * 2 + j]? = (mkC l[k])[j]? := by
  induction l generalizing k with
  | nil => simp at hk
  | cons x r ih =>
    cases k with
    | zero => rw [cellsM, List.getElem?_append_left (by show 0 * 2 + j < 2; omega), Nat.zero_mul, Nat.zero_add]; rfl
    | succ k =>
      rw [cellsM, List.getElem?_append_right (by show 2 ≤ _; omega), show (k + 1) * 2 + j - (mkC x).length = k * 2 + j by show (k + 1) * 2 + j - 2 = _; omega, ih k (by simpa using hk)]
      rfl
theorem cellsM_one (l : List (Nat × Nat)) : ∀ u ∈ cellsM l, u.oneCell' = true := by
  induction l with
  | nil => intro u h; cases h
  | cons x r ih =>
    intro u h
    rw [cellsM, List.mem_append] at h
    rcases h with h | h
    · simp only [mkC, List.mem_cons, List.not_mem_nil, or_false] at h
      rcases h with rfl | rfl <;> rfl
    · exact ih u h
/-- marks that are one's own, and marks that are there -/
def OwnM (w : World) (base : Nat) (v : Value) (l : List (Nat × Nat)) : Prop := w.ownsRow base 46 2 v l.length (cellsM l)
def RowM (w : World) (A : Option Addr) (l : List (Nat × Nat)) : Prop := ∀ k (h : k < l.length), ∃ g, A = some ⟨g, 0, none⟩ ∧ g < w.heap.size ∧ w.cell? ⟨g, k * 2, none⟩ = some (.int .i64 ((l[k]).1 : Int)) ∧ w.cell? ⟨g, k * 2 + 1, none⟩ = some (.int .i64 ((l[k]).2 : Int))
theorem infoM : (Try.prog.info? 46).map (fun i => (i.zero, i.size, i.bytes)) = some (some (.agg #[.int .i64 0, .int .i64 0]), 2, 16) := by kernel_rfl
theorem OwnM.nil (w : World) (base : Nat) : OwnM w base (.slice none 0 0) [] := ⟨rfl, Or.inl ⟨rfl, rfl⟩⟩
theorem OwnM.row {w : World} {base : Nat} {v : Value} {l : List (Nat × Nat)} (h : OwnM w base v l) : ∃ A cap, v = .slice A l.length cap ∧ cap ≤ maxLen ∧ l.length ≤ cap ∧ RowM w A l ∧ (∀ a, A = some a → base ≤ a.block) := by
  rcases h.2 with ⟨rfl, hn⟩ | ⟨g, cap, cur, rfl, hb, hg, h1, h2, h3, h4⟩
  · have hx : l = [] := List.eq_nil_of_length_eq_zero hn
    subst hx
    exact ⟨none, 0, rfl, Nat.zero_le _, Nat.zero_le _, fun i hi => absurd hi (Nat.not_lt_zero _), fun a e => by cases e⟩
  · have hc : ∀ k (hk : k < l.length) j (hj : j < 2) u, (mkC l[k])[j]? = some u → w.cell? ⟨g, k * 2 + j, none⟩ = some u := fun k hk j hj u hu => by
      have e : (cellsM l)[k * 2 + j]? = some u := (cellsM_at l k j hk hj).trans hu
      rw [cell_row hg, ← Array.getElem?_toList]
      rw [← h4, List.getElem?_take] at e
      split at e
      · exact e
      · cases e
    exact ⟨some ⟨g, 0, none⟩, cap, rfl, h2, h1, fun k hk => ⟨g, rfl, row_lt hg, hc k hk 0 (by omega) _ rfl, hc k hk 1 (by omega) _ rfl⟩, fun a e => by injection e with e; rw [← e]; exact hb⟩
theorem OwnM.keep {w w' : World} {base : Nat} {v : Value} {l : List (Nat × Nat)} (h : OwnM w base v l) (hk : ∀ g, v.ownBlock = some g → w'.heap[g]? = w.heap[g]?) : OwnM w' base v l := by
  obtain ⟨h1, h2⟩ := h
  refine ⟨h1, ?_⟩
  rcases h2 with h2 | ⟨b, cap, cur, e, hbg, hh, r⟩
  · exact Or.inl h2
  · exact Or.inr ⟨b, cap, cur, e, hbg, (hk b (by rw [e]; rfl)).trans hh, r⟩
theorem OwnM.lt {w : World} {base : Nat} {v : Value} {l : List (Nat × Nat)} (h : OwnM w base v l) (g : Nat) (hg : v.ownBlock = some g) : g < w.heap.size ∧ base ≤ g := by
  rcases h.2 with ⟨rfl, _⟩ | ⟨b, cap, cur, rfl, hbg, hh, _⟩
  · cases hg
  · have : b = g := by simpa [Value.ownBlock] using hg
    subst this; exact ⟨row_lt hh, hbg⟩
theorem OwnM.below {w w' : World} {base : Nat} {v : Value} {l : List (Nat × Nat)} (h : OwnM w base v l) (hb : Below w.heap.size w w') : OwnM w' base v l := h.keep (fun g hg => hb.block g (h.lt g hg).1)
theorem OwnM.less {w : World} {base base' : Nat} {v : Value} {l : List (Nat × Nat)} (h : OwnM w base v l) (hb : base' ≤ base) : OwnM w base' v l := by
  obtain ⟨h1, h2⟩ := h
  refine ⟨h1, ?_⟩
  rcases h2 with h2 | ⟨b, cap, cur, e, hbg, r⟩
  · exact Or.inl h2
  · exact Or.inr ⟨b, cap, cur, e, Nat.le_trans hb hbg, r⟩
theorem RowM.below {w w' : World} {A : Option Addr} {l : List (Nat × Nat)} (h : RowM w A l) (hb : Below w.heap.size w w') : RowM w' A l := fun k hk => by
  obtain ⟨g, e, h1, h2, h3⟩ := h k hk
  exact ⟨g, e, Nat.lt_of_lt_of_le h1 hb.size, (hb.cell (p := ⟨g, k * 2, none⟩) h1).trans h2, (hb.cell (p := ⟨g, k * 2 + 1, none⟩) h1).trans h3⟩
/-- an index, where it lies -/
def IBx (w : World) (b ev a n : Nat) (v : Value) (g : Nat) : Prop := w.heap[b]? = some (.cells #[.int .i64 (ev : Int), .int .i64 (a : Int), .int .i64 (n : Int), v, .int .i64 (g : Int)] 75 (0, 0))
theorem IBx.facts {w : World} {b ev a n : Nat} {v : Value} {g : Nat} (h : IBx w b ev a n v g) :
    (w.cell? ⟨b, 0, none⟩ = some (.int .i64 (ev : Int)) ∧ w.cell? ⟨b, 1, none⟩ = some (.int .i64 (a : Int)) ∧ w.cell? ⟨b, 2, none⟩ = some (.int .i64 (n : Int)) ∧ w.cell? ⟨b, 3, none⟩ = some v ∧ w.cell? ⟨b, 4, none⟩ = some (.int .i64 (g : Int))) ∧
      w.frozen? ⟨b, 0, none⟩ = false ∧ w.frozen? ⟨b, 1, none⟩ = false ∧ w.frozen? ⟨b, 2, none⟩ = false ∧ w.frozen? ⟨b, 3, none⟩ = false ∧ w.frozen? ⟨b, 4, none⟩ = false :=
  ⟨⟨cell_row h 0, cell_row h 1, cell_row h 2, cell_row h 3, cell_row h 4⟩, frozen_row h 0, frozen_row h 1, frozen_row h 2, frozen_row h 3, frozen_row h 4⟩
/-- an index of frames that stand at these places: of its own, from a block on -/
def Ix (w : World) (base b ev a : Nat) (ats : List Nat) (g : Nat) : Prop :=
  ∃ v, IBx w b ev a (a + ats.length) v g ∧ OwnM w base v (mks ev a ats)
theorem ibx_ne {w : World} {base b ev a n g : Nat} {v u : Value} {l : List (Nat × Nat)} (h : IBx w b ev a n u g) (ho : OwnM w base v l) (r : Nat) (hr : v.ownBlock = some r) : r ≠ b := by
  rintro rfl
  rcases ho.2 with ⟨rfl, _⟩ | ⟨g2, cap, cur, rfl, _, hg, _⟩
  · cases hr
  · have e : g2 = r := by simpa [Value.ownBlock] using hr
    subst e
    unfold IBx at h
    rw [hg] at h; injection h with h; injection h with _ ht; cases ht
theorem Ix.below {w w' : World} {base b ev a : Nat} {ats : List Nat} {g : Nat} (h : Ix w base b ev a ats g) (hb : Below w.heap.size w w') : Ix w' base b ev a ats g := by
  obtain ⟨v, h1, h2⟩ := h
  exact ⟨v, (hb.block _ (row_lt h1)).trans h1, h2.below hb⟩
end Go.Proofs.Ytkjnddgjnlbopaa.Index
