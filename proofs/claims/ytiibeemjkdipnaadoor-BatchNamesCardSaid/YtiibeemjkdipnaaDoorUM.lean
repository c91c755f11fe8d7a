import Derived.Test.YtiibeemjkdipnaaDoorUD
/-
  What is lifted may be; what is let down may be; there and back.
-/
namespace Go.Proofs.YtiibeemjkdipnaaDoor.Upcast
open Go Go.RowKit
open Go.Proofs.YtiibeemjkdipnaaDoor.Schema

theorem bnd_in (v c : Int) : 0 ≤ (bnd v c).low ∧ (bnd v c).high ≤ 1125899906842624 := by
  rcases bnd_cases v c with h | ⟨k, hk, h⟩
  · rw [h]; decide
  · rw [h]
    have := bd_all (p := fun r => decide (0 ≤ r.low) && decide (r.high ≤ 1125899906842624)) (by decide +kernel) k hk
    simp only [Bool.and_eq_true, decide_eq_true_eq] at this
    exact this
theorem fits_out {v c n : Int} (h : fits v c n = true) : (bnd v c).is = true ∧ (bnd v c).low ≤ n ∧ n ≤ (bnd v c).high := by
  unfold fits at h
  simp only [Bool.and_eq_true, decide_eq_true_eq] at h
  exact ⟨h.1.1, h.1.2, h.2⟩
theorem fits_in {v c n : Int} (h : (bnd v c).is = true) (h1 : (bnd v c).low ≤ n) (h2 : n ≤ (bnd v c).high) : fits v c n = true := by
  unfold fits
  rw [h, decide_eq_true h1, decide_eq_true h2]; rfl
theorem fitB_out {v : Int} {s : ByteArray} {xs : List Int} (h : fitB v s xs = true) : xs.length = s.size ∧ ∀ j, j < s.size → fits v (byteAt s j) (xs.getD j 0) = true := by
  unfold fitB at h
  simp only [Bool.and_eq_true, decide_eq_true_eq, List.all_eq_true] at h
  exact ⟨h.1, fun j hj => h.2 j (List.mem_range.2 hj)⟩
structure MayO (e : Ev) : Prop where
  v1 : 1 ≤ e.v
  v3 : e.v ≤ 3
  tl : tall e.v e.k = true
  ln : e.ns.length = (lets e.v e.k).size
  ft : ∀ j, j < (lets e.v e.k).size → fits e.v (byteAt (lets e.v e.k) j) (e.ns.getD j 0) = true
  nt : mayT e.k e.ts = true
  tx : e.ts.length ≤ 1
theorem may_out {e : Ev} (h : may e = true) : MayO e := by
  unfold may at h
  simp only [Bool.and_eq_true] at h
  have hr := tall_range h.1.1
  have hf := fitB_out h.1.2
  refine ⟨hr.1.1, hr.1.2, h.1.1, hf.1, hf.2, h.2, ?_⟩
  have ht := h.2
  unfold mayT at ht
  split at ht
  · simp only [Bool.and_eq_true, decide_eq_true_eq] at ht; omega
  · simp only [decide_eq_true_eq] at ht; omega
theorem may_in {e : Ev} (h1 : tall e.v e.k = true) (h2 : e.ns.length = (lets e.v e.k).size) (h3 : ∀ j, j < (lets e.v e.k).size → fits e.v (byteAt (lets e.v e.k) j) (e.ns.getD j 0) = true) (h4 : mayT e.k e.ts = true) : may e = true := by
  unfold may
  rw [h1, fitB_yes h2 h3, h4]; rfl
theorem MayO.rng {e : Ev} (h : MayO e) (j : Nat) : 0 ≤ e.ns.getD j 0 ∧ e.ns.getD j 0 ≤ 1125899906842624 := by
  by_cases hj : j < (lets e.v e.k).size
  · have h1 := fits_out (h.ft j hj)
    have h2 := bnd_in e.v (byteAt (lets e.v e.k) j)
    exact ⟨Int.le_trans h2.1 h1.2.1, Int.le_trans h1.2.2 h2.2⟩
  · rw [List.getD_eq_getElem?_getD, List.getElem?_eq_none (by rw [h.ln]; omega)]; exact ⟨Int.le_refl _, by decide⟩

/-! ### what the rules are like, checked for each kind -/
def ruAt (v k i : Nat) : Ru := (rulesL v k).getD i ru0
def cov (v k : Nat) : Bool := (List.range (lets v k).size).all fun j => (List.range (lets (v + 1) k).size).any fun i => decide ((ruAt v k i).fr = (j : Int)) && (List.range (lets (v + 1) k).size).all fun i' => decide (i' = i) || decide ((ruAt v k i').fr ≠ (j : Int))
def one (v k i : Nat) : Bool :=
  let r := ruAt v k i
  let b := bnd ((v + 1 : Nat) : Int) (byteAt (lets (v + 1) k) i)
  b.is && (if r.fr = -1 then decide (b.low ≤ r.pl) && decide (r.pl ≤ b.high) else
    let a := bnd v (byteAt (lets v k) r.fr.toNat)
    a.is && decide (b.low ≤ r.pl + a.low * r.ti) && decide (r.pl + a.high * r.ti ≤ b.high) && decide ((a.low - 1) * r.ti < b.low - r.pl) && decide (b.high - r.pl < (a.high + 1) * r.ti))
def chk (v k : Nat) : Bool := !(tall v k) || (tall (v + 1) k && cov v k && (List.range (lets (v + 1) k).size).all fun i => one v k i)
theorem chk_all : ((List.range 24).all fun k => chk 1 k && chk 2 k) = true := by decide +kernel
theorem tall_kind {v k : Nat} (h : tall v k = true) : k < 24 := (tall_range h).2
theorem chk_at {v k : Nat} (h : tall v k = true) (hv : v < 3) : tall (v + 1) k = true ∧ cov v k = true ∧ ∀ i, i < (lets (v + 1) k).size → one v k i = true := by
  have h1 := tall_range h
  have hc := List.all_eq_true.1 chk_all k (List.mem_range.2 (tall_kind h))
  simp only [Bool.and_eq_true] at hc
  have : chk v k = true := by
    have : v = 1 ∨ v = 2 := by omega
    rcases this with rfl | rfl
    · exact hc.1
    · exact hc.2
  unfold chk at this
  rw [h] at this
  simp only [Bool.not_true, Bool.false_or, Bool.and_eq_true, List.all_eq_true] at this
  exact ⟨this.1.1, this.1.2, fun i hi => this.2 i (List.mem_range.2 hi)⟩
theorem goes_of {v k : Nat} (h : tall v k = true) (hv : v < 3) : goes v k = true := by
  unfold goes
  rw [h, Nat.mod_eq_of_lt (by omega), (chk_at h hv).1]; rfl
theorem goes_out {v k : Nat} (h : goes v k = true) : tall v k = true ∧ v < 3 := by
  unfold goes at h
  simp only [Bool.and_eq_true] at h
  have h1 := tall_range h.1
  have h2 := tall_range h.2
  exact ⟨h.1, by omega⟩
theorem cov_at {v k : Nat} (h : cov v k = true) (j : Nat) (hj : j < (lets v k).size) : ∃ i, i < (lets (v + 1) k).size ∧ (ruAt v k i).fr = (j : Int) ∧ ∀ i', i' < (lets (v + 1) k).size → i' ≠ i → (ruAt v k i').fr ≠ (j : Int) := by
  have := List.all_eq_true.1 h j (List.mem_range.2 hj)
  rw [List.any_eq_true] at this
  obtain ⟨i, hi, h1⟩ := this
  simp only [Bool.and_eq_true, decide_eq_true_eq, List.all_eq_true, Bool.or_eq_true] at h1
  refine ⟨i, List.mem_range.1 hi, h1.1, fun i' hi' hn => ?_⟩
  rcases h1.2 i' (List.mem_range.2 hi') with h2 | h2
  · exact absurd h2 hn
  · exact h2
theorem ruAt_eq {v k i : Nat} (h : i < (rulesL v k).length) : ruAt v k i = (rulesL v k)[i] := by
  unfold ruAt; rw [List.getD_eq_getElem?_getD, List.getElem?_eq_getElem h]; rfl
theorem ruAt_ok {v k i : Nat} (h : i < (lets (v + 1) k).size) : RuOk (lets v k).size (ruAt v k i) ∧ ((ruAt v k i).fr ≠ -1 → 1 ≤ (ruAt v k i).ti) := by
  have hl : i < (rulesL v k).length := by rw [rules_len]; exact h
  rw [ruAt_eq hl]
  exact ⟨rules_ok v k _ (List.getElem_mem hl), rules_ti v k _ (List.getElem_mem hl)⟩

/-! ### lifted -/
theorem up_at (e : Ev) (i : Nat) (h : i < (lets (e.v + 1) e.k).size) : (upE e).ns.getD i 0 = upV e.ns (ruAt e.v e.k i) := by
  have hl : i < (rulesL e.v e.k).length := by rw [rules_len]; exact h
  rw [ruAt_eq hl]
  exact upN_at _ _ _ hl
theorem up_len (e : Ev) : (upE e).ns.length = (lets (e.v + 1) e.k).size := by
  show (upN _ _).length = _
  unfold upN; rw [List.length_map, rules_len]
theorem up_may {e : Ev} (h : may e = true) (hv : e.v < 3) : may (upE e) = true := by
  have ho := may_out h
  obtain ⟨ht, -, h1⟩ := chk_at ho.tl hv
  refine may_in ht (up_len e) (fun j hj => ?_) ho.nt
  have hj : j < (lets (e.v + 1) e.k).size := hj
  rw [up_at e j hj]
  have h2 := h1 j hj
  have h3 := (ruAt_ok hj).1
  have h5 := (ruAt_ok hj).2
  show fits ((e.v + 1 : Nat) : Int) (byteAt (lets (e.v + 1) e.k) j) _ = true
  unfold one at h2
  generalize ruAt e.v e.k j = r at h2 h3 h5 ⊢
  simp only [Bool.and_eq_true] at h2
  obtain ⟨h6, h2⟩ := h2
  unfold upV
  split
  · rename_i hf
    rw [if_pos hf] at h2
    simp only [Bool.and_eq_true, decide_eq_true_eq] at h2
    exact fits_in h6 h2.1 h2.2
  · rename_i hf
    rw [if_neg hf] at h2
    simp only [Bool.and_eq_true, decide_eq_true_eq] at h2
    rcases h3.1 with h3 | ⟨f, h3, hfl⟩
    · exact absurd h3 hf
    · rw [h3, Int.toNat_natCast] at h2 ⊢
      have h4 := fits_out (ho.ft f hfl)
      have h7 : 0 ≤ r.ti := by have := h5 hf; omega
      exact fits_in h6 (Int.le_trans h2.1.1.1.2 (by have := Int.mul_le_mul_of_nonneg_right h4.2.1 h7; omega)) (Int.le_trans (by have := Int.mul_le_mul_of_nonneg_right h4.2.2 h7; omega) h2.1.1.2)

/-! ### let down -/
theorem foldD_out (l : List Ru) (ns : List Int) (n : Nat) (P : List Int) (j : Nat) (h : ∀ i, i < n → (l.getD i ru0).fr ≠ (j : Int) ∧ ((l.getD i ru0).fr = -1 ∨ 0 ≤ (l.getD i ru0).fr)) : (foldD l ns n P).getD j 0 = P.getD j 0 := by
  induction n with
  | zero => rfl
  | succ n ih =>
    rw [foldD_succ]
    have h1 := h n (by omega)
    have h2 := ih fun i hi => h i (by omega)
    unfold setD
    split
    · exact h2
    · rename_i hf
      rw [getD_set_other (by have := h1.2; have := h1.1; omega)]; exact h2
theorem foldD_at (l : List Ru) (ns : List Int) (n : Nat) (P : List Int) (j i : Nat) (hi : i < n) (hj : j < P.length) (h : (l.getD i ru0).fr = (j : Int)) (hu : ∀ i', i' < n → (i' ≠ i → (l.getD i' ru0).fr ≠ (j : Int)) ∧ ((l.getD i' ru0).fr = -1 ∨ 0 ≤ (l.getD i' ru0).fr)) : (foldD l ns n P).getD j 0 = (ns.getD i 0 - (l.getD i ru0).pl).tdiv (l.getD i ru0).ti := by
  induction n with
  | zero => omega
  | succ n ih =>
    rw [foldD_succ]
    by_cases hn : n = i
    · rw [hn]
      unfold setD
      rw [if_neg (by omega), h, Int.toNat_natCast]
      exact getD_set_same (by rw [foldD_len]; exact hj) _
    · have h1 := hu n (by omega)
      have h2 := ih (by omega) fun i' hi' => hu i' (by omega)
      unfold setD
      split
      · exact h2
      · rename_i hf
        rw [getD_set_other (by have := h1.2; have := h1.1 hn; omega)]; exact h2
theorem down_at {v k : Nat} (ht : tall v k = true) (hv : v < 3) (ns : List Int) (j : Nat) (hj : j < (lets v k).size) : ∃ i, i < (lets (v + 1) k).size ∧ (ruAt v k i).fr = (j : Int) ∧ (downN (rulesL v k) ns (lets v k).size).getD j 0 = (ns.getD i 0 - (ruAt v k i).pl).tdiv (ruAt v k i).ti := by
  obtain ⟨i, hi, h1, h2⟩ := cov_at (chk_at ht hv).2.1 j hj
  refine ⟨i, hi, h1, ?_⟩
  unfold downN
  rw [rules_len]
  refine foldD_at _ _ _ _ j i hi (by rw [List.length_replicate]; exact hj) h1 fun i' hi' => ⟨h2 i' hi', ?_⟩
  rcases (ruAt_ok hi').1.1 with h3 | ⟨f, h3, -⟩
  · exact Or.inl h3
  · exact Or.inr (by show 0 ≤ (ruAt v k i').fr; omega)
theorem down_len {l : List Ru} {ns : List Int} {m : Nat} : (downN l ns m).length = m := by unfold downN; rw [foldD_len, List.length_replicate]
structure DownO (e d : Ev) : Prop where
  ev : e.v = d.v + 1
  ek : e.k = d.k
  ts : e.ts = d.ts
  tl : tall d.v d.k = true
  v3 : d.v < 3
  ns : d.ns = downN (rulesL d.v d.k) e.ns (lets d.v d.k).size
  ok : ∀ i, i < (lets (d.v + 1) d.k).size → okD e.ns i (ruAt d.v d.k i) = true
theorem down_out {e d : Ev} (hv : 1 ≤ e.v) (h : downX e = .ok d) : DownO e d := by
  unfold downX at h
  split at h
  · rename_i hc
    have := Except.ok.inj h
    subst this
    have hg := goes_out hc.1
    refine ⟨by show e.v = e.v - 1 + 1; omega, rfl, rfl, hg.1, hg.2, rfl, fun i hi => ?_⟩
    exact List.all_eq_true.1 hc.2 i (List.mem_range.2 (by rw [rules_len]; exact hi))
  · cases h
theorem DownO.num {e d : Ev} (h : DownO e d) (i : Nat) (hi : i < (lets (d.v + 1) d.k).size) : e.ns.getD i 0 = upV d.ns (ruAt d.v d.k i) := by
  have h1 := h.ok i hi
  have h2 := (ruAt_ok hi).2
  unfold okD at h1
  unfold upV
  split
  · rename_i hf
    rw [if_pos hf] at h1
    have := of_decide_eq_true h1
    omega
  · rename_i hf
    rw [if_neg hf] at h1
    have h1 := of_decide_eq_true h1
    rcases (ruAt_ok hi).1.1 with h3 | ⟨f, h3, hfl⟩
    · exact absurd h3 hf
    · obtain ⟨i2, hi2, h4, h5⟩ := down_at h.tl h.v3 e.ns f hfl
      rw [← h.ns] at h5
      have hii : i = i2 := by
        obtain ⟨i3, -, -, h6⟩ := cov_at (chk_at h.tl h.v3).2.1 f hfl
        refine Decidable.byContradiction fun hn => ?_
        by_cases h7 : i = i3
        · exact h6 i2 hi2 (by omega) h4
        · exact h6 i hi h7 h3
      subst hii
      rw [h3, Int.toNat_natCast, h5]
      have := Int.mul_tdiv_add_tmod (e.ns.getD i 0 - (ruAt d.v d.k i).pl) (ruAt d.v d.k i).ti
      rw [h1, Int.mul_comm] at this
      omega
theorem down_up {e d : Ev} (he : e.ns.length = (lets e.v e.k).size) (h : DownO e d) : upE d = e := by
  obtain ⟨v, k, ns, ts⟩ := e
  obtain ⟨h1, h2, h3⟩ := And.intro h.ev (And.intro h.ek h.ts)
  simp only [] at h1 h2 h3
  subst h1 h2 h3
  show (⟨_, _, _, _⟩ : Ev) = _
  congr 1
  exact list_ext ((up_len d).trans he.symm) fun j hj => (up_at d j (by rw [← he]; exact hj)).trans (h.num j (by rw [← he]; exact hj)).symm
theorem down_may {e d : Ev} (he : may e = true) (h : downX e = .ok d) : may d = true := by
  have ho := may_out he
  have hd := down_out ho.v1 h
  refine may_in hd.tl (by rw [hd.ns]; exact down_len) (fun j hj => ?_) (by rw [← hd.ek, ← hd.ts]; exact ho.nt)
  obtain ⟨i, hi, h4, h5⟩ := down_at hd.tl hd.v3 e.ns j hj
  rw [← hd.ns] at h5
  have h1 := hd.ok i hi
  have h2 := (ruAt_ok hi).2
  have h3 := (chk_at hd.tl hd.v3).2.2 i hi
  have h6 := fits_out (ho.ft i (by rw [hd.ev, hd.ek]; exact hi))
  rw [hd.ev, hd.ek] at h6
  rw [h5]
  unfold okD at h1
  unfold one at h3
  have hf : ¬ (ruAt d.v d.k i).fr = -1 := by omega
  rw [if_neg hf] at h1
  simp only [if_neg hf] at h3
  rw [h4, Int.toNat_natCast] at h3
  have h2 := h2 hf
  generalize ruAt d.v d.k i = r at h1 h2 h3 ⊢
  have h1 := of_decide_eq_true h1
  simp only [Bool.and_eq_true, decide_eq_true_eq] at h3
  obtain ⟨h7, ⟨⟨⟨h8, -⟩, -⟩, h9⟩, h10⟩ := h3
  have hx := Int.mul_tdiv_add_tmod (e.ns.getD i 0 - r.pl) r.ti
  rw [h1, Int.add_zero, Int.mul_comm] at hx
  generalize (e.ns.getD i 0 - r.pl).tdiv r.ti = z at hx ⊢
  have q1 : (bnd d.v (byteAt (lets d.v d.k) j)).low - 1 < z := Int.lt_of_mul_lt_mul_right (a := r.ti) (by omega) (by omega)
  have q2 : z < (bnd d.v (byteAt (lets d.v d.k) j)).high + 1 := Int.lt_of_mul_lt_mul_right (a := r.ti) (by omega) (by omega)
  exact fits_in h8 (by omega) (by omega)
theorem up_down {e : Ev} (h : may e = true) (hv : e.v < 3) : downX (upE e) = .ok e := by
  have ho := may_out h
  have hg := goes_of ho.tl hv
  have hok : ∀ i, i < (lets (e.v + 1) e.k).size → okD (upE e).ns i (ruAt e.v e.k i) = true := by
    intro i hi
    have h2 := (ruAt_ok hi).2
    unfold okD
    rw [up_at e i hi]
    unfold upV
    split
    · exact decide_eq_true (by omega)
    · exact decide_eq_true (by rw [Int.add_comm, Int.add_sub_cancel]; exact Int.mul_tmod_left _ _)
  have hd := down_yes (e := upE e) hg (fun i hi => hok i (by rw [← rules_len]; exact hi))
  rw [hd]
  congr 1
  show (⟨e.v, e.k, downN (rulesL e.v e.k) (upE e).ns (lets e.v e.k).size, e.ts⟩ : Ev) = e
  obtain ⟨v, k, ns, ts⟩ := e
  congr 1
  refine list_ext (by rw [down_len]; exact ho.ln.symm) fun j hj => ?_
  have hj : j < (lets v k).size := by have := ho.ln; simp only [] at this; rw [← this]; exact hj
  obtain ⟨i, hi, h4, h5⟩ := down_at (v := v) (k := k) ho.tl hv (upE ⟨v, k, ns, ts⟩).ns j hj
  refine h5.trans ?_
  rw [up_at ⟨v, k, ns, ts⟩ i hi]
  unfold upV
  have hf : ¬ (ruAt v k i).fr = -1 := by omega
  have h2 := (ruAt_ok hi).2 hf
  rw [if_neg hf]
  show ((ruAt v k i).pl + ns.getD (ruAt v k i).fr.toNat 0 * (ruAt v k i).ti - (ruAt v k i).pl).tdiv (ruAt v k i).ti = _
  rw [Int.add_comm, Int.add_sub_cancel, h4, Int.toNat_natCast]
  exact Int.mul_tdiv_cancel _ (by omega)
end Go.Proofs.YtiibeemjkdipnaaDoor.Upcast
