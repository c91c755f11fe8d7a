import Derived.Test.YtiibeemjkdipnaaGreatDoorUD
import Derived.StillTailTactics
import Derived.Deep.RegionLaw
/-
  What is lifted may be; what is let down may be; there and back.
-/
namespace Go.Proofs.YtiibeemjkdipnaaGreatDoor.Upcast
open Go Go.RowKit
open Go.Proofs.YtiibeemjkdipnaaGreatDoor.Schema

theorem bnd_in (v c : Int) : 0 ≤ (bnd v c).low ∧ (bnd v c).high ≤ 1125899906842624 := by
  rcases bnd_cases v c with h | ⟨k, hk, h⟩
  · rw [h]; decide
  · rw [h]
    have := bd_all (p := fun r => decide (0 ≤ r.low) && decide (r.high ≤ 1125899906842624)) (by decide +kernel) k hk
    simp only [Bool.and_eq_true, decide_eq_true_eq] at this
    exact this
theorem fits_out {v c n : Int} (h : fits v c n = true) : (bnd v c).is = true ∧ (bnd v c).low ≤ n ∧ n ≤ (bnd v c).high := by
  unfold fits at h
  simp only [Bool.and_eq_true, decide_eq_true_eq] at h
  exact ⟨h.1.1, h.1.2, h.2⟩
theorem fits_in {v c n : Int} (h : (bnd v c).is = true) (h1 : (bnd v c).low ≤ n) (h2 : n ≤ (bnd v c).high) : fits v c n = true := by
  unfold fits
  rw [h, decide_eq_true h1, decide_eq_true h2]; rfl
theorem fitB_out {v : Int} {s : ByteArray} {xs : List Int} (h : fitB v s xs = true) : xs.length = s.size ∧ ∀ j, j < s.size → fits v (byteAt s j) (xs.getD j 0) = true := by
  unfold fitB at h
  simp only [Bool.and_eq_true, decide_eq_true_eq, List.all_eq_true] at h
  exact ⟨h.1, fun j hj => h.2 j (List.mem_range.2 hj)⟩
structure MayO (e : Ev) : Prop where
  v1 : 1 ≤ e.v
  v3 : e.v ≤ 3
  tl : tall e.v e.k = true
  ln : e.ns.length = (lets e.v e.k).size
  ft : ∀ j, j < (lets e.v e.k).size → fits e.v (byteAt (lets e.v e.k) j) (e.ns.getD j 0) = true
  nt : mayT e.k e.ts = true
  tx : e.ts.length ≤ 1
theorem may_out {e : Ev} (h : may e = true) : MayO e := by
  unfold may at h
  simp only [Bool.and_eq_true] at h
  have hr := tall_range h.1.1
  have hf := fitB_out h.1.2
  refine ⟨hr.1.1, hr.1.2, h.1.1, hf.1, hf.2, h.2, ?_⟩
  have ht := h.2
  unfold mayT at ht
  split at ht
  · simp only [Bool.and_eq_true, decide_eq_true_eq] at ht; omega
  · simp only [decide_eq_true_eq] at ht; omega
theorem may_in {e : Ev} (h1 : tall e.v e.k = true) (h2 : e.ns.length = (lets e.v e.k).size) (h3 : ∀ j, j < (lets e.v e.k).size → fits e.v (byteAt (lets e.v e.k) j) (e.ns.getD j 0) = true) (h4 : mayT e.k e.ts = true) : may e = true := by
  unfold may
  rw [h1, fitB_yes h2 h3, h4]; rfl
theorem MayO.rng {e : Ev} (h : MayO e) (j : Nat) : 0 ≤ e.ns.getD j 0 ∧ e.ns.getD j 0 ≤ 1125899906842624 := by
  by_cases hj : j < (lets e.v e.k).size
  · have h1 := fits_out (h.ft j hj)
    have h2 := bnd_in e.v (byteAt (lets e.v e.k) j)
    exact ⟨Int.le_trans h2.1 h1.2.1, Int.le_trans h1.2.2 h2.2⟩
  · rw [List.getD_eq_getElem?_getD, List.getElem?_eq_none (by rw [h.ln]; omega)]; exact ⟨Int.le_refl _, by decide⟩

/-! ### what the rules are like, checked for each kind -/
def ruAt (v k i : Nat) : Ru := (rulesL v k).getD i ru0
def cov (v k : Nat) : Bool := (List.range (lets v k).size).all fun j => (List.range (lets (v + 1) k).size).any fun i => decide ((ruAt v k i).fr = (j : Int)) && (List.range (lets (v + 1) k).size).all fun i' => decide (i' = i) || decide ((ruAt v k i').fr ≠ (j : Int))
def one (v k i : Nat) : Bool :=
  let r := ruAt v k i
  let b := bnd ((v + 1 : Nat) : Int) (byteAt (lets (v + 1) k) i)
  b.is && (if r.fr = -1 then decide (b.low ≤ r.pl) && decide (r.pl ≤ b.high) else
    let a := bnd v (byteAt (lets v k) r.fr.toNat)
    a.is && decide (b.low ≤ r.pl + a.low * r.ti) && decide (r.pl + a.high * r.ti ≤ b.high) && decide ((a.low - 1) * r.ti < b.low - r.pl) && decide (b.high - r.pl < (a.high + 1) * r.ti))
def chk (v k : Nat) : Bool := !(tall v k) || (tall (v + 1) k && cov v k && (List.range (lets (v + 1) k).size).all fun i => one v k i)
theorem chk_all : ((List.range 24).all fun k => chk 1 k && chk 2 k) = true := by decide +kernel
theorem tall_kind {v k : Nat} (h : tall v k = true) : k < 24 := (tall_range h).2
theorem chk_at {v k : Nat} (h : tall v k = true) (hv : v < 3) : tall (v + 1) k = true ∧ cov v k = true ∧ ∀ i, i < (lets (v + 1) k).size → one v k i = true := by
  have h1 := tall_range h
  have hc := List.all_eq_true.1 chk_all k (List.mem_range.2 (tall_kind h))
  simp only [Bool.and_eq_true] at hc
  have : chk v k = true := by
    have : v = 1 ∨ v = 2 := by omega
    rcases this with rfl | rfl
    · exact hc.1
    · exact hc.2
  unfold chk at this
  rw [h] at this
  simp only [Bool.not_true, Bool.false_or, Bool.and_eq_true, List.all_eq_true] at this
  exact ⟨this.1.1, this.1.2, fun i hi => this.2 i (List.mem_range.2 hi)⟩
theorem goes_of {v k : Nat} (h : tall v k = true) (hv : v < 3) : goes v k = true := by
  unfold goes
  rw [h, Nat.mod_eq_of_lt (by omega), (chk_at h hv).1]; rfl
theorem goes_out {v k : Nat} (h : goes v k = true) : tall v k = true ∧ v < 3 := by
  unfold goes at h
  simp only [Bool.and_eq_true] at h
  have h1 := tall_range h.1
  have h2 := tall_range h.2
  exact ⟨h.1, by omega⟩
theorem cov_at {v k : Nat} (h : cov v k = true) (j : Nat) (hj : j < (lets v k).size) : ∃ i, i < (lets (v + 1) k).size ∧ (ruAt v k i).fr = (j : Int) ∧ ∀ i', i' < (lets (v + 1) k).size → i' ≠ i → (ruAt v k i').fr ≠ (j : Int) := by
  have := List.all_eq_true.1 h j (List.mem_range.2 hj)
  rw [List.any_eq_true] at this
  obtain ⟨i, hi, h1⟩ := this
  simp only [Bool.and_eq_true, decide_eq_true_eq, List.all_eq_true, Bool.or_eq_true] at h1
  refine ⟨i, List.mem_range.1 hi, h1.1, fun i' hi' hn => ?_⟩
  rcases h1.2 i' (List.mem_range.2 hi') with h2 | h2
  · exact absurd h2 hn
  · exact h2
theorem ruAt_eq {v k i : Nat} (h : i < (rulesL v k).length) : ruAt v k i = (rulesL v k)[i] := by
  unfold ruAt; rw [List.getD_eq_getElem?_getD, List.getElem?_eq_getElem h]; rfl
theorem ruAt_ok {v k i : Nat} (h : i < (lets (v + 1) k).size) : RuOk (lets v k).size (ruAt v k i) ∧ ((ruAt v k i).fr ≠ -1 → 1 ≤ (ruAt v k i).ti) := by
  have hl : i < (rulesL v k).length := by rw [rules_len]; exact h
  rw [ruAt_eq hl]
  exact ⟨rules_ok v k _ (List.getElem_mem hl), rules_ti v k _ (List.getElem_mem hl)⟩

/-! ### lifted -/
theorem up_at (e : Ev) (i : Nat) (h : i < (lets (e.v + 1) e.k).size) : (upE e).ns.getD i 0 = upV e.ns (ruAt e.v e.k i) := by
  have hl : i < (rulesL e.v e.k).length := by rw [rules_len]; exact h
  rw [ruAt_eq hl]
  exact upN_at _ _ _ hl
theorem up_len (e : Ev) : (upE e).ns.length = (lets (e.v + 1) e.k).size := by
  show (upN _ _).length = _
  unfold upN; rw [List.length_map, rules_len]
theorem up_may {e : Ev} (h : may e = true) (hv : e.v < 3) : may (upE e) = true := by
  have ho := may_out h
  obtain ⟨ht, -, h1⟩ := chk_at ho.tl hv
  refine may_in ht (up_len e) (fun j hj => ?_) ho.nt
  have hj : j < (lets (e.v + 1) e.k).size := hj
  rw [up_at e j hj]
  have h2 := h1 j hj
  have h3 := (ruAt_ok hj).1
  have h5 := (ruAt_ok hj).2
  show fits ((e.v + 1 : Nat) : Int) (byteAt (lets (e.v + 1) e.k) j) _ = true
  unfold one at h2
  generalize ruAt e.v e.k j = r at h2 h3 h5 ⊢
  simp only [Bool.and_eq_true] at h2
  obtain ⟨h6, h2⟩ := h2
  unfold upV
  split
  · rename_i hf
    rw [if_pos hf] at h2
    simp only [Bool.and_eq_true, decide_eq_true_eq] at h2
    exact fits_in h6 h2.1 h2.2
  · rename_i hf
    rw [if_neg hf] at h2
    simp only [Bool.and_eq_true, decide_eq_true_eq] at h2
    rcases h3.1 with h3 | ⟨f, h3, hfl⟩
    · exact absurd h3 hf
    · rw [h3, Int.toNat_natCast] at h2 ⊢
      have h4 := fits_out (ho.ft f hfl)
      have h7 : 0 ≤ r.ti := by have := h5 hf; omega
      exact fits_in h6 (Int.le_trans h2.1.1.1.2 (by have := Int.mul_le_mul_of_nonneg_right h4.2.1 h7; omega)) (Int.le_trans (by have := Int.mul_le_mul_of_nonneg_right h4.2.2 h7; omega) h2.1.1.2)

/-! ### let down -/
theorem foldD_out (l : List Ru) (ns : List Int) (n : Nat) (P : List Int) (j : Nat) (h : ∀ i, i < n → (l.getD i ru0).fr ≠ (j : Int) ∧ ((l.getD i ru0).fr = -1 ∨ 0 ≤ (l.getD i ru0).fr)) : (foldD l ns n P).getD j 0 = P.getD j 0 := by
  induction n with
  | zero => rfl
  | succ n ih =>
    rw [foldD_succ]
    have h1 := h n (by omega)
    have h2 := ih fun i hi => h i (by omega)
    unfold setD
    split
    · exact h2
    · rename_i hf
      rw [getD_set_other (by have := h1.2; have := h1.1; omega)]; exact h2
theorem foldD_at (l : List Ru) (ns : List Int) (n : Nat) (P : List Int) (j i : Nat) (hi : i < n) (hj : j < P.length) (h : (l.getD i ru0).fr = (j : Int)) (hu : ∀ i', i' < n → (i' ≠ i → (l.getD i' ru0).fr ≠ (j : Int)) ∧ ((l.getD i' ru0).fr = -1 ∨ 0 ≤ (l.getD i' ru0).fr)) : (foldD l ns n P).getD j 0 = (ns.getD i 0 - (l.getD i ru0).pl).tdiv (l.getD i ru0).ti := by
  induction n with
  | zero => omega
  | succ n ih =>
    rw [foldD_succ]
    by_cases hn : n = i
    · rw [hn]
      unfold setD
      rw [if_neg (by omega), h, Int.toNat_natCast]
      exact getD_set_same (by rw [foldD_len]; exact hj) _
    · have h1 := hu n (by omega)
      have h2 := ih (by omega) fun i' hi' => hu i' (by omega)
      unfold setD
      split
      · exact h2
      · rename_i hf
        rw [getD_set_other (by have := h1.2; have := h1.1 hn; omega)]; exact h2
theorem down_at {v k : Nat} (ht : tall v k = true) (hv : v < 3) (ns : List Int) (j : Nat) (hj : j < (lets v k).size) : ∃ i, i < (lets (v + 1) k).size ∧ (ruAt v k i).fr = (j : Int) ∧ (downN (rulesL v k) ns (lets v k).size).getD j 0 = (ns.getD i 0 - (ruAt v k i).pl).tdiv (ruAt v k i).ti := by
  obtain ⟨i, hi, h1, h2⟩ := cov_at (chk_at ht hv).2.1 j hj
  refine ⟨i, hi, h1, ?_⟩
  unfold downN
  rw [rules_len]
  refine foldD_at _ _ _ _ j i hi (by rw [List.length_replicate]; exact hj) h1 fun i' hi' => ⟨h2 i' hi', ?_⟩
  rcases (ruAt_ok hi').1.1 with h3 | ⟨f, h3, -⟩
  · exact Or.inl h3
  · exact Or.inr (by show 0 ≤ (ruAt v k i').fr; omega)
theorem down_len {l : List Ru} {ns : List Int} {m : Nat} : (downN l ns m).length = m := by unfold downN; rw [foldD_len, List.length_replicate]
structure DownO (e d : Ev) : Prop where
  ev : e.v = d.v + 1
  ek : e.k = d.k
  ts : e.ts = d.ts
  tl : tall d.v d.k = true
  v3 : d.v < 3
  ns : d.ns = downN (rulesL d.v d.k) e.ns (lets d.v d.k).size
  ok : ∀ i, i < (lets (d.v + 1) d.k).size → okD e.ns i (ruAt d.v d.k i) = true
theorem down_out {e d : Ev} (hv : 1 ≤ e.v) (h : downX e = .ok d) : DownO e d := by
  unfold downX at h
  split at h
  · rename_i hc
    have := Except.ok.inj h
    subst this
    have hg := goes_out hc.1
    refine ⟨by show e.v = e.v - 1 + 1; omega, rfl, rfl, hg.1, hg.2, rfl, fun i hi => ?_⟩
    exact List.all_eq_true.1 hc.2 i (List.mem_range.2 (by rw [rules_len]; exact hi))
  · cases h
theorem DownO.num {e d : Ev} (h : DownO e d) (i : Nat) (hi : i < (lets (d.v + 1) d.k).size) : e.ns.getD i 0 = upV d.ns (ruAt d.v d.k i) := by
  have h1 := h.ok i hi
  have h2 := (ruAt_ok hi).2
  unfold okD at h1
  unfold upV
  split
  · rename_i hf
    rw [if_pos hf] at h1
    have := of_decide_eq_true h1
    omega
  · rename_i hf
    rw [if_neg hf] at h1
    have h1 := of_decide_eq_true h1
    rcases (ruAt_ok hi).1.1 with h3 | ⟨f, h3, hfl⟩
    · exact absurd h3 hf
    · obtain ⟨i2, hi2, h4, h5⟩ := down_at h.tl h.v3 e.ns f hfl
      rw [← h.ns] at h5
      have hii : i = i2 := by
        obtain ⟨i3, -, -, h6⟩ := cov_at (chk_at h.tl h.v3).2.1 f hfl
        refine Decidable.byContradiction fun hn => ?_
        by_cases h7 : i = i3
        · exact h6 i2 hi2 (by omega) h4
        · exact h6 i hi h7 h3
      subst hii
      rw [h3, Int.toNat_natCast, h5]
      have := Int.mul_tdiv_add_tmod (e.ns.getD i 0 - (ruAt d.v d.k i).pl) (ruAt d.v d.k i).ti
      rw [h1, Int.mul_comm] at this
      omega
theorem down_up {e d : Ev} (he : e.ns.length = (lets e.v e.k).size) (h : DownO e d) : upE d = e := by
  obtain ⟨v, k, ns, ts⟩ := e
  obtain ⟨h1, h2, h3⟩ := And.intro h.ev (And.intro h.ek h.ts)
  simp only [] at h1 h2 h3
  subst h1 h2 h3
  show (⟨_, _, _, _⟩ : Ev) = _
  congr 1
  exact list_ext ((up_len d).trans he.symm) fun j hj => (up_at d j (by rw [← he]; exact hj)).trans (h.num j (by rw [← he]; exact hj)).symm
theorem down_may {e d : Ev} (he : may e = true) (h : downX e = .ok d) : may d = true := by
  have ho := may_out he
  have hd := down_out ho.v1 h
  refine may_in hd.tl (by rw [hd.ns]; exact down_len) (fun j hj => ?_) (by rw [← hd.ek, ← hd.ts]; exact ho.nt)
  obtain ⟨i, hi, h4, h5⟩ := down_at hd.tl hd.v3 e.ns j hj
  rw [← hd.ns] at h5
  have h1 := hd.ok i hi
  have h2 := (ruAt_ok hi).2
  have h3 := (chk_at hd.tl hd.v3).2.2 i hi
  have h6 := fits_out (ho.ft i (by rw [hd.ev, hd.ek]; exact hi))
  rw [hd.ev, hd.ek] at h6
  rw [h5]
  unfold okD at h1
  unfold one at h3
  have hf : ¬ (ruAt d.v d.k i).fr = -1 := by omega
  rw [if_neg hf] at h1
  simp only [if_neg hf] at h3
  rw [h4, Int.toNat_natCast] at h3
  have h2 := h2 hf
  generalize ruAt d.v d.k i = r at h1 h2 h3 ⊢
  have h1 := of_decide_eq_true h1
  simp only [Bool.and_eq_true, decide_eq_true_eq] at h3
  obtain ⟨h7, ⟨⟨⟨h8, -⟩, -⟩, h9⟩, h10⟩ := h3
  have hx := Int.mul_tdiv_add_tmod (e.ns.getD i 0 - r.pl) r.ti
  rw [h1, Int.add_zero, Int.mul_comm] at hx
  generalize (e.ns.getD i 0 - r.pl).tdiv r.ti = z at hx ⊢
  have q1 : (bnd d.v (byteAt (lets d.v d.k) j)).low - 1 < z := Int.lt_of_mul_lt_mul_right (a := r.ti) (by omega) (by omega)
  have q2 : z < (bnd d.v (byteAt (lets d.v d.k) j)).high + 1 := Int.lt_of_mul_lt_mul_right (a := r.ti) (by omega) (by omega)
  exact fits_in h8 (by omega) (by omega)
theorem up_down {e : Ev} (h : may e = true) (hv : e.v < 3) : downX (upE e) = .ok e := by
  have ho := may_out h
  have hg := goes_of ho.tl hv
  have hok : ∀ i, i < (lets (e.v + 1) e.k).size → okD (upE e).ns i (ruAt e.v e.k i) = true := by
    intro i hi
    have h2 := (ruAt_ok hi).2
    unfold okD
    rw [up_at e i hi]
    unfold upV
    split
    · exact decide_eq_true (by omega)
    · exact decide_eq_true (by rw [Int.add_comm, Int.add_sub_cancel]; exact Int.mul_tmod_left _ _)
  have hd := down_yes (e := upE e) hg (fun i hi => hok i (by rw [← rules_len]; exact hi))
  rw [hd]
  congr 1
  show (⟨e.v, e.k, downN (rulesL e.v e.k) (upE e).ns (lets e.v e.k).size, e.ts⟩ : Ev) = e
  obtain ⟨v, k, ns, ts⟩ := e
  congr 1
  refine list_ext (by rw [down_len]; exact ho.ln.symm) fun j hj => ?_
  have hj : j < (lets v k).size := by have := ho.ln; simp only [] at this; rw [← this]; exact hj
  obtain ⟨i, hi, h4, h5⟩ := down_at (v := v) (k := k) ho.tl hv (upE ⟨v, k, ns, ts⟩).ns j hj
  refine h5.trans ?_
  rw [up_at ⟨v, k, ns, ts⟩ i hi]
  unfold upV
  have hf : ¬ (ruAt v k i).fr = -1 := by omega
  have h2 := (ruAt_ok hi).2 hf
  rw [if_neg hf]
  show ((ruAt v k i).pl + ns.getD (ruAt v k i).fr.toNat 0 * (ruAt v k i).ti - (ruAt v k i).pl).tdiv (ruAt v k i).ti = _
  rw [Int.add_comm, Int.add_sub_cancel, h4, Int.toNat_natCast]
  exact Int.mul_tdiv_cancel _ (by omega)
end Go.Proofs.YtiibeemjkdipnaaGreatDoor.Upcast

/-
  Down, Up.
-/
namespace Go.Proofs.YtiibeemjkdipnaaGreatDoor.Upcast
open Go Go.RowKit
open Go.Proofs.YtiibeemjkdipnaaGreatDoor.Schema

def dnX (e : Ev) : Except Nat Ev := if may e then downX e else .error 4
def upX (e : Ev) : Except Nat Ev := if may e then (if e.v = 3 then .error 43 else .ok (upE e)) else .error 4
theorem down_is {e : Ev} (h : may e = true) : dnX e = downX e := if_pos h
theorem Down_no {e : Ev} (h : may e = false) : dnX e = .error 4 := if_neg (by rw [h]; decide)
theorem up_no {e : Ev} (h : may e = false) : upX e = .error 4 := if_neg (by rw [h]; decide)
theorem up_new {e : Ev} (h : may e = true) (h3 : e.v = 3) : upX e = .error 43 := (if_pos h).trans (if_pos h3)
theorem up_is {e : Ev} (h : may e = true) (h3 : e.v < 3) : upX e = .ok (upE e) := (if_pos h).trans (if_neg (by omega))
theorem free_below {w w' : World} {b : Nat} (h : Free w b) (k : Below w.heap.size w w') : Free w' b := h.below k

end Go.Proofs.YtiibeemjkdipnaaGreatDoor.Upcast

/-
  Newest.
-/
namespace Go.Proofs.YtiibeemjkdipnaaGreatDoor.Upcast
open Go Go.RowKit
open Go.Proofs.YtiibeemjkdipnaaGreatDoor.Schema

def newE (e : Ev) : Ev := if e.v = 1 then upE (upE e) else if e.v = 2 then upE e else e
theorem newE1 {e : Ev} (h : e.v = 1) : newE e = upE (upE e) := if_pos h
theorem newE2 {e : Ev} (h : e.v = 2) : newE e = upE e := (if_neg (by omega)).trans (if_pos h)
theorem newE3 {e : Ev} (h : e.v = 3) : newE e = e := (if_neg (by omega)).trans (if_neg (by omega))
def nwX (e : Ev) : Except Nat Ev := if may e then .ok (newE e) else .error 4
theorem newest_no {e : Ev} (h : may e = false) : nwX e = .error 4 := if_neg (by rw [h]; decide)
theorem newest_is {e : Ev} (h : may e = true) : nwX e = .ok (newE e) := if_pos h
theorem frz_set {w : World} {b o : Nat} {v : Value} (a : Addr) : (w.setCell ⟨b, o, none⟩ v).frozen? a = w.frozen? a := by simp
theorem free_set {w : World} {b b' o : Nat} (h : Free w b) (v : Value) : Free (w.setCell ⟨b', o, none⟩ v) b := ⟨by simpa [World.setCell] using h.1, fun i => by rw [frz_set]; exact h.2 i⟩
theorem free_set4 {w : World} {b b' : Nat} (h : Free w b) (x0 x1 x2 x3 : Value) : Free ((((w.setCell ⟨b', 0, none⟩ x0).setCell ⟨b', 1, none⟩ x1).setCell ⟨b', 2, none⟩ x2).setCell ⟨b', 3, none⟩ x3) b := free_set (free_set (free_set (free_set h x0) x1) x2) x3
theorem free_touch {lo hi : Nat} {w w' : World} {b : Nat} (h : Free w b) (t : Schema.Touch lo hi w w') (ho : b < lo ∨ hi ≤ b) : Free w' b := ⟨Nat.lt_of_lt_of_le h.1 t.size, fun i => (World.frozen?_of_block (t.block b h.1 ho)).trans (h.2 i)⟩
/-- an event that may be, told: it lies there -/
theorem evAt_of {w : World} {base : Nat} {A C : Option Addr} {c d : Nat} {f : Ev} (h : may f = true) (ht : ∀ t ∈ f.ts, t.size ≤ maxLen) (h1 : OwnE w base 2 (.slice A f.ns.length c) (nums f.ns)) (h2 : OwnE w base 9 (.slice C f.ts.length d) (texts f.ts)) : EvAt w A c C d f := by
  have ho := may_out h
  have hk := tall_kind ho.tl
  have hv := ho.v3
  obtain ⟨A1, a1, e1, v1, n1, m1⟩ := h1.vat
  obtain ⟨A2, a2, e2, v2, n2, m2⟩ := h2.vat
  injection e1 with e1 _ e3
  injection e2 with e2 _ e4
  subst e1 e2 e3 e4
  refine ⟨by omega, by omega, fun x hx => ?_, ht, v1, v2, n1, n2, by rw [← nums_len]; exact m1, by rw [← texts_len]; exact m2⟩
  obtain ⟨i, hi⟩ := List.getElem?_of_mem hx
  have := ho.rng i
  rw [List.getD_eq_getElem?_getD, hi] at this
  simp only [Option.getD_some] at this
  omega

set_option maxRecDepth 100000 in
set_option maxHeartbeats 4000000 in
theorem Newest_any (A : Option Addr) (ca : Nat) (C : Option Addr) (cc : Nat) (e : Ev) (hl : e.ns.length ≤ 1000000) (w : World) (hA : EvAt w A ca C cc e) (E : Env w) :
    Calls Tryz.prog 50 #[evV A ca C cc e] w (ExV (nwX e) w) := by
  have HA := Lib.hid hA
  have HE := Lib.hid E
  have HL := Lib.hid hl
  clear hA E hl
  unfold evV
  have hb1 := (Below.refl w.heap.size w).alloc (Nat.le_refl _) (.cells #[.int .u8 e.v, .int .u8 e.k, .slice A e.ns.length ca, .slice C e.ts.length cc] 39)
  have hs1 : (w.alloc (.cells #[.int .u8 e.v, .int .u8 e.k, .slice A e.ns.length ca, .slice C e.ts.length cc] 39)).heap.size = w.heap.size + 1 := by simp
  have hb2 := (Below.refl (w.alloc (.cells #[.int .u8 e.v, .int .u8 e.k, .slice A e.ns.length ca, .slice C e.ts.length cc] 39)).heap.size (w.alloc (.cells #[.int .u8 e.v, .int .u8 e.k, .slice A e.ns.length ca, .slice C e.ts.length cc] 39))).alloc (Nat.le_refl _) (.cells #[.int .u8 0, .int .u8 0, .slice none 0 0, .slice none 0 0] 39)
  have hx : Four _ w.heap.size _ _ _ _ := Four.below (box4 w (.int .u8 e.v) (.int .u8 e.k) (.slice A e.ns.length ca) (.slice C e.ts.length cc) 39) hb2
  have hxf := free_below (free_new w #[.int .u8 e.v, .int .u8 e.k, .slice A e.ns.length ca, .slice C e.ts.length cc] 39) hb2
  have HX := Lib.hid hx
  have HXF := Lib.hid hxf
  have hp : Four _ (w.alloc (.cells #[.int .u8 e.v, .int .u8 e.k, .slice A e.ns.length ca, .slice C e.ts.length cc] 39)).heap.size _ _ _ _ := box4 (w.alloc (.cells #[.int .u8 e.v, .int .u8 e.k, .slice A e.ns.length ca, .slice C e.ts.length cc] 39)) (.int .u8 0) (.int .u8 0) (.slice none 0 0) (.slice none 0 0) 39
  have hf := free_new (w.alloc (.cells #[.int .u8 e.v, .int .u8 e.k, .slice A e.ns.length ca, .slice C e.ts.length cc] 39)) #[.int .u8 0, .int .u8 0, .slice none 0 0, .slice none 0 0] 39
  rw [hs1] at hp hf
  have HP := Lib.hid hp
  have HPF := Lib.hid hf
  have HB := Lib.hid (below_step hb1 hb2)
  clear hb1 hb2 hs1 hx hp hf hxf
  go_enter Tryz.func50, Tryz.ntmps50
  go_upto_region 1 with (fail)
  generalize ((w.alloc (.cells #[.int .u8 e.v, .int .u8 e.k, .slice A e.ns.length ca, .slice C e.ts.length cc] 39)).alloc (.cells #[.int .u8 0, .int .u8 0, .slice none 0 0, .slice none 0 0] 39)) = W at HX HXF HP HPF HB ⊢
  replace HA := Lib.hid (HA.out.below HB.out)
  obtain ⟨x0, x1, x2, x3⟩ := HX.out
  go_wp2_with fail
  clear x0 x1 x2 x3
  refine (may_any A ca C cc e HL.out W (HE.out.below HB.out) HA.out).mono ?_
  rintro z W2 ⟨rfl, hb⟩
  replace HX := Lib.hid (HX.out.below hb)
  replace HXF := Lib.hid (free_below HXF.out hb)
  replace HP := Lib.hid (HP.out.below hb)
  replace HPF := Lib.hid (HPF.out.below hb)
  replace HA := Lib.hid (HA.out.below hb)
  have hsz := HB.out.size
  replace HB := Lib.hid (below_step HB.out hb)
  clear hb
  cases hm : may e with
  | false =>
    have HDN := Lib.hid (newest_no hm)
    clear hm
    obtain ⟨p0, p1, p2, p3⟩ := HP.out
    have f0 := HPF.out.2 0
    have f1 := HPF.out.2 1
    have f2 := HPF.out.2 2
    have f3 := HPF.out.2 3
    go_wp2_with fail
    clear p0 p1 p2 p3 f0 f1 f2 f3
    obtain ⟨d0, d1, d2, d3⟩ := HP.out.set4 (.int .u8 0) (.int .u8 0) (.slice none 0 0) (.slice none 0 0)
    refine bodyPost_ret (v := .tuple #[.agg #[.int .u8 0, .int .u8 0, .slice none 0 0, .slice none 0 0], .int .i64 4]) (by simp [results, Tryz.results50, go_sem, d0, d1, d2, d3]) rfl ?_
    rw [HDN.out]
    exact ⟨rfl, HB.out.trans ((touch4 W2 (w.heap.size + 1) _ _ _ _).below (Nat.le_succ _) HB.out.size)⟩
  | true =>
    have HM := Lib.hid hm
    have HO := Lib.hid (may_out hm)
    have HLT := Lib.hid (show e.ts.length ≤ 1000 by have := HO.out.tx; omega)
    clear hm
    have HYE := Lib.hid (newest_is HM.out)
    have hv1 := HO.out.v1
    have hv3 := HO.out.v3
    clear hsz
    have hvs : e.v = 1 ∨ e.v = 2 ∨ e.v = 3 := by omega
    rcases hvs with h1 | h2 | h3
    case inl =>
      have q1 : ((e.v : Int) == 1) = true := by rw [beq_iff_eq]; omega
      have HGO := Lib.hid (goes_of HO.out.tl (show e.v < 3 by omega))
      have HMU := Lib.hid (up_may HM.out (show e.v < 3 by omega))
      have HEV := Lib.hid HA.out
      have HOO := Lib.hid HO.out
      have HTX := Lib.hid HA.out.txt
      have H1 := Lib.hid h1
      clear hv1 hv3 h1
      obtain ⟨x0, x1, x2, x3⟩ := HX.out
      go_upto_region 6 with (fail)
      clear x0 x1 x2 x3 q1
      obtain ⟨x0, x1, x2, x3⟩ := HX.out
      skip
      have hps := HPF.out.1
      go_wp2_with fail
      clear x0 x1 x2 x3 hps
      refine (lifted_any A ca C cc e W2 HEV.out HGO.out HOO.out.ln HOO.out.rng HLT.out (HE.out.below HB.out)).mono ?_
      rintro z W3 ⟨A1, c1, C1, d1, rfl, ho1, ho2, hb⟩
      have hps := HPF.out.1
      have HO1 := Lib.hid (ho1.less (show w.heap.size + 2 ≤ _ by omega))
      have HO2 := Lib.hid (ho2.less (show w.heap.size + 2 ≤ _ by omega))
      clear ho1 ho2 hps
      replace HX := Lib.hid (HX.out.below hb)
      replace HXF := Lib.hid (free_below HXF.out hb)
      replace HP := Lib.hid (HP.out.below hb)
      replace HPF := Lib.hid (HPF.out.below hb)
      have hsz := HB.out.size
      have hps := HPF.out.1
      replace HB := Lib.hid (below_step HB.out hb)
      clear hb
      generalize hq1 : upE e = f at HO1 HO2 ⊢
      have HQ1 := Lib.hid hq1
      clear hq1 hsz hps
      unfold evV
      obtain ⟨x0, x1, x2, x3⟩ := HX.out
      have f0 := HXF.out.2 0
      have f1 := HXF.out.2 1
      have f2 := HXF.out.2 2
      have f3 := HXF.out.2 3
      go_upto_region 7 with (fail)
      clear x0 x1 x2 x3 f0 f1 f2 f3
      have ht := touch4 W3 w.heap.size (.int .u8 f.v) (.int .u8 f.k) (.slice A1 f.ns.length c1) (.slice C1 f.ts.length d1)
      replace HX := Lib.hid (HX.out.set4 (.int .u8 f.v) (.int .u8 f.k) (.slice A1 f.ns.length c1) (.slice C1 f.ts.length d1))
      replace HP := Lib.hid (Four.touch HP.out ht (Or.inr (Nat.le_refl _)))
      replace HPF := Lib.hid (free_touch HPF.out ht (Or.inr (Nat.le_refl _)))
      replace HXF := Lib.hid (free_set4 (b' := w.heap.size) HXF.out (.int .u8 f.v) (.int .u8 f.k) (.slice A1 f.ns.length c1) (.slice C1 f.ts.length d1))
      replace HB := Lib.hid (HB.out.trans (ht.below (Nat.le_refl _) HB.out.size))
      replace HO1 := Lib.hid (ownE_set4 (b := w.heap.size) (x0 := .int .u8 f.v) (x1 := .int .u8 f.k) (x2 := .slice A1 f.ns.length c1) (x3 := .slice C1 f.ts.length d1) HO1.out (by omega))
      replace HO2 := Lib.hid (ownE_set4 (b := w.heap.size) (x0 := .int .u8 f.v) (x1 := .int .u8 f.k) (x2 := .slice A1 f.ns.length c1) (x3 := .slice C1 f.ts.length d1) HO2.out (by omega))
      clear ht
      generalize ((((W3.setCell ⟨w.heap.size, 0, none⟩ (.int .u8 f.v)).setCell ⟨w.heap.size, 1, none⟩ (.int .u8 f.k)).setCell ⟨w.heap.size, 2, none⟩ (.slice A1 f.ns.length c1)).setCell ⟨w.heap.size, 3, none⟩ (.slice C1 f.ts.length d1)) = W3s at HX HXF HP HPF HB HO1 HO2 ⊢
      have HMF := Lib.hid (show may f = true by rw [← HQ1.out]; exact HMU.out)
      have HEQ := Lib.hid (show newE e = upE f by rw [← HQ1.out]; exact newE1 H1.out)
      have hfv : f.v = 2 := by rw [← HQ1.out]; show e.v + 1 = 2; rw [H1.out]
      have HTF := Lib.hid (show ∀ t ∈ f.ts, t.size ≤ maxLen by rw [← HQ1.out]; exact HTX.out)
      replace HOO := Lib.hid (may_out HMF.out)
      replace HGO := Lib.hid (goes_of (may_out HMF.out).tl (show f.v < 3 by omega))
      obtain ⟨hev⟩ : Nonempty (EvAt W3s A1 c1 C1 d1 f) := ⟨evAt_of HMF.out HTF.out HO1.out HO2.out⟩
      replace HEV := Lib.hid hev
      replace HLT := Lib.hid (show f.ts.length ≤ 1000 by have := HOO.out.tx; omega)
      clear hev hfv HO1 HO2 HMU HQ1
      obtain ⟨x0, x1, x2, x3⟩ := HX.out
      skip
      have hps := HPF.out.1
      go_wp2_with fail
      clear x0 x1 x2 x3 hps
      refine (lifted_any A1 c1 C1 d1 f W3s HEV.out HGO.out HOO.out.ln HOO.out.rng HLT.out (HE.out.below HB.out)).mono ?_
      rintro z W5 ⟨A2, c2, C2, d2, rfl, ho1, ho2, hb⟩
      have hps := HPF.out.1
      have HO1 := Lib.hid (ho1.less (show w.heap.size + 2 ≤ _ by omega))
      have HO2 := Lib.hid (ho2.less (show w.heap.size + 2 ≤ _ by omega))
      clear ho1 ho2 hps
      replace HX := Lib.hid (HX.out.below hb)
      replace HXF := Lib.hid (free_below HXF.out hb)
      replace HP := Lib.hid (HP.out.below hb)
      replace HPF := Lib.hid (HPF.out.below hb)
      have hsz := HB.out.size
      have hps := HPF.out.1
      replace HB := Lib.hid (below_step HB.out hb)
      clear hb
      generalize hq2 : upE f = g at HO1 HO2 ⊢
      have HQ2 := Lib.hid hq2
      clear hq2 hsz hps
      unfold evV
      obtain ⟨x0, x1, x2, x3⟩ := HX.out
      have f0 := HXF.out.2 0
      have f1 := HXF.out.2 1
      have f2 := HXF.out.2 2
      have f3 := HXF.out.2 3
      go_upto_region 9 with (fail)
      clear x0 x1 x2 x3 f0 f1 f2 f3
      have ht := touch4 W5 w.heap.size (.int .u8 g.v) (.int .u8 g.k) (.slice A2 g.ns.length c2) (.slice C2 g.ts.length d2)
      replace HX := Lib.hid (HX.out.set4 (.int .u8 g.v) (.int .u8 g.k) (.slice A2 g.ns.length c2) (.slice C2 g.ts.length d2))
      replace HP := Lib.hid (Four.touch HP.out ht (Or.inr (Nat.le_refl _)))
      replace HPF := Lib.hid (free_touch HPF.out ht (Or.inr (Nat.le_refl _)))
      replace HXF := Lib.hid (free_set4 (b' := w.heap.size) HXF.out (.int .u8 g.v) (.int .u8 g.k) (.slice A2 g.ns.length c2) (.slice C2 g.ts.length d2))
      replace HB := Lib.hid (HB.out.trans (ht.below (Nat.le_refl _) HB.out.size))
      replace HO1 := Lib.hid (ownE_set4 (b := w.heap.size) (x0 := .int .u8 g.v) (x1 := .int .u8 g.k) (x2 := .slice A2 g.ns.length c2) (x3 := .slice C2 g.ts.length d2) HO1.out (by omega))
      replace HO2 := Lib.hid (ownE_set4 (b := w.heap.size) (x0 := .int .u8 g.v) (x1 := .int .u8 g.k) (x2 := .slice A2 g.ns.length c2) (x3 := .slice C2 g.ts.length d2) HO2.out (by omega))
      clear ht
      generalize ((((W5.setCell ⟨w.heap.size, 0, none⟩ (.int .u8 g.v)).setCell ⟨w.heap.size, 1, none⟩ (.int .u8 g.k)).setCell ⟨w.heap.size, 2, none⟩ (.slice A2 g.ns.length c2)).setCell ⟨w.heap.size, 3, none⟩ (.slice C2 g.ts.length d2)) = W5s at HX HXF HP HPF HB HO1 HO2 ⊢
      obtain ⟨x0, x1, x2, x3⟩ := HX.out
      obtain ⟨p0, p1, p2, p3⟩ := HP.out
      have f0 := HPF.out.2 0
      have f1 := HPF.out.2 1
      have f2 := HPF.out.2 2
      have f3 := HPF.out.2 3
      go_wp2_with fail
      clear x0 x1 x2 x3 p0 p1 p2 p3 f0 f1 f2 f3
      obtain ⟨e0, e1, e2, e3⟩ := HP.out.set4 (.int .u8 g.v) (.int .u8 g.k) (.slice A2 g.ns.length c2) (.slice C2 g.ts.length d2)
      refine bodyPost_ret (v := .tuple #[.agg #[.int .u8 g.v, .int .u8 g.k, .slice A2 g.ns.length c2, .slice C2 g.ts.length d2], .int .i64 0]) (by simp [results, Tryz.results50, go_sem, e0, e1, e2, e3]) rfl ?_
      rw [HYE.out, HEQ.out, HQ2.out]
      exact ⟨A2, c2, C2, d2, rfl, (ownE_set4 HO1.out (Nat.lt_succ_self _)).less (by omega), (ownE_set4 HO2.out (Nat.lt_succ_self _)).less (by omega), HB.out.trans ((touch4 W5s (w.heap.size + 1) _ _ _ _).below (Nat.le_succ _) HB.out.size)⟩
    case inr.inl =>
      have q1 : ((e.v : Int) == 1) = false := by rw [beq_eq_false_iff_ne]; omega
      have q2 : ((e.v : Int) == 2) = true := by rw [beq_iff_eq]; omega
      have HGO := Lib.hid (goes_of HO.out.tl (show e.v < 3 by omega))
      have HEV := Lib.hid HA.out
      have HOO := Lib.hid HO.out
      have HEQ := Lib.hid (newE2 h2)
      clear hv1 hv3 h2
      obtain ⟨x0, x1, x2, x3⟩ := HX.out
      go_upto_region 7 with (fail)
      clear x0 x1 x2 x3 q1 q2
      obtain ⟨x0, x1, x2, x3⟩ := HX.out
      skip
      have hps := HPF.out.1
      go_wp2_with fail
      clear x0 x1 x2 x3 hps
      refine (lifted_any A ca C cc e W2 HEV.out HGO.out HOO.out.ln HOO.out.rng HLT.out (HE.out.below HB.out)).mono ?_
      rintro z W3 ⟨A1, c1, C1, d1, rfl, ho1, ho2, hb⟩
      have hps := HPF.out.1
      have HO1 := Lib.hid (ho1.less (show w.heap.size + 2 ≤ _ by omega))
      have HO2 := Lib.hid (ho2.less (show w.heap.size + 2 ≤ _ by omega))
      clear ho1 ho2 hps
      replace HX := Lib.hid (HX.out.below hb)
      replace HXF := Lib.hid (free_below HXF.out hb)
      replace HP := Lib.hid (HP.out.below hb)
      replace HPF := Lib.hid (HPF.out.below hb)
      have hsz := HB.out.size
      have hps := HPF.out.1
      replace HB := Lib.hid (below_step HB.out hb)
      clear hb
      generalize hq1 : upE e = f at HO1 HO2 ⊢
      have HQ1 := Lib.hid hq1
      clear hq1 hsz hps
      unfold evV
      obtain ⟨x0, x1, x2, x3⟩ := HX.out
      have f0 := HXF.out.2 0
      have f1 := HXF.out.2 1
      have f2 := HXF.out.2 2
      have f3 := HXF.out.2 3
      go_upto_region 9 with (fail)
      clear x0 x1 x2 x3 f0 f1 f2 f3
      have ht := touch4 W3 w.heap.size (.int .u8 f.v) (.int .u8 f.k) (.slice A1 f.ns.length c1) (.slice C1 f.ts.length d1)
      replace HX := Lib.hid (HX.out.set4 (.int .u8 f.v) (.int .u8 f.k) (.slice A1 f.ns.length c1) (.slice C1 f.ts.length d1))
      replace HP := Lib.hid (Four.touch HP.out ht (Or.inr (Nat.le_refl _)))
      replace HPF := Lib.hid (free_touch HPF.out ht (Or.inr (Nat.le_refl _)))
      replace HXF := Lib.hid (free_set4 (b' := w.heap.size) HXF.out (.int .u8 f.v) (.int .u8 f.k) (.slice A1 f.ns.length c1) (.slice C1 f.ts.length d1))
      replace HB := Lib.hid (HB.out.trans (ht.below (Nat.le_refl _) HB.out.size))
      replace HO1 := Lib.hid (ownE_set4 (b := w.heap.size) (x0 := .int .u8 f.v) (x1 := .int .u8 f.k) (x2 := .slice A1 f.ns.length c1) (x3 := .slice C1 f.ts.length d1) HO1.out (by omega))
      replace HO2 := Lib.hid (ownE_set4 (b := w.heap.size) (x0 := .int .u8 f.v) (x1 := .int .u8 f.k) (x2 := .slice A1 f.ns.length c1) (x3 := .slice C1 f.ts.length d1) HO2.out (by omega))
      clear ht
      generalize ((((W3.setCell ⟨w.heap.size, 0, none⟩ (.int .u8 f.v)).setCell ⟨w.heap.size, 1, none⟩ (.int .u8 f.k)).setCell ⟨w.heap.size, 2, none⟩ (.slice A1 f.ns.length c1)).setCell ⟨w.heap.size, 3, none⟩ (.slice C1 f.ts.length d1)) = W3s at HX HXF HP HPF HB HO1 HO2 ⊢
      obtain ⟨x0, x1, x2, x3⟩ := HX.out
      obtain ⟨p0, p1, p2, p3⟩ := HP.out
      have f0 := HPF.out.2 0
      have f1 := HPF.out.2 1
      have f2 := HPF.out.2 2
      have f3 := HPF.out.2 3
      go_wp2_with fail
      clear x0 x1 x2 x3 p0 p1 p2 p3 f0 f1 f2 f3
      obtain ⟨e0, e1, e2, e3⟩ := HP.out.set4 (.int .u8 f.v) (.int .u8 f.k) (.slice A1 f.ns.length c1) (.slice C1 f.ts.length d1)
      refine bodyPost_ret (v := .tuple #[.agg #[.int .u8 f.v, .int .u8 f.k, .slice A1 f.ns.length c1, .slice C1 f.ts.length d1], .int .i64 0]) (by simp [results, Tryz.results50, go_sem, e0, e1, e2, e3]) rfl ?_
      rw [HYE.out, HEQ.out, HQ1.out]
      exact ⟨A1, c1, C1, d1, rfl, (ownE_set4 HO1.out (Nat.lt_succ_self _)).less (by omega), (ownE_set4 HO2.out (Nat.lt_succ_self _)).less (by omega), HB.out.trans ((touch4 W3s (w.heap.size + 1) _ _ _ _).below (Nat.le_succ _) HB.out.size)⟩
    case inr.inr =>
      have q1 : ((e.v : Int) == 1) = false := by rw [beq_eq_false_iff_ne]; omega
      have q2 : ((e.v : Int) == 2) = false := by rw [beq_eq_false_iff_ne]; omega
      have HEQ := Lib.hid (newE3 h3)
      have HNL := Lib.hid (show e.ns.length ≤ 10 by rw [HO.out.ln]; exact (lets_ok _ _).1)
      clear hv1 hv3 h3
      obtain ⟨x0, x1, x2, x3⟩ := HX.out
      go_upto_region 8 with (fail)
      clear x0 x1 x2 x3 q1 q2
      have HAD := Lib.hid (HA.out.below (below_drew W2.heap.size W2))
      have HXD := Lib.hid (HX.out.below (below_drew W2.heap.size W2))
      have HXFD := Lib.hid (free_below HXF.out (below_drew W2.heap.size W2))
      have HPD := Lib.hid (HP.out.below (below_drew W2.heap.size W2))
      have HPFD := Lib.hid (HPF.out.below (below_drew W2.heap.size W2))
      have HBD := Lib.hid (below_step HB.out (below_drew W2.heap.size W2))
      skip
      obtain ⟨x0, x1, x2, x3⟩ := HX.out
      go_region_law (first | (refine wp_append_vals 36 2 (.int .i64 0) 8 Tryz.underlying36 infoN rfl (by decide) (.const (.slice none 0 0)) (.tmp 22) rfl W2.drew.heap.size (.slice none 0 0) [] rfl (Own.nil _ _ _) A _ ca (nums e.ns) rfl (nums_len _).symm HAD.out.ns (nums_cell _) HAD.out.nA (by have := HNL.out; have := nums_len e.ns; simp only [List.length_nil]; omega) (Nat.le_refl _) ?_; intro v' V2 hO hg; (try rw [List.nil_append] at hO); obtain ⟨A1, c1, rfl, -, -⟩ := hO.vat; rw [nums_len] at hO ⊢; (have hb : Below W2.drew.heap.size W2.drew V2 := ⟨hg.os, hg.tape, hg.output, hg.size, fun k hk => hg.block k hk (by simp [Value.ownBlock])⟩); (have HO1 := Lib.hid (show OwnE V2 (w.heap.size + 2) _ _ _ from Or.inl (hO.less (show w.heap.size + 2 ≤ W2.drew.heap.size from HPFD.out.1)))); (replace HAD := Lib.hid (HAD.out.below hb)); (replace HXD := Lib.hid (HXD.out.below hb)); (replace HXFD := Lib.hid (free_below HXFD.out hb)); (replace HPD := Lib.hid (HPD.out.below hb)); (replace HPFD := Lib.hid (HPFD.out.below hb)); (replace HBD := Lib.hid (below_step HBD.out hb)); clear hO hg hb x0 x1 x2 x3; obtain ⟨x0, x1, x2, x3⟩ := HXD.out) | (go_simp; go_at_call 76; refine (like_any A ca C cc e e.v A1 e.ns.length c1 V2 HAD.out.ts HAD.out.nB HLT.out).mono ?_; rintro z V3 ⟨C1, d1, rfl, ho2, hb⟩; (have HO2 := Lib.hid (ho2.less (show w.heap.size + 2 ≤ _ from HPFD.out.1))); (replace HO1 := Lib.hid (HO1.out.below hb)); (replace HXD := Lib.hid (HXD.out.below hb)); (replace HXFD := Lib.hid (free_below HXFD.out hb)); (replace HPD := Lib.hid (HPD.out.below hb)); (replace HPFD := Lib.hid (HPFD.out.below hb)); (replace HBD := Lib.hid (below_step HBD.out hb)); clear ho2 hb x0 x1 x2 x3; obtain ⟨x0, x1, x2, x3⟩ := HXD.out; (have f0 := HXFD.out.2 0); (have f1 := HXFD.out.2 1); (have f2 := HXFD.out.2 2); (have f3 := HXFD.out.2 3)))
      all_goals
        clear x0 x1 x2 x3 f0 f1 f2 f3
        have ht := touch4 V3 w.heap.size (.int .u8 e.v) (.int .u8 e.k) (.slice A1 e.ns.length c1) (.slice C1 e.ts.length d1)
        replace HX := Lib.hid (HXD.out.set4 (.int .u8 e.v) (.int .u8 e.k) (.slice A1 e.ns.length c1) (.slice C1 e.ts.length d1))
        replace HP := Lib.hid (Four.touch HPD.out ht (Or.inr (Nat.le_refl _)))
        replace HPF := Lib.hid (free_touch HPFD.out ht (Or.inr (Nat.le_refl _)))
        replace HB := Lib.hid (HBD.out.trans (ht.below (Nat.le_refl _) HBD.out.size))
        replace HO1 := Lib.hid (ownE_set4 (b := w.heap.size) (x0 := .int .u8 e.v) (x1 := .int .u8 e.k) (x2 := .slice A1 e.ns.length c1) (x3 := .slice C1 e.ts.length d1) HO1.out (by omega))
        replace HO2 := Lib.hid (ownE_set4 (b := w.heap.size) (x0 := .int .u8 e.v) (x1 := .int .u8 e.k) (x2 := .slice A1 e.ns.length c1) (x3 := .slice C1 e.ts.length d1) HO2.out (by omega))
        clear ht HXD HXFD HPD HPFD HBD HAD
        generalize ((((V3.setCell ⟨w.heap.size, 0, none⟩ (.int .u8 e.v)).setCell ⟨w.heap.size, 1, none⟩ (.int .u8 e.k)).setCell ⟨w.heap.size, 2, none⟩ (.slice A1 e.ns.length c1)).setCell ⟨w.heap.size, 3, none⟩ (.slice C1 e.ts.length d1)) = V3s at HX HP HPF HB HO1 HO2 ⊢
        obtain ⟨x0, x1, x2, x3⟩ := HX.out
        obtain ⟨p0, p1, p2, p3⟩ := HP.out
        have f0 := HPF.out.2 0
        have f1 := HPF.out.2 1
        have f2 := HPF.out.2 2
        have f3 := HPF.out.2 3
        go_wp2_with fail
        clear x0 x1 x2 x3 p0 p1 p2 p3 f0 f1 f2 f3
        obtain ⟨e0, e1, e2, e3⟩ := HP.out.set4 (.int .u8 e.v) (.int .u8 e.k) (.slice A1 e.ns.length c1) (.slice C1 e.ts.length d1)
        refine bodyPost_ret (v := .tuple #[.agg #[.int .u8 e.v, .int .u8 e.k, .slice A1 e.ns.length c1, .slice C1 e.ts.length d1], .int .i64 0]) (by simp [results, Tryz.results50, go_sem, e0, e1, e2, e3]) rfl ?_
        rw [HYE.out, HEQ.out]
        exact ⟨A1, c1, C1, d1, rfl, (ownE_set4 HO1.out (Nat.lt_succ_self _)).less (by omega), (ownE_set4 HO2.out (Nat.lt_succ_self _)).less (by omega), HB.out.trans ((touch4 V3s (w.heap.size + 1) _ _ _ _).below (Nat.le_succ _) HB.out.size)⟩

end Go.Proofs.YtiibeemjkdipnaaGreatDoor.Upcast

/-
  isVersion, letDownTo.
-/
namespace Go.Proofs.YtiibeemjkdipnaaGreatDoor.Upcast
open Go Go.RowKit
open Go.Proofs.YtiibeemjkdipnaaGreatDoor.Schema

def isV (v : Nat) : Bool := decide (1 ≤ v ∧ v ≤ 3)
/-- let down to a version, as often as need be -/
def dtX : Nat → Ev → Nat → Except Nat Ev
  | 0, e, _ => .ok e
  | n + 1, e, v => if v < e.v then (match downX e with | .ok d => dtX n d v | .error x => .error x) else .ok e
def dto (e : Ev) (v : Nat) : Except Nat Ev := dtX e.v e v
theorem down_err {e : Ev} {x : Nat} (h : downX e = .error x) : x = 43 := by
  unfold downX at h
  split at h
  · cases h
  · injection h with h; exact h.symm
theorem dto_end {e : Ev} {v : Nat} (h : ¬ v < e.v) : dto e v = .ok e := by
  unfold dto
  cases e.v with
  | zero => rfl
  | succ n => exact if_neg h
theorem dto_step {e f : Ev} {v : Nat} (h1 : 1 ≤ e.v) (h : v < e.v) (hd : downX e = .ok f) : dto e v = dto f v := by
  have hf := (down_out h1 hd).ev
  unfold dto
  rw [hf]
  show (if v < e.v then (match downX e with | .ok d => dtX f.v d v | .error x => .error x) else .ok e) = _
  rw [if_pos h, hd]
theorem dto_err {e : Ev} {v x : Nat} (h : v < e.v) (hd : downX e = .error x) : dto e v = .error x := by
  unfold dto
  obtain ⟨n, hn⟩ : ∃ n, e.v = n + 1 := ⟨e.v - 1, by omega⟩
  rw [hn]
  show (if v < e.v then (match downX e with | .ok d => dtX n d v | .error x => .error x) else .ok e) = _
  rw [if_pos h, hd]
def verAt (w : World) (b : Nat) : Nat := match w.cell? ⟨b, 0, none⟩ with | some (.int _ n) => n.toNat | _ => 0
theorem verAt_of {w : World} {b n : Nat} (h : w.cell? ⟨b, 0, none⟩ = some (.int .u8 (n : Int))) : verAt w b = n := by unfold verAt; rw [h]; exact Int.toNat_natCast n
structure LdI (w : World) (A : Option Addr) (ca : Nat) (C : Option Addr) (cc : Nat) (e : Ev) (v : Nat) (d : Ev) (A1 : Option Addr) (c1 : Nat) (C1 : Option Addr) (c2 : Nat) (wr : World) : Prop where
  x : Four wr w.heap.size (.int .u8 d.v) (.int .u8 d.k) (.slice A1 d.ns.length c1) (.slice C1 d.ts.length c2)
  xf : Free wr w.heap.size
  p : Four wr (w.heap.size + 1) (.int .u8 0) (.int .u8 0) (.slice none 0 0) (.slice none 0 0)
  pf : Free wr (w.heap.size + 1)
  b : Below w.heap.size w wr
  m : may d = true
  ea : EvAt wr A1 c1 C1 c2 d
  eq : dto e v = dto d v
  own : (d = e ∧ A1 = A ∧ c1 = ca ∧ C1 = C ∧ c2 = cc) ∨ (v < e.v ∧ OwnE wr (w.heap.size + 2) 2 (.slice A1 d.ns.length c1) (nums d.ns) ∧ OwnE wr (w.heap.size + 2) 9 (.slice C1 d.ts.length c2) (texts d.ts))
theorem LdI.lt {w wr : World} {A C A1 C1 : Option Addr} {ca cc c1 c2 v : Nat} {e d : Ev} (h : LdI w A ca C cc e v d A1 c1 C1 c2 wr) (hv : v < d.v) : v < e.v := by
  rcases h.own with h1 | h1
  · rw [← h1.1]; exact hv
  · exact h1.1
/-- what letDownTo tells: the event itself, or one of its own -/
def LdV (A : Option Addr) (ca : Nat) (C : Option Addr) (cc : Nat) (e : Ev) (v : Nat) (w : World) (z : Ending) (w' : World) : Prop :=
  match dto e v with
  | .ok f => ∃ A1 c1 C1 c2, z = .returned (.tuple #[evV A1 c1 C1 c2 f, .int .i64 0]) ∧ ((f = e ∧ A1 = A ∧ c1 = ca ∧ C1 = C ∧ c2 = cc) ∨ (v < e.v ∧ OwnE w' w.heap.size 2 (.slice A1 f.ns.length c1) (nums f.ns) ∧ OwnE w' w.heap.size 9 (.slice C1 f.ts.length c2) (texts f.ts))) ∧ Below w.heap.size w w'
  | .error x => z = .returned (.tuple #[.agg #[.int .u8 0, .int .u8 0, .slice none 0 0, .slice none 0 0], .int .i64 (x : Int)]) ∧ Below w.heap.size w w'

set_option maxRecDepth 100000 in
set_option maxHeartbeats 1000000 in
theorem isVersion_any (v : Nat) (hv : v < 256) (w : World) :
    Calls Tryz.prog 51 #[.int .u8 (v : Int)] w (fun z w' => z = .returned (.bool (isV v)) ∧ Below w.heap.size w w') := by
  have hc : v < 1 ∨ (1 ≤ v ∧ v ≤ 3) ∨ 3 < v := by omega
  rcases hc with h | h | h
  · have z1 : ¬ (1 : Int) ≤ (v : Int) := by omega
    rw [show isV v = false from decide_eq_false (by omega)]
    go_enter Tryz.func51, Tryz.ntmps51
    go_wp2
    first | exact bodyPost_ret (by simp [results, Tryz.results51, go_sem]) rfl ⟨rfl, Below.refl _ _⟩ | exact ⟨rfl, Below.refl _ _⟩ | skip
  · have z1 : (1 : Int) ≤ (v : Int) := by omega
    have z2 : (v : Int) ≤ 3 := by omega
    rw [show isV v = true from decide_eq_true (by omega)]
    go_enter Tryz.func51, Tryz.ntmps51
    go_wp2
    first | exact bodyPost_ret (by simp [results, Tryz.results51, go_sem]) rfl ⟨rfl, Below.refl _ _⟩ | exact ⟨rfl, Below.refl _ _⟩ | skip
  · have z1 : (1 : Int) ≤ (v : Int) := by omega
    have z2 : ¬ (v : Int) ≤ 3 := by omega
    rw [show isV v = false from decide_eq_false (by omega)]
    go_enter Tryz.func51, Tryz.ntmps51
    go_wp2
    first | exact bodyPost_ret (by simp [results, Tryz.results51, go_sem]) rfl ⟨rfl, Below.refl _ _⟩ | exact ⟨rfl, Below.refl _ _⟩ | skip

set_option maxRecDepth 100000 in
set_option maxHeartbeats 4000000 in
theorem letDownTo_any (A : Option Addr) (ca : Nat) (C : Option Addr) (cc : Nat) (e : Ev) (v : Nat) (hv : v < 256) (w : World) (hm : may e = true) (hA : EvAt w A ca C cc e) (E : Env w) :
    Calls Tryz.prog 53 #[evV A ca C cc e, .int .u8 (v : Int)] w (LdV A ca C cc e v w) := by
  have HE := Lib.hid E
  have HV := Lib.hid hv
  clear E hv
  unfold evV
  have hb1 := (Below.refl w.heap.size w).alloc (Nat.le_refl _) (.cells #[.int .u8 e.v, .int .u8 e.k, .slice A e.ns.length ca, .slice C e.ts.length cc] 39)
  have hs1 : (w.alloc (.cells #[.int .u8 e.v, .int .u8 e.k, .slice A e.ns.length ca, .slice C e.ts.length cc] 39)).heap.size = w.heap.size + 1 := by simp
  have hb2 := (Below.refl (w.alloc (.cells #[.int .u8 e.v, .int .u8 e.k, .slice A e.ns.length ca, .slice C e.ts.length cc] 39)).heap.size (w.alloc (.cells #[.int .u8 e.v, .int .u8 e.k, .slice A e.ns.length ca, .slice C e.ts.length cc] 39))).alloc (Nat.le_refl _) (.cells #[.int .u8 0, .int .u8 0, .slice none 0 0, .slice none 0 0] 39)
  have hx : Four _ w.heap.size _ _ _ _ := Four.below (box4 w (.int .u8 e.v) (.int .u8 e.k) (.slice A e.ns.length ca) (.slice C e.ts.length cc) 39) hb2
  have hxf := free_below (free_new w #[.int .u8 e.v, .int .u8 e.k, .slice A e.ns.length ca, .slice C e.ts.length cc] 39) hb2
  have HX := Lib.hid hx
  have HXF := Lib.hid hxf
  have hp : Four _ (w.alloc (.cells #[.int .u8 e.v, .int .u8 e.k, .slice A e.ns.length ca, .slice C e.ts.length cc] 39)).heap.size _ _ _ _ := box4 (w.alloc (.cells #[.int .u8 e.v, .int .u8 e.k, .slice A e.ns.length ca, .slice C e.ts.length cc] 39)) (.int .u8 0) (.int .u8 0) (.slice none 0 0) (.slice none 0 0) 39
  have hf := free_new (w.alloc (.cells #[.int .u8 e.v, .int .u8 e.k, .slice A e.ns.length ca, .slice C e.ts.length cc] 39)) #[.int .u8 0, .int .u8 0, .slice none 0 0, .slice none 0 0] 39
  rw [hs1] at hp hf
  have HP := Lib.hid hp
  have HPF := Lib.hid hf
  have HB := Lib.hid (below_step hb1 hb2)
  clear hb1 hb2 hs1 hx hp hf hxf
  have HI : Hid (LdI w A ca C cc e v e A ca C cc ((w.alloc (.cells #[.int .u8 e.v, .int .u8 e.k, .slice A e.ns.length ca, .slice C e.ts.length cc] 39)).alloc (.cells #[.int .u8 0, .int .u8 0, .slice none 0 0, .slice none 0 0] 39))) := ⟨HX.out, HXF.out, HP.out, HPF.out, HB.out, hm, hA.below HB.out, rfl, Or.inl ⟨rfl, rfl, rfl, rfl, rfl⟩⟩
  clear HX HXF HP HPF HB hm hA
  go_enter Tryz.func53, Tryz.ntmps53
  go_wp2_with fail
  go_loopw [] (fun wr => ∃ (d : Ev) (A1 : Option Addr) (c1 : Nat) (C1 : Option Addr) (c2 : Nat), Hid (LdI w A ca C cc e v d A1 c1 C1 c2 wr)) (fun wr => verAt wr w.heap.size)
  case atStart => exact ⟨e, A, ca, C, cc, HI⟩
  case round =>
    obtain ⟨d, A1, c1, C1, c2, HId⟩ := hrel
    clear HI
    have HMS := Lib.hid (verAt_of HId.out.x.1)
    by_cases hlt : v < d.v
    case pos =>
      have z1 : (v : Int) < (d.v : Int) := by omega
      have HLT := Lib.hid hlt
      obtain ⟨x0, x1, x2, x3⟩ := HId.out.x
      go_wp2_with fail
      clear x0 x1 x2 x3
      have ho := may_out HId.out.m
      refine (letDown_any A1 c1 C1 c2 d wr HId.out.ea ho.v1 ho.ln ho.rng (by have := ho.tx; omega) (HE.out.below HId.out.b)).mono ?_
      rintro z w3 hz
      have HDM := Lib.hid (fun f h => down_may (e := d) (d := f) HId.out.m h)
      have HDO := Lib.hid (fun f h => down_out (e := d) (d := f) ho.v1 h)
      have HST := Lib.hid (fun f h => dto_step (e := d) (f := f) (v := v) ho.v1 hlt h)
      have HER := Lib.hid (fun x h => dto_err (e := d) (v := v) (x := x) hlt h)
      have H43 := Lib.hid (fun x h => down_err (e := d) (x := x) h)
      clear ho hlt
      cases hq : downX d with
      | error x =>
        rw [hq] at hz
        obtain ⟨rfl, hb⟩ := hz
        have hx := H43.out x hq
        subst hx
        have HDN := Lib.hid (HId.out.eq.trans (HER.out _ hq))
        have HP := Lib.hid (HId.out.p.below hb)
        have HPF := Lib.hid (free_below HId.out.pf hb)
        have HB := Lib.hid (below_step HId.out.b hb)
        have HB2 := Lib.hid ((Below.refl w3.heap.size w3).alloc (Nat.le_refl _) (.cells #[.int .u8 0, .int .u8 0, .slice none 0 0, .slice none 0 0] 39))
        clear hb hq
        go_upto_region 4 with (fail)
        replace HP := Lib.hid (HP.out.below HB2.out)
        replace HPF := Lib.hid (free_below HPF.out HB2.out)
        replace HB := Lib.hid (below_step HB.out HB2.out)
        clear HB2
        generalize w3.alloc (.cells #[.int .u8 0, .int .u8 0, .slice none 0 0, .slice none 0 0] 39) = W4 at HP HPF HB ⊢
        obtain ⟨p0, p1, p2, p3⟩ := HP.out
        have f0 := HPF.out.2 0
        have f1 := HPF.out.2 1
        have f2 := HPF.out.2 2
        have f3 := HPF.out.2 3
        go_wp2_with fail
        clear p0 p1 p2 p3 f0 f1 f2 f3
        obtain ⟨e0, e1, e2, e3⟩ := HP.out.set4 (.int .u8 0) (.int .u8 0) (.slice none 0 0) (.slice none 0 0)
        refine bodyPost_ret (v := .tuple #[.agg #[.int .u8 0, .int .u8 0, .slice none 0 0, .slice none 0 0], .int .i64 43]) (by simp [results, Tryz.results53, go_sem, e0, e1, e2, e3]) rfl ?_
        unfold LdV
        rw [HDN.out]
        exact ⟨rfl, HB.out.trans ((touch4 W4 (w.heap.size + 1) _ _ _ _).below (Nat.le_succ _) HB.out.size)⟩
      | ok f =>
        rw [hq] at hz
        obtain ⟨A3, c3, C3, d3, rfl, ho1, ho2, hb⟩ := hz
        have HF := Lib.hid (HDO.out f hq)
        have HMF := Lib.hid (HDM.out f hq)
        have HEQ := Lib.hid (HId.out.eq.trans (HST.out f hq))
        have hgt := HId.out.pf.1
        have HO1 := Lib.hid (ho1.less (show w.heap.size + 2 ≤ _ by omega))
        have HO2 := Lib.hid (ho2.less (show w.heap.size + 2 ≤ _ by omega))
        have HX := Lib.hid (HId.out.x.below hb)
        have HXF := Lib.hid (free_below HId.out.xf hb)
        have HP := Lib.hid (HId.out.p.below hb)
        have HPF := Lib.hid (free_below HId.out.pf hb)
        have HB := Lib.hid (below_step HId.out.b hb)
        have HTX := Lib.hid (show ∀ t ∈ f.ts, t.size ≤ maxLen by rw [← HF.out.ts]; exact HId.out.ea.txt)
        have HOW := Lib.hid (show v < e.v from HId.out.lt HLT.out)
        clear hb hq ho1 ho2 hgt
        unfold evV
        have hb2 := (Below.refl w3.heap.size w3).alloc (Nat.le_refl _) (.cells #[.int .u8 f.v, .int .u8 f.k, .slice A3 f.ns.length c3, .slice C3 f.ts.length d3] 39)
        have HL := Lib.hid (show Four _ w3.heap.size _ _ _ _ from box4 w3 (.int .u8 f.v) (.int .u8 f.k) (.slice A3 f.ns.length c3) (.slice C3 f.ts.length d3) 39)
        have HB2 := Lib.hid hb2
        clear hb2
        go_upto_region 5 with (fail)
        replace HX := Lib.hid (HX.out.below HB2.out)
        replace HXF := Lib.hid (free_below HXF.out HB2.out)
        replace HP := Lib.hid (HP.out.below HB2.out)
        replace HPF := Lib.hid (free_below HPF.out HB2.out)
        replace HB := Lib.hid (below_step HB.out HB2.out)
        replace HO1 := Lib.hid (HO1.out.below HB2.out)
        replace HO2 := Lib.hid (HO2.out.below HB2.out)
        clear HB2
        generalize w3.alloc (.cells #[.int .u8 f.v, .int .u8 f.k, .slice A3 f.ns.length c3, .slice C3 f.ts.length d3] 39) = W4 at HX HXF HP HPF HB HO1 HO2 HL ⊢
        obtain ⟨x0, x1, x2, x3⟩ := HX.out
        have f0 := HXF.out.2 0
        have f1 := HXF.out.2 1
        have f2 := HXF.out.2 2
        have f3 := HXF.out.2 3
        obtain ⟨l0, l1, l2, l3⟩ := HL.out
        go_wp2_with fail
        clear x0 x1 x2 x3 f0 f1 f2 f3 l0 l1 l2 l3 z1
        have ht := touch4 W4 w.heap.size (.int .u8 f.v) (.int .u8 f.k) (.slice A3 f.ns.length c3) (.slice C3 f.ts.length d3)
        replace HX := Lib.hid (HX.out.set4 (.int .u8 f.v) (.int .u8 f.k) (.slice A3 f.ns.length c3) (.slice C3 f.ts.length d3))
        replace HP := Lib.hid (Four.touch HP.out ht (Or.inr (Nat.le_refl _)))
        replace HPF := Lib.hid (free_touch HPF.out ht (Or.inr (Nat.le_refl _)))
        replace HXF := Lib.hid (free_set4 (b' := w.heap.size) HXF.out (.int .u8 f.v) (.int .u8 f.k) (.slice A3 f.ns.length c3) (.slice C3 f.ts.length d3))
        replace HB := Lib.hid (HB.out.trans (ht.below (Nat.le_refl _) HB.out.size))
        replace HO1 := Lib.hid (ownE_set4 (b := w.heap.size) (x0 := .int .u8 f.v) (x1 := .int .u8 f.k) (x2 := .slice A3 f.ns.length c3) (x3 := .slice C3 f.ts.length d3) HO1.out (by omega))
        replace HO2 := Lib.hid (ownE_set4 (b := w.heap.size) (x0 := .int .u8 f.v) (x1 := .int .u8 f.k) (x2 := .slice A3 f.ns.length c3) (x3 := .slice C3 f.ts.length d3) HO2.out (by omega))
        clear ht HL
        generalize ((((W4.setCell ⟨w.heap.size, 0, none⟩ (.int .u8 f.v)).setCell ⟨w.heap.size, 1, none⟩ (.int .u8 f.k)).setCell ⟨w.heap.size, 2, none⟩ (.slice A3 f.ns.length c3)).setCell ⟨w.heap.size, 3, none⟩ (.slice C3 f.ts.length d3)) = W5 at HX HXF HP HPF HB HO1 HO2 ⊢
        have HI2 : Hid (LdI w A ca C cc e v f A3 c3 C3 d3 W5) := ⟨HX.out, HXF.out, HP.out, HPF.out, HB.out, HMF.out, evAt_of HMF.out HTX.out HO1.out HO2.out, HEQ.out, Or.inr ⟨HOW.out, HO1.out, HO2.out⟩⟩
        have HM2 := Lib.hid (verAt_of HX.out.1)
        have hfv : (d.v : Int) = (f.v : Int) + 1 := by have := HF.out.ev; omega
        go_roundw
        case rel => exact ⟨f, A3, c3, C3, d3, HI2⟩
        case measure => (rw [HMS.out, HM2.out]; omega)
    have z1 : ¬ (v : Int) < (d.v : Int) := by omega
    have z2 : decide ((v : Int) < (d.v : Int)) = false := decide_eq_false z1
    have HDN := Lib.hid (HId.out.eq.trans (dto_end (e := d) (v := v) hlt))
    clear hlt HMS
    obtain ⟨x0, x1, x2, x3⟩ := HId.out.x
    obtain ⟨p0, p1, p2, p3⟩ := HId.out.p
    have f0 := HId.out.pf.2 0
    have f1 := HId.out.pf.2 1
    have f2 := HId.out.pf.2 2
    have f3 := HId.out.pf.2 3
    go_wp2_with fail
    clear x0 x1 x2 x3 p0 p1 p2 p3 f0 f1 f2 f3 z1 z2
    obtain ⟨e0, e1, e2, e3⟩ := HId.out.p.set4 (.int .u8 d.v) (.int .u8 d.k) (.slice A1 d.ns.length c1) (.slice C1 d.ts.length c2)
    refine bodyPost_ret (v := .tuple #[.agg #[.int .u8 d.v, .int .u8 d.k, .slice A1 d.ns.length c1, .slice C1 d.ts.length c2], .int .i64 0]) (by simp [results, Tryz.results53, go_sem, e0, e1, e2, e3]) rfl ?_
    unfold LdV
    rw [HDN.out]
    exact ⟨A1, c1, C1, c2, rfl, HId.out.own.imp id (fun h => ⟨h.1, (ownE_set4 h.2.1 (Nat.lt_succ_self _)).less (by omega), (ownE_set4 h.2.2 (Nat.lt_succ_self _)).less (by omega)⟩), HId.out.b.trans ((touch4 wr (w.heap.size + 1) _ _ _ _).below (Nat.le_succ _) HId.out.b.size)⟩

end Go.Proofs.YtiibeemjkdipnaaGreatDoor.Upcast

/-
  To.
-/
namespace Go.Proofs.YtiibeemjkdipnaaGreatDoor.Upcast
open Go Go.RowKit
open Go.Proofs.YtiibeemjkdipnaaGreatDoor.Schema

/-- an event, said in a version -/
def toX (e : Ev) (v : Nat) : Except Nat Ev := if may e then (if isV v then dto (newE e) v else .error 43) else .error 4
theorem to_no {e : Ev} {v : Nat} (h : may e = false) : toX e v = .error 4 := if_neg (by rw [h]; decide)
theorem to_ver {e : Ev} {v : Nat} (h : may e = true) (hv : isV v = false) : toX e v = .error 43 := (if_pos h).trans (if_neg (by rw [hv]; decide))
theorem to_yes {e : Ev} {v : Nat} (h : may e = true) (hv : isV v = true) : toX e v = dto (newE e) v := (if_pos h).trans (if_pos hv)
theorem new_ts (e : Ev) : (newE e).ts = e.ts := by
  unfold newE
  split
  · rfl
  · split <;> rfl
theorem new_may {e : Ev} (h : may e = true) : may (newE e) = true := by
  unfold newE
  split
  · rename_i h1
    exact up_may (up_may h (by omega)) (by show e.v + 1 < 3; omega)
  · split
    · exact up_may h (by omega)
    · exact h
theorem new_v {e : Ev} (h : may e = true) : (newE e).v = 3 := by
  have ho := may_out h
  have h1 := ho.v1
  have h3 := ho.v3
  unfold newE
  split
  · show e.v + 1 + 1 = 3; omega
  · split
    · show e.v + 1 = 3; omega
    · omega

end Go.Proofs.YtiibeemjkdipnaaGreatDoor.Upcast
