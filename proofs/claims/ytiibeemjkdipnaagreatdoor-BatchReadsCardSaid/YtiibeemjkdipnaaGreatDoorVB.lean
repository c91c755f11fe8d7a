import Derived.Test.YtiibeemjkdipnaaGreatDoorVM
/-
  The document's letting down: the mathematics.
-/
namespace Go.Proofs.YtiibeemjkdipnaaGreatDoor.Upcast
open Go Go.RowKit
open Go.Proofs.YtiibeemjkdipnaaGreatDoor.Schema

/-- the class of the field that comes next -/
def takeK (v k i : Nat) : Nat := byteAt (lets v k) (idxK v k i)
def stK (v k : Nat) (ns : List Int) (i : Nat) (n : List Int) : List Int := if newK v k i then n else n ++ [(ns.getD i 0 - plK v (takeK v k i)).tdiv (tiK v (takeK v k i))]
/-- what the document has let down of the first numbers -/
def dnK (v k : Nat) (ns : List Int) : Nat → List Int
  | 0 => []
  | i + 1 => stK v k ns i (dnK v k ns i)
theorem newK_iff (v k i : Nat) : newK v k i = true ↔ v = 1 ∧ 0 ≤ plcK k ∧ plcK k = (i : Int) := by
  unfold newK
  simp only [Bool.and_eq_true, decide_eq_true_eq, and_assoc]
theorem newK_no {v k i : Nat} (h : newK v k i = false) : ¬ (v = 1 ∧ 0 ≤ plcK k ∧ plcK k = (i : Int)) := fun h2 => by rw [(newK_iff v k i).2 h2] at h; cases h
theorem dnK_len (v k : Nat) (ns : List Int) : ∀ i, (dnK v k ns i).length = idxK v k i := by
  intro i
  induction i with
  | zero =>
    unfold idxK
    split
    · rename_i h; have h2 := h.2.1; have h3 := h.2.2; omega
    · rfl
  | succ i ih =>
    show (stK v k ns i (dnK v k ns i)).length = _
    unfold stK
    cases hn : newK v k i with
    | true =>
      have h := (newK_iff v k i).1 hn
      rw [if_pos rfl, ih]
      unfold idxK
      rw [if_neg (by omega), if_pos ⟨h.1, h.2.1, by omega⟩]; omega
    | false =>
      have h := newK_no hn
      rw [if_neg (by decide), List.length_append, ih]
      unfold idxK
      by_cases c : v = 1 ∧ 0 ≤ plcK k ∧ plcK k < (i : Int)
      · rw [if_pos c, if_pos ⟨c.1, c.2.1, by have := c.2.2; omega⟩]
        have := c.2.1; have := c.2.2
        show i - 1 + 1 = i + 1 - 1
        omega
      · rw [if_neg c, if_neg (fun h2 => ?_)]
        · rfl
        · by_cases c3 : plcK k = (i : Int)
          · exact h ⟨h2.1, h2.2.1, c3⟩
          · exact c ⟨h2.1, h2.2.1, by have := h2.2.2; omega⟩
theorem idxK_lt {v k i : Nat} (h : tall v k = true) (hv : v < 3) (hi : i < (lets (v + 1) k).size) (hn : newK v k i = false) : idxK v k i < (lets v k).size := by
  have h1 := (chkK_at h hv).1 i hi
  unfold chkK1 at h1
  rw [hn] at h1
  simp only [Bool.false_eq_true, if_false, Bool.and_eq_true, decide_eq_true_eq] at h1
  exact h1.1.1.2
theorem ruAt_new {v k i : Nat} (h : tall v k = true) (hv : v < 3) (hi : i < (lets (v + 1) k).size) (hn : newK v k i = true) : (ruAt v k i).fr = -1 ∧ (ruAt v k i).pl = plsK k := by
  have h1 := (chkK_at h hv).1 i hi
  unfold chkK1 at h1
  rw [hn] at h1
  simpa using h1
theorem ruAt_old {v k i : Nat} (h : tall v k = true) (hv : v < 3) (hi : i < (lets (v + 1) k).size) (hn : newK v k i = false) : (ruAt v k i).fr = (idxK v k i : Int) ∧ (ruAt v k i).ti = tiK v (takeK v k i) ∧ (ruAt v k i).pl = plK v (takeK v k i) := by
  have h1 := (chkK_at h hv).1 i hi
  unfold chkK1 at h1
  rw [hn] at h1
  simp only [Bool.false_eq_true, if_false, Bool.and_eq_true, decide_eq_true_eq] at h1
  exact ⟨h1.1.1.1, h1.1.2, h1.2⟩
theorem okD_new {v k i : Nat} (h : tall v k = true) (hv : v < 3) (hi : i < (lets (v + 1) k).size) (hn : newK v k i = true) (ns : List Int) : okD ns i (ruAt v k i) = decide (ns.getD i 0 = plsK k) := by
  have h1 := ruAt_new h hv hi hn
  unfold okD
  rw [if_pos h1.1, h1.2]
  by_cases hq : ns.getD i 0 = plsK k
  · rw [decide_eq_true hq, decide_eq_true (by omega)]
  · rw [decide_eq_false hq, decide_eq_false (by omega)]
theorem okD_old {v k i : Nat} (h : tall v k = true) (hv : v < 3) (hi : i < (lets (v + 1) k).size) (hn : newK v k i = false) (ns : List Int) : okD ns i (ruAt v k i) = decide ((ns.getD i 0 - plK v (takeK v k i)).tmod (tiK v (takeK v k i)) = 0) := by
  have h1 := ruAt_old h hv hi hn
  unfold okD
  rw [if_neg (by rw [h1.1]; omega), h1.2.1, h1.2.2]
theorem setD_new {v k i : Nat} (h : tall v k = true) (hv : v < 3) (hi : i < (lets (v + 1) k).size) (hn : newK v k i = true) (ns P : List Int) : setD ns i (ruAt v k i) P = P := by
  unfold setD
  rw [if_pos (ruAt_new h hv hi hn).1]
theorem setD_old {v k i : Nat} (h : tall v k = true) (hv : v < 3) (hi : i < (lets (v + 1) k).size) (hn : newK v k i = false) (ns P : List Int) : setD ns i (ruAt v k i) P = P.set (idxK v k i) ((ns.getD i 0 - plK v (takeK v k i)).tdiv (tiK v (takeK v k i))) := by
  have h1 := ruAt_old h hv hi hn
  unfold setD
  rw [if_neg (by rw [h1.1]; omega), h1.2.1, h1.2.2, h1.1, Int.toNat_natCast]
theorem dnK_fold {v k : Nat} (h : tall v k = true) (hv : v < 3) (ns : List Int) : ∀ i, i ≤ (lets (v + 1) k).size → foldD (rulesL v k) ns i (List.replicate (lets v k).size 0) = dnK v k ns i ++ List.replicate ((lets v k).size - idxK v k i) 0 := by
  intro i
  induction i with
  | zero =>
    intro _
    have h0 : idxK v k 0 = 0 := by rw [← dnK_len v k ns 0]; rfl
    rw [h0]; rfl
  | succ i ih =>
    intro hi
    rw [foldD_succ, ih (by omega)]
    have hl := dnK_len v k ns i
    have hl2 := dnK_len v k ns (i + 1)
    show setD ns i (ruAt v k i) _ = stK v k ns i (dnK v k ns i) ++ _
    have hl3 : (stK v k ns i (dnK v k ns i)).length = idxK v k (i + 1) := hl2
    unfold stK at hl3 ⊢
    cases hn : newK v k i with
    | true =>
      rw [hn, if_pos rfl, hl] at hl3
      rw [if_pos rfl, setD_new h hv (by omega) hn, hl3]
    | false =>
      rw [hn, if_neg (by decide), List.length_append, hl] at hl3
      have hlt := idxK_lt h hv (by omega) hn
      rw [if_neg (by decide), setD_old h hv (by omega) hn, ← hl3]
      generalize (ns.getD i 0 - plK v (takeK v k i)).tdiv (tiK v (takeK v k i)) = y
      generalize hm : (lets v k).size = m at hlt ⊢
      rw [List.set_append_right _ _ (by omega), hl, Nat.sub_self]
      obtain ⟨q, hq⟩ : ∃ q, m - idxK v k i = q + 1 := ⟨m - idxK v k i - 1, by omega⟩
      rw [hq, List.replicate_succ, List.set_cons_zero, List.append_assoc, show m - (idxK v k i + [y].length) = q by simp; omega]
      rfl
theorem idxK_all {v k : Nat} (h : tall v k = true) (hv : v < 3) : idxK v k (lets (v + 1) k).size = (lets v k).size := by
  have hc := (chkK_at h hv).2
  unfold idxK
  by_cases hq : v = 1 ∧ 0 ≤ plcK k
  · rw [if_pos hq] at hc
    rw [if_pos ⟨hq.1, hq.2, by omega⟩]; omega
  · rw [if_neg hq] at hc
    rw [if_neg (fun h2 => hq ⟨h2.1, h2.2.1⟩)]; exact hc
theorem dnK_is {v k : Nat} (h : tall v k = true) (hv : v < 3) (ns : List Int) : downN (rulesL v k) ns (lets v k).size = dnK v k ns (lets (v + 1) k).size := by
  unfold downN
  rw [rules_len, dnK_fold h hv ns _ (Nat.le_refl _), idxK_all h hv, Nat.sub_self]
  simp
/-- what is wrong, and what is told, as the document's loop finds it -/
theorem dK_bad {e : Ev} {v i : Nat} (hev : e.v = v + 1) (h : tall v e.k = true) (hv : v < 3) (hi : i < (lets (v + 1) e.k).size) (ho : okD e.ns i (ruAt v e.k i) = false) : downX e = .error 43 := by
  have hvv : e.v - 1 = v := by omega
  refine down_not (e := e) i ?_ ?_
  · rw [hvv, rules_len]; exact hi
  · rw [hvv]; exact ho
theorem dK_yes {e : Ev} {v : Nat} (hev : e.v = v + 1) (h : tall v e.k = true) (hv : v < 3) (ho : ∀ i, i < (lets (v + 1) e.k).size → okD e.ns i (ruAt v e.k i) = true) : downX e = .ok ⟨v, e.k, dnK v e.k e.ns (lets (v + 1) e.k).size, e.ts⟩ := by
  have hvv : e.v - 1 = v := by omega
  have h2 := down_yes (e := e) (by rw [hvv]; exact goes_of h hv) (by rw [hvv]; intro i hi; rw [rules_len] at hi; exact ho i hi)
  rw [hvv, dnK_is h hv] at h2
  exact h2
theorem dK_no {e : Ev} {v : Nat} (hev : e.v = v + 1) (h : tall v e.k = false) : downX e = .error 43 := by
  refine down_no (e := e) ?_
  have hvv : e.v - 1 = v := by omega
  rw [hvv]
  unfold goes
  rw [h]; rfl
theorem tiK_in (v c : Nat) : 1 ≤ tiK v c ∧ tiK v c ≤ 100 := by
  unfold tiK
  split
  · omega
  · split <;> omega
theorem plK_in (v c : Nat) : 0 ≤ plK v c ∧ plK v c ≤ 1 := by
  unfold plK
  split <;> omega

end Go.Proofs.YtiibeemjkdipnaaGreatDoor.Upcast
