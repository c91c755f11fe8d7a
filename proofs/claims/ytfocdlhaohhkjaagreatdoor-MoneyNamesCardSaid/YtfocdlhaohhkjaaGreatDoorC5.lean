/-
  Money, plain: an amount's text, cut at its point, and the number of its digits. No program.
-/
import Derived.Test.YtfocdlhaohhkjaaGreatDoorC4
import Derived.Lib.ParseIntBTie
import Derived.Lib.IndexMore
import Derived.Lib.Replace
import Derived.Lib.SlTrimSet
namespace Go.Proofs.YtfocdlhaohhkjaaGreatDoor.Money
open Go

/-! what strconv makes of digits -/
theorem uint_digits (l : List UInt8) : ∀ acc : Nat, acc ≤ 18446744073709551615 → l.all isD = true → Lib.parseUintM 18446744073709551615 acc l = if valA acc l ≤ 18446744073709551615 then .ok (valA acc l) else .range := by
  induction l with
  | nil => intro acc h _; rw [if_pos (by exact h)]; rfl
  | cons c r ih =>
    intro acc h hd
    rw [List.all_cons, Bool.and_eq_true] at hd
    have hc := isD_iff.1 hd.1
    have hge := valA_ge (acc * 10 + (c.toNat - 48)) r
    have hv : valA acc (c :: r) = valA (acc * 10 + (c.toNat - 48)) r := rfl
    rw [hv]
    unfold Lib.parseUintM
    rw [if_pos hc]
    by_cases h1 : 1844674407370955162 ≤ acc
    · rw [if_pos h1, if_neg (by omega)]
    · rw [if_neg h1]
      by_cases h2 : 18446744073709551615 < acc * 10 + (c.toNat - 48)
      · rw [if_pos h2, if_neg (by omega)]
      · rw [if_neg h2]; exact ih _ (by omega) hd.2
theorem mag_digits (l : List UInt8) (hn : l ≠ []) (hd : l.all isD = true) : Lib.parseUintB 64 l = if valD l ≤ 18446744073709551615 then .ok (valD l) else .range := by
  unfold Lib.parseUintB
  rw [if_neg hn]
  exact uint_digits l 0 (by decide) hd
theorem int_digits (l : List UInt8) (hn : l ≠ []) (hd : l.all isD = true) : Lib.parseIntB 64 l = if valD l < 9223372036854775808 then .ok (valD l : Int) else .range := by
  have hm := mag_digits l hn hd
  cases l with
  | nil => exact absurd rfl hn
  | cons c r =>
    rw [List.all_cons, Bool.and_eq_true] at hd
    have hc := isD_iff.1 hd.1
    rw [Lib.parseIntB_plain 64 c r (by omega) (by omega), hm]
    by_cases h1 : valD (c :: r) ≤ 18446744073709551615
    · rw [if_pos h1]
      show (if 2 ^ (64 - 1) ≤ valD (c :: r) then _ else _) = _
      by_cases h2 : valD (c :: r) < 9223372036854775808
      · rw [if_pos h2, if_neg (by show ¬ 9223372036854775808 ≤ _; omega)]
      · rw [if_neg h2, if_pos (by show 9223372036854775808 ≤ _; omega)]
    · rw [if_neg h1, if_neg (by omega)]; rfl
theorem neg_digits (l : List UInt8) (hn : l ≠ []) (hd : l.all isD = true) : Lib.parseIntB 64 (45 :: l) = if valD l ≤ 9223372036854775808 then .ok (-(valD l : Int)) else .range := by
  have hm := mag_digits l hn hd
  rw [Lib.parseIntB_minus 64 l, hm]
  by_cases h1 : valD l ≤ 18446744073709551615
  · rw [if_pos h1]
    show (if 2 ^ (64 - 1) < valD l then _ else _) = _
    by_cases h2 : valD l ≤ 9223372036854775808
    · rw [if_pos h2, if_neg (by show ¬ 9223372036854775808 < _; omega)]
    · rw [if_neg h2, if_pos (by show 9223372036854775808 < _; omega)]
  · rw [if_neg h1, if_neg (by omega)]; rfl

/-! the first point -/
theorem index_dot (W P : List UInt8) (h : ∀ c ∈ W, c ≠ 46) : Lib.index (W ++ 46 :: P) [46] = W.length := by
  induction W with
  | nil => rfl
  | cons c r ih =>
    have hc := h c List.mem_cons_self
    have hr := ih (fun x hx => h x (List.mem_cons_of_mem _ hx))
    show Lib.index (c :: (r ++ 46 :: P)) [46] = _
    unfold Lib.index
    rw [hr, if_neg (by simp [List.isPrefixOf]; exact fun e => hc e.symm), if_neg (by rw [beq_iff_eq]; omega), List.length_cons]; omega
theorem index_nodot (W : List UInt8) (h : ∀ c ∈ W, c ≠ 46) : Lib.index W [46] = -1 := by
  induction W with
  | nil => rfl
  | cons c r ih =>
    have hc := h c List.mem_cons_self
    have hr := ih (fun x hx => h x (List.mem_cons_of_mem _ hx))
    unfold Lib.index
    rw [hr, if_neg (by simp [List.isPrefixOf]; exact fun e => hc e.symm)]; rfl
theorem dot_or (t : List UInt8) : (∀ c ∈ t, c ≠ 46) ∨ ∃ W P, t = W ++ 46 :: P ∧ ∀ c ∈ W, c ≠ 46 := by
  induction t with
  | nil => left; intro c hc; cases hc
  | cons c r ih =>
    by_cases h : c = 46
    · subst h; right; exact ⟨[], r, rfl, fun c hc => by cases hc⟩
    · rcases ih with ih | ⟨W, P, e, hW⟩
      · left; intro x hx
        rcases List.mem_cons.1 hx with rfl | hx
        · exact h
        · exact ih x hx
      · right; refine ⟨c :: W, P, by rw [e]; rfl, fun x hx => ?_⟩
        rcases List.mem_cons.1 hx with rfl | hx
        · exact h
        · exact hW x hx
theorem cut_dot (W P : List UInt8) (h : ∀ c ∈ W, c ≠ 46) : Lib.cut (W ++ 46 :: P) [46] = (W, P, true) := by
  unfold Lib.cut
  rw [index_dot W P h, if_pos (by omega), Int.toNat_natCast, List.take_left]
  show (W, List.drop (W.length + 1) _, true) = _
  rw [← List.drop_drop, List.drop_left]; rfl
theorem cut_nodot (t : List UInt8) (h : ∀ c ∈ t, c ≠ 46) : Lib.cut t [46] = (t, [], false) := by
  unfold Lib.cut
  rw [index_nodot t h, if_neg (by decide)]
theorem digits_nodot {W : List UInt8} (h : W.all isD = true) : ∀ c ∈ W, c ≠ 46 := by
  intro c hc e
  have := isD_iff.1 (List.all_eq_true.1 h c hc)
  have e46 : (46 : UInt8).toNat = 46 := rfl
  rw [e, e46] at this; omega
/-- what stands ahead of the first point, and behind it -/
def fore (t : List UInt8) : List UInt8 := (Lib.cut t [46]).1
def aft (t : List UInt8) : List UInt8 := (Lib.cut t [46]).2.1
theorem fore_len (t : List UInt8) : (fore t).length ≤ t.length ∧ (aft t).length ≤ t.length := by
  rcases dot_or t with h | ⟨W, P, e, h⟩
  · unfold fore aft; rw [cut_nodot t h]; exact ⟨Nat.le_refl _, Nat.zero_le _⟩
  · unfold fore aft; rw [e, cut_dot W P h, List.length_append, List.length_cons]
    show W.length ≤ _ ∧ P.length ≤ _; omega
/-- the first tests: digits alone, at least one, then two -/
def plainT (t : List UInt8) : Bool := (fore t).all isD && ((aft t).all isD && (!(fore t).isEmpty && decide ((aft t).length = 2)))
/-- the second: no 0 ahead, and it is not -0.00 -/
def zeroT (l : List UInt8) : Bool := (decide ((fore (rest l)).head? = some 48) && !(decide (fore (rest l) = [48]))) || decide (l = [45, 48, 46, 48, 48])
theorem body_fore {t : List UInt8} (h : body t = true) : plainT t = true ∧ lean (fore t) = true ∧ t = fore t ++ 46 :: aft t ∧ bodyV t = valD (fore t ++ aft t) := by
  obtain ⟨W, c, d, e, hn, hW, hc, hd, hl, hv⟩ := body_parts h
  have hcut : Lib.cut t [46] = (W, [c, d], true) := by rw [e]; exact cut_dot W [c, d] (digits_nodot hW)
  have e1 : fore t = W := by unfold fore; rw [hcut]
  have e2 : aft t = [c, d] := by unfold aft; rw [hcut]
  refine ⟨?_, by rw [e1]; exact hl, by rw [e1, e2]; exact e, ?_⟩
  · unfold plainT
    rw [e1, e2, hW]
    cases W with
    | nil => exact absurd rfl hn
    | cons x r => simp [hc, hd]
  · rw [e1, e2, hv, show W ++ [c, d] = (W ++ [c]) ++ [d] by simp, valD_snoc, valD_snoc]; omega
theorem fore_body {t : List UInt8} (h : plainT t = true) (hl : lean (fore t) = true) : body t = true := by
  unfold plainT at h
  simp only [Bool.and_eq_true, Bool.not_eq_true', decide_eq_true_eq] at h
  obtain ⟨hW, hP, hn, h2⟩ := h
  rcases dot_or t with hd | ⟨W, P, e, hd⟩
  · have : aft t = [] := by unfold aft; rw [cut_nodot t hd]
    rw [this] at h2; cases h2
  · have hcut : Lib.cut t [46] = (W, P, true) := by rw [e]; exact cut_dot W P hd
    have e1 : fore t = W := by unfold fore; rw [hcut]
    have e2 : aft t = P := by unfold aft; rw [hcut]
    rw [e1] at hW hn hl
    rw [e2] at hP h2
    obtain ⟨c, d, hcd⟩ : ∃ c d, P = [c, d] := by
      match hm : P, h2 with
      | [c, d], _ => exact ⟨c, d, rfl⟩
    rw [hcd] at hP e
    rw [List.all_cons, List.all_cons, Bool.and_eq_true, Bool.and_eq_true] at hP
    rw [e]
    exact (parts_body W c d (by intro x; rw [x] at hn; cases hn) hW hP.1 hP.2.1 hl).1
theorem val_zero (W : List UInt8) (hd : W.all isD = true) (hl : lean W = true) (hn : W ≠ []) (h0 : valD W = 0) : W = [48] := by
  have h := dec_val W.length W rfl hn hd hl
  rw [h0] at h
  rw [← h, Lib.decDigits, dif_pos (by decide)]; rfl
theorem lean_tests {W : List UInt8} (hn : W ≠ []) : (decide (W.head? = some 48) && !(decide (W = [48]))) = !(lean W) := by
  unfold lean
  cases W with
  | nil => exact absurd rfl hn
  | cons x r =>
    cases r with
    | nil =>
      by_cases hx : x = 48
      · subst hx; rfl
      · simp [hx]
    | cons y q =>
      by_cases hx : x = 48
      · subst hx; simp
      · simp [hx]
/-- the tests that are made are those of an amount's text -/
theorem amt_tests (l : List UInt8) : amt l = (plainT (rest l) && !(zeroT l)) := by
  by_cases hp : plainT (rest l) = true
  · have hp' := hp
    unfold plainT at hp'
    simp only [Bool.and_eq_true, Bool.not_eq_true', decide_eq_true_eq] at hp'
    have hn : fore (rest l) ≠ [] := by intro x; rw [x] at hp'; cases hp'.2.2.1
    by_cases hl : lean (fore (rest l)) = true
    · have hb := fore_body hp hl
      obtain ⟨_, _, et, hv⟩ := body_fore hb
      have hz : zeroT l = decide (l = [45, 48, 46, 48, 48]) := by unfold zeroT; rw [lean_tests hn, hl]; rfl
      have key : (isNeg l && decide (bodyV (rest l) = 0)) = decide (l = [45, 48, 46, 48, 48]) := by
        rw [Bool.eq_iff_iff]
        simp only [Bool.and_eq_true, decide_eq_true_eq]
        constructor
        · rintro ⟨h1, h0⟩
          obtain ⟨W, c, d, e, hn', hW, hc, hd, hl', hv'⟩ := body_parts hb
          have bc := isD_iff.1 hc
          have bd := isD_iff.1 hd
          have hW0 := val_zero W hW hl' hn' (by omega)
          have hc0 : c = 48 := by
            have : c.toNat = 48 := by omega
            exact UInt8.toNat_inj.1 this
          have hd0 : d = 48 := by
            have : d.toNat = 48 := by omega
            exact UInt8.toNat_inj.1 this
          rw [hW0, hc0, hd0] at e
          have er : rest l = l.tail := if_pos h1
          cases l with
          | nil => cases h1
          | cons x r =>
            have hx : x = 45 := by simpa [isNeg] using h1
            rw [er] at e
            rw [hx]
            show 45 :: List.tail (x :: r) = _
            rw [e]; rfl
        · rintro rfl
          exact ⟨rfl, by decide +kernel⟩
      unfold amt
      rw [hb, hp, hz, key]
    · have hl' : lean (fore (rest l)) = false := by simpa using hl
      have hz : zeroT l = true := by unfold zeroT; rw [lean_tests hn, hl']; rfl
      have hb : body (rest l) = false := by
        cases h : body (rest l) with
        | false => rfl
        | true => exact absurd (body_fore h).2.1 hl
      unfold amt
      rw [hb, hz]; simp
  · have hp' : plainT (rest l) = false := by simpa using hp
    have hb : body (rest l) = false := by
      cases h : body (rest l) with
      | false => rfl
      | true => exact absurd (body_fore h).1 hp
    unfold amt
    rw [hb, hp']; rfl
/-- the text without its point -/
def bare (l : List UInt8) : List UInt8 := Lib.replace l [46] [] 1
theorem count_dot (W P : List UInt8) (h : ∀ c ∈ W, c ≠ 46) : Lib.replace (W ++ 46 :: P) [46] [] 1 = W ++ P := by
  unfold Lib.replace
  rw [if_neg (by decide)]
  have hc : 0 < Lib.count (W ++ 46 :: P) [46] := by
    unfold Lib.count Lib.countFrom
    rw [index_dot W P h, if_neg (by rw [beq_iff_eq]; omega)]; omega
  have hnum : Lib.replaceNum (W ++ 46 :: P) [46] 1 = 1 := by
    unfold Lib.replaceNum
    rw [if_neg (by omega)]; rfl
  rw [hnum, Lib.replaceK_hit [46] [] 0 _ W.length (index_dot W P h), List.take_left]
  show W ++ [] ++ List.drop (W.length + 1) _ = _
  rw [← List.drop_drop, List.drop_left, List.append_nil]; rfl
theorem bare_amt {l : List UInt8} (h : amt l = true) : bare l = (if isNeg l = true then [45] else []) ++ (fore (rest l) ++ aft (rest l)) ∧ fore (rest l) ≠ [] ∧ (fore (rest l) ++ aft (rest l)).all isD = true ∧ bodyV (rest l) = valD (fore (rest l) ++ aft (rest l)) := by
  have hb : body (rest l) = true := by unfold amt at h; rw [Bool.and_eq_true] at h; exact h.1
  obtain ⟨hp, hl, et, hv⟩ := body_fore hb
  unfold plainT at hp
  simp only [Bool.and_eq_true, Bool.not_eq_true', decide_eq_true_eq] at hp
  have hnd := digits_nodot hp.1
  refine ⟨?_, ?_, by rw [List.all_append, hp.1, hp.2.1]; rfl, hv⟩
  · by_cases hn : isNeg l = true
    · rw [if_pos hn]
      have er : rest l = l.tail := if_pos hn
      have el : l = 45 :: rest l := by
        rw [er]
        cases l with
        | nil => cases hn
        | cons x r => rw [show x = 45 by simpa [isNeg] using hn]; rfl
      unfold bare
      have e2 : l = (45 :: fore (rest l)) ++ 46 :: aft (rest l) := by
        rw [List.cons_append, ← et]; exact el
      have e3 := count_dot (45 :: fore (rest l)) (aft (rest l)) (fun c hc => by
        rcases List.mem_cons.1 hc with rfl | hc
        · decide
        · exact hnd c hc)
      rw [← e2] at e3
      rw [e3]; rfl
    · rw [if_neg hn]
      have er : rest l = l := if_neg hn
      unfold bare
      have e3 := count_dot (fore (rest l)) (aft (rest l)) hnd
      rw [← et] at e3
      rw [er] at e3 ⊢
      rw [e3]; rfl
  · intro x; rw [x] at hp; cases hp.2.2.1
theorem bare_len (l : List UInt8) (h : amt l = true) : (bare l).length ≤ l.length := by
  have hb := bare_amt h
  have hb' : body (rest l) = true := by unfold amt at h; rw [Bool.and_eq_true] at h; exact h.1
  have et := congrArg List.length (body_fore hb').2.2.1
  rw [List.length_append, List.length_cons] at et
  rw [hb.1, List.length_append, List.length_append]
  by_cases hn : isNeg l = true
  · rw [if_pos hn]
    have er : rest l = l.tail := if_pos hn
    have hl : l.length = (rest l).length + 1 := by
      rw [er]; cases l with
      | nil => cases hn
      | cons x r => rfl
    show 1 + _ ≤ _; omega
  · rw [if_neg hn]
    have er : rest l = l := if_neg hn
    rw [er] at et ⊢
    show 0 + _ ≤ _; omega
/-- the number that is parsed, or it is too far -/
theorem bare_int {l : List UInt8} (h : amt l = true) : Lib.parseIntB 64 (bare l) = .ok (amtV l) ∨ (Lib.parseIntB 64 (bare l) = .range ∧ near (amtV l) = false) := by
  obtain ⟨hb, hn, hd, hv⟩ := bare_amt h
  have hne : fore (rest l) ++ aft (rest l) ≠ [] := by
    intro x; exact hn (List.append_eq_nil_iff.1 x).1
  rw [hb]
  unfold amtV
  by_cases hneg : isNeg l = true
  · rw [if_pos hneg, if_pos hneg, hv]
    rw [show [45] ++ (fore (rest l) ++ aft (rest l)) = 45 :: (fore (rest l) ++ aft (rest l)) from rfl, neg_digits _ hne hd]
    by_cases h1 : valD (fore (rest l) ++ aft (rest l)) ≤ 9223372036854775808
    · rw [if_pos h1]; exact Or.inl rfl
    · rw [if_neg h1]; exact Or.inr ⟨rfl, near_no.2 (by omega)⟩
  · rw [if_neg hneg, if_neg hneg, hv, List.nil_append, int_digits _ hne hd]
    by_cases h1 : valD (fore (rest l) ++ aft (rest l)) < 9223372036854775808
    · rw [if_pos h1]; exact Or.inl rfl
    · rw [if_neg h1]; exact Or.inr ⟨rfl, near_no.2 (by omega)⟩

end Go.Proofs.YtfocdlhaohhkjaaGreatDoor.Money
