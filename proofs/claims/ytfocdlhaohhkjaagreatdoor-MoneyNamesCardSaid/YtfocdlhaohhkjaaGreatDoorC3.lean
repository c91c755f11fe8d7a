/-
  Money, plain: an amount's text. No program.
-/
import Derived.Test.YtfocdlhaohhkjaaGreatDoorC2
import Derived.Lib.ItoaNum
import Derived.Lib.ParseIntB
namespace Go.Proofs.YtfocdlhaohhkjaaGreatDoor.Money
open Go

/-- is it a digit? -/
def isD (c : UInt8) : Bool := decide (48 ≤ c.toNat) && decide (c.toNat ≤ 57)
theorem isD_iff {c : UInt8} : isD c = true ↔ 48 ≤ c.toNat ∧ c.toNat ≤ 57 := by unfold isD; simp
/-- the number of digits -/
def valA (a : Nat) (l : List UInt8) : Nat := l.foldl (fun a c => a * 10 + (c.toNat - 48)) a
def valD (l : List UInt8) : Nat := valA 0 l
theorem valA_append (a : Nat) (l m : List UInt8) : valA a (l ++ m) = valA (valA a l) m := List.foldl_append
theorem valA_snoc (a : Nat) (l : List UInt8) (c : UInt8) : valA a (l ++ [c]) = valA a l * 10 + (c.toNat - 48) := by rw [valA_append]; rfl
theorem valD_snoc (l : List UInt8) (c : UInt8) : valD (l ++ [c]) = valD l * 10 + (c.toNat - 48) := valA_snoc 0 l c
theorem valA_ge (a : Nat) (l : List UInt8) : a ≤ valA a l := by
  induction l generalizing a with
  | nil => exact Nat.le_refl _
  | cons c r ih => have := ih (a * 10 + (c.toNat - 48)); show a ≤ valA (a * 10 + (c.toNat - 48)) r; omega
theorem toNat_digit (k : Nat) (h : k < 10) : (UInt8.ofNat (48 + k)).toNat = 48 + k := by
  rw [UInt8.toNat_ofNat']; omega
theorem digit_back (c : UInt8) (h : isD c = true) : UInt8.ofNat (48 + (c.toNat - 48)) = c := by
  have hb := isD_iff.1 h
  apply UInt8.toNat_inj.1
  rw [toNat_digit _ (by omega)]; omega
theorem isD_digit (k : Nat) (h : k < 10) : isD (UInt8.ofNat (48 + k)) = true := by
  rw [isD_iff, toNat_digit k h]; omega
theorem valD_dec (u : Nat) : valD (Lib.decDigits u) = u := by
  induction u using Nat.strongRecOn with
  | _ u ih =>
    rw [Lib.decDigits]
    by_cases h : u < 10
    · rw [dif_pos h]
      show 0 * 10 + ((UInt8.ofNat (48 + u)).toNat - 48) = u
      rw [toNat_digit u h]; omega
    · rw [dif_neg h, valD_snoc, ih (u / 10) (by omega), toNat_digit _ (Nat.mod_lt _ (by decide))]; omega
theorem dec_all (u : Nat) : (Lib.decDigits u).all isD = true := by
  induction u using Nat.strongRecOn with
  | _ u ih =>
    rw [Lib.decDigits]
    by_cases h : u < 10
    · rw [dif_pos h, List.all_cons, isD_digit u h]; rfl
    · rw [dif_neg h, List.all_append, ih (u / 10) (by omega), List.all_cons, isD_digit (u % 10) (Nat.mod_lt _ (by decide))]; rfl
theorem dec_ne (u : Nat) : Lib.decDigits u ≠ [] := by
  rw [Lib.decDigits]
  by_cases h : u < 10
  · rw [dif_pos h]; simp
  · rw [dif_neg h]; simp
/-- no 0 ahead of other digits -/
def lean (W : List UInt8) : Bool := decide (W.length = 1) || (W.head? != some 48)
theorem head_append_ne {a b : List UInt8} (h : a ≠ []) : (a ++ b).head? = a.head? := by
  cases a with
  | nil => exact absurd rfl h
  | cons x r => rfl
theorem dec_head (u : Nat) (h : 0 < u) : (Lib.decDigits u).head? ≠ some 48 := by
  induction u using Nat.strongRecOn with
  | _ u ih =>
    rw [Lib.decDigits]
    by_cases h1 : u < 10
    · rw [dif_pos h1]
      intro e
      have e2 : UInt8.ofNat (48 + u) = 48 := by simpa using e
      have e3 := congrArg UInt8.toNat e2
      rw [toNat_digit u h1] at e3
      have : (48 : UInt8).toNat = 48 := rfl
      omega
    · rw [dif_neg h1, head_append_ne (dec_ne _)]
      exact ih (u / 10) (by omega) (by omega)
theorem dec_lean (u : Nat) : lean (Lib.decDigits u) = true := by
  unfold lean
  by_cases h : u = 0
  · subst h; rw [Lib.decDigits, dif_pos (by decide)]; rfl
  · have := dec_head u (by omega)
    simp [this]
theorem val_pos (W : List UInt8) (hd : W.all isD = true) (hl : W.head? ≠ some 48) (hn : W ≠ []) : 0 < valD W := by
  cases W with
  | nil => exact absurd rfl hn
  | cons c r =>
    have hc : isD c = true := by simp at hd; exact hd.1
    have hb := isD_iff.1 hc
    have h48 : c.toNat ≠ 48 := fun e => hl (by
      have : c = 48 := UInt8.toNat_inj.1 e
      rw [this]; rfl)
    have := valA_ge (0 * 10 + (c.toNat - 48)) r
    show 0 < valA (0 * 10 + (c.toNat - 48)) r
    omega
/-- the digits of the number of digits are the digits -/
theorem dec_val (k : Nat) : ∀ W : List UInt8, W.length = k → W ≠ [] → W.all isD = true → lean W = true → Lib.decDigits (valD W) = W := by
  induction k with
  | zero => intro W hk hn; exact absurd (List.eq_nil_of_length_eq_zero hk) hn
  | succ k ih =>
    intro W hk hn hd hl
    obtain ⟨V, c, rfl⟩ : ∃ V c, W = V ++ [c] := ⟨W.dropLast, W.getLast hn, (List.dropLast_concat_getLast hn).symm⟩
    rw [List.all_append] at hd
    have hV : V.all isD = true := by simp at hd ⊢; exact hd.1
    have hc : isD c = true := by simp at hd; exact hd.2
    have hb := isD_iff.1 hc
    rw [List.length_append] at hk
    have hk' : V.length = k := by simpa using hk
    rw [valD_snoc]
    by_cases hV0 : V = []
    · subst hV0
      have e : valD [] * 10 + (c.toNat - 48) = c.toNat - 48 := by show 0 * 10 + _ = _; omega
      rw [e, Lib.decDigits, dif_pos (by omega), digit_back c hc]; rfl
    · have hlen : V.length ≠ 0 := fun e => hV0 (List.eq_nil_of_length_eq_zero e)
      have hh : (V ++ [c]).head? ≠ some 48 := by
        unfold lean at hl
        simp only [Bool.or_eq_true, decide_eq_true_eq, List.length_append, List.length_singleton, bne_iff_ne] at hl
        rcases hl with hl | hl
        · omega
        · exact hl
      rw [head_append_ne hV0] at hh
      have hp := val_pos V hV hh hV0
      have hlV : lean V = true := by unfold lean; simp [hh]
      rw [Lib.decDigits, dif_neg (by omega), show (valD V * 10 + (c.toNat - 48)) / 10 = valD V by omega, show (valD V * 10 + (c.toNat - 48)) % 10 = c.toNat - 48 by omega, ih V hk' hV0 hV hlV, digit_back c hc]

/-- an amount's text, its sign apart -/
def showN (m : Nat) : List UInt8 := Lib.decDigits (m / 100) ++ [46, UInt8.ofNat (48 + m / 10 % 10), UInt8.ofNat (48 + m % 10)]
def showI (n : Int) : List UInt8 := if n < 0 then 45 :: showN n.natAbs else showN n.natAbs

/-- is t, which has no sign, an amount's text? The place of the point is three from the end. -/
def body (t : List UInt8) : Bool :=
  decide (4 ≤ t.length) && (t[t.length - 3]? == some 46) && (t.take (t.length - 3)).all isD && (t.drop (t.length - 2)).all isD && (decide (t.length = 4) || (t.head? != some 48))
def bodyV (t : List UInt8) : Nat := valD (t.take (t.length - 3) ++ t.drop (t.length - 2))
def isNeg (l : List UInt8) : Bool := l.head? == some 45
def rest (l : List UInt8) : List UInt8 := if isNeg l = true then l.tail else l
/-- is it an amount's text? -/
def amt (l : List UInt8) : Bool := body (rest l) && !(isNeg l && decide (bodyV (rest l) = 0))
def amtV (l : List UInt8) : Int := if isNeg l = true then -(bodyV (rest l) : Int) else bodyV (rest l)
/-- what Parse tells -/
def pN (l : List UInt8) : Int := if amt l = true then tN (amtV l) else 0
def pE (l : List UInt8) : Int := if amt l = true then tE (amtV l) else 4

/-- the parts of an amount's text -/
theorem body_parts {t : List UInt8} (h : body t = true) : ∃ W c d, t = W ++ [46, c, d] ∧ W ≠ [] ∧ W.all isD = true ∧ isD c = true ∧ isD d = true ∧ lean W = true ∧ bodyV t = valD W * 100 + (c.toNat - 48) * 10 + (d.toNat - 48) := by
  unfold body at h
  simp only [Bool.and_eq_true, decide_eq_true_eq, beq_iff_eq] at h
  obtain ⟨⟨⟨⟨h4, h46⟩, hW⟩, hP⟩, hl⟩ := h
  obtain ⟨k, hk⟩ : ∃ k, t.length = k + 3 := ⟨t.length - 3, by omega⟩
  have k3 : t.length - 3 = k := by omega
  have k2 : t.length - 2 = k + 1 := by omega
  rw [k3] at h46 hW
  rw [k2] at hP
  have hs : t = t.take k ++ t.drop k := (List.take_append_drop k t).symm
  have hdr : t.drop k = 46 :: t.drop (k + 1) := by
    rw [List.drop_eq_getElem_cons (by omega)]
    rw [List.getElem?_eq_getElem (by omega)] at h46
    rw [Option.some.inj h46]
  have hd2 : (t.drop (k + 1)).length = 2 := by rw [List.length_drop]; omega
  obtain ⟨c, d, hcd⟩ : ∃ c d, t.drop (k + 1) = [c, d] := by
    match hm : t.drop (k + 1), hd2 with
    | [c, d], _ => exact ⟨c, d, rfl⟩
  have htl : (t.take k).length = k := by rw [List.length_take]; omega
  refine ⟨t.take k, c, d, ?_, ?_, hW, ?_, ?_, ?_, ?_⟩
  · rw [← hcd, ← hdr]; exact hs
  · intro e; rw [e] at htl; simp at htl; omega
  · rw [hcd] at hP; simp at hP; exact hP.1
  · rw [hcd] at hP; simp at hP; exact hP.2
  · unfold lean
    rw [htl]
    simp only [Bool.or_eq_true, decide_eq_true_eq, bne_iff_ne] at hl ⊢
    rcases hl with hl | hl
    · left; omega
    · right
      rw [hs, head_append_ne (by intro e; rw [e] at htl; simp at htl; omega)] at hl
      exact hl
  · unfold bodyV
    rw [k3, k2, hcd, show [c, d] = [c] ++ [d] from rfl, ← List.append_assoc, valD_snoc, valD_snoc]; omega
/-- such parts are an amount's text -/
theorem parts_body (W : List UInt8) (c d : UInt8) (hn : W ≠ []) (hW : W.all isD = true) (hc : isD c = true) (hd : isD d = true) (hl : lean W = true) : body (W ++ [46, c, d]) = true ∧ bodyV (W ++ [46, c, d]) = valD W * 100 + (c.toNat - 48) * 10 + (d.toNat - 48) := by
  have hlen : (W ++ [46, c, d]).length = W.length + 3 := by simp
  have hpos : W.length ≠ 0 := fun e => hn (List.eq_nil_of_length_eq_zero e)
  have k3 : (W ++ [46, c, d]).length - 3 = W.length := by omega
  have k2 : (W ++ [46, c, d]).length - 2 = W.length + 1 := by omega
  have hdr : (W ++ [46, c, d]).drop (W.length + 1) = [c, d] := by
    rw [← List.drop_drop, List.drop_left]; rfl
  constructor
  · unfold body
    rw [k3, k2, hdr, List.take_left, hW, hlen, List.getElem?_append_right (Nat.le_refl _), Nat.sub_self, head_append_ne hn]
    unfold lean at hl
    simp only [Bool.or_eq_true, decide_eq_true_eq, bne_iff_ne] at hl
    simp only [Bool.and_eq_true, Bool.or_eq_true, decide_eq_true_eq, bne_iff_ne, beq_iff_eq]
    refine ⟨⟨⟨⟨by omega, rfl⟩, trivial⟩, by simp [hc, hd]⟩, ?_⟩
    rcases hl with hl | hl
    · left; omega
    · right; exact hl
  · unfold bodyV
    rw [k3, k2, hdr, List.take_left, show [c, d] = [c] ++ [d] from rfl, ← List.append_assoc, valD_snoc, valD_snoc]; omega
theorem showN_body (m : Nat) : body (showN m) = true ∧ bodyV (showN m) = m := by
  have h := parts_body (Lib.decDigits (m / 100)) (UInt8.ofNat (48 + m / 10 % 10)) (UInt8.ofNat (48 + m % 10)) (dec_ne _) (dec_all _) (isD_digit _ (Nat.mod_lt _ (by decide))) (isD_digit _ (Nat.mod_lt _ (by decide))) (dec_lean _)
  refine ⟨h.1, ?_⟩
  have e := h.2
  rw [valD_dec, toNat_digit _ (Nat.mod_lt _ (by decide)), toNat_digit _ (Nat.mod_lt _ (by decide))] at e
  show bodyV (Lib.decDigits (m / 100) ++ _) = m
  rw [e]; omega
theorem showN_of_body {t : List UInt8} (h : body t = true) : showN (bodyV t) = t := by
  obtain ⟨W, c, d, rfl, hn, hW, hc, hd, hl, hv⟩ := body_parts h
  have bc := isD_iff.1 hc
  have bd := isD_iff.1 hd
  unfold showN
  rw [hv, show (valD W * 100 + (c.toNat - 48) * 10 + (d.toNat - 48)) / 100 = valD W by omega, show (valD W * 100 + (c.toNat - 48) * 10 + (d.toNat - 48)) / 10 % 10 = c.toNat - 48 by omega, show (valD W * 100 + (c.toNat - 48) * 10 + (d.toNat - 48)) % 10 = d.toNat - 48 by omega, dec_val _ W rfl hn hW hl, digit_back c hc, digit_back d hd]
theorem body_head {t : List UInt8} (h : body t = true) : isNeg t = false := by
  obtain ⟨W, c, d, rfl, hn, hW, _⟩ := body_parts h
  unfold isNeg
  rw [head_append_ne hn]
  cases W with
  | nil => exact absurd rfl hn
  | cons x r =>
    have hx : isD x = true := by simp at hW; exact hW.1
    have := isD_iff.1 hx
    simp only [List.head?_cons, beq_eq_false_iff_ne, ne_eq, Option.some.injEq]
    intro e
    rw [e] at this
    have e45 : (45 : UInt8).toNat = 45 := rfl
    omega
/-- what is shown is an amount's text, of the number -/
theorem show_amt (n : Int) : amt (showI n) = true ∧ amtV (showI n) = n := by
  unfold showI
  by_cases h : n < 0
  · rw [if_pos h]
    have hb := showN_body n.natAbs
    have e1 : isNeg (45 :: showN n.natAbs) = true := rfl
    have e2 : rest (45 :: showN n.natAbs) = showN n.natAbs := by unfold rest; rw [if_pos e1]; rfl
    unfold amt amtV
    rw [e1, e2, hb.1, hb.2, if_pos rfl]
    have : ¬ n.natAbs = 0 := by omega
    simp [this]; omega
  · rw [if_neg h]
    have hb := showN_body n.natAbs
    have e1 := body_head hb.1
    have e2 : rest (showN n.natAbs) = showN n.natAbs := by unfold rest; rw [if_neg (by rw [e1]; decide)]
    unfold amt amtV
    rw [e1, e2, hb.1, hb.2, if_neg (by decide)]
    simp; omega
/-- what is an amount's text is what is shown of the amount -/
theorem amt_show {l : List UInt8} (h : amt l = true) : showI (amtV l) = l := by
  unfold amt at h
  simp only [Bool.and_eq_true, Bool.not_eq_true', Bool.and_eq_false_iff, decide_eq_false_iff_not] at h
  obtain ⟨hb, h0⟩ := h
  have hs := showN_of_body hb
  unfold amtV showI
  by_cases hn : isNeg l = true
  · have h0' : bodyV (rest l) ≠ 0 := by
      rcases h0 with h0 | h0
      · rw [hn] at h0; cases h0
      · exact h0
    rw [if_pos hn, if_pos (by omega), show (-(bodyV (rest l) : Int)).natAbs = bodyV (rest l) by omega, hs]
    have e : rest l = l.tail := if_pos hn
    rw [e]
    cases l with
    | nil => cases hn
    | cons x r =>
      have hx : x = 45 := by simpa [isNeg] using hn
      rw [hx]; rfl
  · rw [if_neg hn, if_neg (by omega), show (bodyV (rest l) : Int).natAbs = bodyV (rest l) by omega, hs]
    exact if_neg hn
theorem parse_show (n : Int) : pN (showI n) = tN n ∧ pE (showI n) = tE n := by
  have h := show_amt n
  unfold pN pE
  rw [if_pos h.1, if_pos h.1, h.2]; exact ⟨rfl, rfl⟩
theorem pE_cases (l : List UInt8) : (pE l = 0 ∧ pN l = amtV l ∧ showI (pN l) = l) ∨ (pE l ≠ 0 ∧ pN l = 0) := by
  unfold pN pE
  by_cases h : amt l = true
  · rw [if_pos h, if_pos h]
    cases hn : near (amtV l) with
    | true => rw [tN_near hn, tE_near hn]; exact Or.inl ⟨rfl, rfl, amt_show h⟩
    | false => rw [tN_far hn, tE_far hn]; exact Or.inr ⟨by decide, rfl⟩
  · rw [if_neg h, if_neg h]; exact Or.inr ⟨by decide, rfl⟩

end Go.Proofs.YtfocdlhaohhkjaaGreatDoor.Money
