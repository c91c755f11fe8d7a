import Derived.Test.YthaafniahkejkaaRB
/-
  A frame one of whose parts is another one is not read. Plain mathematics.
-/
namespace Go.Proofs.Ythaafniahkejkaa.Frame
open Go
open Go.Proofs.Ythaafniahkejkaa.Crc (W ofW fourL)
open Go.Proofs.Ythaafniahkejkaa.Wire (fixB be fixB_length be_fixB fixB_be be_lt)

/-- bytes that are laid out as a frame's are -/
def lay (n : Nat) (h c p : List UInt8) : List UInt8 := fixB 4 n ++ (h ++ (c ++ p))
theorem lay_fr (q : Nat) (p : List UInt8) : frB q p = lay p.length (fixB 8 q) (fourL (sumW (headB p.length q) p)) p := by
  unfold frB lay headB; rw [List.append_assoc]
theorem lay_rd (n : Nat) (h c p : List UInt8) (hn : p.length = n) (h1 : 1 ≤ n) (h4 : n ≤ 4096) (hh : h.length = 8) (hc : c.length = 4) :
    rdE (lay n h c p) = if be h < 1048576 then (if fourL (sumW (fixB 4 n ++ h) p) = c then 0 else 42) else 4 := by
  have e4 := fixB_length 4 n
  have a : rdN (lay n h c p) = n := by
    unfold rdN lay; rw [take_front e4, be_fixB, Nat.mod_eq_of_lt (by omega)]
  have b : rdQ (lay n h c p) = be h := by
    unfold rdQ lay; rw [drop_front e4, take_front hh]
  have d12 : (lay n h c p).take 12 = fixB 4 n ++ h := by
    unfold lay; rw [← List.append_assoc, take_front (by rw [List.length_append, e4, hh])]
  have c' : rdC (lay n h c p) = c := by
    unfold rdC lay; rw [← List.append_assoc, drop_front (by rw [List.length_append, e4, hh]), take_front hc]
  have p' : rdP (lay n h c p) = p := by
    unfold rdP; rw [a]; unfold lay
    rw [← List.append_assoc, ← List.append_assoc, drop_front (by rw [List.length_append, List.length_append, e4, hh, hc]), ← hn, List.take_length]
  have hl : (lay n h c p).length = 16 + n := by unfold lay; rw [List.length_append, List.length_append, List.length_append, e4, hh, hc, hn]; omega
  unfold rdE
  rw [if_neg (by omega), a, b, c', p', d12]
  by_cases hb : be h < 1048576
  · rw [if_neg (fun k => k ⟨h1, h4, hb⟩), if_neg (by omega), if_pos hb]
  · rw [if_pos (fun k => hb k.2.2), if_neg hb]
/-- some of a list, written over -/
def wov (l : List UInt8) (j : Nat) (D : List UInt8) : List UInt8 := l.take j ++ (D ++ l.drop (j + D.length))
theorem wov_length (l : List UInt8) (j : Nat) (D : List UInt8) (h : j + D.length ≤ l.length) : (wov l j D).length = l.length := by
  unfold wov; rw [List.length_append, List.length_append, List.length_take, List.length_drop]; omega
theorem wov_self (l : List UInt8) (j m : Nat) : wov l j ((l.drop j).take m) = l ∨ l.length < j + m := by
  by_cases h : l.length < j + m
  · exact Or.inr h
  · refine Or.inl ?_
    unfold wov
    have e : ((l.drop j).take m).length = m := by rw [List.length_take, List.length_drop]; omega
    rw [e, ← List.drop_drop, List.take_append_drop, List.take_append_drop]
theorem wov_behind (a b : List UInt8) (k j : Nat) (D : List UInt8) (hk : k = a.length + j) : wov (a ++ b) k D = a ++ wov b j D := by
  subst hk
  unfold wov
  rw [List.take_append, List.take_of_length_le (by omega), Nat.add_sub_cancel_left, List.drop_append, List.drop_of_length_le (by omega), List.nil_append, List.append_assoc]
  congr 3; rw [show a.length + j + D.length - a.length = j + D.length by omega]
theorem wov_ahead (a b : List UInt8) (k : Nat) (D : List UInt8) (hk : k + D.length ≤ a.length) : wov (a ++ b) k D = wov a k D ++ b := by
  unfold wov
  rw [List.take_append_of_le_length (by omega), List.drop_append_of_le_length hk]
  simp
/-- a text in which at most four bytes side by side are other ones has another checksum -/
theorem wov_sum (a l z : List UInt8) (j : Nat) (D : List UInt8) (hD : D.length ≤ 4) (hj : j + D.length ≤ l.length) (h : ofW (a ++ (wov l j D ++ z)) = ofW (a ++ (l ++ z))) : wov l j D = l := by
  have hs : wov l j ((l.drop j).take D.length) = l := (wov_self l j D.length).resolve_right (by omega)
  have e0 : ((l.drop j).take D.length).length = D.length := by rw [List.length_take, List.length_drop]; omega
  have key : D = (l.drop j).take D.length := by
    refine burst4 (a ++ l.take j) (l.drop (j + D.length) ++ z) D _ e0.symm hD ?_
    have e1 : (a ++ l.take j) ++ (D ++ (l.drop (j + D.length) ++ z)) = a ++ (wov l j D ++ z) := by unfold wov; simp
    have e2 : (a ++ l.take j) ++ ((l.drop j).take D.length ++ (l.drop (j + D.length) ++ z)) = a ++ (l ++ z) := by
      conv => rhs; rw [← hs]
      unfold wov; rw [e0]; simp
    rw [e1, e2]; exact h
  rw [key]
  conv => rhs; rw [← hs]

/-- where the part begins, and ends -/
def fromB (t : Nat) : Nat := if t = 1 then 4 else if t = 2 then 12 else 16
def toB (t n : Nat) : Nat := if t = 1 then 12 else if t = 2 then 16 else 16 + n
/-- **with other bits within 32 side by side in one part alone a frame is not read** -/
theorem burst_fr (q : Nat) (p : List UInt8) (t k : Nat) (D : List UInt8) (hq : q < 1048576) (h1 : 1 ≤ p.length) (h4 : p.length ≤ 4096) (hD : D.length ≤ 4) (hf : fromB t ≤ k) (ht : k + D.length ≤ toB t p.length) :
    wov (frB q p) k D = frB q p ∨ rdE (wov (frB q p) k D) = 42 ∨ (t = 1 ∧ rdE (wov (frB q p) k D) = 4) := by
  rw [lay_fr]
  generalize hc : fourL (sumW (headB p.length q) p) = c
  have hc4 : c.length = 4 := by rw [← hc]; rfl
  have h8 : (fixB 8 q).length = 8 := fixB_length _ _
  have e4 := fixB_length 4 p.length
  have hb8 : be (fixB 8 q) < 1048576 := by rw [be_fixB, Nat.mod_eq_of_lt (by omega)]; exact hq
  by_cases t1 : t = 1
  · subst t1
    have hf1 : 4 ≤ k := hf
    have ht1 : k + D.length ≤ 12 := ht
    have e : wov (lay p.length (fixB 8 q) c p) k D = lay p.length (wov (fixB 8 q) (k - 4) D) c p := by
      unfold lay
      rw [wov_behind _ _ k (k - 4) D (by omega), wov_ahead _ _ _ _ (by omega)]
    have hwl := wov_length (fixB 8 q) (k - 4) D (by omega)
    have hr := lay_rd p.length (wov (fixB 8 q) (k - 4) D) c p rfl h1 h4 (by omega) hc4
    rw [e]
    by_cases hb : be (wov (fixB 8 q) (k - 4) D) < 1048576
    · rw [if_pos hb] at hr
      by_cases hs : fourL (sumW (fixB 4 p.length ++ wov (fixB 8 q) (k - 4) D) p) = c
      · left
        rw [← hc] at hs
        have h2 := fourL_inj hs
        unfold sumW headB at h2
        rw [List.append_assoc, List.append_assoc] at h2
        rw [wov_sum _ _ _ _ D hD (by omega) h2]
      · rw [if_neg hs] at hr; exact Or.inr (Or.inl hr)
    · rw [if_neg hb] at hr; exact Or.inr (Or.inr ⟨rfl, hr⟩)
  · by_cases t2 : t = 2
    · subst t2
      have hf1 : 12 ≤ k := hf
      have ht1 : k + D.length ≤ 16 := ht
      have e : wov (lay p.length (fixB 8 q) c p) k D = lay p.length (fixB 8 q) (wov c (k - 12) D) p := by
        unfold lay
        rw [wov_behind _ _ k (k - 4) D (by omega), wov_behind _ _ (k - 4) (k - 12) D (by omega), wov_ahead _ _ _ _ (by omega)]
      have hwl := wov_length c (k - 12) D (by omega)
      have hr := lay_rd p.length (fixB 8 q) (wov c (k - 12) D) p rfl h1 h4 h8 (by omega)
      rw [e]
      rw [if_pos hb8] at hr
      by_cases hs : fourL (sumW (fixB 4 p.length ++ fixB 8 q) p) = wov c (k - 12) D
      · left
        have hcc : fourL (sumW (fixB 4 p.length ++ fixB 8 q) p) = c := hc
        rw [← hs, hcc]
      · rw [if_neg hs] at hr; exact Or.inr (Or.inl hr)
    · have hf1 : 16 ≤ k := by unfold fromB at hf; rw [if_neg t1, if_neg t2] at hf; exact hf
      have ht1 : k + D.length ≤ 16 + p.length := by unfold toB at ht; rw [if_neg t1, if_neg t2] at ht; exact ht
      have e : wov (lay p.length (fixB 8 q) c p) k D = lay p.length (fixB 8 q) c (wov p (k - 16) D) := by
        unfold lay
        rw [wov_behind _ _ k (k - 4) D (by omega), wov_behind _ _ (k - 4) (k - 12) D (by omega), wov_behind _ _ (k - 12) (k - 16) D (by omega)]
      have hwl := wov_length p (k - 16) D (by omega)
      have hr := lay_rd p.length (fixB 8 q) c (wov p (k - 16) D) hwl h1 h4 h8 hc4
      rw [e]
      rw [if_pos hb8] at hr
      by_cases hs : fourL (sumW (fixB 4 p.length ++ fixB 8 q) (wov p (k - 16) D)) = c
      · left
        rw [← hc] at hs
        have h2 := fourL_inj hs
        unfold sumW headB at h2
        have h3 : ofW ((fixB 4 p.length ++ fixB 8 q) ++ (wov p (k - 16) D ++ [])) = ofW ((fixB 4 p.length ++ fixB 8 q) ++ (p ++ [])) := by rw [List.append_nil, List.append_nil]; exact h2
        rw [wov_sum _ _ _ _ D hD (by omega) h3]
      · rw [if_neg hs] at hr; exact Or.inr (Or.inl hr)
end Go.Proofs.Ythaafniahkejkaa.Frame
