import Derived.Lib.ItoaNum
import Derived.Lib.ParseIntB
import Derived.Lib.IndexMore
import Derived.Lib.IndexLaws
import Derived.Lib.Strings
import Derived.Lib.Repeat
import Derived.Test.YtkjnddgjnlbopaaFC
import Derived.Test.YtkjnddgjnlbopaaFI
import Derived.Lib.AppendIntMem
import Derived.WalkSmall
/-
  Names of segments' files: digits, what a text's number is, what a name is that. Plain mathematics.
-/
namespace Go.Proofs.Ytkjnddgjnlbopaa.Seg
open Go

/-- so many of a number's digits, the last ones -/
def dig : Nat → Nat → List UInt8
  | 0, _ => []
  | k + 1, n => dig k (n / 10) ++ [UInt8.ofNat (48 + n % 10)]
theorem dig_length : ∀ k n, (dig k n).length = k
  | 0, _ => rfl
  | k + 1, n => by rw [dig, List.length_append, dig_length k]; rfl
theorem dig_zero : ∀ k, dig k 0 = List.replicate k 48
  | 0 => rfl
  | k + 1 => by rw [dig, Nat.zero_div, dig_zero k, List.replicate_succ']; rfl
theorem dig_pad : ∀ (k u : Nat), Lib.nDigits u ≤ k → List.replicate (k - Lib.nDigits u) 48 ++ Lib.decDigits u = dig k u
  | 0, u, h => by have := Lib.nDigits_pos u; omega
  | k + 1, u, h => by
    by_cases hu : u < 10
    · rw [Lib.nDigits_small hu, Lib.decDigits_one hu, dig, show u / 10 = 0 by omega, dig_zero, show u % 10 = u by omega]; rfl
    · have hn := Lib.nDigits_big hu
      rw [hn, Lib.decDigits, dif_neg hu, dig, ← List.append_assoc, show k + 1 - (Lib.nDigits (u / 10) + 1) = k - Lib.nDigits (u / 10) by omega, dig_pad k (u / 10) (by omega)]
theorem nDigits_le : ∀ (k u : Nat), u < 10 ^ (k + 1) → Lib.nDigits u ≤ k + 1
  | 0, u, h => by rw [Lib.nDigits_small (by simpa using h)]; exact Nat.le_refl _
  | k + 1, u, h => by
    by_cases hu : u < 10
    · rw [Lib.nDigits_small hu]; omega
    · rw [Lib.nDigits_big hu]
      have := nDigits_le k (u / 10) (by rw [Nat.pow_succ] at h; omega)
      omega
def isD (c : UInt8) : Prop := 48 ≤ c.toNat ∧ c.toNat ≤ 57
instance (c : UInt8) : Decidable (isD c) := inferInstanceAs (Decidable (_ ∧ _))
theorem isD_of (n : Nat) : (UInt8.ofNat (48 + n % 10)).toNat = 48 + n % 10 := by rw [UInt8.toNat_ofNat']; omega
theorem dig_all : ∀ (k n : Nat), ∀ c ∈ dig k n, isD c
  | 0, _, c, h => by cases h
  | k + 1, n, c, h => by
    rw [dig, List.mem_append] at h
    rcases h with h | h
    · exact dig_all k _ c h
    · obtain rfl := List.mem_singleton.1 h
      unfold isD; rw [isD_of]; omega
def valD (acc : Nat) (l : List UInt8) : Nat := l.foldl (fun a c => a * 10 + (c.toNat - 48)) acc
theorem valD_nil (acc : Nat) : valD acc [] = acc := rfl
theorem valD_cons (acc : Nat) (c : UInt8) (l : List UInt8) : valD acc (c :: l) = valD (acc * 10 + (c.toNat - 48)) l := by unfold valD; rw [List.foldl_cons]
theorem valD_snoc (acc : Nat) (l : List UInt8) (c : UInt8) : valD acc (l ++ [c]) = valD acc l * 10 + (c.toNat - 48) := by unfold valD; rw [List.foldl_append]; rfl
theorem valD_dig (k : Nat) : ∀ (n : Nat), n < 10 ^ k → valD 0 (dig k n) = n := by
  induction k with
  | zero =>
    intro n h
    have : n = 0 := by rw [Nat.pow_zero] at h; omega
    subst this; rfl
  | succ k ih =>
    intro n h
    rw [Nat.pow_succ] at h
    have hi := ih (n / 10) (by omega)
    rw [dig, valD_snoc, hi, isD_of]; omega
theorem valD_lt (l : List UInt8) (h : ∀ c ∈ l, isD c) : ∀ acc a : Nat, acc < 10 ^ a → valD acc l < 10 ^ (a + l.length) := by
  induction l with
  | nil => intro acc a ha; simpa [valD] using ha
  | cons c r ih =>
    intro acc a ha
    have hc := h c (List.mem_cons_self ..)
    unfold isD at hc
    rw [valD_cons, List.length_cons, show a + (r.length + 1) = (a + 1) + r.length by omega]
    exact ih (fun x hx => h x (List.mem_cons_of_mem _ hx)) _ _ (by rw [Nat.pow_succ]; omega)
theorem u8_eq {c : UInt8} (h : isD c) : UInt8.ofNat (48 + (c.toNat - 48) % 10) = c := by
  unfold isD at h
  apply UInt8.toNat_inj.1
  rw [isD_of]; omega
theorem dig_val (l : List UInt8) (h : ∀ c ∈ l, isD c) : dig l.length (valD 0 l) = l := by
  generalize hn : l.length = n
  induction n generalizing l with
  | zero => rw [List.eq_nil_of_length_eq_zero hn]; rfl
  | succ n ih =>
    have hne : l ≠ [] := fun e => by rw [e] at hn; cases hn
    rw [← List.dropLast_concat_getLast hne] at h ⊢
    generalize hL : l.dropLast = m at *
    generalize l.getLast hne = c at *
    have hc := h c (by simp)
    have hm : m.length = n := by rw [← hL, List.length_dropLast]; omega
    rw [valD_snoc, dig]
    have h48 : 48 ≤ c.toNat ∧ c.toNat ≤ 57 := hc
    rw [show (valD 0 m * 10 + (c.toNat - 48)) / 10 = valD 0 m by omega, show (valD 0 m * 10 + (c.toNat - 48)) % 10 = (c.toNat - 48) % 10 by omega, u8_eq hc]
    rw [ih m (fun x hx => h x (by simp [hx])) hm]

/-! ### a text's number -/
theorem parseM (M : Nat) (hM : 10 ^ 18 ≤ M) : ∀ (l : List UInt8) (acc a : Nat), (∀ c ∈ l, isD c) → acc < 10 ^ a → a + l.length ≤ 18 → Lib.parseUintM M acc l = .ok (valD acc l)
  | [], acc, a, _, _, _ => rfl
  | c :: r, acc, a, h, ha, hl => by
    have hc : 48 ≤ c.toNat ∧ c.toNat ≤ 57 := h c (List.mem_cons_self ..)
    rw [List.length_cons] at hl
    have h1 : acc * 10 + (c.toNat - 48) < 10 ^ (a + 1) := by rw [Nat.pow_succ]; omega
    have h2 : (10 : Nat) ^ (a + 1) ≤ 10 ^ 18 := Nat.pow_le_pow_right (by decide) (by omega)
    have h3 : (10 : Nat) ^ 18 = 1000000000000000000 := by decide
    rw [Lib.parseUintM, if_pos hc, if_neg (by omega), if_neg (by omega), parseM M hM r _ (a + 1) (fun x hx => h x (List.mem_cons_of_mem _ hx)) h1 (by omega), valD_cons]
/-- what ParseInt tells, whatever the text -/
def pI (l : List UInt8) : Int := match Lib.parseIntB 64 l with | .ok v => v | .range => Lib.intSat 64 l | _ => 0
theorem pI_dig (k n : Nat) (hk : k + 1 ≤ 18) (hn : n < 10 ^ (k + 1)) : pI (dig (k + 1) n) = (n : Int) := by
  have hl := dig_length (k + 1) n
  have ha := dig_all (k + 1) n
  have hv := valD_dig (k + 1) n hn
  have hlt := valD_lt _ ha 0 0 (by decide)
  generalize dig (k + 1) n = l at *
  cases l with
  | nil => cases hl
  | cons c r =>
    have hc : 48 ≤ c.toNat ∧ c.toNat ≤ 57 := ha c (List.mem_cons_self ..)
    have hm := parseM (2 ^ 64 - 1) (by decide) (c :: r) 0 0 ha (by decide) (by omega)
    have h63 : n < 2 ^ 63 := by
      have : (10 : Nat) ^ (0 + (c :: r).length) ≤ 10 ^ 18 := Nat.pow_le_pow_right (by decide) (by omega)
      have h3 : (10 : Nat) ^ 18 < 2 ^ 63 := by decide
      omega
    have hp : Lib.parseIntB 64 (c :: r) = .ok (n : Int) := by
      unfold Lib.parseIntB
      simp only []
      rw [if_neg (by omega), Lib.parseUintB, if_neg (by simp), hm, hv]
      simp only []
      rw [if_neg (by rw [show (64 : Nat) - 1 = 63 from rfl]; omega), if_neg (by omega), if_neg (by omega)]
    unfold pI; rw [hp]
theorem pI_nil : pI [] = 0 := rfl

/-! ### names -/
def nameL (g f : Nat) : List UInt8 := 115 :: (dig 8 g ++ 45 :: dig 10 f)
theorem nameL_length (g f : Nat) : (nameL g f).length = 20 := by unfold nameL; rw [List.length_cons, List.length_append, List.length_cons, dig_length, dig_length]
def mayN (g f : Int) : Prop := 0 ≤ g ∧ g ≤ 99999999 ∧ 0 ≤ f ∧ f ≤ 1048576
instance (g f : Int) : Decidable (mayN g f) := inferInstanceAs (Decidable (_ ∧ _))
def nameE (g f : Int) : List UInt8 := if mayN g f then nameL g.toNat f.toNat else []
def partG (s : List UInt8) : List UInt8 := (Lib.cut (Lib.trimPrefix s [115]) [45]).1
def partF (s : List UInt8) : List UInt8 := (Lib.cut (Lib.trimPrefix s [115]) [45]).2.1
/-- what a name is that: generation, first batch, whether it is one -/
def namedR (s : List UInt8) : Int × Int × Bool := if nameE (pI (partG s)) (pI (partF s)) = s then (pI (partG s), pI (partF s), true) else (0, 0, false)
theorem cut_one : ∀ (a b : List UInt8) (c : UInt8), c ∉ a → Lib.cut (a ++ c :: b) [c] = (a, b, true) := by
  intro a b c h
  have hi : Lib.index (a ++ c :: b) [c] = (a.length : Int) := by
    refine Lib.index_hit ?_ (by simp) ?_
    · intro j hj
      unfold Lib.occAt
      have hd : (a ++ c :: b).drop j = a[j] :: (a.drop (j + 1) ++ c :: b) := by
        rw [List.drop_append_of_le_length (by omega), List.drop_eq_getElem_cons hj]; rfl
      rw [hd]
      have : a[j] ≠ c := fun e => h (e ▸ List.getElem_mem _)
      simp [List.isPrefixOf, Ne.symm this]
    · unfold Lib.occAt
      rw [List.drop_left]
      simp [List.isPrefixOf]
  unfold Lib.cut
  rw [hi, if_pos (by omega), Int.toNat_natCast, List.take_left, List.length_singleton, ← List.drop_drop, List.drop_left]
  rfl
theorem parts (g f : Nat) : partG (nameL g f) = dig 8 g ∧ partF (nameL g f) = dig 10 f := by
  have ht : Lib.trimPrefix (nameL g f) [115] = dig 8 g ++ 45 :: dig 10 f := by
    unfold Lib.trimPrefix Lib.hasPrefix nameL
    simp [List.isPrefixOf]
  have hc : (45 : UInt8) ∉ dig 8 g := fun h => by have := (dig_all 8 g _ h).1; exact absurd this (by decide)
  unfold partG partF
  rw [ht, cut_one _ _ _ hc]
  exact ⟨rfl, rfl⟩
theorem pI_parts {g f : Int} (h : mayN g f) : pI (partG (nameE g f)) = g ∧ pI (partF (nameE g f)) = f := by
  unfold nameE; rw [if_pos h]
  obtain ⟨h0, h1, h2, h3⟩ := h
  obtain ⟨a, b⟩ := parts g.toNat f.toNat
  rw [a, b, pI_dig 7 _ (by decide) (by omega), pI_dig 9 _ (by decide) (by omega)]
  omega
/-- **Named of Name is it** -/
theorem named_name {g f : Int} (h : mayN g f) : namedR (nameE g f) = (g, f, true) := by
  obtain ⟨a, b⟩ := pI_parts h
  unfold namedR; rw [a, b, if_pos rfl]
/-- **Name of Named is the name** -/
theorem named_yes {s : List UInt8} (h : nameE (pI (partG s)) (pI (partF s)) = s) : mayN (pI (partG s)) (pI (partF s)) := by
  by_cases hm : mayN (pI (partG s)) (pI (partF s))
  · exact hm
  · unfold nameE at h
    rw [if_neg hm] at h
    subst h
    exact absurd (show mayN (pI (partG [])) (pI (partF [])) from by decide) hm
theorem named_empty : namedR [] = (0, 0, false) := by decide +kernel

/-! ### as the document reads it -/
def namedD (s : List UInt8) : Int × Int × Bool :=
  if s.length = 20 ∧ s[0]? = some 115 ∧ s[9]? = some 45 ∧ (∀ c ∈ (s.drop 1).take 8, isD c) ∧ (∀ c ∈ (s.drop 10).take 10, isD c) ∧ valD 0 ((s.drop 10).take 10) ≤ 1048576
  then ((valD 0 ((s.drop 1).take 8) : Int), (valD 0 ((s.drop 10).take 10) : Int), true) else (0, 0, false)
theorem split_name {s : List UInt8} (h : s.length = 20) (h0 : s[0]? = some 115) (h9 : s[9]? = some 45) : s = 115 :: ((s.drop 1).take 8 ++ 45 :: (s.drop 10).take 10) := by
  have a0 : s = 115 :: s.drop 1 := by
    cases s with
    | nil => cases h
    | cons c r => simp at h0; subst h0; rfl
  have a1 : s.drop 1 = (s.drop 1).take 8 ++ s.drop 9 := by
    conv => lhs; rw [← List.take_append_drop 8 (s.drop 1), List.drop_drop]
  have a2 : s.drop 9 = 45 :: s.drop 10 := by
    obtain ⟨hlt, he⟩ := List.getElem?_eq_some_iff.1 h9
    rw [List.drop_eq_getElem_cons hlt, he]
  have a3 : (s.drop 10).take 10 = s.drop 10 := List.take_of_length_le (by rw [List.length_drop]; omega)
  rw [a3, ← a2, ← a1, ← a0]
theorem named_doc (s : List UInt8) : namedD s = namedR s := by
  unfold namedD
  split
  · rename_i h
    obtain ⟨h1, h2, h3, h4, h5, h6⟩ := h
    have hs := split_name h1 h2 h3
    have l4 : ((s.drop 1).take 8).length = 8 := by rw [List.length_take, List.length_drop]; omega
    have l5 : ((s.drop 10).take 10).length = 10 := by rw [List.length_take, List.length_drop]; omega
    have v4 := dig_val _ h4
    have v5 := dig_val _ h5
    have w4 := valD_lt _ h4 0 0 (by decide)
    rw [l4] at v4 w4
    rw [l5] at v5
    generalize (s.drop 1).take 8 = A at *
    generalize (s.drop 10).take 10 = B at *
    have hm : mayN (valD 0 A : Int) (valD 0 B : Int) := ⟨by omega, by omega, by omega, by omega⟩
    have he : nameE (valD 0 A : Int) (valD 0 B : Int) = s := by
      unfold nameE; rw [if_pos hm, Int.toNat_natCast, Int.toNat_natCast]
      unfold nameL; rw [v4, v5, ← hs]
    rw [← he, named_name hm]
  · rename_i h
    unfold namedR
    rw [if_neg]
    intro he
    have hm := named_yes he
    apply h
    obtain ⟨m0, m1, m2, m3⟩ := hm
    have hs : s = nameL (pI (partG s)).toNat (pI (partF s)).toNat := by
      have h2 := he
      unfold nameE at h2
      rw [if_pos ⟨m0, m1, m2, m3⟩] at h2
      exact h2.symm
    generalize (pI (partG s)).toNat = a at hs
    have hb : (pI (partF s)).toNat ≤ 1048576 := by omega
    generalize (pI (partF s)).toNat = b at hs hb
    subst hs
    have d1 : ((nameL a b).drop 1).take 8 = dig 8 a := by unfold nameL; rw [List.drop_one, List.tail_cons, List.take_append_of_le_length (by rw [dig_length]; exact Nat.le_refl _), List.take_of_length_le (by rw [dig_length]; exact Nat.le_refl _)]
    have d9 : (nameL a b).drop 9 = 45 :: dig 10 b := by
      unfold nameL
      rw [show (9 : Nat) = 8 + 1 from rfl, List.drop_succ_cons]
      have := List.drop_left (l₁ := dig 8 a) (l₂ := 45 :: dig 10 b)
      rw [dig_length] at this
      exact this
    have d10 : ((nameL a b).drop 10).take 10 = dig 10 b := by
      rw [show (10 : Nat) = 9 + 1 from rfl, ← List.drop_drop, d9]
      show List.take 10 (dig 10 b) = dig 10 b
      rw [List.take_of_length_le (by rw [dig_length]; exact Nat.le_refl _)]
    have h9 : (nameL a b)[9]? = some 45 := by
      have := congrArg (fun l => l[0]?) d9
      simpa using this
    refine ⟨nameL_length a b, rfl, h9, ?_, ?_, ?_⟩
    · rw [d1]; exact dig_all 8 a
    · rw [d10]; exact dig_all 10 b
    · rw [d10, valD_dig 10 b (by omega)]; exact hb
/-- **names rise as first batches do** -/
theorem dig_inj {k a b : Nat} (ha : a < 10 ^ k) (hb : b < 10 ^ k) (h : dig k a = dig k b) : a = b := by rw [← valD_dig k a ha, ← valD_dig k b hb, h]
end Go.Proofs.Ytkjnddgjnlbopaa.Seg

/-
  Segments as bytes: headers, what is scanned, what is joined, what is split. Plain mathematics.
-/
namespace Go.Proofs.Ytkjnddgjnlbopaa.Seg
open Go
open Go.Proofs.Ytkjnddgjnlbopaa.Crc (W ofW fourL)
open Go.Proofs.Ytkjnddgjnlbopaa.Wire (fixB be fixB_length be_fixB fixB_be S S_list S_size)
open Go.Proofs.Ytkjnddgjnlbopaa.Frame

def word : List UInt8 := [115, 101, 103, 49]
/-- a header without its checksum -/
def bareH (q : Nat) : List UInt8 := word ++ fixB 8 q
theorem bareH_length (q : Nat) : (bareH q).length = 12 := by unfold bareH; rw [List.length_append, fixB_length]; rfl
/-- a header -/
def segH (q : Nat) : List UInt8 := bareH q ++ fourL (ofW (bareH q))
theorem segH_length (q : Nat) : (segH q).length = 16 := by unfold segH; rw [List.length_append, bareH_length, fourL_length]
def mayF (q : Int) : Prop := 0 ≤ q ∧ q ≤ 1048576
instance (q : Int) : Decidable (mayF q) := inferInstanceAs (Decidable (_ ∧ _))
def hdE (q : Int) : Nat := if mayF q then 0 else 1
def hdB (q : Int) : List UInt8 := if mayF q then segH q.toNat else []

/-! ### the first batch of bytes -/
def fiN (l : List UInt8) : Nat := be ((l.drop 4).take 8)
def fiE (l : List UInt8) : Nat :=
  if l.length < 16 then 8 else if ¬ l.take 4 = word then 4 else if ¬ fourL (ofW (l.take 12)) = (l.drop 12).take 4 then 42 else if 1048576 < fiN l then 4 else 0
def fiQ (l : List UInt8) : Nat := if fiE l = 0 then fiN l else 0
theorem fi_parts {l : List UInt8} (h : fiE l = 0) : 16 ≤ l.length ∧ l.take 4 = word ∧ fourL (ofW (l.take 12)) = (l.drop 12).take 4 ∧ fiN l ≤ 1048576 := by
  unfold fiE at h
  by_cases h1 : l.length < 16
  · rw [if_pos h1] at h; cases h
  rw [if_neg h1] at h
  by_cases h2 : l.take 4 = word
  · rw [if_neg (fun k => k h2)] at h
    by_cases h3 : fourL (ofW (l.take 12)) = (l.drop 12).take 4
    · rw [if_neg (fun k => k h3)] at h
      by_cases h4 : 1048576 < fiN l
      · rw [if_pos h4] at h; cases h
      · exact ⟨by omega, h2, h3, by omega⟩
    · rw [if_pos h3] at h; cases h
  · rw [if_pos h2] at h; cases h
theorem bare_of {l : List UInt8} (h : 16 ≤ l.length) (hw : l.take 4 = word) : bareH (fiN l) = l.take 12 := by
  unfold bareH fiN
  rw [fixB_be 8 _ (by rw [List.length_take, List.length_drop]; omega), ← hw, show (12 : Nat) = 4 + 8 from rfl, List.take_add]
/-- **just one way to say it** -/
theorem fi_back {l : List UInt8} (h : fiE l = 0) : segH (fiN l) = l.take 16 := by
  obtain ⟨h1, h2, h3, _⟩ := fi_parts h
  unfold segH
  rw [bare_of h1 h2, h3, show (16 : Nat) = 12 + 4 from rfl, List.take_add]
/-- **a header is read, whatever stands behind** -/
theorem fi_head (q : Nat) (m : List UInt8) (hq : q ≤ 1048576) : fiE (segH q ++ m) = 0 ∧ fiN (segH q ++ m) = q := by
  have hl : (segH q ++ m).length = 16 + m.length := by rw [List.length_append, segH_length]
  have t4 : (segH q ++ m).take 4 = word := by
    unfold segH bareH; rw [List.append_assoc, List.append_assoc, take_front (a := word) (n := 4) rfl]
  have t12 : (segH q ++ m).take 12 = bareH q := by unfold segH; rw [List.append_assoc, take_front (bareH_length q)]
  have d12 : ((segH q ++ m).drop 12).take 4 = fourL (ofW (bareH q)) := by
    unfold segH; rw [List.append_assoc, drop_front (bareH_length q), take_front (fourL_length _)]
  have hn : fiN (segH q ++ m) = q := by
    unfold fiN segH bareH
    rw [List.append_assoc, List.append_assoc, drop_front (a := word) (n := 4) rfl, take_front (fixB_length 8 q), be_fixB, Nat.mod_eq_of_lt (by omega)]
  refine ⟨?_, hn⟩
  unfold fiE
  rw [if_neg (by omega), t4, if_neg (fun k => k rfl), t12, d12, if_neg (fun k => k rfl), hn, if_neg (by omega)]

/-! ### what is scanned -/
def scL (l : List UInt8) : List Fr := if fiE l = 0 then scanF (l.drop 16) 16 (fiN l : Int) else []
def scG (l : List UInt8) : Nat := if fiE l = 0 then 16 + bytesOf (scL l) else 0
def scW (l : List UInt8) : Bool := if fiE l = 0 then decide (scG l = l.length) else false

/-! ### segments of payloads -/
def segB (q : Nat) (ps : List (List UInt8)) : List UInt8 := segH q ++ rowB q ps
def segN (ps : List (List UInt8)) : Nat := 16 + (rowB 0 ps).length
theorem segB_length (q : Nat) (ps : List (List UInt8)) : (segB q ps).length = segN ps := by unfold segB segN; rw [List.length_append, segH_length, rowB_length]
theorem segB_nil (q : Nat) : segB q [] = segH q := by unfold segB; rw [rowB, List.append_nil]
theorem segB_snoc (q : Nat) (ps : List (List UInt8)) (p : List UInt8) : segB q (ps ++ [p]) = segB q ps ++ frB (q + ps.length) p := by
  unfold segB; rw [rowB_append, rowB, rowB, List.append_nil, List.append_assoc]
theorem segN_nil : segN [] = 16 := rfl
theorem segN_snoc (ps : List (List UInt8)) (p : List UInt8) : segN (ps ++ [p]) = segN ps + (16 + p.length) := by
  rw [← segB_length 0, segB_snoc, List.length_append, segB_length, frB_length]
theorem segN_ge (ps : List (List UInt8)) : 16 + 16 * ps.length ≤ segN ps := by
  induction ps with
  | nil => exact Nat.le_refl _
  | cons p r ih =>
    unfold segN at *
    rw [rowB, List.length_append, frB_length, rowB_length r 1 0, List.length_cons]; omega
theorem segN_16 {ps : List (List UInt8)} : segN ps = 16 ↔ ps = [] := by
  constructor
  · intro h
    have := segN_ge ps
    exact List.eq_nil_of_length_eq_zero (by omega)
  · rintro rfl; rfl
def fitsB (size n most : Int) : Bool := decide (1 ≤ n ∧ n ≤ 4096) && (decide (size = 16) || decide (size + (16 + n) ≤ most))
def okL (ps : List (List UInt8)) : Bool := ps.all fun p => decide (1 ≤ p.length ∧ p.length ≤ 4096)
def wrE (q : Int) (ps : List (List UInt8)) : Nat := if ¬ mayF q then 1 else if okL ps = false then 4 else if 1048576 < q + ps.length then 40 else 0
theorem okL_all {ps : List (List UInt8)} : okL ps = true ↔ ∀ p ∈ ps, 1 ≤ p.length ∧ p.length ≤ 4096 := by
  unfold okL; simp [List.all_eq_true]
theorem wrE_zero {q : Int} {ps : List (List UInt8)} (h : wrE q ps = 0) : mayF q ∧ okP q.toNat ps := by
  unfold wrE at h
  by_cases h1 : mayF q
  · rw [if_neg (fun k => k h1)] at h
    by_cases h2 : okL ps = false
    · rw [if_pos h2] at h; cases h
    · rw [if_neg h2] at h
      by_cases h3 : 1048576 < q + ps.length
      · rw [if_pos h3] at h; cases h
      · obtain ⟨a, b⟩ := h1
        exact ⟨⟨a, b⟩, by omega, okL_all.1 (by simpa using h2)⟩
  · rw [if_pos h1] at h; cases h
theorem wrE_ok {q : Nat} {ps : List (List UInt8)} (h : okP q ps) : wrE (q : Int) ps = 0 := by
  obtain ⟨h1, h2⟩ := h
  unfold wrE
  rw [if_neg (fun k => k ⟨by omega, by omega⟩), if_neg (by rw [okL_all.2 h2]; decide), if_neg (by omega)]
def joE (q : Int) (ps : List (List UInt8)) : Nat := if wrE q ps = 0 then (if 1048576 < segN ps then 40 else 0) else wrE q ps
def joB (q : Int) (ps : List (List UInt8)) : List UInt8 := if joE q ps = 0 then segB q.toNat ps else []
theorem joE_zero {q : Int} {ps : List (List UInt8)} (h : joE q ps = 0) : wrE q ps = 0 ∧ segN ps ≤ 1048576 := by
  unfold joE at h
  by_cases h1 : wrE q ps = 0
  · rw [if_pos h1] at h
    by_cases h2 : 1048576 < segN ps
    · rw [if_pos h2] at h; cases h
    · exact ⟨h1, by omega⟩
  · rw [if_neg h1] at h; exact absurd h h1
/-- **what is joined, scanned** -/
theorem sc_row (q : Nat) (ps : List (List UInt8)) (m : List UInt8) (h : okP q ps) : fiE (segB q ps ++ m) = 0 ∧ fiN (segB q ps ++ m) = q ∧ scL (segB q ps ++ m) = rowF q 16 ps ++ scanF m (16 + (rowB q ps).length) ((q + ps.length : Nat) : Int) := by
  have hq : q ≤ 1048576 := by have := h.1; omega
  have hs : segB q ps ++ m = segH q ++ (rowB q ps ++ m) := by unfold segB; rw [List.append_assoc]
  obtain ⟨a, b⟩ := fi_head q (rowB q ps ++ m) hq
  rw [hs]
  refine ⟨a, b, ?_⟩
  unfold scL
  rw [if_pos a, b, drop_front (segH_length q), scan_row ps q 16 m h]
theorem sc_seg (q : Nat) (ps : List (List UInt8)) (h : okP q ps) : fiE (segB q ps) = 0 ∧ fiN (segB q ps) = q ∧ scL (segB q ps) = rowF q 16 ps ∧ scG (segB q ps) = (segB q ps).length := by
  obtain ⟨a, b, c⟩ := sc_row q ps [] h
  rw [List.append_nil, scan_nil, List.append_nil] at *
  refine ⟨a, b, c, ?_⟩
  unfold scG
  rw [if_pos a, c, bytesOf_row]
  unfold segB; rw [List.length_append, segH_length]

/-- **cut short behind its header** -/
theorem sc_cut (q : Nat) (ps : List (List UInt8)) (n : Nat) (h : okP q ps) (hn : 16 ≤ n) : fiE ((segB q ps).take n) = 0 ∧ fiN ((segB q ps).take n) = q ∧ scL ((segB q ps).take n) = rowF q 16 (ps.take (wholeN ps (n - 16))) := by
  have hq : q ≤ 1048576 := by have := h.1; omega
  have hs : (segB q ps).take n = segH q ++ (rowB q ps).take (n - 16) := by
    unfold segB; rw [List.take_append, segH_length, List.take_of_length_le (by rw [segH_length]; exact hn)]
  obtain ⟨a, b⟩ := fi_head q ((rowB q ps).take (n - 16)) hq
  rw [hs]
  refine ⟨a, b, ?_⟩
  unfold scL
  rw [if_pos a, b, drop_front (segH_length q), scan_cut ps q 16 (n - 16) h]
/-! ### segments, one behind the other -/
/-- what Split tells: each segment's first number, and its payloads -/
def spl (most : Int) : Nat → List (List UInt8) → List (List UInt8) → List (Nat × List (List UInt8))
  | q, cur, [] => [(q, cur)]
  | q, cur, p :: r => if fitsB (segN cur : Int) (p.length : Int) most then spl most q (cur ++ [p]) r else (q, cur) :: spl most (q + cur.length) [p] r
def splB (most : Int) (q : Nat) (ps : List (List UInt8)) : List (List UInt8) := (spl most q [] ps).map fun g => segB g.1 g.2
theorem spl_ne (most : Int) : ∀ (ps : List (List UInt8)) (q : Nat) (cur : List (List UInt8)), spl most q cur ps ≠ []
  | [], q, cur => by simp [spl]
  | p :: r, q, cur => by
    rw [spl]
    split
    · exact spl_ne most r q _
    · simp
def spE (q : Int) (ps : List (List UInt8)) (most : Int) : Nat := if 64 ≤ most ∧ most ≤ 65536 then wrE q ps else 1
end Go.Proofs.Ytkjnddgjnlbopaa.Seg

/-
  What stands in the library's variables.
-/
namespace Go.Proofs.Ytkjnddgjnlbopaa.Seg
open Go Go.RowKit Go.Sort

end Go.Proofs.Ytkjnddgjnlbopaa.Seg
