/-
  Bytes of numbers: fixed ones, short ones, texts; what is read of them. Plain mathematics: no Go text is named here.
-/
import Derived.Below
import Derived.Laws.MathBits
namespace Go.Proofs.YticfnfekkmkclaaGreatDoor.Wire
open Go

/-! ### fixed numbers -/
/-- the k lowest bytes of n, the highest one first -/
def fixB : Nat → Nat → List UInt8
  | 0, _ => []
  | k + 1, n => fixB k (n / 256) ++ [UInt8.ofNat (n % 256)]
/-- the number of bytes, the highest one first -/
def be (l : List UInt8) : Nat := l.foldl (fun n b => n * 256 + b.toNat) 0
theorem be_snoc (l : List UInt8) (b : UInt8) : be (l ++ [b]) = be l * 256 + b.toNat := by unfold be; rw [List.foldl_append]; rfl
theorem be_nil : be [] = 0 := rfl
theorem fixB_length : ∀ (k n : Nat), (fixB k n).length = k
  | 0, _ => rfl
  | k + 1, n => by rw [fixB, List.length_append, fixB_length k]; rfl
theorem toNat_ofNat_lt {n : Nat} (h : n < 256) : (UInt8.ofNat n).toNat = n := by
  rw [UInt8.toNat_ofNat']; exact Nat.mod_eq_of_lt h
theorem be_fixB : ∀ (k n : Nat), be (fixB k n) = n % 256 ^ k
  | 0, n => by rw [fixB, be_nil, Nat.pow_zero, Nat.mod_one]
  | k + 1, n => by
    rw [fixB, be_snoc, be_fixB k, toNat_ofNat_lt (Nat.mod_lt _ (by decide)), Nat.pow_succ, Nat.mul_comm (256 ^ k) 256, Nat.mod_mul, Nat.mul_comm]
    omega
theorem be_lt : ∀ (k : Nat) (l : List UInt8), l.length = k → be l < 256 ^ k
  | 0, l, h => by rw [List.eq_nil_of_length_eq_zero h]; decide
  | k + 1, l, h => by
    have hne : l ≠ [] := fun e => by rw [e] at h; cases h
    obtain ⟨m, b, rfl⟩ : ∃ m b, l = m ++ [b] := ⟨l.dropLast, l.getLast hne, (List.dropLast_concat_getLast hne).symm⟩
    have hm : m.length = k := by simpa using h
    have h1 := be_lt k m hm
    have h2 := b.toNat_lt
    rw [be_snoc, Nat.pow_succ]
    have : be m + 1 ≤ 256 ^ k := h1
    have h3 := Nat.mul_le_mul_right 256 this
    omega
theorem fixB_be : ∀ (k : Nat) (l : List UInt8), l.length = k → fixB k (be l) = l
  | 0, l, h => by rw [List.eq_nil_of_length_eq_zero h]; rfl
  | k + 1, l, h => by
    have hne : l ≠ [] := fun e => by rw [e] at h; cases h
    obtain ⟨m, b, rfl⟩ : ∃ m b, l = m ++ [b] := ⟨l.dropLast, l.getLast hne, (List.dropLast_concat_getLast hne).symm⟩
    have hm : m.length = k := by simpa using h
    have h2 := b.toNat_lt
    rw [be_snoc, fixB]
    have e1 : (be m * 256 + b.toNat) / 256 = be m := by omega
    have e2 : (be m * 256 + b.toNat) % 256 = b.toNat := by omega
    rw [e1, e2, fixB_be k m hm, UInt8.ofNat_toNat]
theorem fixB_mod (k n : Nat) : fixB k (n % 256 ^ k) = fixB k n := by
  rw [← be_fixB k n, fixB_be k _ (fixB_length k n)]

/-! ### short numbers -/
def shortF : Nat → Nat → List UInt8
  | 0, n => [UInt8.ofNat n]
  | f + 1, n => if n < 128 then [UInt8.ofNat n] else UInt8.ofNat (n % 128 + 128) :: shortF f (n / 128)
def shortB (n : Nat) : List UInt8 := shortF 10 n
theorem shortF_lt (f n : Nat) (h : n < 128) : shortF f n = [UInt8.ofNat n] := by
  cases f with
  | zero => rfl
  | succ f => rw [shortF, if_pos h]
theorem shortF_more : ∀ (f n : Nat), n < 128 ^ (f + 1) → shortF (f + 1) n = shortF f n
  | 0, n, h => by rw [shortF_lt _ _ (by simpa using h), shortF_lt _ _ (by simpa using h)]
  | f + 1, n, h => by
    by_cases hn : n < 128
    · rw [shortF_lt _ _ hn, shortF_lt _ _ hn]
    · rw [shortF, if_neg hn, shortF_more f (n / 128) (by rw [Nat.pow_succ] at h; exact Nat.div_lt_of_lt_mul (by omega))]
      rw [shortF, if_neg hn]
theorem shortB_lt (n : Nat) (h : n < 128) : shortB n = [UInt8.ofNat n] := shortF_lt _ _ h
theorem shortB_ge (n : Nat) (h : 128 ≤ n) (h2 : n < 18446744073709551616) : shortB n = UInt8.ofNat (n % 128 + 128) :: shortB (n / 128) := by
  unfold shortB
  rw [shortF_more 9 (n / 128) (by omega)]; show (if n < 128 then _ else _) = _; rw [if_neg (by omega)]
theorem shortF_length : ∀ (f n : Nat), 1 ≤ (shortF f n).length ∧ (shortF f n).length ≤ f + 1
  | 0, n => by rw [shortF]; simp
  | f + 1, n => by
    have := shortF_length f (n / 128)
    rw [shortF]; split
    · simp
    · rw [List.length_cons]; omega
theorem shortB_pos (n : Nat) : 1 ≤ (shortB n).length := (shortF_length 10 n).1
theorem shortB_len (n : Nat) (h : n < 18446744073709551616) : (shortB n).length ≤ 10 := by
  unfold shortB; rw [shortF_more 9 n (by omega)]; exact (shortF_length 9 n).2
theorem shortB_le : ∀ (n : Nat), (shortB n).length ≤ 11 := fun n => (shortF_length 10 n).2

/-- how many groups of 7 bits -/
def sizeN (n : Nat) : Nat := (max (bitLen n) 1 + 6) / 7
theorem sizeN_lt (n : Nat) (h : n < 128) : sizeN n = 1 := by
  have h1 : bitLen n ≤ 7 := by
    unfold bitLen; split
    · omega
    · rename_i h0; have := (Nat.log2_lt h0).2 (show n < 2 ^ 7 from h); omega
  unfold sizeN; omega
theorem sizeN_ge (n : Nat) (h : 128 ≤ n) : sizeN n = 1 + sizeN (n / 128) := by
  have hs := bitLen_shift n 7 (by show n / 128 ≠ 0; omega)
  have h1 : 1 ≤ bitLen (n / 128) := by
    unfold bitLen; split
    · omega
    · omega
  have e : bitLen n = 7 + bitLen (n / 128) := hs
  unfold sizeN; omega
theorem short_size : ∀ (k n : Nat), n < 128 ^ k → n < 18446744073709551616 → (shortB n).length = sizeN n
  | 0, n, h, _ => by
    have : n = 0 := by rw [Nat.pow_zero] at h; omega
    subst this; rfl
  | k + 1, n, h, h2 => by
    by_cases hn : n < 128
    · rw [shortB_lt n hn, sizeN_lt n hn]; rfl
    · rw [shortB_ge n (by omega) h2, sizeN_ge n (by omega), List.length_cons, short_size k (n / 128) (by rw [Nat.pow_succ] at h; exact Nat.div_lt_of_lt_mul (by omega)) (by omega)]
      omega
theorem shortB_size (n : Nat) (h : n < 18446744073709551616) : (shortB n).length = sizeN n := short_size 10 n (by omega) h
theorem bitLen_mono {a b : Nat} (h : a ≤ b) : bitLen a ≤ bitLen b := by
  by_cases ha : a = 0
  · subst ha; exact Nat.zero_le _
  · have h1 := (bitLen_spec a).2 ha
    have h2 := (bitLen_spec b).1
    have : 2 ^ (bitLen a - 1) < 2 ^ bitLen b := by omega
    have := (Nat.pow_lt_pow_iff_right (by decide : 1 < 2)).1 this
    omega
theorem sizeN_mono {a b : Nat} (h : a ≤ b) : sizeN a ≤ sizeN b := by
  have := bitLen_mono h
  unfold sizeN; omega

/-! ### a short number, read -/
/-- (number, how many bytes, the error) of a short number at the front, of which i bytes were read, that are acc -/
def scan : List UInt8 → Nat → Nat → Nat × Nat × Nat
  | [], _, _ => (0, 0, 8)
  | b :: l, i, acc => if (i = 9 ∧ 1 < b.toNat) ∨ (0 < i ∧ b.toNat = 0) then (0, 0, 4) else if b.toNat < 128 then (acc + 128 ^ i * (b.toNat % 128), i + 1, 0) else scan l (i + 1) (acc + 128 ^ i * (b.toNat % 128))
theorem ten_pow (i : Nat) (hi : i ≤ 9) : 128 ^ i * 128 ^ (9 - i) = 9223372036854775808 := by
  rw [← Nat.pow_add, show i + (9 - i) = 9 by omega]
/-- what is written is read -/
theorem scan_short (l : List UInt8) : ∀ (k i n acc : Nat), i + k = 9 → n < 128 ^ k * 2 → (0 < i → 0 < n) → scan (shortB n ++ l) i acc = (acc + 128 ^ i * n, i + (shortB n).length, 0)
  | 0, i, n, acc, hi, hn, h0 => by
    have h2 : n < 2 := by simpa using hn
    rw [shortB_lt n (by omega)]
    have e := toNat_ofNat_lt (show n < 256 by omega)
    show scan (UInt8.ofNat n :: l) i acc = _
    rw [scan, e, if_neg (by omega), if_pos (by omega), Nat.mod_eq_of_lt (by omega)]; rfl
  | k + 1, i, n, acc, hi, hn, h0 => by
    by_cases hl : n < 128
    · rw [shortB_lt n hl]
      have e := toNat_ofNat_lt (show n < 256 by omega)
      show scan (UInt8.ofNat n :: l) i acc = _
      rw [scan, e, if_neg (by omega), if_pos hl, Nat.mod_eq_of_lt hl]; rfl
    · have hp : 128 ^ (k + 1) * 2 ≤ 18446744073709551616 := by
        have := Nat.pow_le_pow_right (show 0 < 128 by decide) (show k + 1 ≤ 9 by omega)
        omega
      rw [shortB_ge n (by omega) (by omega)]
      have e := toNat_ofNat_lt (show n % 128 + 128 < 256 by omega)
      show scan (UInt8.ofNat (n % 128 + 128) :: (shortB (n / 128) ++ l)) i acc = _
      rw [scan, e, if_neg (by omega), if_neg (by omega)]
      have hm : (n % 128 + 128) % 128 = n % 128 := by omega
      rw [hm, scan_short l k (i + 1) (n / 128) _ (by omega) (by rw [Nat.pow_succ] at hn; exact Nat.div_lt_of_lt_mul (by omega)) (by omega), List.length_cons]
      have e1 : acc + 128 ^ i * (n % 128) + 128 ^ (i + 1) * (n / 128) = acc + 128 ^ i * n := by
        have : n = 128 * (n / 128) + n % 128 := by omega
        conv => rhs; rw [this]
        rw [Nat.pow_succ, Nat.mul_add, Nat.mul_assoc]; omega
      rw [e1]
      refine Prod.ext rfl (Prod.ext ?_ rfl)
      show i + 1 + _ = i + (_ + 1)
      omega
theorem scan_shortB (n : Nat) (l : List UInt8) (h : n < 18446744073709551616) : scan (shortB n ++ l) 0 0 = (n, (shortB n).length, 0) := by
  have := scan_short l 9 0 n 0 (by omega) (by omega) (by omega)
  simpa using this
/-- what is cut short is not -/
theorem scan_cut : ∀ (k i n acc j : Nat), i + k = 9 → n < 128 ^ k * 2 → (0 < i → 0 < n) → j < (shortB n).length → scan ((shortB n).take j) i acc = (0, 0, 8)
  | 0, i, n, acc, j, hi, hn, h0, hj => by
    have h2 : n < 2 := by simpa using hn
    rw [shortB_lt n (by omega)] at hj ⊢
    have : j = 0 := by simpa using hj
    subst this; rfl
  | k + 1, i, n, acc, j, hi, hn, h0, hj => by
    by_cases hl : n < 128
    · rw [shortB_lt n hl] at hj ⊢
      have : j = 0 := by simpa using hj
      subst this; rfl
    · have hp : 128 ^ (k + 1) * 2 ≤ 18446744073709551616 := by
        have := Nat.pow_le_pow_right (show 0 < 128 by decide) (show k + 1 ≤ 9 by omega)
        omega
      rw [shortB_ge n (by omega) (by omega)] at hj ⊢
      cases j with
      | zero => rfl
      | succ j =>
        have e := toNat_ofNat_lt (show n % 128 + 128 < 256 by omega)
        rw [List.take_succ_cons, scan, e, if_neg (by omega), if_neg (by omega)]
        exact scan_cut k (i + 1) (n / 128) _ j (by omega) (by rw [Nat.pow_succ] at hn; exact Nat.div_lt_of_lt_mul (by omega)) (by omega) (by rw [List.length_cons] at hj; omega)
theorem scan_cutB (n j : Nat) (h : n < 18446744073709551616) (hj : j < (shortB n).length) : scan ((shortB n).take j) 0 0 = (0, 0, 8) :=
  scan_cut 9 0 n 0 j (by omega) (by omega) (by omega) hj
/-- what is read, written again -/
theorem scan_back : ∀ (l : List UInt8) (k i acc n sz : Nat), i + k = 9 → scan l i acc = (n, sz, 0) → ∃ m, n = acc + 128 ^ i * m ∧ m < 128 ^ k * 2 ∧ (0 < i → 0 < m) ∧ sz = i + (shortB m).length ∧ l.take (shortB m).length = shortB m
  | [], k, i, acc, n, sz, _, h => by rw [scan] at h; cases h
  | b :: l, k, i, acc, n, sz, hi, h => by
    rw [scan] at h
    have hb := b.toNat_lt
    by_cases h1 : (i = 9 ∧ 1 < b.toNat) ∨ (0 < i ∧ b.toNat = 0)
    · rw [if_pos h1] at h; cases h
    · rw [if_neg h1] at h
      by_cases h2 : b.toNat < 128
      · rw [if_pos h2] at h
        injection h with ha hb2; injection hb2 with hb3 _
        refine ⟨b.toNat, ?_, ?_, by omega, ?_, ?_⟩
        · rw [← ha, Nat.mod_eq_of_lt h2]
        · cases k with
          | zero => simp; omega
          | succ k => rw [Nat.pow_succ]; have := Nat.pow_pos (n := k) (show 0 < 128 by decide); omega
        · rw [shortB_lt _ h2]; exact hb3.symm
        · rw [shortB_lt _ h2, UInt8.ofNat_toNat]; rfl
      · rw [if_neg h2] at h
        cases k with
        | zero => omega
        | succ k =>
          obtain ⟨m, e1, e2, e3, e4, e5⟩ := scan_back l k (i + 1) _ n sz (by omega) h
          have hm : 0 < m := e3 (by omega)
          have hp : 128 ^ (k + 1) * 2 ≤ 18446744073709551616 := by
            have := Nat.pow_le_pow_right (show 0 < 128 by decide) (show k + 1 ≤ 9 by omega)
            omega
          have hlt : m * 128 + b.toNat % 128 < 128 ^ (k + 1) * 2 := by
            rw [Nat.pow_succ]
            have : (m + 1) * 128 ≤ 128 ^ k * 2 * 128 := Nat.mul_le_mul_right 128 e2
            omega
          have hs : shortB (m * 128 + b.toNat % 128) = b :: shortB m := by
            rw [shortB_ge _ (by omega) (by omega)]
            have q1 : (m * 128 + b.toNat % 128) % 128 + 128 = b.toNat := by omega
            have q2 : (m * 128 + b.toNat % 128) / 128 = m := by omega
            rw [q1, q2, UInt8.ofNat_toNat]
          refine ⟨m * 128 + b.toNat % 128, ?_, hlt, by omega, ?_, ?_⟩
          · rw [e1, Nat.pow_succ, Nat.mul_add, Nat.mul_assoc, Nat.mul_comm 128 m]; omega
          · rw [hs, List.length_cons, e4]; omega
          · rw [hs, List.length_cons, List.take_succ_cons, e5]
theorem scan_backB {l : List UInt8} {n sz : Nat} (h : scan l 0 0 = (n, sz, 0)) : n < 18446744073709551616 ∧ sz = (shortB n).length ∧ l.take sz = shortB n := by
  obtain ⟨m, e1, e2, _, e4, e5⟩ := scan_back l 9 0 0 n sz (by omega) h
  have : n = m := by simpa using e1
  subst this
  have : sz = (shortB n).length := by simpa using e4
  subst this
  exact ⟨by omega, rfl, e5⟩
/-- the error is one of three; with an error nothing else -/
theorem scan_err : ∀ (l : List UInt8) (i acc : Nat), (scan l i acc).2.2 = 0 ∨ ((scan l i acc).1 = 0 ∧ (scan l i acc).2.1 = 0 ∧ ((scan l i acc).2.2 = 8 ∨ (scan l i acc).2.2 = 4))
  | [], _, _ => by rw [scan]; exact Or.inr ⟨rfl, rfl, Or.inl rfl⟩
  | b :: l, i, acc => by
    rw [scan]
    split
    · exact Or.inr ⟨rfl, rfl, Or.inr rfl⟩
    · split
      · exact Or.inl rfl
      · exact scan_err l _ _
/-- no short number begins by another one -/
theorem short_prefix (a b : Nat) (ha : a < 18446744073709551616) (hb : b < 18446744073709551616) (h : (shortB b).take (shortB a).length = shortB a) : a = b := by
  have e1 := scan_shortB b [] hb
  have e2 := scan_shortB a ((shortB b).drop (shortB a).length) ha
  rw [List.append_nil] at e1
  have : shortB a ++ (shortB b).drop (shortB a).length = shortB b := by
    conv => lhs; rw [← h]
    rw [h]
    conv => rhs; rw [← List.take_append_drop (shortB a).length (shortB b), h]
  rw [this, e1] at e2
  injection e2 with e _
  exact e.symm

end Go.Proofs.YticfnfekkmkclaaGreatDoor.Wire
