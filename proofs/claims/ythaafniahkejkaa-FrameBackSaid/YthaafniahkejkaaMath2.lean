/-
  The table of the checksum, its highest bytes, and products of polynomials. No Go text is named here.
-/
import Derived.Test.YthaafniahkejkaaMath
namespace Go.Proofs.Ythaafniahkejkaa.Crc

/-! ### shifted back up -/
theorem it_shl (n : Nat) (y : W) (hn : n ≤ 32) (h : ∀ i, 32 - n ≤ i → y.getLsbD i = false) : it n (y <<< n) = y := by
  induction n generalizing y with
  | zero => simp [it]
  | succ n ih =>
    have e : y <<< (n + 1) = (y <<< 1) <<< n := by rw [← BitVec.shiftLeft_add, Nat.add_comm]
    have h31 : y.getLsbD 31 = false := h 31 (by omega)
    simp only [it]
    rw [e, ih (y <<< 1) (by omega), sh_shl y h31]
    intro i hi
    rw [BitVec.getLsbD_shiftLeft]
    by_cases h0 : i = 0
    · subst h0; simp
    · rw [h (i - 1) (by omega)]; simp
def tab (n : Nat) : W := it 8 (BitVec.ofNat 32 n)
theorem it8_split (x : W) : it 8 x = (x >>> 8) ^^^ tab (x.toNat % 256) := by
  have e : x = ((x >>> 8) <<< 8) ^^^ BitVec.ofNat 32 (x.toNat % 256) := by
    apply BitVec.eq_of_getLsbD_eq; intro i hi
    rw [BitVec.getLsbD_xor, BitVec.getLsbD_shiftLeft, BitVec.getLsbD_ushiftRight, BitVec.getLsbD_ofNat, show (256 : Nat) = 2 ^ 8 from rfl, Nat.testBit_mod_two_pow]
    by_cases h : i < 8
    · simp [h, hi]; rfl
    · simp [h, hi, show 8 + (i - 8) = i by omega]
  have h8 : it 8 ((x >>> 8) <<< 8) = x >>> 8 := by
    apply it_shl 8 _ (by omega)
    intro i hi
    rw [BitVec.getLsbD_ushiftRight, BitVec.getLsbD_of_ge _ _ (by omega)]
  conv => lhs; rw [e, it_xor, h8]
  rfl
theorem step_tab (c : W) (b : UInt8) : step c b = (c >>> 8) ^^^ tab ((c.toNat % 256) ^^^ b.toNat) := by
  unfold step
  rw [it8_split, xor_shr, w8_shr]
  have e0 : c >>> 8 ^^^ (0 : W) = c >>> 8 := BitVec.xor_zero
  have e1 : (c ^^^ w8 b).toNat % 256 = (c.toNat % 256) ^^^ b.toNat := by
    have hb := b.toNat_lt
    have h1 : (w8 b).toNat = b.toNat := by unfold w8; rw [BitVec.toNat_ofNat]; omega
    rw [BitVec.toNat_xor, h1, show (256 : Nat) = 2 ^ 8 from rfl, Nat.xor_mod_two_pow]
    rw [Nat.mod_eq_of_lt (a := b.toNat) (by omega)]
  rw [e0, e1]
theorem tab_xor (a b : Nat) : tab (a ^^^ b) = tab a ^^^ tab b := by
  unfold tab
  rw [← it_xor]
  congr 1
  apply BitVec.eq_of_getLsbD_eq; intro i hi
  simp [hi]

/-! ### which number's word has which highest byte -/
def numStep (a : List Nat) (n : Nat) : List Nat := a.set ((tab n).toNat / 16777216) n
def nums (k : Nat) : List Nat := (List.range k).foldl numStep (List.replicate 256 0)
def num (m : Nat) : Nat := (nums 256).getD m 0
theorem nums_succ (k : Nat) : nums (k + 1) = numStep (nums k) k := by
  unfold nums; rw [List.range_succ, List.foldl_append]; rfl
theorem nums_length (k : Nat) : (nums k).length = 256 := by
  induction k with
  | zero => show (List.replicate 256 0).length = 256; rw [List.length_replicate]
  | succ k ih => rw [nums_succ, numStep, List.length_set, ih]
set_option maxRecDepth 100000 in
theorem num_ok : ∀ m < 256, num m < 256 ∧ (tab (num m)).toNat / 16777216 = m := by decide +kernel
theorem num_lt (m : Nat) (h : m < 256) : num m < 256 := (num_ok m h).1
theorem num_tab (m : Nat) (h : m < 256) : (tab (num m)).toNat / 16777216 = m := (num_ok m h).2
/-- a step back by the table -/
theorem step_back (c : W) (b : UInt8) : step ((c ^^^ tab (num (c.toNat / 16777216))) <<< 8 ||| BitVec.ofNat 32 (num (c.toNat / 16777216) ^^^ b.toNat)) b = c := by
  have hm : c.toNat / 16777216 < 256 := by have := c.isLt; omega
  have hn := num_lt _ hm
  have ht := num_tab _ hm
  generalize num (c.toNat / 16777216) = n at *
  have hb := b.toNat_lt
  have hx : n ^^^ b.toNat < 256 := Nat.xor_lt_two_pow (n := 8) hn hb
  have hor : (c ^^^ tab n) <<< 8 ||| BitVec.ofNat 32 (n ^^^ b.toNat) = ((c ^^^ tab n) <<< 8 ^^^ BitVec.ofNat 32 n) ^^^ w8 b := by
    apply BitVec.eq_of_getLsbD_eq; intro i hi
    rw [BitVec.getLsbD_or, BitVec.getLsbD_xor, BitVec.getLsbD_xor, BitVec.getLsbD_shiftLeft, getLsbD_w8, BitVec.getLsbD_ofNat, BitVec.getLsbD_ofNat, Nat.testBit_xor]
    by_cases h : i < 8
    · simp [h, hi]
    · have z1 : n.testBit i = false := Nat.testBit_lt_two_pow (Nat.lt_of_lt_of_le hn (Nat.pow_le_pow_right (n := 2) (i := 8) (by omega) (by omega)))
      have z2 : b.toNat.testBit i = false := Nat.testBit_lt_two_pow (Nat.lt_of_lt_of_le hb (Nat.pow_le_pow_right (n := 2) (i := 8) (by omega) (by omega)))
      simp [h, hi, z1, z2]
  unfold step
  rw [hor, BitVec.xor_assoc, BitVec.xor_self, BitVec.xor_zero, it_xor, it_shl 8 _ (by omega)]
  · show c ^^^ tab n ^^^ tab n = c
    rw [BitVec.xor_assoc, BitVec.xor_self, BitVec.xor_zero]
  · intro i hi
    rw [BitVec.getLsbD_xor]
    have hd : ∀ x : W, x.getLsbD i = (x.toNat / 16777216).testBit (i - 24) := by
      intro x
      rw [show (16777216 : Nat) = 2 ^ 24 from rfl, ← Nat.shiftRight_eq_div_pow, Nat.testBit_shiftRight, show 24 + (i - 24) = i by omega]; rfl
    rw [hd, hd, ht]; simp

/-! ### the table, filled by halves -/
/-- the n-th word -/
def wat (T : List W) (n : Nat) : W := T.getD n 0
def fillIn (c : W) (B : Nat) : Nat → List W → List W
  | 0, T => T
  | j + 1, T => (fillIn c B j T).set (2 * B * j + B) (wat (fillIn c B j T) (2 * B * j) ^^^ c)
def w1 : W := 1
def zeros : List W := List.replicate 256 0
def fill : Nat → List W
  | 0 => zeros
  | r + 1 => fillIn (it (r + 1) w1) (128 / 2 ^ r) (2 ^ r) (fill r)
def tabs : List W := (List.range 256).map tab
theorem fillIn_length (c : W) (B j : Nat) (T : List W) : (fillIn c B j T).length = T.length := by
  induction j with
  | zero => rfl
  | succ j ih => show (List.set _ _ _).length = _; rw [List.length_set, ih]
theorem fill_length (r : Nat) : (fill r).length = 256 := by
  induction r with
  | zero => show (List.replicate 256 (0 : W)).length = 256; rw [List.length_replicate]
  | succ r ih => show (fillIn _ _ _ _).length = 256; rw [fillIn_length, ih]
theorem tabs_length : tabs.length = 256 := by unfold tabs; rw [List.length_map, List.length_range]
set_option maxRecDepth 100000 in
theorem fill_tabs : fill 8 = tabs := by decide +kernel
theorem tabs_getD (n : Nat) (h : n < 256) : wat tabs n = tab n := by
  unfold wat tabs; rw [List.getD_eq_getElem?_getD, List.getElem?_map, List.getElem?_range h]; rfl
def refFill (k : Nat) : List W := (List.range 256).map fun n => if n < k then tab n else 0
theorem refFill_zero : refFill 0 = zeros := by
  unfold refFill zeros
  apply List.ext_getElem
  · rw [List.length_map, List.length_range, List.length_replicate]
  · intro i h1 h2; rw [List.getElem_map, List.getElem_range, List.getElem_replicate]; rfl
theorem refFill_succ (k : Nat) : (refFill k).set k (tab k) = refFill (k + 1) := by
  unfold refFill
  apply List.ext_getElem
  · rw [List.length_set, List.length_map, List.length_map]
  · intro i h1 h2
    rw [List.getElem_set]
    simp only [List.getElem_map, List.getElem_range]
    by_cases e : k = i
    · subst e; simp
    · rw [if_neg e]
      by_cases g : i < k
      · simp [g, Nat.lt_succ_of_lt g]
      · have : ¬ i < k + 1 := by omega
        simp [g, this]
theorem refFill_all : refFill 256 = tabs := by
  unfold refFill tabs
  apply List.map_congr_left
  intro n hn
  rw [if_pos (List.mem_range.1 hn)]
theorem refFill_length (k : Nat) : (refFill k).length = 256 := by unfold refFill; rw [List.length_map, List.length_range]

/-! ### products -/
def top : W := 2147483648
def pk (a b : W) : Nat → W
  | 0 => 0
  | k + 1 => if a.getLsbD (31 - k) then pk a b k ^^^ it k b else pk a b k
def pr (a b : W) : W := pk a b 32
theorem pk_it (a b : W) (j k : Nat) : pk a (it j b) k = it j (pk a b k) := by
  induction k with
  | zero => exact (it_zero j).symm
  | succ k ih =>
    simp only [pk]
    split
    · rw [ih, it_xor, ← it_add, ← it_add, Nat.add_comm]
    · exact ih
theorem it_top : ∀ k < 32, it k top = (1 : W) <<< (31 - k) := by decide +kernel
theorem pk_top (a : W) (k : Nat) (hk : k ≤ 32) : ∀ i, i < 32 → (pk a top k).getLsbD i = (decide (32 ≤ i + k) && a.getLsbD i) := by
  induction k with
  | zero => intro i hi; simp [pk]; omega
  | succ k ih =>
    intro i hi
    have hih := ih (by omega) i hi
    have h1 : ((1 : W) <<< (31 - k)).getLsbD i = decide (i = 31 - k) := by
      rw [BitVec.getLsbD_shiftLeft]
      have : (1 : W).getLsbD (i - (31 - k)) = decide (i - (31 - k) = 0) := by simp [BitVec.getLsbD_one]
      rw [this]
      by_cases e : i = 31 - k
      · subst e; simp [hi]
      · by_cases g : i < 31 - k
        · simp [g]; omega
        · simp [hi, g, e]; omega
    simp only [pk]
    rw [it_top k (by omega)]
    by_cases ha : a.getLsbD (31 - k) = true
    · rw [if_pos ha, BitVec.getLsbD_xor, hih, h1]
      by_cases e : i = 31 - k
      · subst e
        have : ¬ 32 ≤ 31 - k + k := by omega
        have g : 32 ≤ 31 - k + (k + 1) := by omega
        simp [this, g, ha]
      · by_cases g : 32 ≤ i + k
        · have g' : 32 ≤ i + (k + 1) := by omega
          simp [g, g', e]
        · have g' : ¬ 32 ≤ i + (k + 1) := by omega
          simp [g, g', e]
    · rw [if_neg ha, hih]
      by_cases e : i = 31 - k
      · subst e
        have : a.getLsbD (31 - k) = false := by simpa using ha
        rw [this]; simp
      · by_cases g : 32 ≤ i + k
        · have g' : 32 ≤ i + (k + 1) := by omega
          simp [g, g']
        · have g' : ¬ 32 ≤ i + (k + 1) := by omega
          simp [g, g']
theorem pr_top (a : W) : pr a top = a := by
  apply BitVec.eq_of_getLsbD_eq; intro i hi
  rw [pr, pk_top a 32 (by omega) i hi]; simp
theorem pr_it (a : W) (k : Nat) : pr a (it k top) = it k a := by
  show pk a (it k top) 32 = _
  rw [pk_it]
  show it k (pr a top) = _
  rw [pr_top]
/-- where nothing is left of a the sum is whole -/
theorem pk_done (a b : W) (k : Nat) (hk : k ≤ 32) (h : a <<< k = 0) : pk a b k = pr a b := by
  have hz : ∀ i, i < 32 - k → a.getLsbD i = false := by
    intro i hi
    have : (a <<< k).getLsbD (i + k) = false := by rw [h]; simp
    rw [BitVec.getLsbD_shiftLeft] at this
    simpa [show i + k < 32 by omega] using this
  have : ∀ j, k + j ≤ 32 → pk a b (k + j) = pk a b k := by
    intro j
    induction j with
    | zero => intro _; rfl
    | succ j ih =>
      intro hj
      rw [← Nat.add_assoc]
      simp only [pk]
      rw [hz (31 - (k + j)) (by omega), ih (by omega)]; rfl
  have := this (32 - k) (by omega)
  rw [show k + (32 - k) = 32 by omega] at this
  exact this.symm
theorem shl_ne (a : W) (k : Nat) (hk : 32 ≤ k) : a <<< k = 0 := by
  apply BitVec.eq_of_getLsbD_eq; intro i hi
  rw [BitVec.getLsbD_shiftLeft]; simp; omega

end Go.Proofs.Ythaafniahkejkaa.Crc
