
/-
  The plain mathematics of the checksum: shifts of 32 bits, one bit and one byte at a time. No Go text is named here.
-/
namespace Go.Proofs.YticfnfekkmkclaaGreatDoor.Crc

abbrev W := BitVec 32
def poly : W := 3988292384
def sh (c : W) : W := if c.getLsbD 0 then (c >>> 1) ^^^ poly else c >>> 1
/-- k steps, the last one outside. -/
def it : Nat → W → W
  | 0, c => c
  | k + 1, c => sh (it k c)

theorem xor_shr (a b : W) (n : Nat) : (a ^^^ b) >>> n = (a >>> n) ^^^ (b >>> n) := by
  apply BitVec.eq_of_getLsbD_eq; intro i _
  simp
theorem xor_shl (a b : W) (n : Nat) : (a ^^^ b) <<< n = (a <<< n) ^^^ (b <<< n) := by
  apply BitVec.eq_of_getLsbD_eq; intro i _
  simp only [BitVec.getLsbD_shiftLeft, BitVec.getLsbD_xor]
  by_cases h : i < 32 <;> by_cases g : i < n <;> simp [h, g]
theorem sh_xor (a b : W) : sh (a ^^^ b) = sh a ^^^ sh b := by
  unfold sh
  rw [BitVec.getLsbD_xor, xor_shr]
  cases ha : a.getLsbD 0 <;> cases hb : b.getLsbD 0 <;> simp
  · ac_rfl
  · ac_rfl
  · have : a >>> 1 ^^^ poly ^^^ (b >>> 1 ^^^ poly) = (a >>> 1 ^^^ b >>> 1) ^^^ (poly ^^^ poly) := by ac_rfl
    rw [this]; simp
theorem sh_zero : sh 0 = 0 := by decide
theorem xor_eq_zero {a b : W} (h : a ^^^ b = 0) : a = b := by
  have : a ^^^ b ^^^ b = 0 ^^^ b := by rw [h]
  rw [BitVec.xor_assoc, BitVec.xor_self] at this
  simpa using this
theorem sh_eq_zero {c : W} (h : sh c = 0) : c = 0 := by
  unfold sh at h
  split at h
  · have e := xor_eq_zero h
    have : (c >>> 1).getLsbD 31 = poly.getLsbD 31 := by rw [e]
    rw [BitVec.getLsbD_ushiftRight, BitVec.getLsbD_of_ge _ _ (by omega)] at this
    exact absurd this (by decide)
  · rename_i h0
    apply BitVec.eq_of_getLsbD_eq; intro i hi
    cases i with
    | zero => simpa using h0
    | succ i =>
      have : (c >>> 1).getLsbD i = (0 : W).getLsbD i := by rw [h]
      rw [BitVec.getLsbD_ushiftRight, Nat.add_comm 1 i] at this
      rw [this]; simp
theorem sh_inj {a b : W} (h : sh a = sh b) : a = b := by
  apply xor_eq_zero
  apply sh_eq_zero
  rw [sh_xor, h, BitVec.xor_self]; rfl
theorem it_xor (k : Nat) (a b : W) : it k (a ^^^ b) = it k a ^^^ it k b := by
  induction k with
  | zero => rfl
  | succ k ih => simp only [it]; rw [ih, sh_xor]
theorem it_zero (k : Nat) : it k 0 = 0 := by
  induction k with
  | zero => rfl
  | succ k ih => simp only [it]; rw [ih, sh_zero]
theorem it_inj {k : Nat} {a b : W} (h : it k a = it k b) : a = b := by
  induction k with
  | zero => exact h
  | succ k ih => exact ih (sh_inj h)
theorem it_add (j k : Nat) (c : W) : it (j + k) c = it j (it k c) := by
  induction j with
  | zero => simp [it]
  | succ j ih => rw [Nat.succ_add]; simp only [it]; rw [ih]
theorem it_eq_zero {k : Nat} {c : W} (h : it k c = 0) : c = 0 := it_inj (h.trans (it_zero k).symm)

/-- one bit, as a number -/
def bit (b : Bool) : W := if b then 1 else 0
theorem getLsbD_bit (b : Bool) (i : Nat) : (bit b).getLsbD i = (decide (i = 0) && b) := by
  cases b
  · simp [bit]
  · show (1 : W).getLsbD i = _
    simp [BitVec.getLsbD_one]
theorem split_bit (x : W) : x = bit (x.getLsbD 0) ^^^ ((x >>> 1) <<< 1) := by
  apply BitVec.eq_of_getLsbD_eq; intro i hi
  rw [BitVec.getLsbD_xor, getLsbD_bit, BitVec.getLsbD_shiftLeft, BitVec.getLsbD_ushiftRight]
  cases i with
  | zero => simp
  | succ i => simp [hi, Nat.add_comm]
theorem sh_shl (y : W) (h : y.getLsbD 31 = false) : sh (y <<< 1) = y := by
  unfold sh
  have h0 : (y <<< 1).getLsbD 0 = false := by simp
  rw [h0]
  apply BitVec.eq_of_getLsbD_eq; intro i hi
  simp only [Bool.false_eq_true, if_false, BitVec.getLsbD_ushiftRight, BitVec.getLsbD_shiftLeft]
  by_cases e : i = 31
  · subst e; rw [h]; simp
  · have : 1 + i < 32 := by omega
    simp [this]

/-- the bits f 0, f 1, .. one behind the other, into a checksum that is not finished -/
def rb (c : W) (f : Nat → Bool) : Nat → W
  | 0 => c
  | n + 1 => sh (rb c f n ^^^ bit (f n))
theorem rb_xor (c d : W) (f g : Nat → Bool) (n : Nat) : rb (c ^^^ d) (fun i => f i ^^ g i) n = rb c f n ^^^ rb d g n := by
  induction n with
  | zero => rfl
  | succ n ih =>
    simp only [rb]
    rw [ih, ← sh_xor]
    congr 1
    have : bit (f n ^^ g n) = bit (f n) ^^^ bit (g n) := by cases f n <;> cases g n <;> decide
    rw [this]; ac_rfl
theorem rb_congr {c : W} {f g : Nat → Bool} {n : Nat} (h : ∀ i, i < n → f i = g i) : rb c f n = rb c g n := by
  induction n with
  | zero => rfl
  | succ n ih => simp only [rb]; rw [ih (fun i hi => h i (by omega)), h n (by omega)]
theorem rb_add (c : W) (f : Nat → Bool) (m n : Nat) : rb c f (m + n) = rb (rb c f m) (fun i => f (m + i)) n := by
  induction n with
  | zero => rfl
  | succ n ih => rw [← Nat.add_assoc]; simp only [rb]; rw [ih]
theorem rb_false (c : W) (f : Nat → Bool) (n : Nat) (h : ∀ i, i < n → f i = false) : rb c f n = it n c := by
  induction n with
  | zero => rfl
  | succ n ih => simp only [rb, it]; rw [ih (fun i hi => h i (by omega)), h n (by omega)]; simp [bit]
/-- THE KEY: the bits of a number go in as the number does. -/
theorem rb_word (c x : W) (n : Nat) (h : n ≤ 32) : rb c (fun i => x.getLsbD i) n ^^^ (x >>> n) = it n (c ^^^ x) := by
  induction n with
  | zero => simp [rb, it]
  | succ n ih =>
    simp only [rb, it]
    rw [← ih (by omega)]
    have e : x >>> n = bit (x.getLsbD n) ^^^ ((x >>> (n + 1)) <<< 1) := by
      have := split_bit (x >>> n)
      rw [BitVec.getLsbD_ushiftRight, Nat.add_zero] at this
      rw [BitVec.shiftRight_add]
      exact this
    have h31 : (x >>> (n + 1)).getLsbD 31 = false := by
      rw [BitVec.getLsbD_ushiftRight, BitVec.getLsbD_of_ge _ _ (by omega)]
    conv => rhs; rw [e, ← BitVec.xor_assoc, sh_xor, sh_shl _ h31]
theorem shr_32 (x : W) : x >>> 32 = 0 := by
  apply BitVec.eq_of_getLsbD_eq; intro i hi
  simp
theorem rb_word32 (c x : W) : rb c (fun i => x.getLsbD i) 32 = it 32 (c ^^^ x) := by
  have := rb_word c x 32 (Nat.le_refl _)
  rw [shr_32] at this; simpa using this

/-- one byte -/
def w8 (b : UInt8) : W := BitVec.ofNat 32 b.toNat
theorem getLsbD_w8 (b : UInt8) (i : Nat) : (w8 b).getLsbD i = b.toNat.testBit i := by
  unfold w8
  rw [BitVec.getLsbD_ofNat]
  by_cases h : i < 32
  · simp [h]
  · have : b.toNat.testBit i = false := Nat.testBit_lt_two_pow (Nat.lt_of_lt_of_le b.toNat_lt (Nat.pow_le_pow_right (by omega) (by omega)))
    simp [h]
    rw [this]
def step (c : W) (b : UInt8) : W := it 8 (c ^^^ w8 b)
theorem w8_shr (b : UInt8) : w8 b >>> 8 = 0 := by
  apply BitVec.eq_of_getLsbD_eq; intro i hi
  rw [BitVec.getLsbD_ushiftRight, getLsbD_w8]
  have : b.toNat.testBit (8 + i) = false := Nat.testBit_lt_two_pow (Nat.lt_of_lt_of_le b.toNat_lt (Nat.pow_le_pow_right (n := 2) (i := 8) (by omega) (by omega)))
  rw [this]; simp
theorem rb_byte (c : W) (b : UInt8) : rb c (fun i => b.toNat.testBit i) 8 = step c b := by
  have := rb_word c (w8 b) 8 (by omega)
  rw [w8_shr] at this
  rw [step, ← this]
  show _ = _ ^^^ BitVec.ofNat 32 0
  rw [BitVec.xor_zero]
  exact rb_congr (fun i _ => (getLsbD_w8 b i).symm)
/-- the state behind all bytes -/
def raw (c : W) (l : List UInt8) : W := l.foldl step c
def bitAt (l : List UInt8) (j : Nat) : Bool := (l.getD (j / 8) 0).toNat.testBit (j % 8)
theorem raw_rb (c : W) (l : List UInt8) : raw c l = rb c (bitAt l) (8 * l.length) := by
  induction l generalizing c with
  | nil => rfl
  | cons b l ih =>
    show raw (step c b) l = _
    rw [ih, List.length_cons, show 8 * (l.length + 1) = 8 + 8 * l.length by omega, rb_add]
    have e : rb c (bitAt (b :: l)) 8 = step c b := by
      rw [← rb_byte]
      apply rb_congr
      intro i hi
      simp [bitAt, Nat.div_eq_of_lt hi, Nat.mod_eq_of_lt hi]
    rw [e]
    apply rb_congr
    intro i _
    simp only [bitAt]
    rw [show (8 + i) / 8 = i / 8 + 1 by omega, show (8 + i) % 8 = i % 8 by omega]
    simp
theorem raw_append (c : W) (l m : List UInt8) : raw c (l ++ m) = raw (raw c l) m := by simp [raw]
theorem step_inj {c d : W} {b : UInt8} (h : step c b = step d b) : c = d := by
  have := it_inj h
  have : c ^^^ w8 b ^^^ w8 b = d ^^^ w8 b ^^^ w8 b := by rw [this]
  rw [BitVec.xor_assoc, BitVec.xor_assoc, BitVec.xor_self] at this
  simpa using this
theorem raw_inj {c d : W} {l : List UInt8} (h : raw c l = raw d l) : c = d := by
  induction l generalizing c d with
  | nil => exact h
  | cons b l ih => exact step_inj (ih h)


/-! ### back -/
def un (c : W) : W := (if c.getLsbD 31 then c ^^^ poly else c) <<< 1 ^^^ bit (c.getLsbD 31)
theorem sh_un (c : W) : sh (un c) = c := by
  unfold un
  have hd : ∀ d : W, d.getLsbD 31 = false → sh (d <<< 1 ^^^ bit false) = d := by
    intro d hd
    have : bit false = BitVec.ofNat 32 0 := rfl
    rw [this, BitVec.xor_zero, sh_shl d hd]
  cases h : c.getLsbD 31
  · exact hd c h
  · simp only [if_true]
    rw [sh_xor, sh_shl]
    · have : sh (bit true) = poly := by decide
      rw [this, BitVec.xor_assoc, BitVec.xor_self]; exact BitVec.xor_zero
    · rw [BitVec.getLsbD_xor, h]; decide
def iun : Nat → W → W
  | 0, c => c
  | k + 1, c => iun k (un c)
theorem it_iun (k : Nat) (c : W) : it k (iun k c) = c := by
  induction k generalizing c with
  | zero => rfl
  | succ k ih => show sh (it k (iun k (un c))) = c; rw [ih, sh_un]
def unstep (c : W) (b : UInt8) : W := iun 8 c ^^^ w8 b
theorem step_unstep (c : W) (b : UInt8) : step (unstep c b) b = c := by
  unfold step unstep
  rw [BitVec.xor_assoc, BitVec.xor_self, BitVec.xor_zero, it_iun]
theorem unstep_of {c d : W} {b : UInt8} (h : step d b = c) : d = unstep c b := step_inj (h.trans (step_unstep c b).symm)
def unraw (c : W) (l : List UInt8) : W := l.foldr (fun b c => unstep c b) c
theorem raw_unraw (c : W) (l : List UInt8) : raw (unraw c l) l = c := by
  induction l generalizing c with
  | nil => rfl
  | cons b l ih => show raw (step (unstep (unraw c l) b) b) l = c; rw [step_unstep, ih]
theorem unraw_of {c d : W} {l : List UInt8} (h : raw d l = c) : d = unraw c l := raw_inj (h.trans (raw_unraw c l).symm)
theorem unraw_raw (c : W) (l : List UInt8) : unraw (raw c l) l = c := (unraw_of rfl).symm
theorem unraw_append (c : W) (l m : List UInt8) : unraw c (l ++ m) = unraw (unraw c m) l := by simp [unraw]

/-! ### the calls' own answers -/
def addW (c : W) (l : List UInt8) : W := ~~~ raw (~~~ c) l
/-- the checksum of a text -/
def ofW (l : List UInt8) : W := addW 0 l
def backW (c : W) (l : List UInt8) : W := ~~~ unraw (~~~ c) l
def bothW (a b : W) (n : Nat) : W := it (8 * n) a ^^^ b
def fourL (c : W) : List UInt8 := [UInt8.ofNat c.toNat, UInt8.ofNat (c.toNat / 256), UInt8.ofNat (c.toNat / 65536), UInt8.ofNat (c.toNat / 16777216)]
theorem not_not (c : W) : ~~~ ~~~ c = c := by simp
theorem back_add (c : W) (l : List UInt8) : backW (addW c l) l = c := by
  unfold backW addW; rw [not_not, unraw_raw, not_not]
theorem add_back (c : W) (l : List UInt8) : addW (backW c l) l = c := by
  unfold backW addW; rw [not_not, raw_unraw, not_not]
theorem add_append (c : W) (l m : List UInt8) : addW c (l ++ m) = addW (addW c l) m := by
  unfold addW; rw [raw_append, not_not]
theorem back_append (c : W) (l m : List UInt8) : backW c (l ++ m) = backW (backW c m) l := by
  unfold backW; rw [unraw_append, not_not]
theorem add_inj {c d : W} {l : List UInt8} (h : addW c l = addW d l) : c = d := by
  rw [← back_add c l, h, back_add]
theorem bitAt_fourL (c : W) (j : Nat) (h : j < 32) : bitAt (fourL c) j = c.getLsbD j := by
  have hb : ∀ (n k : Nat), k < 8 → (UInt8.ofNat n).toNat.testBit k = n.testBit k := by
    intro n k hk
    rw [UInt8.toNat_ofNat', Nat.testBit_mod_two_pow]; simp [hk]
  have hd : ∀ k i, (c.toNat / 2 ^ k).testBit i = c.getLsbD (k + i) := by
    intro k i
    rw [← Nat.shiftRight_eq_div_pow, Nat.testBit_shiftRight]; rfl
  unfold bitAt fourL
  have h0 := hd 0 (j % 8); have h1 := hd 8 (j % 8); have h2 := hd 16 (j % 8); have h3 := hd 24 (j % 8)
  simp only [Nat.pow_zero, Nat.div_one, Nat.reducePow] at h0 h1 h2 h3
  have hj : j / 8 = 0 ∨ j / 8 = 1 ∨ j / 8 = 2 ∨ j / 8 = 3 := by omega
  rcases hj with e | e | e | e <;> rw [e] <;> simp only [List.getD_cons_zero, List.getD_cons_succ] <;> rw [hb _ _ (by omega)]
  · rw [h0]; congr 1; omega
  · rw [h1]; congr 1; omega
  · rw [h2]; congr 1; omega
  · rw [h3]; congr 1; omega
theorem raw_fourL (c w : W) : raw c (fourL w) = it 32 (c ^^^ w) := by
  rw [raw_rb, ← rb_word32]
  exact rb_congr (fun i hi => bitAt_fourL w i hi)

/-! ### sums -/
theorem raw_xor (c d : W) (l m n : List UInt8) (hl : l.length = n.length) (hm : m.length = n.length) (h : ∀ j, j < 8 * n.length → bitAt n j = (bitAt l j ^^ bitAt m j)) : raw c l ^^^ raw d m = raw (c ^^^ d) n := by
  rw [raw_rb, raw_rb, raw_rb, hl, hm, ← rb_xor]
  exact rb_congr (fun i hi => (h i hi).symm)

end Go.Proofs.YticfnfekkmkclaaGreatDoor.Crc

/-
  The table of the checksum, its highest bytes, and products of polynomials. No Go text is named here.
-/
namespace Go.Proofs.YticfnfekkmkclaaGreatDoor.Crc

/-! ### shifted back up -/
theorem it_shl (n : Nat) (y : W) (hn : n ≤ 32) (h : ∀ i, 32 - n ≤ i → y.getLsbD i = false) : it n (y <<< n) = y := by
  induction n generalizing y with
  | zero => simp [it]
  | succ n ih =>
    have e : y <<< (n + 1) = (y <<< 1) <<< n := by rw [← BitVec.shiftLeft_add, Nat.add_comm]
    have h31 : y.getLsbD 31 = false := h 31 (by omega)
    simp only [it]
    rw [e, ih (y <<< 1) (by omega), sh_shl y h31]
    intro i hi
    rw [BitVec.getLsbD_shiftLeft]
    by_cases h0 : i = 0
    · subst h0; simp
    · rw [h (i - 1) (by omega)]; simp
def tab (n : Nat) : W := it 8 (BitVec.ofNat 32 n)
theorem it8_split (x : W) : it 8 x = (x >>> 8) ^^^ tab (x.toNat % 256) := by
  have e : x = ((x >>> 8) <<< 8) ^^^ BitVec.ofNat 32 (x.toNat % 256) := by
    apply BitVec.eq_of_getLsbD_eq; intro i hi
    rw [BitVec.getLsbD_xor, BitVec.getLsbD_shiftLeft, BitVec.getLsbD_ushiftRight, BitVec.getLsbD_ofNat, show (256 : Nat) = 2 ^ 8 from rfl, Nat.testBit_mod_two_pow]
    by_cases h : i < 8
    · simp [h, hi]; rfl
    · simp [h, hi, show 8 + (i - 8) = i by omega]
  have h8 : it 8 ((x >>> 8) <<< 8) = x >>> 8 := by
    apply it_shl 8 _ (by omega)
    intro i hi
    rw [BitVec.getLsbD_ushiftRight, BitVec.getLsbD_of_ge _ _ (by omega)]
  conv => lhs; rw [e, it_xor, h8]
  rfl
theorem step_tab (c : W) (b : UInt8) : step c b = (c >>> 8) ^^^ tab ((c.toNat % 256) ^^^ b.toNat) := by
  unfold step
  rw [it8_split, xor_shr, w8_shr]
  have e0 : c >>> 8 ^^^ (0 : W) = c >>> 8 := BitVec.xor_zero
  have e1 : (c ^^^ w8 b).toNat % 256 = (c.toNat % 256) ^^^ b.toNat := by
    have hb := b.toNat_lt
    have h1 : (w8 b).toNat = b.toNat := by unfold w8; rw [BitVec.toNat_ofNat]; omega
    rw [BitVec.toNat_xor, h1, show (256 : Nat) = 2 ^ 8 from rfl, Nat.xor_mod_two_pow]
    rw [Nat.mod_eq_of_lt (a := b.toNat) (by omega)]
  rw [e0, e1]
theorem tab_xor (a b : Nat) : tab (a ^^^ b) = tab a ^^^ tab b := by
  unfold tab
  rw [← it_xor]
  congr 1
  apply BitVec.eq_of_getLsbD_eq; intro i hi
  simp [hi]

/-! ### which number's word has which highest byte -/
def numStep (a : List Nat) (n : Nat) : List Nat := a.set ((tab n).toNat / 16777216) n
def nums (k : Nat) : List Nat := (List.range k).foldl numStep (List.replicate 256 0)
def num (m : Nat) : Nat := (nums 256).getD m 0
theorem nums_succ (k : Nat) : nums (k + 1) = numStep (nums k) k := by
  unfold nums; rw [List.range_succ, List.foldl_append]; rfl
theorem nums_length (k : Nat) : (nums k).length = 256 := by
  induction k with
  | zero => show (List.replicate 256 0).length = 256; rw [List.length_replicate]
  | succ k ih => rw [nums_succ, numStep, List.length_set, ih]
set_option maxRecDepth 100000 in
theorem num_ok : ∀ m < 256, num m < 256 ∧ (tab (num m)).toNat / 16777216 = m := by decide +kernel
theorem num_lt (m : Nat) (h : m < 256) : num m < 256 := (num_ok m h).1
theorem num_tab (m : Nat) (h : m < 256) : (tab (num m)).toNat / 16777216 = m := (num_ok m h).2
/-- a step back by the table -/
theorem step_back (c : W) (b : UInt8) : step ((c ^^^ tab (num (c.toNat / 16777216))) <<< 8 ||| BitVec.ofNat 32 (num (c.toNat / 16777216) ^^^ b.toNat)) b = c := by
  have hm : c.toNat / 16777216 < 256 := by have := c.isLt; omega
  have hn := num_lt _ hm
  have ht := num_tab _ hm
  generalize num (c.toNat / 16777216) = n at *
  have hb := b.toNat_lt
  have hx : n ^^^ b.toNat < 256 := Nat.xor_lt_two_pow (n := 8) hn hb
  have hor : (c ^^^ tab n) <<< 8 ||| BitVec.ofNat 32 (n ^^^ b.toNat) = ((c ^^^ tab n) <<< 8 ^^^ BitVec.ofNat 32 n) ^^^ w8 b := by
    apply BitVec.eq_of_getLsbD_eq; intro i hi
    rw [BitVec.getLsbD_or, BitVec.getLsbD_xor, BitVec.getLsbD_xor, BitVec.getLsbD_shiftLeft, getLsbD_w8, BitVec.getLsbD_ofNat, BitVec.getLsbD_ofNat, Nat.testBit_xor]
    by_cases h : i < 8
    · simp [h, hi]
    · have z1 : n.testBit i = false := Nat.testBit_lt_two_pow (Nat.lt_of_lt_of_le hn (Nat.pow_le_pow_right (n := 2) (i := 8) (by omega) (by omega)))
      have z2 : b.toNat.testBit i = false := Nat.testBit_lt_two_pow (Nat.lt_of_lt_of_le hb (Nat.pow_le_pow_right (n := 2) (i := 8) (by omega) (by omega)))
      simp [h, hi, z1, z2]
  unfold step
  rw [hor, BitVec.xor_assoc, BitVec.xor_self, BitVec.xor_zero, it_xor, it_shl 8 _ (by omega)]
  · show c ^^^ tab n ^^^ tab n = c
    rw [BitVec.xor_assoc, BitVec.xor_self, BitVec.xor_zero]
  · intro i hi
    rw [BitVec.getLsbD_xor]
    have hd : ∀ x : W, x.getLsbD i = (x.toNat / 16777216).testBit (i - 24) := by
      intro x
      rw [show (16777216 : Nat) = 2 ^ 24 from rfl, ← Nat.shiftRight_eq_div_pow, Nat.testBit_shiftRight, show 24 + (i - 24) = i by omega]; rfl
    rw [hd, hd, ht]; simp

/-! ### the table, filled by halves -/
/-- the n-th word -/
def wat (T : List W) (n : Nat) : W := T.getD n 0
def fillIn (c : W) (B : Nat) : Nat → List W → List W
  | 0, T => T
  | j + 1, T => (fillIn c B j T).set (2 * B * j + B) (wat (fillIn c B j T) (2 * B * j) ^^^ c)
def w1 : W := 1
def zeros : List W := List.replicate 256 0
def fill : Nat → List W
  | 0 => zeros
  | r + 1 => fillIn (it (r + 1) w1) (128 / 2 ^ r) (2 ^ r) (fill r)
def tabs : List W := (List.range 256).map tab
theorem fillIn_length (c : W) (B j : Nat) (T : List W) : (fillIn c B j T).length = T.length := by
  induction j with
  | zero => rfl
  | succ j ih => show (List.set _ _ _).length = _; rw [List.length_set, ih]
theorem fill_length (r : Nat) : (fill r).length = 256 := by
  induction r with
  | zero => show (List.replicate 256 (0 : W)).length = 256; rw [List.length_replicate]
  | succ r ih => show (fillIn _ _ _ _).length = 256; rw [fillIn_length, ih]
theorem tabs_length : tabs.length = 256 := by unfold tabs; rw [List.length_map, List.length_range]
set_option maxRecDepth 100000 in
theorem fill_tabs : fill 8 = tabs := by decide +kernel
theorem tabs_getD (n : Nat) (h : n < 256) : wat tabs n = tab n := by
  unfold wat tabs; rw [List.getD_eq_getElem?_getD, List.getElem?_map, List.getElem?_range h]; rfl
def refFill (k : Nat) : List W := (List.range 256).map fun n => if n < k then tab n else 0
theorem refFill_zero : refFill 0 = zeros := by
  unfold refFill zeros
  apply List.ext_getElem
  · rw [List.length_map, List.length_range, List.length_replicate]
  · intro i h1 h2; rw [List.getElem_map, List.getElem_range, List.getElem_replicate]; rfl
theorem refFill_succ (k : Nat) : (refFill k).set k (tab k) = refFill (k + 1) := by
  unfold refFill
  apply List.ext_getElem
  · rw [List.length_set, List.length_map, List.length_map]
  · intro i h1 h2
    rw [List.getElem_set]
    simp only [List.getElem_map, List.getElem_range]
    by_cases e : k = i
    · subst e; simp
    · rw [if_neg e]
      by_cases g : i < k
      · simp [g, Nat.lt_succ_of_lt g]
      · have : ¬ i < k + 1 := by omega
        simp [g, this]
theorem refFill_all : refFill 256 = tabs := by
  unfold refFill tabs
  apply List.map_congr_left
  intro n hn
  rw [if_pos (List.mem_range.1 hn)]
theorem refFill_length (k : Nat) : (refFill k).length = 256 := by unfold refFill; rw [List.length_map, List.length_range]

/-! ### products -/
def top : W := 2147483648
def pk (a b : W) : Nat → W
  | 0 => 0
  | k + 1 => if a.getLsbD (31 - k) then pk a b k ^^^ it k b else pk a b k
def pr (a b : W) : W := pk a b 32
theorem pk_it (a b : W) (j k : Nat) : pk a (it j b) k = it j (pk a b k) := by
  induction k with
  | zero => exact (it_zero j).symm
  | succ k ih =>
    simp only [pk]
    split
    · rw [ih, it_xor, ← it_add, ← it_add, Nat.add_comm]
    · exact ih
theorem it_top : ∀ k < 32, it k top = (1 : W) <<< (31 - k) := by decide +kernel
theorem pk_top (a : W) (k : Nat) (hk : k ≤ 32) : ∀ i, i < 32 → (pk a top k).getLsbD i = (decide (32 ≤ i + k) && a.getLsbD i) := by
  induction k with
  | zero => intro i hi; simp [pk]; omega
  | succ k ih =>
    intro i hi
    have hih := ih (by omega) i hi
    have h1 : ((1 : W) <<< (31 - k)).getLsbD i = decide (i = 31 - k) := by
      rw [BitVec.getLsbD_shiftLeft]
      have : (1 : W).getLsbD (i - (31 - k)) = decide (i - (31 - k) = 0) := by simp [BitVec.getLsbD_one]
      rw [this]
      by_cases e : i = 31 - k
      · subst e; simp [hi]
      · by_cases g : i < 31 - k
        · simp [g]; omega
        · simp [hi, g, e]; omega
    simp only [pk]
    rw [it_top k (by omega)]
    by_cases ha : a.getLsbD (31 - k) = true
    · rw [if_pos ha, BitVec.getLsbD_xor, hih, h1]
      by_cases e : i = 31 - k
      · subst e
        have : ¬ 32 ≤ 31 - k + k := by omega
        have g : 32 ≤ 31 - k + (k + 1) := by omega
        simp [this, g, ha]
      · by_cases g : 32 ≤ i + k
        · have g' : 32 ≤ i + (k + 1) := by omega
          simp [g, g', e]
        · have g' : ¬ 32 ≤ i + (k + 1) := by omega
          simp [g, g', e]
    · rw [if_neg ha, hih]
      by_cases e : i = 31 - k
      · subst e
        have : a.getLsbD (31 - k) = false := by simpa using ha
        rw [this]; simp
      · by_cases g : 32 ≤ i + k
        · have g' : 32 ≤ i + (k + 1) := by omega
          simp [g, g']
        · have g' : ¬ 32 ≤ i + (k + 1) := by omega
          simp [g, g']
theorem pr_top (a : W) : pr a top = a := by
  apply BitVec.eq_of_getLsbD_eq; intro i hi
  rw [pr, pk_top a 32 (by omega) i hi]; simp
theorem pr_it (a : W) (k : Nat) : pr a (it k top) = it k a := by
  show pk a (it k top) 32 = _
  rw [pk_it]
  show it k (pr a top) = _
  rw [pr_top]
/-- where nothing is left of a the sum is whole -/
theorem pk_done (a b : W) (k : Nat) (hk : k ≤ 32) (h : a <<< k = 0) : pk a b k = pr a b := by
  have hz : ∀ i, i < 32 - k → a.getLsbD i = false := by
    intro i hi
    have : (a <<< k).getLsbD (i + k) = false := by rw [h]; simp
    rw [BitVec.getLsbD_shiftLeft] at this
    simpa [show i + k < 32 by omega] using this
  have : ∀ j, k + j ≤ 32 → pk a b (k + j) = pk a b k := by
    intro j
    induction j with
    | zero => intro _; rfl
    | succ j ih =>
      intro hj
      rw [← Nat.add_assoc]
      simp only [pk]
      rw [hz (31 - (k + j)) (by omega), ih (by omega)]; rfl
  have := this (32 - k) (by omega)
  rw [show k + (32 - k) = 32 by omega] at this
  exact this.symm
theorem shl_ne (a : W) (k : Nat) (hk : 32 ≤ k) : a <<< k = 0 := by
  apply BitVec.eq_of_getLsbD_eq; intro i hi
  rw [BitVec.getLsbD_shiftLeft]; simp; omega

end Go.Proofs.YticfnfekkmkclaaGreatDoor.Crc
