/-
  The plain mathematics of the checksum: shifts of 32 bits, one bit and one byte at a time. No Go text is named here.
-/
namespace Go.Proofs.Ythaafniahkejkaa.Crc

abbrev W := BitVec 32
def poly : W := 3988292384
def sh (c : W) : W := if c.getLsbD 0 then (c >>> 1) ^^^ poly else c >>> 1
/-- k steps, the last one outside. -/
def it : Nat → W → W
  | 0, c => c
  | k + 1, c => sh (it k c)

theorem xor_shr (a b : W) (n : Nat) : (a ^^^ b) >>> n = (a >>> n) ^^^ (b >>> n) := by
  apply BitVec.eq_of_getLsbD_eq; intro i _
  simp
theorem xor_shl (a b : W) (n : Nat) : (a ^^^ b) <<< n = (a <<< n) ^^^ (b <<< n) := by
  apply BitVec.eq_of_getLsbD_eq; intro i _
  simp only [BitVec.getLsbD_shiftLeft, BitVec.getLsbD_xor]
  by_cases h : i < 32 <;> by_cases g : i < n <;> simp [h, g]
theorem sh_xor (a b : W) : sh (a ^^^ b) = sh a ^^^ sh b := by
  unfold sh
  rw [BitVec.getLsbD_xor, xor_shr]
  cases ha : a.getLsbD 0 <;> cases hb : b.getLsbD 0 <;> simp
  · ac_rfl
  · ac_rfl
  · have : a >>> 1 ^^^ poly ^^^ (b >>> 1 ^^^ poly) = (a >>> 1 ^^^ b >>> 1) ^^^ (poly ^^^ poly) := by ac_rfl
    rw [this]; simp
theorem sh_zero : sh 0 = 0 := by decide
theorem xor_eq_zero {a b : W} (h : a ^^^ b = 0) : a = b := by
  have : a ^^^ b ^^^ b = 0 ^^^ b := by rw [h]
  rw [BitVec.xor_assoc, BitVec.xor_self] at this
  simpa using this
theorem sh_eq_zero {c : W} (h : sh c = 0) : c = 0 := by
  unfold sh at h
  split at h
  · have e := xor_eq_zero h
    have : (c >>> 1).getLsbD 31 = poly.getLsbD 31 := by rw [e]
    rw [BitVec.getLsbD_ushiftRight, BitVec.getLsbD_of_ge _ _ (by omega)] at this
    exact absurd this (by decide)
  · rename_i h0
    apply BitVec.eq_of_getLsbD_eq; intro i hi
    cases i with
    | zero => simpa using h0
    | succ i =>
      have : (c >>> 1).getLsbD i = (0 : W).getLsbD i := by rw [h]
      rw [BitVec.getLsbD_ushiftRight, Nat.add_comm 1 i] at this
      rw [this]; simp
theorem sh_inj {a b : W} (h : sh a = sh b) : a = b := by
  apply xor_eq_zero
  apply sh_eq_zero
  rw [sh_xor, h, BitVec.xor_self]; rfl
theorem it_xor (k : Nat) (a b : W) : it k (a ^^^ b) = it k a ^^^ it k b := by
  induction k with
  | zero => rfl
  | succ k ih => simp only [it]; rw [ih, sh_xor]
theorem it_zero (k : Nat) : it k 0 = 0 := by
  induction k with
  | zero => rfl
  | succ k ih => simp only [it]; rw [ih, sh_zero]
theorem it_inj {k : Nat} {a b : W} (h : it k a = it k b) : a = b := by
  induction k with
  | zero => exact h
  | succ k ih => exact ih (sh_inj h)
theorem it_add (j k : Nat) (c : W) : it (j + k) c = it j (it k c) := by
  induction j with
  | zero => simp [it]
  | succ j ih => rw [Nat.succ_add]; simp only [it]; rw [ih]
theorem it_eq_zero {k : Nat} {c : W} (h : it k c = 0) : c = 0 := it_inj (h.trans (it_zero k).symm)

/-- one bit, as a number -/
def bit (b : Bool) : W := if b then 1 else 0
theorem getLsbD_bit (b : Bool) (i : Nat) : (bit b).getLsbD i = (decide (i = 0) && b) := by
  cases b
  · simp [bit]
  · show (1 : W).getLsbD i = _
    simp [BitVec.getLsbD_one]
theorem split_bit (x : W) : x = bit (x.getLsbD 0) ^^^ ((x >>> 1) <<< 1) := by
  apply BitVec.eq_of_getLsbD_eq; intro i hi
  rw [BitVec.getLsbD_xor, getLsbD_bit, BitVec.getLsbD_shiftLeft, BitVec.getLsbD_ushiftRight]
  cases i with
  | zero => simp
  | succ i => simp [hi, Nat.add_comm]
theorem sh_shl (y : W) (h : y.getLsbD 31 = false) : sh (y <<< 1) = y := by
  unfold sh
  have h0 : (y <<< 1).getLsbD 0 = false := by simp
  rw [h0]
  apply BitVec.eq_of_getLsbD_eq; intro i hi
  simp only [Bool.false_eq_true, if_false, BitVec.getLsbD_ushiftRight, BitVec.getLsbD_shiftLeft]
  by_cases e : i = 31
  · subst e; rw [h]; simp
  · have : 1 + i < 32 := by omega
    simp [this]

/-- the bits f 0, f 1, .. one behind the other, into a checksum that is not finished -/
def rb (c : W) (f : Nat → Bool) : Nat → W
  | 0 => c
  | n + 1 => sh (rb c f n ^^^ bit (f n))
theorem rb_xor (c d : W) (f g : Nat → Bool) (n : Nat) : rb (c ^^^ d) (fun i => f i ^^ g i) n = rb c f n ^^^ rb d g n := by
  induction n with
  | zero => rfl
  | succ n ih =>
    simp only [rb]
    rw [ih, ← sh_xor]
    congr 1
    have : bit (f n ^^ g n) = bit (f n) ^^^ bit (g n) := by cases f n <;> cases g n <;> decide
    rw [this]; ac_rfl
theorem rb_congr {c : W} {f g : Nat → Bool} {n : Nat} (h : ∀ i, i < n → f i = g i) : rb c f n = rb c g n := by
  induction n with
  | zero => rfl
  | succ n ih => simp only [rb]; rw [ih (fun i hi => h i (by omega)), h n (by omega)]
theorem rb_add (c : W) (f : Nat → Bool) (m n : Nat) : rb c f (m + n) = rb (rb c f m) (fun i => f (m + i)) n := by
  induction n with
  | zero => rfl
  | succ n ih => rw [← Nat.add_assoc]; simp only [rb]; rw [ih]
theorem rb_false (c : W) (f : Nat → Bool) (n : Nat) (h : ∀ i, i < n → f i = false) : rb c f n = it n c := by
  induction n with
  | zero => rfl
  | succ n ih => simp only [rb, it]; rw [ih (fun i hi => h i (by omega)), h n (by omega)]; simp [bit]
/-- THE KEY: the bits of a number go in as the number does. -/
theorem rb_word (c x : W) (n : Nat) (h : n ≤ 32) : rb c (fun i => x.getLsbD i) n ^^^ (x >>> n) = it n (c ^^^ x) := by
  induction n with
  | zero => simp [rb, it]
  | succ n ih =>
    simp only [rb, it]
    rw [← ih (by omega)]
    have e : x >>> n = bit (x.getLsbD n) ^^^ ((x >>> (n + 1)) <<< 1) := by
      have := split_bit (x >>> n)
      rw [BitVec.getLsbD_ushiftRight, Nat.add_zero] at this
      rw [BitVec.shiftRight_add]
      exact this
    have h31 : (x >>> (n + 1)).getLsbD 31 = false := by
      rw [BitVec.getLsbD_ushiftRight, BitVec.getLsbD_of_ge _ _ (by omega)]
    conv => rhs; rw [e, ← BitVec.xor_assoc, sh_xor, sh_shl _ h31]
theorem shr_32 (x : W) : x >>> 32 = 0 := by
  apply BitVec.eq_of_getLsbD_eq; intro i hi
  simp
theorem rb_word32 (c x : W) : rb c (fun i => x.getLsbD i) 32 = it 32 (c ^^^ x) := by
  have := rb_word c x 32 (Nat.le_refl _)
  rw [shr_32] at this; simpa using this

/-- one byte -/
def w8 (b : UInt8) : W := BitVec.ofNat 32 b.toNat
theorem getLsbD_w8 (b : UInt8) (i : Nat) : (w8 b).getLsbD i = b.toNat.testBit i := by
  unfold w8
  rw [BitVec.getLsbD_ofNat]
  by_cases h : i < 32
  · simp [h]
  · have : b.toNat.testBit i = false := Nat.testBit_lt_two_pow (Nat.lt_of_lt_of_le b.toNat_lt (Nat.pow_le_pow_right (by omega) (by omega)))
    simp [h]
    rw [this]
def step (c : W) (b : UInt8) : W := it 8 (c ^^^ w8 b)
theorem w8_shr (b : UInt8) : w8 b >>> 8 = 0 := by
  apply BitVec.eq_of_getLsbD_eq; intro i hi
  rw [BitVec.getLsbD_ushiftRight, getLsbD_w8]
  have : b.toNat.testBit (8 + i) = false := Nat.testBit_lt_two_pow (Nat.lt_of_lt_of_le b.toNat_lt (Nat.pow_le_pow_right (n := 2) (i := 8) (by omega) (by omega)))
  rw [this]; simp
theorem rb_byte (c : W) (b : UInt8) : rb c (fun i => b.toNat.testBit i) 8 = step c b := by
  have := rb_word c (w8 b) 8 (by omega)
  rw [w8_shr] at this
  rw [step, ← this]
  show _ = _ ^^^ BitVec.ofNat 32 0
  rw [BitVec.xor_zero]
  exact rb_congr (fun i _ => (getLsbD_w8 b i).symm)
/-- the state behind all bytes -/
def raw (c : W) (l : List UInt8) : W := l.foldl step c
def bitAt (l : List UInt8) (j : Nat) : Bool := (l.getD (j / 8) 0).toNat.testBit (j % 8)
theorem raw_rb (c : W) (l : List UInt8) : raw c l = rb c (bitAt l) (8 * l.length) := by
  induction l generalizing c with
  | nil => rfl
  | cons b l ih =>
    show raw (step c b) l = _
    rw [ih, List.length_cons, show 8 * (l.length + 1) = 8 + 8 * l.length by omega, rb_add]
    have e : rb c (bitAt (b :: l)) 8 = step c b := by
      rw [← rb_byte]
      apply rb_congr
      intro i hi
      simp [bitAt, Nat.div_eq_of_lt hi, Nat.mod_eq_of_lt hi]
    rw [e]
    apply rb_congr
    intro i _
    simp only [bitAt]
    rw [show (8 + i) / 8 = i / 8 + 1 by omega, show (8 + i) % 8 = i % 8 by omega]
    simp
theorem raw_append (c : W) (l m : List UInt8) : raw c (l ++ m) = raw (raw c l) m := by simp [raw]
theorem step_inj {c d : W} {b : UInt8} (h : step c b = step d b) : c = d := by
  have := it_inj h
  have : c ^^^ w8 b ^^^ w8 b = d ^^^ w8 b ^^^ w8 b := by rw [this]
  rw [BitVec.xor_assoc, BitVec.xor_assoc, BitVec.xor_self] at this
  simpa using this
theorem raw_inj {c d : W} {l : List UInt8} (h : raw c l = raw d l) : c = d := by
  induction l generalizing c d with
  | nil => exact h
  | cons b l ih => exact step_inj (ih h)


/-! ### back -/
def un (c : W) : W := (if c.getLsbD 31 then c ^^^ poly else c) <<< 1 ^^^ bit (c.getLsbD 31)
theorem sh_un (c : W) : sh (un c) = c := by
  unfold un
  have hd : ∀ d : W, d.getLsbD 31 = false → sh (d <<< 1 ^^^ bit false) = d := by
    intro d hd
    have : bit false = BitVec.ofNat 32 0 := rfl
    rw [this, BitVec.xor_zero, sh_shl d hd]
  cases h : c.getLsbD 31
  · exact hd c h
  · simp only [if_true]
    rw [sh_xor, sh_shl]
    · have : sh (bit true) = poly := by decide
      rw [this, BitVec.xor_assoc, BitVec.xor_self]; exact BitVec.xor_zero
    · rw [BitVec.getLsbD_xor, h]; decide
def iun : Nat → W → W
  | 0, c => c
  | k + 1, c => iun k (un c)
theorem it_iun (k : Nat) (c : W) : it k (iun k c) = c := by
  induction k generalizing c with
  | zero => rfl
  | succ k ih => show sh (it k (iun k (un c))) = c; rw [ih, sh_un]
def unstep (c : W) (b : UInt8) : W := iun 8 c ^^^ w8 b
theorem step_unstep (c : W) (b : UInt8) : step (unstep c b) b = c := by
  unfold step unstep
  rw [BitVec.xor_assoc, BitVec.xor_self, BitVec.xor_zero, it_iun]
theorem unstep_of {c d : W} {b : UInt8} (h : step d b = c) : d = unstep c b := step_inj (h.trans (step_unstep c b).symm)
def unraw (c : W) (l : List UInt8) : W := l.foldr (fun b c => unstep c b) c
theorem raw_unraw (c : W) (l : List UInt8) : raw (unraw c l) l = c := by
  induction l generalizing c with
  | nil => rfl
  | cons b l ih => show raw (step (unstep (unraw c l) b) b) l = c; rw [step_unstep, ih]
theorem unraw_of {c d : W} {l : List UInt8} (h : raw d l = c) : d = unraw c l := raw_inj (h.trans (raw_unraw c l).symm)
theorem unraw_raw (c : W) (l : List UInt8) : unraw (raw c l) l = c := (unraw_of rfl).symm
theorem unraw_append (c : W) (l m : List UInt8) : unraw c (l ++ m) = unraw (unraw c m) l := by simp [unraw]

/-! ### the calls' own answers -/
def addW (c : W) (l : List UInt8) : W := ~~~ raw (~~~ c) l
/-- the checksum of a text -/
def ofW (l : List UInt8) : W := addW 0 l
def backW (c : W) (l : List UInt8) : W := ~~~ unraw (~~~ c) l
def bothW (a b : W) (n : Nat) : W := it (8 * n) a ^^^ b
def fourL (c : W) : List UInt8 := [UInt8.ofNat c.toNat, UInt8.ofNat (c.toNat / 256), UInt8.ofNat (c.toNat / 65536), UInt8.ofNat (c.toNat / 16777216)]
theorem not_not (c : W) : ~~~ ~~~ c = c := by simp
theorem back_add (c : W) (l : List UInt8) : backW (addW c l) l = c := by
  unfold backW addW; rw [not_not, unraw_raw, not_not]
theorem add_back (c : W) (l : List UInt8) : addW (backW c l) l = c := by
  unfold backW addW; rw [not_not, raw_unraw, not_not]
theorem add_append (c : W) (l m : List UInt8) : addW c (l ++ m) = addW (addW c l) m := by
  unfold addW; rw [raw_append, not_not]
theorem back_append (c : W) (l m : List UInt8) : backW c (l ++ m) = backW (backW c m) l := by
  unfold backW; rw [unraw_append, not_not]
theorem add_inj {c d : W} {l : List UInt8} (h : addW c l = addW d l) : c = d := by
  rw [← back_add c l, h, back_add]
theorem bitAt_fourL (c : W) (j : Nat) (h : j < 32) : bitAt (fourL c) j = c.getLsbD j := by
  have hb : ∀ (n k : Nat), k < 8 → (UInt8.ofNat n).toNat.testBit k = n.testBit k := by
    intro n k hk
    rw [UInt8.toNat_ofNat', Nat.testBit_mod_two_pow]; simp [hk]
  have hd : ∀ k i, (c.toNat / 2 ^ k).testBit i = c.getLsbD (k + i) := by
    intro k i
    rw [← Nat.shiftRight_eq_div_pow, Nat.testBit_shiftRight]; rfl
  unfold bitAt fourL
  have h0 := hd 0 (j % 8); have h1 := hd 8 (j % 8); have h2 := hd 16 (j % 8); have h3 := hd 24 (j % 8)
  simp only [Nat.pow_zero, Nat.div_one, Nat.reducePow] at h0 h1 h2 h3
  have hj : j / 8 = 0 ∨ j / 8 = 1 ∨ j / 8 = 2 ∨ j / 8 = 3 := by omega
  rcases hj with e | e | e | e <;> rw [e] <;> simp only [List.getD_cons_zero, List.getD_cons_succ] <;> rw [hb _ _ (by omega)]
  · rw [h0]; congr 1; omega
  · rw [h1]; congr 1; omega
  · rw [h2]; congr 1; omega
  · rw [h3]; congr 1; omega
theorem raw_fourL (c w : W) : raw c (fourL w) = it 32 (c ^^^ w) := by
  rw [raw_rb, ← rb_word32]
  exact rb_congr (fun i hi => bitAt_fourL w i hi)

/-! ### sums -/
theorem raw_xor (c d : W) (l m n : List UInt8) (hl : l.length = n.length) (hm : m.length = n.length) (h : ∀ j, j < 8 * n.length → bitAt n j = (bitAt l j ^^ bitAt m j)) : raw c l ^^^ raw d m = raw (c ^^^ d) n := by
  rw [raw_rb, raw_rb, raw_rb, hl, hm, ← rb_xor]
  exact rb_congr (fun i hi => (h i hi).symm)

end Go.Proofs.Ythaafniahkejkaa.Crc
