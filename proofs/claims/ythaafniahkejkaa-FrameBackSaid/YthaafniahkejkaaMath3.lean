/-
  Bursts: bits in a row that are turned. No Go text is named here.
-/
import Derived.Test.YthaafniahkejkaaMath2
namespace Go.Proofs.Ythaafniahkejkaa.Crc

def bit8 (k : Nat) : UInt8 := UInt8.ofNat (2 ^ k)
theorem bit8_test (k j : Nat) (hk : k < 8) : (bit8 k).toNat.testBit j = decide (j = k) := by
  unfold bit8
  have h2 : 2 ^ k < 2 ^ 8 := Nat.pow_lt_pow_right (by omega) hk
  rw [UInt8.toNat_ofNat', Nat.mod_eq_of_lt (by omega), Nat.testBit_two_pow]
  by_cases e : k = j
  · subst e; simp
  · simp [e, Ne.symm e]
def turn (l : List UInt8) (q : Nat) : List UInt8 := l.set (q / 8) (l.getD (q / 8) 0 ^^^ bit8 (q % 8))
def tog (l : List UInt8) (f : Nat) (p : W) : Nat → List UInt8
  | 0 => l
  | i + 1 => if p.getLsbD i then turn (tog l f p i) (f + i) else tog l f p i
def anyB (p : W) : Nat → Bool
  | 0 => false
  | i + 1 => anyB p i || p.getLsbD i
theorem turn_length (l : List UInt8) (q : Nat) : (turn l q).length = l.length := by unfold turn; rw [List.length_set]
theorem tog_length (l : List UInt8) (f : Nat) (p : W) (i : Nat) : (tog l f p i).length = l.length := by
  induction i with
  | zero => rfl
  | succ i ih =>
    simp only [tog]; split
    · rw [turn_length, ih]
    · exact ih
theorem turn_bit (l : List UInt8) (q j : Nat) (hq : q < 8 * l.length) : bitAt (turn l q) j = (bitAt l j ^^ decide (j = q)) := by
  unfold bitAt turn
  have hlt : q / 8 < l.length := by omega
  by_cases e : j / 8 = q / 8
  · rw [e, List.getD_eq_getElem?_getD, List.getElem?_set_self hlt]
    simp only [Option.getD_some]
    rw [UInt8.toNat_xor, Nat.testBit_xor, bit8_test _ _ (Nat.mod_lt _ (by omega))]
    congr 1
    by_cases g : j % 8 = q % 8
    · have : j = q := by omega
      simp [this]
    · have : ¬ j = q := fun h => g (by rw [h])
      simp [g, this]
  · have hne : ¬ j = q := fun h => e (by rw [h])
    rw [List.getD_eq_getElem?_getD, List.getElem?_set_ne (fun h => e h.symm), ← List.getD_eq_getElem?_getD]
    simp [hne]
theorem tog_bit (l : List UInt8) (f : Nat) (p : W) (i : Nat) (h : f + i ≤ 8 * l.length) (j : Nat) : bitAt (tog l f p i) j = (bitAt l j ^^ (decide (f ≤ j ∧ j < f + i) && p.getLsbD (j - f))) := by
  induction i with
  | zero =>
    have : ¬ (f ≤ j ∧ j < f + 0) := by omega
    show bitAt l j = _
    rw [decide_eq_false this]; simp
  | succ i ih =>
    have hih := ih (by omega)
    simp only [tog]
    by_cases hj : j = f + i
    · subst hj
      have h0 : ¬ (f ≤ f + i ∧ f + i < f + i) := by omega
      have h1 : f ≤ f + i ∧ f + i < f + (i + 1) := by omega
      have h2 : f + i - f = i := by omega
      cases hp : p.getLsbD i
      · simp only [Bool.false_eq_true, if_false]
        rw [hih, h2, hp]; simp
      · simp only [if_true]
        rw [turn_bit _ _ _ (by rw [tog_length]; omega), hih, h2, hp]
        simp [h0, h1]
    · have e : decide (f ≤ j ∧ j < f + i) = decide (f ≤ j ∧ j < f + (i + 1)) := by
        apply decide_eq_decide.2; omega
      cases hp : p.getLsbD i
      · simp only [Bool.false_eq_true, if_false]
        rw [hih, e]
      · simp only [if_true]
        rw [turn_bit _ _ _ (by rw [tog_length]; omega), hih, e]
        simp [hj]
theorem anyB_iff (p : W) (k : Nat) : anyB p k = false ↔ ∀ i, i < k → p.getLsbD i = false := by
  induction k with
  | zero => simp [anyB]
  | succ k ih =>
    simp only [anyB, Bool.or_eq_false_iff]
    rw [ih]
    constructor
    · rintro ⟨h1, h2⟩ i hi
      by_cases e : i = k
      · subst e; exact h2
      · exact h1 i (by omega)
    · intro h; exact ⟨fun i hi => h i (by omega), h k (by omega)⟩
/-- the lower k bits -/
def low (p : W) (k : Nat) : W := p ^^^ ((p >>> k) <<< k)
theorem low_bit (p : W) (k i : Nat) (hi : i < 32) : (low p k).getLsbD i = (decide (i < k) && p.getLsbD i) := by
  unfold low
  rw [BitVec.getLsbD_xor, BitVec.getLsbD_shiftLeft, BitVec.getLsbD_ushiftRight]
  by_cases h : i < k
  · simp [h]
  · have : k + (i - k) = i := by omega
    simp [h, hi, this]
theorem low_zero (p : W) (k : Nat) (hk : k ≤ 32) : low p k = 0 ↔ anyB p k = false := by
  rw [anyB_iff]
  constructor
  · intro h i hi
    have := low_bit p k i (by omega)
    rw [h] at this
    simpa [hi] using this.symm
  · intro h
    apply BitVec.eq_of_getLsbD_eq; intro i hi
    rw [low_bit p k i hi]
    by_cases g : i < k
    · rw [h i g]; simp
    · simp [g]
theorem rb_low (p : W) (k : Nat) (hk : k ≤ 32) : rb 0 (fun i => p.getLsbD i) k = it k (low p k) := by
  have h := rb_word 0 p k hk
  have e0 : (0 : W) ^^^ p = p := BitVec.zero_xor
  have e1 : it k ((p >>> k) <<< k) = p >>> k := by
    apply it_shl k _ hk
    intro i hi
    rw [BitVec.getLsbD_ushiftRight, BitVec.getLsbD_of_ge _ _ (by omega)]
  rw [e0] at h
  have h2 : it k (low p k) = it k p ^^^ (p >>> k) := by unfold low; rw [it_xor, e1]
  rw [h2, ← h, BitVec.xor_assoc, BitVec.xor_self]; exact BitVec.xor_zero.symm
theorem burst_raw (c : W) (l : List UInt8) (f : Nat) (p : W) (k : Nat) (hk : k ≤ 32) (h : f + k ≤ 8 * l.length) : (raw c l = raw c (tog l f p k)) ↔ anyB p k = false := by
  have hx : raw c l ^^^ raw c (tog l f p k) = rb 0 (fun j => decide (f ≤ j ∧ j < f + k) && p.getLsbD (j - f)) (8 * l.length) := by
    rw [raw_rb, raw_rb, tog_length, ← rb_xor, BitVec.xor_self]
    apply rb_congr
    intro j _
    rw [tog_bit l f p k h j]
    cases bitAt l j <;> simp
  have hr : 8 * l.length = f + (k + (8 * l.length - f - k)) := by omega
  have h1 : rb 0 (fun j => decide (f ≤ j ∧ j < f + k) && p.getLsbD (j - f)) f = 0 := by
    rw [rb_false _ _ _ (fun i hi => by have : ¬ (f ≤ i ∧ i < f + k) := by omega
                                       simp [this]), it_zero]
  have h2 : rb 0 (fun i => decide (f ≤ f + i ∧ f + i < f + k) && p.getLsbD (f + i - f)) k = it k (low p k) := by
    rw [← rb_low p k hk]
    apply rb_congr
    intro i hi
    have : f + i - f = i := by omega
    rw [this]; simp [hi]
  have hfin : raw c l ^^^ raw c (tog l f p k) = it (8 * l.length - f - k) (it k (low p k)) := by
    rw [hx, hr, rb_add, h1, rb_add, h2]
    have e : f + (k + (8 * l.length - f - k)) - f - k = 8 * l.length - f - k := by omega
    rw [e]
    exact rb_false _ _ _ (fun i _ => by
      have : ¬ (f ≤ f + (k + i) ∧ f + (k + i) < f + k) := by omega
      simp only [this, decide_false, Bool.false_and])
  rw [← low_zero p k hk]
  constructor
  · intro e
    rw [e, BitVec.xor_self] at hfin
    exact it_eq_zero (it_eq_zero hfin.symm)
  · intro e
    rw [e, it_zero, it_zero] at hfin
    exact xor_eq_zero hfin
theorem burst_of (l : List UInt8) (f : Nat) (p : W) (k : Nat) (hk : k ≤ 32) (h : f + k ≤ 8 * l.length) : (ofW l = ofW (tog l f p k)) ↔ anyB p k = false := by
  rw [← burst_raw (~~~ 0) l f p k hk h]
  unfold ofW addW
  constructor
  · intro e; rw [← not_not (raw _ l), e, not_not]
  · intro e; rw [e]

end Go.Proofs.Ythaafniahkejkaa.Crc
