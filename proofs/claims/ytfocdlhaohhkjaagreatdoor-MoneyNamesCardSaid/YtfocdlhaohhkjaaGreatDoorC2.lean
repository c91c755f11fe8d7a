/-
  Money, plain: products, fees, sums that are capped. No program.
-/
import Derived.Test.YtfocdlhaohhkjaaGreatDoorC1
namespace Go.Proofs.YtfocdlhaohhkjaaGreatDoor.Money

/-- the product, or what is refused -/
def mN (p q : Int) : Int := if p < 0 ∨ q < 0 then 0 else tN (p * q)
def mE (p q : Int) : Int := if p < 0 ∨ q < 0 then 1 else tE (p * q)
/-- the fee -/
def feeV (n b : Int) : Int := n / 10000 * b + n % 10000 * b / 10000
theorem feeV_eq (n b : Int) : feeV n b = n * b / 10000 := by
  unfold feeV
  have h : n * b = n % 10000 * b + 10000 * (n / 10000 * b) := by
    have h1 := Int.emod_add_mul_ediv n 10000
    have h2 : n * b = (n % 10000 + 10000 * (n / 10000)) * b := by rw [h1]
    rw [h2, Int.add_mul, Int.mul_assoc]
  rw [h, Int.add_mul_ediv_left _ _ (by decide)]
  omega
def fN (n b : Int) : Int := if n < 0 ∨ b < 0 ∨ 1000 < b then 0 else if 4611686018427387904 < n then 0 else feeV n b
def fE (n b : Int) : Int := if n < 0 ∨ b < 0 ∨ 1000 < b then 1 else if 4611686018427387904 < n then 41 else 0
/-- a part of a fee is small: nothing on the way runs over -/
theorem fee_parts (n b : Int) (h0 : 0 ≤ n) (h1 : n ≤ 4611686018427387904) (b0 : 0 ≤ b) (b1 : b ≤ 1000) :
    0 ≤ n / 10000 * b ∧ n / 10000 * b ≤ 461168601842738790400 / 1000 ∧ 0 ≤ n % 10000 * b ∧ n % 10000 * b ≤ 9999000 := by
  have q0 : 0 ≤ n / 10000 := by omega
  have q1 : n / 10000 ≤ 461168601842738 := by omega
  have r0 : 0 ≤ n % 10000 := by omega
  have r1 : n % 10000 ≤ 9999 := by omega
  have a := Int.mul_le_mul q1 b1 b0 (by decide)
  have c := Int.mul_le_mul r1 b1 b0 (by decide)
  have a0 := Int.mul_nonneg q0 b0
  have c0 := Int.mul_nonneg r0 b0
  refine ⟨a0, by omega, c0, by omega⟩
theorem feeV_bd (n b : Int) (h0 : 0 ≤ n) (h1 : n ≤ 4611686018427387904) (b0 : 0 ≤ b) (b1 : b ≤ 1000) : 0 ≤ feeV n b ∧ feeV n b ≤ 461168601842738790 ∧ feeV n b ≤ n / 10 := by
  have p0 := Int.mul_nonneg h0 b0
  have p1 := Int.mul_le_mul_of_nonneg_left b1 h0
  rw [feeV_eq]; omega
theorem feeV_sum (a b f : Int) : feeV (a + b) f = feeV a f + feeV b f ∨ feeV (a + b) f = feeV a f + feeV b f + 1 := by
  rw [feeV_eq, feeV_eq, feeV_eq, Int.add_mul]; omega
theorem feeV_more (a b f : Int) (h : a ≤ b) (f0 : 0 ≤ f) : feeV a f ≤ feeV b f := by
  have := Int.mul_le_mul_of_nonneg_right h f0
  rw [feeV_eq, feeV_eq]; omega
theorem feeV_by (a f g : Int) (h : f ≤ g) (a0 : 0 ≤ a) : feeV a f ≤ feeV a g := by
  have := Int.mul_le_mul_of_nonneg_left h a0
  rw [feeV_eq, feeV_eq]; omega
theorem feeV_zero (a : Int) : feeV a 0 = 0 := by rw [feeV_eq, Int.mul_zero]; rfl

/-- each number from 0 to MaxTotal -/
def clamp (a : Int) : Int := min (max a 0) 4611686018427387904
def capV (a b : Int) : Int := min (clamp a + clamp b) 4611686018427387904
theorem clamp_bd (a : Int) : 0 ≤ clamp a ∧ clamp a ≤ 4611686018427387904 := by unfold clamp; omega
theorem cap_way (a b : Int) : clamp a + min (max b 0) (4611686018427387904 - clamp a) = capV a b := by unfold capV clamp; omega
theorem cap_bd (a b : Int) : 0 ≤ capV a b ∧ capV a b ≤ 4611686018427387904 := by unfold capV clamp; omega
theorem cap_comm (a b : Int) : capV a b = capV b a := by unfold capV; rw [Int.add_comm]
theorem cap_assoc (a b c : Int) : capV (capV a b) c = capV a (capV b c) := by unfold capV clamp; omega
theorem cap_zero (a : Int) : capV a 0 = clamp a := by unfold capV clamp; omega
theorem cap_sum (a b : Int) : capV a b = if near (clamp a + clamp b) = true then clamp a + clamp b else 4611686018427387904 := by
  have ha := clamp_bd a; have hb := clamp_bd b
  unfold capV
  cases h : near (clamp a + clamp b) with
  | true => rw [if_pos rfl]; have := near_iff.1 h; omega
  | false => rw [if_neg (by decide)]; have := near_no.1 h; omega

end Go.Proofs.YtfocdlhaohhkjaaGreatDoor.Money
