/-
  The Reader's short numbers.
-/
import Derived.Test.YthaafniahkejkaaB10
import Derived.Test.YthaafniahkejkaaBC
namespace Go.Proofs.Ythaafniahkejkaa.Wire
open Go.RowKit

theorem or_step (acc k m : Nat) (hacc : acc < 128 ^ k) (hk : k ≤ 9) (hm : m < 128) (h9 : k = 9 → m ≤ 1) : bits .or .u64 (U acc) (IntKind.u64.wrap ((m : Int) * 2 ^ (7 * k))) = U (acc + 128 ^ k * m) := by
  have hp : (128 : Nat) ^ k = 2 ^ (7 * k) := by rw [Nat.pow_mul]
  have hb : 2 ^ (7 * k) * m < 18446744073709551616 := by
    by_cases h : k = 9
    · have := h9 h; subst h
      have : 2 ^ (7 * 9) * m ≤ 2 ^ (7 * 9) * 1 := Nat.mul_le_mul_left _ this
      omega
    · have h2 : (2 : Nat) ^ (7 * k) ≤ 2 ^ 56 := Nat.pow_le_pow_right (by decide) (by omega)
      have : 2 ^ (7 * k) * m ≤ 2 ^ 56 * 127 := Nat.mul_le_mul h2 (by omega)
      omega
  have e : (m : Int) * 2 ^ (7 * k) = ((2 ^ (7 * k) * m : Nat) : Int) := by
    rw [Int.natCast_mul, Int.natCast_pow, Int.mul_comm]; rfl
  have ha : acc < 18446744073709551616 := by
    have : (128 : Nat) ^ k ≤ 128 ^ 9 := Nat.pow_le_pow_right (by decide) hk
    omega
  have hw : IntKind.u64.wrap ((2 ^ (7 * k) * m : Nat) : Int) = ((2 ^ (7 * k) * m : Nat) : Int) := by rw [IntKind.wrap_u64]; omega
  rw [e, hw]
  unfold U
  rw [u64_or_nat _ _ ha hb, Nat.or_comm, or_add _ _ _ (by rw [← hp]; exact hacc), hp, Nat.add_comm]
theorem scan_at (s : ByteArray) (k acc : Nat) (h : k < s.size) : scan (s.data.toList.drop k) k acc =
    if (k = 9 ∧ 1 < s[k].toNat) ∨ (0 < k ∧ s[k].toNat = 0) then (0, 0, 4) else if s[k].toNat < 128 then (acc + 128 ^ k * (s[k].toNat % 128), k + 1, 0) else scan (s.data.toList.drop (k + 1)) (k + 1) (acc + 128 ^ k * (s[k].toNat % 128)) := by
  rw [List.drop_eq_getElem_cons (by simpa using h), scan]; rfl
theorem scan_end (s : ByteArray) (k acc : Nat) (h : s.size ≤ k) : scan (s.data.toList.drop k) k acc = (0, 0, 8) := by
  rw [List.drop_of_length_le (by simpa using h), scan]
theorem pow_step {acc k m : Nat} (ha : acc < 128 ^ k) (hm : m < 128) : acc + 128 ^ k * m < 128 ^ (k + 1) := by
  rw [Nat.pow_succ]
  have : 128 ^ k * m ≤ 128 ^ k * 127 := Nat.mul_le_mul_left _ (by omega)
  omega
/-- what a short number tells -/
def scT (s : ByteArray) (R : Nat × Nat × Nat) : Ending := .returned (.tuple #[.int .u64 (U R.1), .int .i64 (R.2.1 : Int), .int .i64 (R.2.2 : Int)])

end Go.Proofs.Ythaafniahkejkaa.Wire
