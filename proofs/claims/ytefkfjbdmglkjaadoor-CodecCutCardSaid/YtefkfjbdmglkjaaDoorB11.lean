/-
  The Reader's short numbers.
-/
import Derived.Test.YtefkfjbdmglkjaaDoorB10
import Derived.Test.YtefkfjbdmglkjaaDoorBC
namespace Go.Proofs.YtefkfjbdmglkjaaDoor.Wire
open Go.RowKit

theorem or_step (acc k m : Nat) (hacc : acc < 128 ^ k) (hk : k ≤ 9) (hm : m < 128) (h9 : k = 9 → m ≤ 1) : bits .or .u64 (U acc) (IntKind.u64.wrap ((m : Int) * 2 ^ (7 * k))) = U (acc + 128 ^ k * m) := by
  have hp : (128 : Nat) ^ k = 2 ^ (7 * k) := by rw [Nat.pow_mul]
  have hb : 2 ^ (7 * k) * m < 18446744073709551616 := by
    by_cases h : k = 9
    · have := h9 h; subst h
      have : 2 ^ (7 * 9) * m ≤ 2 ^ (7 * 9) * 1 := Nat.mul_le_mul_left _ this
      omega
    · have h2 : (2 : Nat) ^ (7 * k) ≤ 2 ^ 56 := Nat.pow_le_pow_right (by decide) (by omega)
      have : 2 ^ (7 * k) * m ≤ 2 ^ 56 * 127 := Nat.mul_le_mul h2 (by omega)
      omega
  have e : (m : Int) * 2 ^ (7 * k) = ((2 ^ (7 * k) * m : Nat) : Int) := by
    rw [Int.natCast_mul, Int.natCast_pow, Int.mul_comm]; rfl
  have ha : acc < 18446744073709551616 := by
    have : (128 : Nat) ^ k ≤ 128 ^ 9 := Nat.pow_le_pow_right (by decide) hk
    omega
  have hw : IntKind.u64.wrap ((2 ^ (7 * k) * m : Nat) : Int) = ((2 ^ (7 * k) * m : Nat) : Int) := by rw [IntKind.wrap_u64]; omega
  rw [e, hw]
  unfold U
  rw [u64_or_nat _ _ ha hb, Nat.or_comm, or_add _ _ _ (by rw [← hp]; exact hacc), hp, Nat.add_comm]
theorem scan_at (s : ByteArray) (k acc : Nat) (h : k < s.size) : scan (s.data.toList.drop k) k acc =
    if (k = 9 ∧ 1 < s[k].toNat) ∨ (0 < k ∧ s[k].toNat = 0) then (0, 0, 4) else if s[k].toNat < 128 then (acc + 128 ^ k * (s[k].toNat % 128), k + 1, 0) else scan (s.data.toList.drop (k + 1)) (k + 1) (acc + 128 ^ k * (s[k].toNat % 128)) := by
  rw [List.drop_eq_getElem_cons (by simpa using h), scan]; rfl
theorem scan_end (s : ByteArray) (k acc : Nat) (h : s.size ≤ k) : scan (s.data.toList.drop k) k acc = (0, 0, 8) := by
  rw [List.drop_of_length_le (by simpa using h), scan]
theorem pow_step {acc k m : Nat} (ha : acc < 128 ^ k) (hm : m < 128) : acc + 128 ^ k * m < 128 ^ (k + 1) := by
  rw [Nat.pow_succ]
  have : 128 ^ k * m ≤ 128 ^ k * 127 := Nat.mul_le_mul_left _ (by omega)
  omega
/-- what a short number tells -/
def scT (s : ByteArray) (R : Nat × Nat × Nat) : Ending := .returned (.tuple #[.int .u64 (U R.1), .int .i64 (R.2.1 : Int), .int .i64 (R.2.2 : Int)])

set_option maxRecDepth 100000 in
set_option maxHeartbeats 1000000 in
theorem rshort_walk (s : ByteArray) (w : World) (hs : s.size ≤ 1000000000000) :
    Calls Tryd.prog 84 #[.string s] w fun x w' => x = scT s (scan s.data.toList 0 0) ∧ w = w' := by
  obtain ⟨R, hR0⟩ : ∃ R, R = scan s.data.toList 0 0 := ⟨_, rfl⟩
  rw [← hR0]
  have HR0 := Lib.hid hR0; clear hR0
  go_enter Tryd.func84, Tryd.ntmps84
  go_wp2_with fail
  go_loop [2, 9] (fun n j => ∃ k acc : Nat, k ≤ s.size ∧ k ≤ 9 ∧ j = .int .i64 k ∧ n = .int .u64 (U acc) ∧ Hid (acc < 128 ^ k ∧ scan (s.data.toList.drop k) k acc = R)) (fun _ j => s.size - (intOf j).toNat)
  case atStart => exact ⟨0, 0, Nat.zero_le _, by omega, rfl, rfl, by decide, HR0.out.symm⟩
  case round =>
    obtain ⟨k, acc, hk, hk9, rfl, rfl, hR⟩ := hrel
    by_cases hlt : k < s.size
    · have HS := Lib.hid ((scan_at s k acc hlt).symm.trans hR.out.2)
      have HA := Lib.hid hR.out.1
      have hcl := s[k].toNat_lt
      clear hR
      have hcases : (k = 9 ∧ 1 < s[k].toNat) ∨ (k = 9 ∧ s[k].toNat = 0) ∨ (k = 9 ∧ s[k].toNat = 1) ∨ (k ≠ 9 ∧ 0 < k ∧ s[k].toNat = 0) ∨ (k ≠ 9 ∧ 0 < k ∧ s[k].toNat ≠ 0 ∧ s[k].toNat < 128) ∨ (k ≠ 9 ∧ 0 < k ∧ s[k].toNat ≠ 0 ∧ 128 ≤ s[k].toNat) ∨ (k = 0 ∧ s[k].toNat < 128) ∨ (k = 0 ∧ 128 ≤ s[k].toNat) := by omega
      rcases hcases with hq | hq | hq | hq | hq | hq | hq | hq
      · have HB : Hid (R = (0, 0, 4)) := by
          have := HS.out; rw [if_pos (by omega)] at this; exact this.symm
        have i9 : ((k : Int) == 9) = true := by rw [beq_iff_eq]; omega
        have ic1 : (1 : Int) < (s[k].toNat : Int) := by omega
        clear HS
        have HQ := Lib.hid hq; clear hq
        go_wp2_with fail
        go_ret3
        exact ⟨by rw [HB.out]; rfl, rfl⟩
      · have HB : Hid (R = (0, 0, 4)) := by
          have := HS.out; rw [if_pos (by omega)] at this; exact this.symm
        have i9 : ((k : Int) == 9) = true := by rw [beq_iff_eq]; omega
        have ic1 : (s[k].toNat : Int) ≤ 1 := by omega
        have ip : (0 : Int) < (k : Int) := by omega
        have ic0 : ((s[k].toNat : Int) == 0) = true := by rw [beq_iff_eq]; omega
        clear HS
        have HQ := Lib.hid hq; clear hq
        go_wp2_with fail
        go_ret3
        exact ⟨by rw [HB.out]; rfl, rfl⟩
      · have HB : Hid ((acc + 128 ^ k * (s[k].toNat % 128), k + 1, 0) = R) := by
          have := HS.out; rw [if_neg (by omega), if_pos (by omega)] at this; exact this
        have i9 : ((k : Int) == 9) = true := by rw [beq_iff_eq]; omega
        have ic1 : (s[k].toNat : Int) ≤ 1 := by omega
        have ip : (0 : Int) < (k : Int) := by omega
        have ic0 : ((s[k].toNat : Int) == 0) = false := by rw [beq_eq_false_iff_ne]; omega
        have il : (s[k].toNat : Int) < 128 := by omega
        clear HS
        have HQ := Lib.hid hq; clear hq
        go_wp2_with fail
        go_ret3
        exact ⟨by rw [← HB.out]; exact congrArg (fun z => Ending.returned (.tuple #[.int .u64 z, .int .i64 ((k : Int) + 1), .int .i64 0])) (or_step acc k (s[k].toNat % 128) HA.out hk9 (Nat.mod_lt _ (by decide)) (by have := HQ.out; omega)), rfl⟩
      · have HB : Hid (R = (0, 0, 4)) := by
          have := HS.out; rw [if_pos (by omega)] at this; exact this.symm
        have i9 : ((k : Int) == 9) = false := by rw [beq_eq_false_iff_ne]; omega
        have ip : (0 : Int) < (k : Int) := by omega
        have ic0 : ((s[k].toNat : Int) == 0) = true := by rw [beq_iff_eq]; omega
        clear HS
        have HQ := Lib.hid hq; clear hq
        go_wp2_with fail
        go_ret3
        exact ⟨by rw [HB.out]; rfl, rfl⟩
      · have HB : Hid ((acc + 128 ^ k * (s[k].toNat % 128), k + 1, 0) = R) := by
          have := HS.out; rw [if_neg (by omega), if_pos (by omega)] at this; exact this
        have i9 : ((k : Int) == 9) = false := by rw [beq_eq_false_iff_ne]; omega
        have ip : (0 : Int) < (k : Int) := by omega
        have ic0 : ((s[k].toNat : Int) == 0) = false := by rw [beq_eq_false_iff_ne]; omega
        have il : (s[k].toNat : Int) < 128 := by omega
        clear HS
        have HQ := Lib.hid hq; clear hq
        go_wp2_with fail
        go_ret3
        exact ⟨by rw [← HB.out]; exact congrArg (fun z => Ending.returned (.tuple #[.int .u64 z, .int .i64 ((k : Int) + 1), .int .i64 0])) (or_step acc k (s[k].toNat % 128) HA.out hk9 (Nat.mod_lt _ (by decide)) (by have := HQ.out; omega)), rfl⟩
      · have HB : Hid (scan (s.data.toList.drop (k + 1)) (k + 1) (acc + 128 ^ k * (s[k].toNat % 128)) = R) := by
          have := HS.out; rw [if_neg (by omega), if_neg (by omega)] at this; exact this
        have i9 : ((k : Int) == 9) = false := by rw [beq_eq_false_iff_ne]; omega
        have ip : (0 : Int) < (k : Int) := by omega
        have ic0 : ((s[k].toNat : Int) == 0) = false := by rw [beq_eq_false_iff_ne]; omega
        have il : (128 : Int) ≤ (s[k].toNat : Int) := by omega
        clear HS
        have HQ := Lib.hid hq; clear hq
        go_wp2_with fail
        go_round
        case rel => exact ⟨k + 1, _, by omega, by have := HQ.out; omega, by go_num, congrArg (Value.int .u64) (or_step acc k (s[k].toNat % 128) HA.out hk9 (Nat.mod_lt _ (by decide)) (by have := HQ.out; omega)), pow_step HA.out (Nat.mod_lt _ (by decide)), HB.out⟩
        case measure => simp [intOf] <;> omega
      · have HB : Hid ((acc + 128 ^ k * (s[k].toNat % 128), k + 1, 0) = R) := by
          have := HS.out; rw [if_neg (by omega), if_pos (by omega)] at this; exact this
        have i9 : ((k : Int) == 9) = false := by rw [beq_eq_false_iff_ne]; omega
        have ip : (k : Int) ≤ 0 := by omega
        have il : (s[k].toNat : Int) < 128 := by omega
        clear HS
        have HQ := Lib.hid hq; clear hq
        go_wp2_with fail
        go_ret3
        exact ⟨by rw [← HB.out]; exact congrArg (fun z => Ending.returned (.tuple #[.int .u64 z, .int .i64 ((k : Int) + 1), .int .i64 0])) (or_step acc k (s[k].toNat % 128) HA.out hk9 (Nat.mod_lt _ (by decide)) (by have := HQ.out; omega)), rfl⟩
      · have HB : Hid (scan (s.data.toList.drop (k + 1)) (k + 1) (acc + 128 ^ k * (s[k].toNat % 128)) = R) := by
          have := HS.out; rw [if_neg (by omega), if_neg (by omega)] at this; exact this
        have i9 : ((k : Int) == 9) = false := by rw [beq_eq_false_iff_ne]; omega
        have ip : (k : Int) ≤ 0 := by omega
        have il : (128 : Int) ≤ (s[k].toNat : Int) := by omega
        clear HS
        have HQ := Lib.hid hq; clear hq
        go_wp2_with fail
        go_round
        case rel => exact ⟨k + 1, _, by omega, by have := HQ.out; omega, by go_num, congrArg (Value.int .u64) (or_step acc k (s[k].toNat % 128) HA.out hk9 (Nat.mod_lt _ (by decide)) (by have := HQ.out; omega)), pow_step HA.out (Nat.mod_lt _ (by decide)), HB.out⟩
        case measure => simp [intOf] <;> omega
    · have HB : Hid (R = (0, 0, 8)) := by
        have := hR.out.2; rw [scan_end s k acc (by omega)] at this; exact this.symm
      go_wp2_with fail
      go_ret3
      exact ⟨by rw [HB.out]; rfl, rfl⟩

end Go.Proofs.YtefkfjbdmglkjaaDoor.Wire
