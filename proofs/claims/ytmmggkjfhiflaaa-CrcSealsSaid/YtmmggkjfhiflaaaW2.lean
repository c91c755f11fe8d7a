/-
  The walks of products, and of the checksum of two texts put together.
-/
import Derived.Test.YtmmggkjfhiflaaaW1
import Derived.Deep.LoopGhost
namespace Go.Proofs.Ytmmggkjfhiflaaa.Crc
open Go.RowKit

theorem shl_top (a : W) (j : Nat) (hj : j < 32) : (a <<< j).getLsbD 31 = a.getLsbD (31 - j) := by
  rw [BitVec.getLsbD_shiftLeft]; simp; omega
theorem shl_succ (a : W) (j : Nat) : a <<< j <<< 1 = a <<< (j + 1) := by rw [← BitVec.shiftLeft_add]
theorem shl1_V (a : W) : V a * (2 : Int) % (4294967296 : Int) = V (a <<< 1) := by rw [← IntKind.wrap_u32']; exact shl_V a 1
theorem pk_yes {a b : W} {j : Nat} (h : a.getLsbD (31 - j) = true) : pk a b (j + 1) = pk a b j ^^^ it j b := by simp only [pk]; rw [if_pos h]
theorem pk_no {a b : W} {j : Nat} (h : a.getLsbD (31 - j) = false) : pk a b (j + 1) = pk a b j := by simp only [pk]; rw [if_neg (by rw [h]; decide)]

set_option maxHeartbeats 400000 in
theorem product_any (a b : W) (w : World) :
    Calls Try.prog 36 #[.int .u32 (V a), .int .u32 (V b)] w fun e w' => e = .returned (.int .u32 (V (pr a b))) ∧ w = w' := by
  go_enter Try.func36, Try.ntmps36
  go_wp2
  go_loopg [0, 1, 5] 32 (fun n x y z wr => ∃ j : Nat, j ≤ 32 ∧ n = 32 - j ∧ x = .int .u32 (V (a <<< j)) ∧ y = .int .u32 (V (it j b)) ∧ z = .int .u32 (V (pk a b j)) ∧ wr = w)
  case atStart => exact ⟨0, Nat.zero_le _, rfl, by simp, rfl, rfl, rfl⟩
  case round =>
    obtain ⟨j, hj, rfl, rfl, rfl, rfl, rfl⟩ := hrel
    by_cases hz : a <<< j = 0
    · have h1 : (V (a <<< j) != 0) = false := by rw [V_ne_zero_beq, hz]; rfl
      have H := Lib.hid (pk_done a b j hj hz)
      clear hz
      go_wp2
      go_ret
      exact ⟨ret_u32 (by rw [H.out]), rfl⟩
    · have h1 : (V (a <<< j) != 0) = true := by rw [V_ne_zero_beq, beq_eq_false_iff_ne.2 hz]; rfl
      have hg : j < 32 := by
        apply Nat.lt_of_le_of_ne hj
        rintro rfl; exact absurd (shl_ne a 32 (Nat.le_refl _)) hz
      clear hz
      cases hb : a.getLsbD (31 - j)
      · have h2 : (V (a <<< j) / (2147483648 : Int) == 1) = false := by rw [top_bit, shl_top a j hg, hb]
        have H := Lib.hid (pk_no (b := b) hb)
        clear hb
        go_wp2_with (go_at_call 30; refine (shift_any _ _).mono ?_; rintro e w' ⟨rfl, rfl⟩)
        go_roundg (32 - (j + 1))
        case measure => omega
        case rel => exact ⟨j + 1, by omega, rfl, int_u32 (by rw [shl1_V, shl_succ]), rfl, by rw [H.out], rfl⟩
      · have h2 : (V (a <<< j) / (2147483648 : Int) == 1) = true := by rw [top_bit, shl_top a j hg, hb]
        have H := Lib.hid (pk_yes (b := b) hb)
        clear hb
        go_wp2_with (go_at_call 30; refine (shift_any _ _).mono ?_; rintro e w' ⟨rfl, rfl⟩)
        go_roundg (32 - (j + 1))
        case measure => omega
        case rel => exact ⟨j + 1, by omega, rfl, int_u32 (by rw [shl1_V, shl_succ]), rfl, by rw [H.out, bits_xor_V], rfl⟩

set_option maxHeartbeats 400000 in
theorem both_neg (a b : Int) (n : Int) (hn : n < 0) (w : World) :
    Calls Try.prog 17 #[.int .u32 a, .int .u32 b, .int .i64 n] w fun e w' => e = .returned (.int .u32 0) ∧ w = w' := by
  go_enter Try.func17, Try.ntmps17
  go_wp2
  go_ret
  exact ⟨rfl, rfl⟩
/-- the power at each round, and what is left to do -/
theorem pow_next (p : W) (r : Nat) (hp : p = it (8 * 2 ^ r) top) : pr p p = it (8 * 2 ^ (r + 1)) top := by
  subst hp
  rw [pr_it, ← it_add]; congr 1
  rw [Nat.pow_succ]; omega
theorem left_odd (a : W) (r n : Nat) (hn : n % 2 = 1) : it (8 * 2 ^ (r + 1) * (n / 2)) (it (8 * 2 ^ r) a) = it (8 * 2 ^ r * n) a := by
  rw [← it_add]; congr 1
  have e : n = 2 * (n / 2) + 1 := by omega
  generalize n / 2 = m at *
  subst e
  rw [Nat.pow_succ, Nat.mul_add, Nat.mul_one]
  have : 8 * (2 ^ r * 2) * m = 8 * 2 ^ r * (2 * m) := by rw [← Nat.mul_assoc 8, Nat.mul_assoc (8 * 2 ^ r)]
  omega
theorem left_even (a : W) (r n : Nat) (hn : n % 2 = 0) : it (8 * 2 ^ (r + 1) * (n / 2)) a = it (8 * 2 ^ r * n) a := by
  congr 1
  have e : n = 2 * (n / 2) := by omega
  generalize n / 2 = m at *
  subst e
  rw [Nat.pow_succ, ← Nat.mul_assoc 8, Nat.mul_assoc (8 * 2 ^ r)]
theorem top8 : (8388608 : W) = it 8 top := by decide +kernel
def BothAt (a : W) (n : Nat) (x p z : Value) : Prop := ∃ (r m : Nat) (c q : W), m ≤ n ∧ x = .int .u32 (V c) ∧ p = .int .u32 (V q) ∧ z = .int .i64 m ∧ q = it (8 * 2 ^ r) top ∧ it (8 * 2 ^ r * m) c = it (8 * n) a
set_option maxHeartbeats 400000 in
theorem both_any (a b : W) (x y : Int) (hx : x = V a) (hy : y = V b) (n : Nat) (hn : n < 9223372036854775808) (w : World) :
    Calls Try.prog 17 #[.int .u32 x, .int .u32 y, .int .i64 n] w fun e w' => e = .returned (.int .u32 (V (bothW a b n))) ∧ w = w' := by
  have HN := Lib.hid hn
  obtain ⟨n0, H0⟩ : ∃ n0 : Nat, Hid (n0 = n) := ⟨n, rfl⟩
  have hn2 : n ≤ n0 := Nat.le_of_eq H0.out.symm
  subst hx hy
  clear hn
  have hb : n0 < 9223372036854775808 := by have := H0.out; have := HN.out; omega
  go_enter Try.func17, Try.ntmps17
  go_wp2
  go_loop [0, 7, 2] (fun x p z => BothAt a n0 x p z) (fun _ _ z => (intOf z).toNat)
  case atStart => exact ⟨0, n, a, 8388608, hn2, rfl, rfl, rfl, top8, by rw [H0.out, Nat.pow_zero, Nat.mul_one]⟩
  case round =>
    obtain ⟨r, m, c, q, hm, rfl, rfl, rfl, hq, hl⟩ := hrel
    have HQ := Lib.hid hq; have HL := Lib.hid hl; clear hq hl
    by_cases hz : m = 0
    · subst hz
      go_wp2
      go_ret
      refine ⟨ret_u32 ?_, rfl⟩
      rw [bits_xor_V, bothW, ← H0.out, ← HL.out]; simp [it]
    · have hp : 0 < m := by omega
      clear hz
      have HM := Lib.hid (pow_next q r HQ.out)
      by_cases h1 : m % 2 = 1
      · have t1 : ((m : Int) % 2 == 1) = true := beq_iff_eq.2 (by omega)
        have HO := Lib.hid (left_odd c r m h1)
        have HC : Hid (pr c q = it (8 * 2 ^ r) c) := by show pr c q = _; rw [HQ.out, pr_it]
        clear h1
        go_wp2_with (go_at_call 36; refine (product_any _ _ _).mono ?_; rintro e w' ⟨rfl, rfl⟩)
        go_round
        case rel => exact ⟨r + 1, m / 2, pr c q, pr q q, by omega, rfl, rfl, by go_num, HM.out, by rw [HC.out, HO.out, HL.out]⟩
        case measure => simp [intOf]; omega
      · have t1 : ((m : Int) % 2 == 1) = false := beq_eq_false_iff_ne.2 (by omega)
        have HO := Lib.hid (left_even c r m (by omega))
        clear h1
        go_wp2_with (go_at_call 36; refine (product_any _ _ _).mono ?_; rintro e w' ⟨rfl, rfl⟩)
        go_round
        case rel => exact ⟨r + 1, m / 2, c, pr q q, by omega, rfl, rfl, by go_num, HM.out, by rw [HO.out, HL.out]⟩
        case measure => simp [intOf]; omega

end Go.Proofs.Ytmmggkjfhiflaaa.Crc
