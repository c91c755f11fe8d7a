/-
  The walk of Mul.
-/
import Derived.Test.YtfocdlhaohhkjaaGreatDoorC9
import Derived.Test.YtfocdlhaohhkjaaGreatDoorCS
namespace Go.Proofs.YtfocdlhaohhkjaaGreatDoor.Money
open Go.RowKit

theorem mul64_any (p q : Int) (p0 : 0 ≤ p) (q0 : 0 ≤ q) (p1 : p ≤ 9223372036854775807) (q1 : q ≤ 9223372036854775807) (w : World) :
    Calls Tryz.prog 32 #[.int .u64 p, .int .u64 q] w fun e w' => e = .returned (.tuple #[.int .u64 (p * q / 18446744073709551616), .int .u64 (loW (p * q))]) ∧ w = w' := by
  obtain ⟨a, rfl⟩ := Int.eq_ofNat_of_zero_le p0
  obtain ⟨b, rfl⟩ := Int.eq_ofNat_of_zero_le q0
  refine (Tryz.bits_Mul64 a b (by omega) (by omega) w).mono fun e w' ⟨he, hw⟩ => ⟨?_, hw.symm⟩
  rw [he]
  unfold loW
  rw [← Int.natCast_mul]
  exact ret_two (by omega) (by omega)

set_option maxHeartbeats 400000 in
theorem mul_any (p q : Int) (hp : I64 p) (hq : I64 q) (w : World) :
    Calls Tryz.prog 16 #[.int .i64 p, .int .i64 q] w fun e w' => e = .returned (.tuple #[.int .i64 (mN p q), .int .i64 (mE p q)]) ∧ w = w' := by
  unfold I64 at hp hq
  by_cases h : p < 0 ∨ q < 0
  · have F := Lib.hid (m_arg h)
    by_cases h1 : p < 0
    · have d1 : decide (p < 0) = true := decide_eq_true h1
      clear h h1 hp hq
      go_enter Tryz.func16, Tryz.ntmps16
      go_wp2
      go_ret2
      exact ⟨ret_two (by rw [F.out.1]) (by rw [F.out.2]), rfl⟩
    · have d1 : decide (p < 0) = false := decide_eq_false h1
      have d2 : decide (q < 0) = true := decide_eq_true (by omega)
      clear h h1 hp hq
      go_enter Tryz.func16, Tryz.ntmps16
      go_wp2
      go_ret2
      exact ⟨ret_two (by rw [F.out.1]) (by rw [F.out.2]), rfl⟩
  · have F := Lib.hid (m_ok (p := p) (q := q) (by omega) (by omega))
    have d1 : decide (p < 0) = false := decide_eq_false (by omega)
    have d2 : decide (q < 0) = false := decide_eq_false (by omega)
    have w1 : IntKind.u64.wrap p = p := by rw [IntKind.wrap_u64]; omega
    have w2 : IntKind.u64.wrap q = q := by rw [IntKind.wrap_u64]; omega
    have hP : 0 ≤ p * q := Int.mul_nonneg (by omega) (by omega)
    have C := Lib.hid (mul64_any p q (by omega) (by omega) hp.2 hq.2)
    have W := Lib.hid (And.intro w1 w2)
    clear h hp hq w1 w2
    cases hn : near (p * q) with
    | true =>
      have hb := near_iff.1 hn
      have hl : loW (p * q) = p * q := by unfold loW; omega
      have d3 : decide (0 < p * q / 18446744073709551616) = false := decide_eq_false (by omega)
      have d4 : decide (4611686018427387904 < loW (p * q)) = false := decide_eq_false (by rw [hl]; omega)
      have b0 : 0 ≤ loW (p * q) := by rw [hl]; omega
      have b1 : loW (p * q) ≤ 4611686018427387904 := by rw [hl]; omega
      have N := Lib.hid hn
      have HL := Lib.hid hl
      clear hn hb hl hP
      have W1 := W.out.1
      have W2 := W.out.2
      go_enter Tryz.func16, Tryz.ntmps16
      go_wp2_with (go_at_call 32; refine (C.out _).mono ?_; rintro e w' ⟨rfl, rfl⟩)
      go_ret2
      exact ⟨ret_two (by rw [F.out.1, tN_near N.out, HL.out]) (by rw [F.out.2, tE_near N.out]), rfl⟩
    | false =>
      have hb := near_no.1 hn
      have N := Lib.hid hn
      have W1 := W.out.1
      have W2 := W.out.2
      by_cases h3 : 0 < p * q / 18446744073709551616
      · have d3 : decide (0 < p * q / 18446744073709551616) = true := decide_eq_true h3
        clear hn hb hP h3
        go_enter Tryz.func16, Tryz.ntmps16
        go_wp2_with (go_at_call 32; refine (C.out _).mono ?_; rintro e w' ⟨rfl, rfl⟩)
        go_ret2
        exact ⟨ret_two (by rw [F.out.1, tN_far N.out]) (by rw [F.out.2, tE_far N.out]), rfl⟩
      · have hl : loW (p * q) = p * q := by unfold loW; omega
        have d3 : decide (0 < p * q / 18446744073709551616) = false := decide_eq_false h3
        have d4 : decide (4611686018427387904 < loW (p * q)) = true := decide_eq_true (by rw [hl]; omega)
        clear hn hb hP h3 hl
        go_enter Tryz.func16, Tryz.ntmps16
        go_wp2_with (go_at_call 32; refine (C.out _).mono ?_; rintro e w' ⟨rfl, rfl⟩)
        go_ret2
        exact ⟨ret_two (by rw [F.out.1, tN_far N.out]) (by rw [F.out.2, tE_far N.out]), rfl⟩

end Go.Proofs.YtfocdlhaohhkjaaGreatDoor.Money
