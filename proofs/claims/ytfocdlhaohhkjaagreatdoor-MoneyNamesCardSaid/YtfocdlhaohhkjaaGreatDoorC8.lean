/-
  The walks of fees, and of sums that are capped.
-/
import Derived.Test.YtfocdlhaohhkjaaGreatDoorC7
namespace Go.Proofs.YtfocdlhaohhkjaaGreatDoor.Money
open Go.RowKit

theorem f_arg {n b : Int} (h : n < 0 ∨ b < 0 ∨ 1000 < b) : fN n b = 0 ∧ fE n b = 1 := by unfold fN fE; rw [if_pos h, if_pos h]; exact ⟨rfl, rfl⟩
theorem f_far {n b : Int} (h0 : 0 ≤ n) (b0 : 0 ≤ b) (b1 : b ≤ 1000) (h : 4611686018427387904 < n) : fN n b = 0 ∧ fE n b = 41 := by
  unfold fN fE; rw [if_neg (show ¬ (n < 0 ∨ b < 0 ∨ 1000 < b) by omega), if_neg (show ¬ (n < 0 ∨ b < 0 ∨ 1000 < b) by omega), if_pos h, if_pos h]; exact ⟨rfl, rfl⟩
theorem f_ok {n b : Int} (h0 : 0 ≤ n) (b0 : 0 ≤ b) (b1 : b ≤ 1000) (h : n ≤ 4611686018427387904) : fN n b = feeV n b ∧ fE n b = 0 := by
  unfold fN fE; rw [if_neg (show ¬ (n < 0 ∨ b < 0 ∨ 1000 < b) by omega), if_neg (show ¬ (n < 0 ∨ b < 0 ∨ 1000 < b) by omega), if_neg (show ¬ 4611686018427387904 < n by omega), if_neg (show ¬ 4611686018427387904 < n by omega)]; exact ⟨rfl, rfl⟩

set_option maxHeartbeats 400000 in
theorem fee_any (n b : Int) (hn : I64 n) (hb : I64 b) (w : World) :
    Calls Tryz.prog 15 #[.int .i64 n, .int .i64 b] w fun e w' => e = .returned (.tuple #[.int .i64 (fN n b), .int .i64 (fE n b)]) ∧ w = w' := by
  by_cases h : n < 0 ∨ b < 0 ∨ 1000 < b
  · have F := Lib.hid (f_arg h)
    by_cases h1 : n < 0
    · have d1 : decide (n < 0) = true := decide_eq_true h1
      clear h h1 hn hb
      go_enter Tryz.func15, Tryz.ntmps15
      go_wp2
      go_ret2
      exact ⟨ret_two (by rw [F.out.1]) (by rw [F.out.2]), rfl⟩
    · have d1 : decide (n < 0) = false := decide_eq_false h1
      by_cases h2 : b < 0
      · have d2 : decide (b < 0) = true := decide_eq_true h2
        clear h h1 h2 hn hb
        go_enter Tryz.func15, Tryz.ntmps15
        go_wp2
        go_ret2
        exact ⟨ret_two (by rw [F.out.1]) (by rw [F.out.2]), rfl⟩
      · have d2 : decide (b < 0) = false := decide_eq_false h2
        have d3 : decide (1000 < b) = true := decide_eq_true (by omega)
        clear h h1 h2 hn hb
        go_enter Tryz.func15, Tryz.ntmps15
        go_wp2
        go_ret2
        exact ⟨ret_two (by rw [F.out.1]) (by rw [F.out.2]), rfl⟩
  · have d1 : decide (n < 0) = false := decide_eq_false (by omega)
    have d2 : decide (b < 0) = false := decide_eq_false (by omega)
    have d3 : decide (1000 < b) = false := decide_eq_false (by omega)
    by_cases h4 : 4611686018427387904 < n
    · have F := Lib.hid (f_far (n := n) (b := b) (by omega) (by omega) (by omega) h4)
      have N : Hid (near n = false) := near_no.2 (Or.inr h4)
      clear h hn hb h4
      go_enter Tryz.func15, Tryz.ntmps15
      go_wp2_with (go_at_call 31; refine (far_yes _ N.out _).mono ?_; rintro e w' ⟨rfl, rfl⟩)
      go_ret2
      exact ⟨ret_two (by rw [F.out.1]) (by rw [F.out.2]), rfl⟩
    · have F := Lib.hid (f_ok (n := n) (b := b) (by omega) (by omega) (by omega) (by omega))
      have N : Hid (near n = true) := near_iff.2 (by omega)
      obtain ⟨p1, p2, p3, p4⟩ := fee_parts n b (by omega) (by omega) (by omega) (by omega)
      have n0 : 0 ≤ n := by omega
      have n1 : n ≤ 4611686018427387904 := by omega
      clear h hn hb h4
      go_enter Tryz.func15, Tryz.ntmps15
      go_wp2_with (go_at_call 31; refine (far_no _ N.out _).mono ?_; rintro e w' ⟨rfl, rfl⟩)
      go_ret2
      exact ⟨ret_two (by rw [F.out.1]; rfl) (by rw [F.out.2]), rfl⟩
theorem ret_int {k : IntKind} {a b : Int} (h : a = b) : Ending.returned (.int k a) = .returned (.int k b) := by rw [h]
theorem cap_any (a b : Int) (ha : I64 a) (hb : I64 b) (w : World) :
    Calls Tryz.prog 21 #[.int .i64 a, .int .i64 b] w fun e w' => e = .returned (.int .i64 (capV a b)) ∧ w = w' := by
  unfold I64 at ha hb
  go_enter Tryz.func21, Tryz.ntmps21
  go_wp2
  all_goals
    go_ret
    exact ⟨ret_int (by unfold capV clamp; omega), rfl⟩

end Go.Proofs.YtfocdlhaohhkjaaGreatDoor.Money
