/-
  The walk of the document's fees.
-/
import Derived.Test.YtfocdlhaohhkjaaGreatDoorC8
import Derived.Test.YtfocdlhaohhkjaaGreatDoorC7R
namespace Go.Proofs.YtfocdlhaohhkjaaGreatDoor.Money
open Go.RowKit

set_option maxHeartbeats 400000 in
theorem rfee_any (n b : Int) (hn : I64 n) (hb : I64 b) (w : World) :
    Calls Tryz.prog 24 #[.int .i64 n, .int .i64 b] w fun e w' => e = .returned (.tuple #[.int .i64 (fN n b), .int .i64 (fE n b)]) ∧ w = w' := by
  by_cases h : n < 0 ∨ b < 0 ∨ 1000 < b
  · have F := Lib.hid (f_arg h)
    by_cases h1 : n < 0
    · have d1 : decide (n < 0) = true := decide_eq_true h1
      clear h h1 hn hb
      go_enter Tryz.func24, Tryz.ntmps24
      go_wp2
      go_ret2
      exact ⟨ret_two (by rw [F.out.1]) (by rw [F.out.2]), rfl⟩
    · have d1 : decide (n < 0) = false := decide_eq_false h1
      by_cases h2 : b < 0
      · have d2 : decide (b < 0) = true := decide_eq_true h2
        clear h h1 h2 hn hb
        go_enter Tryz.func24, Tryz.ntmps24
        go_wp2
        go_ret2
        exact ⟨ret_two (by rw [F.out.1]) (by rw [F.out.2]), rfl⟩
      · have d2 : decide (b < 0) = false := decide_eq_false h2
        have d3 : decide (1000 < b) = true := decide_eq_true (by omega)
        clear h h1 h2 hn hb
        go_enter Tryz.func24, Tryz.ntmps24
        go_wp2
        go_ret2
        exact ⟨ret_two (by rw [F.out.1]) (by rw [F.out.2]), rfl⟩
  · have d1 : decide (n < 0) = false := decide_eq_false (by omega)
    have d2 : decide (b < 0) = false := decide_eq_false (by omega)
    have d3 : decide (1000 < b) = false := decide_eq_false (by omega)
    by_cases h4 : 4611686018427387904 < n
    · have F := Lib.hid (f_far (n := n) (b := b) (by omega) (by omega) (by omega) h4)
      have d4 : decide (4611686018427387904 < n) = true := decide_eq_true h4
      clear h hn hb h4
      go_enter Tryz.func24, Tryz.ntmps24
      go_wp2
      go_ret2
      exact ⟨ret_two (by rw [F.out.1]) (by rw [F.out.2]), rfl⟩
    · have F := Lib.hid (f_ok (n := n) (b := b) (by omega) (by omega) (by omega) (by omega))
      have d4 : decide (4611686018427387904 < n) = false := decide_eq_false h4
      obtain ⟨p1, p2, p3, p4⟩ := fee_parts n b (by omega) (by omega) (by omega) (by omega)
      have n0 : 0 ≤ n := by omega
      have n1 : n ≤ 4611686018427387904 := by omega
      clear h hn hb h4
      go_enter Tryz.func24, Tryz.ntmps24
      go_wp2
      go_ret2
      exact ⟨ret_two (by rw [F.out.1]; rfl) (by rw [F.out.2]), rfl⟩

end Go.Proofs.YtfocdlhaohhkjaaGreatDoor.Money
