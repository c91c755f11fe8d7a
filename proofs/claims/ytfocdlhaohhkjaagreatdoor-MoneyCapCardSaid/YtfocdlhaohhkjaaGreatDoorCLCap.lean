/-
  The walk of the statement MoneyCap.
-/
import Derived.Test.YtfocdlhaohhkjaaGreatDoorC17
import Derived.Test.YtfocdlhaohhkjaaGreatDoorC7A
namespace Go.Proofs.YtfocdlhaohhkjaaGreatDoor.Money
open Go.RowKit

theorem cap_i64 (a b : Int) : I64 (capV a b) := by have := cap_bd a b; unfold I64; omega
theorem clamp_i64 (a : Int) : I64 (clamp a) := by have := clamp_bd a; unfold I64; omega
theorem bool_or (b : Bool) : b = true ∨ b = false := by cases b <;> simp
set_option maxRecDepth 100000 in
set_option maxHeartbeats 4000000 in
theorem moneyCap_walk (a b c : Int) (w : World) (w0 : (Lit.int .i64 a).wf = true) (w1 : (Lit.int .i64 b).wf = true) (w2 : (Lit.int .i64 c).wf = true) (E : Env w) :
    Calls Tryz.prog 10 #[.int .i64 a, .int .i64 b, .int .i64 c] w fun e w' => e = .returned (.bool true) ∧ Below w.heap.size w w' := by
  have ha := I64.of_wf w0
  have hb := I64.of_wf w1
  have hc := I64.of_wf w2
  clear w0 w1 w2
  have hz : I64 0 := by unfold I64; decide
  have AW := Lib.hid (awake_any w E); clear E
  have C1 := Lib.hid (fun w => pin_int (cap_any a 0 ha hz w) (cap_zero a))
  have C2 := Lib.hid (fun w => pin_int (cap_any b 0 hb hz w) (cap_zero b))
  have C3 := Lib.hid (fun w => cap_any a b ha hb w)
  have C4 := Lib.hid (fun w => pin_int (cap_any b a hb ha w) (cap_comm b a))
  have C5 := Lib.hid (fun w => cap_any (capV a b) c (cap_i64 a b) hc w)
  have C6 := Lib.hid (fun w => cap_any b c hb hc w)
  have C7 := Lib.hid (fun w => pin_int (cap_any a (capV b c) ha (cap_i64 b c) w) (cap_assoc a b c).symm)
  have C8 := Lib.hid (fun w => add_any (clamp a) (clamp b) (clamp_i64 a) (clamp_i64 b) w)
  have g1 : decide (capV a b < clamp a) = false := decide_eq_false (by unfold capV; have := clamp_bd a; have := clamp_bd b; omega)
  have g2 : decide (capV a b < clamp b) = false := decide_eq_false (by unfold capV; have := clamp_bd a; have := clamp_bd b; omega)
  have g3 : decide (4611686018427387904 < capV a b) = false := decide_eq_false (by have := cap_bd a b; omega)
  have g4 : decide (clamp a < 0) = false := decide_eq_false (by have := clamp_bd a; omega)
  have hs := cap_sum a b
  have HA : Hid (0 ≤ a → a ≤ 4611686018427387904 → clamp a = a) := fun h k => by unfold clamp; omega
  clear ha hb hc hz
  by_cases h0 : 0 ≤ a
  · have d0 : decide (0 ≤ a) = true := decide_eq_true h0
    by_cases h1 : a ≤ 4611686018427387904
    · have d1 : decide (a ≤ 4611686018427387904) = true := decide_eq_true h1
      have d2 : (clamp a != a) = false := by rw [bne_eq_false_iff_eq]; exact HA.out h0 h1
      clear h0 h1 HA
      rcases bool_or (near (clamp a + clamp b)) with hn | hn
      · have t1 := tN_near hn
        have t2 := tE_near hn
        have t3 : (capV a b == clamp a + clamp b) = true := by rw [hs, hn, if_pos rfl]; exact beq_self_eq_true _
        clear hs hn
        go_enter Tryz.func10, Tryz.ntmps10
        go_wp2_with fail
        refine AW.out.mono ?_; rintro e w1 ⟨rfl, hb1⟩
        go_wp2_with fail
        refine (C1.out _).mono ?_; rintro e w2 ⟨rfl, rfl⟩
        go_wp2_with fail
        refine (C2.out _).mono ?_; rintro e w2 ⟨rfl, rfl⟩
        go_wp2_with fail
        refine (C3.out _).mono ?_; rintro e w2 ⟨rfl, rfl⟩
        go_wp2_with fail
        refine (C4.out _).mono ?_; rintro e w2 ⟨rfl, rfl⟩
        go_wp2_with fail
        refine (C5.out _).mono ?_; rintro e w2 ⟨rfl, rfl⟩
        go_wp2_with fail
        refine (C6.out _).mono ?_; rintro e w2 ⟨rfl, rfl⟩
        go_wp2_with fail
        refine (C7.out _).mono ?_; rintro e w2 ⟨rfl, rfl⟩
        go_wp2_with fail
        refine (carry hb1 (C8.out _)).mono ?_; rintro e w2 ⟨rfl, hb2⟩
        go_wp2_with fail
        go_ret
        exact ⟨rfl, hb2⟩
      · have t1 := tN_far hn
        have t2 := tE_far hn
        have t3 : (capV a b == 4611686018427387904) = true := by rw [hs, hn, if_neg (by decide)]; rfl
        clear hs hn
        go_enter Tryz.func10, Tryz.ntmps10
        go_wp2_with fail
        refine AW.out.mono ?_; rintro e w1 ⟨rfl, hb1⟩
        go_wp2_with fail
        refine (C1.out _).mono ?_; rintro e w2 ⟨rfl, rfl⟩
        go_wp2_with fail
        refine (C2.out _).mono ?_; rintro e w2 ⟨rfl, rfl⟩
        go_wp2_with fail
        refine (C3.out _).mono ?_; rintro e w2 ⟨rfl, rfl⟩
        go_wp2_with fail
        refine (C4.out _).mono ?_; rintro e w2 ⟨rfl, rfl⟩
        go_wp2_with fail
        refine (C5.out _).mono ?_; rintro e w2 ⟨rfl, rfl⟩
        go_wp2_with fail
        refine (C6.out _).mono ?_; rintro e w2 ⟨rfl, rfl⟩
        go_wp2_with fail
        refine (C7.out _).mono ?_; rintro e w2 ⟨rfl, rfl⟩
        go_wp2_with fail
        refine (carry hb1 (C8.out _)).mono ?_; rintro e w2 ⟨rfl, hb2⟩
        go_wp2_with fail
        go_ret
        exact ⟨rfl, hb2⟩
    · have d1 : decide (a ≤ 4611686018427387904) = false := decide_eq_false h1
      clear h0 h1 HA
      rcases bool_or (near (clamp a + clamp b)) with hn | hn
      · have t1 := tN_near hn
        have t2 := tE_near hn
        have t3 : (capV a b == clamp a + clamp b) = true := by rw [hs, hn, if_pos rfl]; exact beq_self_eq_true _
        clear hs hn
        go_enter Tryz.func10, Tryz.ntmps10
        go_wp2_with fail
        refine AW.out.mono ?_; rintro e w1 ⟨rfl, hb1⟩
        go_wp2_with fail
        refine (C1.out _).mono ?_; rintro e w2 ⟨rfl, rfl⟩
        go_wp2_with fail
        refine (C2.out _).mono ?_; rintro e w2 ⟨rfl, rfl⟩
        go_wp2_with fail
        refine (C3.out _).mono ?_; rintro e w2 ⟨rfl, rfl⟩
        go_wp2_with fail
        refine (C4.out _).mono ?_; rintro e w2 ⟨rfl, rfl⟩
        go_wp2_with fail
        refine (C5.out _).mono ?_; rintro e w2 ⟨rfl, rfl⟩
        go_wp2_with fail
        refine (C6.out _).mono ?_; rintro e w2 ⟨rfl, rfl⟩
        go_wp2_with fail
        refine (C7.out _).mono ?_; rintro e w2 ⟨rfl, rfl⟩
        go_wp2_with fail
        refine (carry hb1 (C8.out _)).mono ?_; rintro e w2 ⟨rfl, hb2⟩
        go_wp2_with fail
        go_ret
        exact ⟨rfl, hb2⟩
      · have t1 := tN_far hn
        have t2 := tE_far hn
        have t3 : (capV a b == 4611686018427387904) = true := by rw [hs, hn, if_neg (by decide)]; rfl
        clear hs hn
        go_enter Tryz.func10, Tryz.ntmps10
        go_wp2_with fail
        refine AW.out.mono ?_; rintro e w1 ⟨rfl, hb1⟩
        go_wp2_with fail
        refine (C1.out _).mono ?_; rintro e w2 ⟨rfl, rfl⟩
        go_wp2_with fail
        refine (C2.out _).mono ?_; rintro e w2 ⟨rfl, rfl⟩
        go_wp2_with fail
        refine (C3.out _).mono ?_; rintro e w2 ⟨rfl, rfl⟩
        go_wp2_with fail
        refine (C4.out _).mono ?_; rintro e w2 ⟨rfl, rfl⟩
        go_wp2_with fail
        refine (C5.out _).mono ?_; rintro e w2 ⟨rfl, rfl⟩
        go_wp2_with fail
        refine (C6.out _).mono ?_; rintro e w2 ⟨rfl, rfl⟩
        go_wp2_with fail
        refine (C7.out _).mono ?_; rintro e w2 ⟨rfl, rfl⟩
        go_wp2_with fail
        refine (carry hb1 (C8.out _)).mono ?_; rintro e w2 ⟨rfl, hb2⟩
        go_wp2_with fail
        go_ret
        exact ⟨rfl, hb2⟩
  · have d0 : decide (0 ≤ a) = false := decide_eq_false h0
    clear h0 HA
    rcases bool_or (near (clamp a + clamp b)) with hn | hn
    · have t1 := tN_near hn
      have t2 := tE_near hn
      have t3 : (capV a b == clamp a + clamp b) = true := by rw [hs, hn, if_pos rfl]; exact beq_self_eq_true _
      clear hs hn
      go_enter Tryz.func10, Tryz.ntmps10
      go_wp2_with fail
      refine AW.out.mono ?_; rintro e w1 ⟨rfl, hb1⟩
      go_wp2_with fail
      refine (C1.out _).mono ?_; rintro e w2 ⟨rfl, rfl⟩
      go_wp2_with fail
      refine (C2.out _).mono ?_; rintro e w2 ⟨rfl, rfl⟩
      go_wp2_with fail
      refine (C3.out _).mono ?_; rintro e w2 ⟨rfl, rfl⟩
      go_wp2_with fail
      refine (C4.out _).mono ?_; rintro e w2 ⟨rfl, rfl⟩
      go_wp2_with fail
      refine (C5.out _).mono ?_; rintro e w2 ⟨rfl, rfl⟩
      go_wp2_with fail
      refine (C6.out _).mono ?_; rintro e w2 ⟨rfl, rfl⟩
      go_wp2_with fail
      refine (C7.out _).mono ?_; rintro e w2 ⟨rfl, rfl⟩
      go_wp2_with fail
      refine (carry hb1 (C8.out _)).mono ?_; rintro e w2 ⟨rfl, hb2⟩
      go_wp2_with fail
      go_ret
      exact ⟨rfl, hb2⟩
    · have t1 := tN_far hn
      have t2 := tE_far hn
      have t3 : (capV a b == 4611686018427387904) = true := by rw [hs, hn, if_neg (by decide)]; rfl
      clear hs hn
      go_enter Tryz.func10, Tryz.ntmps10
      go_wp2_with fail
      refine AW.out.mono ?_; rintro e w1 ⟨rfl, hb1⟩
      go_wp2_with fail
      refine (C1.out _).mono ?_; rintro e w2 ⟨rfl, rfl⟩
      go_wp2_with fail
      refine (C2.out _).mono ?_; rintro e w2 ⟨rfl, rfl⟩
      go_wp2_with fail
      refine (C3.out _).mono ?_; rintro e w2 ⟨rfl, rfl⟩
      go_wp2_with fail
      refine (C4.out _).mono ?_; rintro e w2 ⟨rfl, rfl⟩
      go_wp2_with fail
      refine (C5.out _).mono ?_; rintro e w2 ⟨rfl, rfl⟩
      go_wp2_with fail
      refine (C6.out _).mono ?_; rintro e w2 ⟨rfl, rfl⟩
      go_wp2_with fail
      refine (C7.out _).mono ?_; rintro e w2 ⟨rfl, rfl⟩
      go_wp2_with fail
      refine (carry hb1 (C8.out _)).mono ?_; rintro e w2 ⟨rfl, hb2⟩
      go_wp2_with fail
      go_ret
      exact ⟨rfl, hb2⟩

end Go.Proofs.YtfocdlhaohhkjaaGreatDoor.Money
