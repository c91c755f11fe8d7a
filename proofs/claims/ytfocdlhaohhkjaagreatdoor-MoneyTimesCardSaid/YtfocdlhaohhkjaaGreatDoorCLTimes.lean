/-
  The walk of the statement MoneyTimes.
-/
import Derived.Test.YtfocdlhaohhkjaaGreatDoorC17
import Derived.Test.YtfocdlhaohhkjaaGreatDoorC7A
namespace Go.Proofs.YtfocdlhaohhkjaaGreatDoor.Money
open Go.RowKit

theorem m_comm (a b : Int) : mN b a = mN a b ∧ mE b a = mE a b := by
  unfold mN mE
  rw [Int.mul_comm b a]
  by_cases h : a < 0 ∨ b < 0
  · rw [if_pos h, if_pos (Or.comm.1 h), if_pos h, if_pos (Or.comm.1 h)]; exact ⟨rfl, rfl⟩
  · rw [if_neg h, if_neg (fun k => h (Or.comm.1 k)), if_neg h, if_neg (fun k => h (Or.comm.1 k))]; exact ⟨rfl, rfl⟩
theorem mul_back (a b : Int) (ha : I64 a) (hb : I64 b) (w : World) :
    Calls Tryz.prog 16 #[.int .i64 b, .int .i64 a] w fun e w' => e = .returned (.tuple #[.int .i64 (mN a b), .int .i64 (mE a b)]) ∧ w = w' :=
  pin_two (mul_any b a hb ha w) (m_comm a b).1 (m_comm a b).2
theorem mE_one {a b : Int} : (mE a b == 1) = decide (a < 0 ∨ b < 0) := by
  unfold mE
  by_cases h : a < 0 ∨ b < 0
  · rw [if_pos h, decide_eq_true h]; rfl
  · rw [if_neg h, decide_eq_false h]
    rcases tE_two (a * b) with e | e <;> rw [e] <;> rfl
theorem mul_near {a b : Int} (ha : 0 ≤ a) (hb : 0 ≤ b) (h : near (a * b) = true) : mN a b = a * b ∧ mE a b = 0 := by
  have m := m_ok ha hb
  exact ⟨by rw [m.1, tN_near h], by rw [m.2, tE_near h]⟩
theorem mul_far {a b : Int} (ha : 0 ≤ a) (hb : 0 ≤ b) (h : near (a * b) = false) : mE a b = 41 := by
  have m := m_ok ha hb
  rw [m.2, tE_far h]
theorem near_less {x y : Int} (h : near y = true) (h0 : 0 ≤ x) (h1 : x ≤ y) : near x = true := by
  have := near_iff.1 h; exact near_iff.2 (by omega)
theorem near_bool (n : Int) : near n = true ∨ near n = false := by cases near n <;> simp

set_option maxRecDepth 100000 in
set_option maxHeartbeats 4000000 in
theorem times_neg (a b c : Int) (ha : I64 a) (hb : I64 b) (hc : I64 c) (w : World) (E : Env w) (hB : b < 0) :
    Calls Tryz.prog 8 #[.int .i64 a, .int .i64 b, .int .i64 c] w fun e w' => e = .returned (.bool true) ∧ Below w.heap.size w w' := by
  have AW := Lib.hid (awake_any w E); clear E
  have C1 := Lib.hid (fun w => mul_any a b ha hb w)
  have C2 := Lib.hid (fun w => mul_back a b ha hb w)
  have C3 := Lib.hid (fun w => mul_any a 1 ha (by unfold I64; decide) w)
  have q1 := mE_one (a := a) (b := b)
  by_cases hA : a < 0
  · have s1 : decide (a < 0) = true := decide_eq_true hA
    have q2 : (mE a b == 1) = true := by rw [q1]; exact decide_eq_true (Or.inl hA)
    have s3 : decide (0 ≤ a) = false := decide_eq_false (by omega)
    have s2 : decide (b < 0) = true := decide_eq_true hB
    clear q1 ha hb hc
    clear hA hB
    go_enter Tryz.func8, Tryz.ntmps8
    go_wp2_with fail
    refine AW.out.mono ?_; rintro e w1 ⟨rfl, hb1⟩
    go_wp2_with fail
    refine (C1.out _).mono ?_; rintro e w2 ⟨rfl, rfl⟩
    go_wp2_with fail
    refine (C2.out _).mono ?_; rintro e w2 ⟨rfl, rfl⟩
    go_wp2_with fail
    refine (C3.out _).mono ?_; rintro e w2 ⟨rfl, rfl⟩
    go_wp2_with fail
    go_ret
    exact ⟨rfl, hb1⟩
  · by_cases hA2 : a ≤ 4611686018427387904
    · have s1 : decide (a < 0) = false := decide_eq_false (by omega)
      have s3 : decide (0 ≤ a) = true := decide_eq_true (by omega)
      have s2 : decide (b < 0) = true := decide_eq_true hB
      have q2 : (mE a b == 1) = true := by rw [q1]; exact decide_eq_true (Or.inr hB)
      have s4 : decide (a ≤ 4611686018427387904) = true := decide_eq_true hA2
      have z := mul_near (a := a) (b := 1) (by omega) (by decide) (near_iff.2 (by omega))
      rw [Int.mul_one] at z
      have z1 := z.1
      have z2 := z.2
      clear q1 ha hb hc
      clear hA hA2 hB z
      go_enter Tryz.func8, Tryz.ntmps8
      go_wp2_with fail
      refine AW.out.mono ?_; rintro e w1 ⟨rfl, hb1⟩
      go_wp2_with fail
      refine (C1.out _).mono ?_; rintro e w2 ⟨rfl, rfl⟩
      go_wp2_with fail
      refine (C2.out _).mono ?_; rintro e w2 ⟨rfl, rfl⟩
      go_wp2_with fail
      refine (C3.out _).mono ?_; rintro e w2 ⟨rfl, rfl⟩
      go_wp2_with (go_at_call 27; refine (is_yes _ _ rfl _).mono ?_; rintro e w' ⟨rfl, rfl⟩)
      go_ret
      exact ⟨rfl, hb1⟩
    · have s1 : decide (a < 0) = false := decide_eq_false (by omega)
      have s3 : decide (0 ≤ a) = true := decide_eq_true (by omega)
      have s2 : decide (b < 0) = true := decide_eq_true hB
      have q2 : (mE a b == 1) = true := by rw [q1]; exact decide_eq_true (Or.inr hB)
      have s4 : decide (a ≤ 4611686018427387904) = false := decide_eq_false hA2
      clear q1 ha hb hc
      clear hA hA2 hB
      go_enter Tryz.func8, Tryz.ntmps8
      go_wp2_with fail
      refine AW.out.mono ?_; rintro e w1 ⟨rfl, hb1⟩
      go_wp2_with fail
      refine (C1.out _).mono ?_; rintro e w2 ⟨rfl, rfl⟩
      go_wp2_with fail
      refine (C2.out _).mono ?_; rintro e w2 ⟨rfl, rfl⟩
      go_wp2_with fail
      refine (C3.out _).mono ?_; rintro e w2 ⟨rfl, rfl⟩
      go_wp2_with fail
      go_ret
      exact ⟨rfl, hb1⟩
set_option maxRecDepth 100000 in
set_option maxHeartbeats 4000000 in
theorem times_bad (a b c : Int) (ha : I64 a) (hb : I64 b) (hc : I64 c) (w : World) (E : Env w) (hB : ¬ b < 0) (hC : c < 0 ∨ 4611686018427387904 < c ∨ 4611686018427387904 - c < b) :
    Calls Tryz.prog 8 #[.int .i64 a, .int .i64 b, .int .i64 c] w fun e w' => e = .returned (.bool true) ∧ Below w.heap.size w w' := by
  have AW := Lib.hid (awake_any w E); clear E
  have C1 := Lib.hid (fun w => mul_any a b ha hb w)
  have C2 := Lib.hid (fun w => mul_back a b ha hb w)
  have C3 := Lib.hid (fun w => mul_any a 1 ha (by unfold I64; decide) w)
  have q1 := mE_one (a := a) (b := b)
  by_cases hA : a < 0
  · have s1 : decide (a < 0) = true := decide_eq_true hA
    have q2 : (mE a b == 1) = true := by rw [q1]; exact decide_eq_true (Or.inl hA)
    have s3 : decide (0 ≤ a) = false := decide_eq_false (by omega)
    have s2 : decide (b < 0) = false := decide_eq_false hB
    clear q1 ha hb hc
    clear hA
    rcases Int.lt_or_le c 0 with k0 | k0
    · have c1 : decide (c < 0) = true := decide_eq_true k0
      clear k0 hC
      clear hB
      go_enter Tryz.func8, Tryz.ntmps8
      go_wp2_with fail
      refine AW.out.mono ?_; rintro e w1 ⟨rfl, hb1⟩
      go_wp2_with fail
      refine (C1.out _).mono ?_; rintro e w2 ⟨rfl, rfl⟩
      go_wp2_with fail
      refine (C2.out _).mono ?_; rintro e w2 ⟨rfl, rfl⟩
      go_wp2_with fail
      refine (C3.out _).mono ?_; rintro e w2 ⟨rfl, rfl⟩
      go_wp2_with fail
      go_ret
      exact ⟨rfl, hb1⟩
    · have c1 : decide (c < 0) = false := decide_eq_false (by omega)
      rcases Int.lt_or_le 4611686018427387904 c with k1 | k1
      · have c4 : decide (4611686018427387904 < c) = true := decide_eq_true k1
        have c5 : min c 4611686018427387904 = 4611686018427387904 := by omega
        rcases Int.lt_or_le 0 b with k2 | k2
        · have c6 : decide (0 < b) = true := decide_eq_true k2
          clear k0 hC k2
          clear hB
          go_enter Tryz.func8, Tryz.ntmps8
          go_wp2_with fail
          refine AW.out.mono ?_; rintro e w1 ⟨rfl, hb1⟩
          go_wp2_with fail
          refine (C1.out _).mono ?_; rintro e w2 ⟨rfl, rfl⟩
          go_wp2_with fail
          refine (C2.out _).mono ?_; rintro e w2 ⟨rfl, rfl⟩
          go_wp2_with fail
          refine (C3.out _).mono ?_; rintro e w2 ⟨rfl, rfl⟩
          go_wp2_with fail
          go_ret
          exact ⟨rfl, hb1⟩
        · have c6 : decide (0 < b) = false := decide_eq_false (by omega)
          clear k0 hC k2
          clear hB
          go_enter Tryz.func8, Tryz.ntmps8
          go_wp2_with fail
          refine AW.out.mono ?_; rintro e w1 ⟨rfl, hb1⟩
          go_wp2_with fail
          refine (C1.out _).mono ?_; rintro e w2 ⟨rfl, rfl⟩
          go_wp2_with fail
          refine (C2.out _).mono ?_; rintro e w2 ⟨rfl, rfl⟩
          go_wp2_with fail
          refine (C3.out _).mono ?_; rintro e w2 ⟨rfl, rfl⟩
          go_wp2_with fail
          go_ret
          exact ⟨rfl, hb1⟩
      · have c4 : decide (4611686018427387904 < c) = false := decide_eq_false (by omega)
        have c5 : min c 4611686018427387904 = c := by omega
        have c7 : decide (4611686018427387904 - c < b) = true := decide_eq_true (by omega)
        clear hC
        clear hB
        go_enter Tryz.func8, Tryz.ntmps8
        go_wp2_with fail
        refine AW.out.mono ?_; rintro e w1 ⟨rfl, hb1⟩
        go_wp2_with fail
        refine (C1.out _).mono ?_; rintro e w2 ⟨rfl, rfl⟩
        go_wp2_with fail
        refine (C2.out _).mono ?_; rintro e w2 ⟨rfl, rfl⟩
        go_wp2_with fail
        refine (C3.out _).mono ?_; rintro e w2 ⟨rfl, rfl⟩
        go_wp2_with fail
        go_ret
        exact ⟨rfl, hb1⟩
  · by_cases hA2 : a ≤ 4611686018427387904
    · have s1 : decide (a < 0) = false := decide_eq_false (by omega)
      have s3 : decide (0 ≤ a) = true := decide_eq_true (by omega)
      have s2 : decide (b < 0) = false := decide_eq_false hB
      have q2 : (mE a b == 1) = false := by rw [q1]; exact decide_eq_false (by omega)
      have s4 : decide (a ≤ 4611686018427387904) = true := decide_eq_true hA2
      have z := mul_near (a := a) (b := 1) (by omega) (by decide) (near_iff.2 (by omega))
      rw [Int.mul_one] at z
      have z1 := z.1
      have z2 := z.2
      clear q1 ha hb hc
      clear hA hA2 z
      rcases Int.lt_or_le c 0 with k0 | k0
      · have c1 : decide (c < 0) = true := decide_eq_true k0
        clear k0 hC
        clear hB
        go_enter Tryz.func8, Tryz.ntmps8
        go_wp2_with fail
        refine AW.out.mono ?_; rintro e w1 ⟨rfl, hb1⟩
        go_wp2_with fail
        refine (C1.out _).mono ?_; rintro e w2 ⟨rfl, rfl⟩
        go_wp2_with fail
        refine (C2.out _).mono ?_; rintro e w2 ⟨rfl, rfl⟩
        go_wp2_with fail
        refine (C3.out _).mono ?_; rintro e w2 ⟨rfl, rfl⟩
        go_wp2_with (go_at_call 27; refine (is_yes _ _ rfl _).mono ?_; rintro e w' ⟨rfl, rfl⟩)
        go_ret
        exact ⟨rfl, hb1⟩
      · have c1 : decide (c < 0) = false := decide_eq_false (by omega)
        rcases Int.lt_or_le 4611686018427387904 c with k1 | k1
        · have c4 : decide (4611686018427387904 < c) = true := decide_eq_true k1
          have c5 : min c 4611686018427387904 = 4611686018427387904 := by omega
          rcases Int.lt_or_le 0 b with k2 | k2
          · have c6 : decide (0 < b) = true := decide_eq_true k2
            clear k0 hC k2
            clear hB
            go_enter Tryz.func8, Tryz.ntmps8
            go_wp2_with fail
            refine AW.out.mono ?_; rintro e w1 ⟨rfl, hb1⟩
            go_wp2_with fail
            refine (C1.out _).mono ?_; rintro e w2 ⟨rfl, rfl⟩
            go_wp2_with fail
            refine (C2.out _).mono ?_; rintro e w2 ⟨rfl, rfl⟩
            go_wp2_with fail
            refine (C3.out _).mono ?_; rintro e w2 ⟨rfl, rfl⟩
            go_wp2_with (go_at_call 27; refine (is_yes _ _ rfl _).mono ?_; rintro e w' ⟨rfl, rfl⟩)
            go_ret
            exact ⟨rfl, hb1⟩
          · have c6 : decide (0 < b) = false := decide_eq_false (by omega)
            clear k0 hC k2
            clear hB
            go_enter Tryz.func8, Tryz.ntmps8
            go_wp2_with fail
            refine AW.out.mono ?_; rintro e w1 ⟨rfl, hb1⟩
            go_wp2_with fail
            refine (C1.out _).mono ?_; rintro e w2 ⟨rfl, rfl⟩
            go_wp2_with fail
            refine (C2.out _).mono ?_; rintro e w2 ⟨rfl, rfl⟩
            go_wp2_with fail
            refine (C3.out _).mono ?_; rintro e w2 ⟨rfl, rfl⟩
            go_wp2_with (go_at_call 27; refine (is_yes _ _ rfl _).mono ?_; rintro e w' ⟨rfl, rfl⟩)
            go_ret
            exact ⟨rfl, hb1⟩
        · have c4 : decide (4611686018427387904 < c) = false := decide_eq_false (by omega)
          have c5 : min c 4611686018427387904 = c := by omega
          have c7 : decide (4611686018427387904 - c < b) = true := decide_eq_true (by omega)
          clear hC
          clear hB
          go_enter Tryz.func8, Tryz.ntmps8
          go_wp2_with fail
          refine AW.out.mono ?_; rintro e w1 ⟨rfl, hb1⟩
          go_wp2_with fail
          refine (C1.out _).mono ?_; rintro e w2 ⟨rfl, rfl⟩
          go_wp2_with fail
          refine (C2.out _).mono ?_; rintro e w2 ⟨rfl, rfl⟩
          go_wp2_with fail
          refine (C3.out _).mono ?_; rintro e w2 ⟨rfl, rfl⟩
          go_wp2_with (go_at_call 27; refine (is_yes _ _ rfl _).mono ?_; rintro e w' ⟨rfl, rfl⟩)
          go_ret
          exact ⟨rfl, hb1⟩
    · have s1 : decide (a < 0) = false := decide_eq_false (by omega)
      have s3 : decide (0 ≤ a) = true := decide_eq_true (by omega)
      have s2 : decide (b < 0) = false := decide_eq_false hB
      have q2 : (mE a b == 1) = false := by rw [q1]; exact decide_eq_false (by omega)
      have s4 : decide (a ≤ 4611686018427387904) = false := decide_eq_false hA2
      clear q1 ha hb hc
      clear hA hA2
      rcases Int.lt_or_le c 0 with k0 | k0
      · have c1 : decide (c < 0) = true := decide_eq_true k0
        clear k0 hC
        clear hB
        go_enter Tryz.func8, Tryz.ntmps8
        go_wp2_with fail
        refine AW.out.mono ?_; rintro e w1 ⟨rfl, hb1⟩
        go_wp2_with fail
        refine (C1.out _).mono ?_; rintro e w2 ⟨rfl, rfl⟩
        go_wp2_with fail
        refine (C2.out _).mono ?_; rintro e w2 ⟨rfl, rfl⟩
        go_wp2_with fail
        refine (C3.out _).mono ?_; rintro e w2 ⟨rfl, rfl⟩
        go_wp2_with fail
        go_ret
        exact ⟨rfl, hb1⟩
      · have c1 : decide (c < 0) = false := decide_eq_false (by omega)
        rcases Int.lt_or_le 4611686018427387904 c with k1 | k1
        · have c4 : decide (4611686018427387904 < c) = true := decide_eq_true k1
          have c5 : min c 4611686018427387904 = 4611686018427387904 := by omega
          rcases Int.lt_or_le 0 b with k2 | k2
          · have c6 : decide (0 < b) = true := decide_eq_true k2
            clear k0 hC k2
            clear hB
            go_enter Tryz.func8, Tryz.ntmps8
            go_wp2_with fail
            refine AW.out.mono ?_; rintro e w1 ⟨rfl, hb1⟩
            go_wp2_with fail
            refine (C1.out _).mono ?_; rintro e w2 ⟨rfl, rfl⟩
            go_wp2_with fail
            refine (C2.out _).mono ?_; rintro e w2 ⟨rfl, rfl⟩
            go_wp2_with fail
            refine (C3.out _).mono ?_; rintro e w2 ⟨rfl, rfl⟩
            go_wp2_with fail
            go_ret
            exact ⟨rfl, hb1⟩
          · have c6 : decide (0 < b) = false := decide_eq_false (by omega)
            clear k0 hC k2
            clear hB
            go_enter Tryz.func8, Tryz.ntmps8
            go_wp2_with fail
            refine AW.out.mono ?_; rintro e w1 ⟨rfl, hb1⟩
            go_wp2_with fail
            refine (C1.out _).mono ?_; rintro e w2 ⟨rfl, rfl⟩
            go_wp2_with fail
            refine (C2.out _).mono ?_; rintro e w2 ⟨rfl, rfl⟩
            go_wp2_with fail
            refine (C3.out _).mono ?_; rintro e w2 ⟨rfl, rfl⟩
            go_wp2_with fail
            go_ret
            exact ⟨rfl, hb1⟩
        · have c4 : decide (4611686018427387904 < c) = false := decide_eq_false (by omega)
          have c5 : min c 4611686018427387904 = c := by omega
          have c7 : decide (4611686018427387904 - c < b) = true := decide_eq_true (by omega)
          clear hC
          clear hB
          go_enter Tryz.func8, Tryz.ntmps8
          go_wp2_with fail
          refine AW.out.mono ?_; rintro e w1 ⟨rfl, hb1⟩
          go_wp2_with fail
          refine (C1.out _).mono ?_; rintro e w2 ⟨rfl, rfl⟩
          go_wp2_with fail
          refine (C2.out _).mono ?_; rintro e w2 ⟨rfl, rfl⟩
          go_wp2_with fail
          refine (C3.out _).mono ?_; rintro e w2 ⟨rfl, rfl⟩
          go_wp2_with fail
          go_ret
          exact ⟨rfl, hb1⟩
set_option maxRecDepth 100000 in
set_option maxHeartbeats 4000000 in
theorem times_on (a b c : Int) (ha : I64 a) (hb : I64 b) (hc : I64 c) (w : World) (E : Env w) (hB : 0 ≤ b) (hC : 0 ≤ c) (hS : b + c ≤ 4611686018427387904) :
    Calls Tryz.prog 8 #[.int .i64 a, .int .i64 b, .int .i64 c] w fun e w' => e = .returned (.bool true) ∧ Below w.heap.size w w' := by
  have AW := Lib.hid (awake_any w E); clear E
  have C1 := Lib.hid (fun w => mul_any a b ha hb w)
  have C2 := Lib.hid (fun w => mul_back a b ha hb w)
  have C3 := Lib.hid (fun w => mul_any a 1 ha (by unfold I64; decide) w)
  have q1 := mE_one (a := a) (b := b)
  have hb' : I64 (b + c) := by unfold I64; omega
  have C4 := Lib.hid (fun w => mul_any a (b + c) ha hb' w)
  have C5 := Lib.hid (fun w => mul_any a c ha hc w)
  have hB0 : ¬ b < 0 := by omega
  have c1 : decide (c < 0) = false := decide_eq_false (by omega)
  have c4 : decide (4611686018427387904 < c) = false := decide_eq_false (by omega)
  have c5 : min c 4611686018427387904 = c := by omega
  have c7 : decide (4611686018427387904 - c < b) = false := decide_eq_false (by omega)
  have hc1 : c ≤ 4611686018427387904 := by omega
  have hb1' : b ≤ 4611686018427387904 := by omega
  clear hb'
  by_cases hA : a < 0
  · have s1 : decide (a < 0) = true := decide_eq_true hA
    have q2 : (mE a b == 1) = true := by rw [q1]; exact decide_eq_true (Or.inl hA)
    have s3 : decide (0 ≤ a) = false := decide_eq_false (by omega)
    have s2 : decide (b < 0) = false := decide_eq_false hB0
    have m1 : mE a (b + c) = 1 := (m_arg (Or.inl hA)).2
    have m2 : (mE a (b + c) != 0) = true := by rw [m1]; rfl
    clear m1 q1 ha hb hc hA hB0
    go_enter Tryz.func8, Tryz.ntmps8
    go_wp2_with fail
    refine AW.out.mono ?_; rintro e w1 ⟨rfl, hb1⟩
    go_wp2_with fail
    refine (C1.out _).mono ?_; rintro e w2 ⟨rfl, rfl⟩
    go_wp2_with fail
    refine (C2.out _).mono ?_; rintro e w2 ⟨rfl, rfl⟩
    go_wp2_with fail
    refine (C3.out _).mono ?_; rintro e w2 ⟨rfl, rfl⟩
    go_wp2_with fail
    refine (C4.out _).mono ?_; rintro e w2 ⟨rfl, rfl⟩
    go_wp2_with fail
    refine (C5.out _).mono ?_; rintro e w2 ⟨rfl, rfl⟩
    go_wp2_with fail
    go_ret
    exact ⟨rfl, hb1⟩
  · by_cases hA2 : a ≤ 4611686018427387904
    · have s1 : decide (a < 0) = false := decide_eq_false (by omega)
      have s3 : decide (0 ≤ a) = true := decide_eq_true (by omega)
      have s2 : decide (b < 0) = false := decide_eq_false hB0
      have q2 : (mE a b == 1) = false := by rw [q1]; exact decide_eq_false (by omega)
      have s4 : decide (a ≤ 4611686018427387904) = true := decide_eq_true hA2
      have z := mul_near (a := a) (b := 1) (by omega) (by decide) (near_iff.2 (by omega))
      rw [Int.mul_one] at z
      have z1 := z.1
      have z2 := z.2
      have ha0 : 0 ≤ a := by omega
      have hd : a * (b + c) = a * b + a * c := Int.mul_add a b c
      have p1 : 0 ≤ a * b := Int.mul_nonneg ha0 hB
      have p2 : 0 ≤ a * c := Int.mul_nonneg ha0 hC
      have CA := Lib.hid (fun h1 h2 w => add_any (a * b) (a * c) h1 h2 w)
      clear q1 ha hb hc hA hA2 hB0 z
      rcases near_bool (a * (b + c)) with hn | hn
      · have mm := mul_near ha0 (by omega : 0 ≤ b + c) hn
        have n1 := near_less hn p1 (by omega)
        have n2 := near_less hn p2 (by omega)
        have mb := mul_near ha0 hB n1
        have mc := mul_near ha0 hC n2
        have e1 := mm.2
        have e2 := mb.1
        have e3 := mb.2
        have e4 := mc.1
        have e5 := mc.2
        have e6 := mm.1
        have J1 : Hid (I64 (a * b)) := by have := near_iff.1 n1; show I64 _; unfold I64; omega
        have J2 : Hid (I64 (a * c)) := by have := near_iff.1 n2; show I64 _; unfold I64; omega
        have t1 : tN (a * b + a * c) = a * (b + c) := by rw [← hd]; exact tN_near hn
        have t2 : tE (a * b + a * c) = 0 := by rw [← hd]; exact tE_near hn
        clear mm mb mc n1 n2 hn
        generalize a * (b + c) = X at *
        have HD := Lib.hid hd; clear hd p1 p2
        go_enter Tryz.func8, Tryz.ntmps8
        go_wp2_with fail
        refine AW.out.mono ?_; rintro e w1 ⟨rfl, hb1⟩
        go_wp2_with fail
        refine (C1.out _).mono ?_; rintro e w2 ⟨rfl, rfl⟩
        go_wp2_with fail
        refine (C2.out _).mono ?_; rintro e w2 ⟨rfl, rfl⟩
        go_wp2_with fail
        refine (C3.out _).mono ?_; rintro e w2 ⟨rfl, rfl⟩
        go_wp2_with (go_at_call 27; refine (is_yes _ _ rfl _).mono ?_; rintro e w' ⟨rfl, rfl⟩)
        refine (C4.out _).mono ?_; rintro e w2 ⟨rfl, rfl⟩
        go_wp2_with fail
        refine (C5.out _).mono ?_; rintro e w2 ⟨rfl, rfl⟩
        go_wp2_with fail
        refine (carry hb1 (CA.out J1.out J2.out _)).mono ?_; rintro e w3 ⟨rfl, hb2⟩
        go_wp2_with (go_at_call 27; refine (is_yes _ _ rfl _).mono ?_; rintro e w' ⟨rfl, rfl⟩)
        go_ret
        exact ⟨rfl, hb2⟩
      · have m1 := mul_far ha0 (by omega : 0 ≤ b + c) hn
        have m2 : (mE a (b + c) != 0) = true := by rw [m1]; rfl
        have hfar := near_no.1 hn
        rcases near_bool (a * b) with n1 | n1
        · have mb := mul_near ha0 hB n1
          have e2 := mb.1
          have e3 := mb.2
          rcases near_bool (a * c) with n2 | n2
          · have mc := mul_near ha0 hC n2
            have e4 := mc.1
            have e5 := mc.2
            have b1 := near_iff.1 n1
            have b2 := near_iff.1 n2
            have t1 : decide (4611686018427387904 - a * c < a * b) = true := decide_eq_true (by omega)
            have b3 : a * c ≤ 4611686018427387904 := b2.2
            clear mb mc m1 n1 n2 hn hfar b1 b2 hd p1 CA
            go_enter Tryz.func8, Tryz.ntmps8
            go_wp2_with fail
            refine AW.out.mono ?_; rintro e w1 ⟨rfl, hb1⟩
            go_wp2_with fail
            refine (C1.out _).mono ?_; rintro e w2 ⟨rfl, rfl⟩
            go_wp2_with fail
            refine (C2.out _).mono ?_; rintro e w2 ⟨rfl, rfl⟩
            go_wp2_with fail
            refine (C3.out _).mono ?_; rintro e w2 ⟨rfl, rfl⟩
            go_wp2_with (go_at_call 27; refine (is_yes _ _ rfl _).mono ?_; rintro e w' ⟨rfl, rfl⟩)
            refine (C4.out _).mono ?_; rintro e w2 ⟨rfl, rfl⟩
            go_wp2_with fail
            refine (C5.out _).mono ?_; rintro e w2 ⟨rfl, rfl⟩
            go_wp2_with fail
            go_ret
            exact ⟨rfl, hb1⟩
          · have e5 := mul_far ha0 hC n2
            have e6 : (mE a c != 0) = true := by rw [e5]; rfl
            clear mb m1 n1 n2 hn hfar hd p1 p2 e5 CA
            go_enter Tryz.func8, Tryz.ntmps8
            go_wp2_with fail
            refine AW.out.mono ?_; rintro e w1 ⟨rfl, hb1⟩
            go_wp2_with fail
            refine (C1.out _).mono ?_; rintro e w2 ⟨rfl, rfl⟩
            go_wp2_with fail
            refine (C2.out _).mono ?_; rintro e w2 ⟨rfl, rfl⟩
            go_wp2_with fail
            refine (C3.out _).mono ?_; rintro e w2 ⟨rfl, rfl⟩
            go_wp2_with (go_at_call 27; refine (is_yes _ _ rfl _).mono ?_; rintro e w' ⟨rfl, rfl⟩)
            refine (C4.out _).mono ?_; rintro e w2 ⟨rfl, rfl⟩
            go_wp2_with fail
            refine (C5.out _).mono ?_; rintro e w2 ⟨rfl, rfl⟩
            go_wp2_with fail
            go_ret
            exact ⟨rfl, hb1⟩
        · have e5 := mul_far ha0 hB n1
          have e6 : (mE a b != 0) = true := by rw [e5]; rfl
          clear m1 n1 hn hfar hd p1 p2 CA
          go_enter Tryz.func8, Tryz.ntmps8
          go_wp2_with fail
          refine AW.out.mono ?_; rintro e w1 ⟨rfl, hb1⟩
          go_wp2_with fail
          refine (C1.out _).mono ?_; rintro e w2 ⟨rfl, rfl⟩
          go_wp2_with fail
          refine (C2.out _).mono ?_; rintro e w2 ⟨rfl, rfl⟩
          go_wp2_with fail
          refine (C3.out _).mono ?_; rintro e w2 ⟨rfl, rfl⟩
          go_wp2_with (go_at_call 27; refine (is_yes _ _ rfl _).mono ?_; rintro e w' ⟨rfl, rfl⟩)
          refine (C4.out _).mono ?_; rintro e w2 ⟨rfl, rfl⟩
          go_wp2_with fail
          refine (C5.out _).mono ?_; rintro e w2 ⟨rfl, rfl⟩
          go_wp2_with fail
          go_ret
          exact ⟨rfl, hb1⟩
    · have s1 : decide (a < 0) = false := decide_eq_false (by omega)
      have s3 : decide (0 ≤ a) = true := decide_eq_true (by omega)
      have s2 : decide (b < 0) = false := decide_eq_false hB0
      have q2 : (mE a b == 1) = false := by rw [q1]; exact decide_eq_false (by omega)
      have s4 : decide (a ≤ 4611686018427387904) = false := decide_eq_false hA2
      have ha0 : 0 ≤ a := by omega
      have hd : a * (b + c) = a * b + a * c := Int.mul_add a b c
      have p1 : 0 ≤ a * b := Int.mul_nonneg ha0 hB
      have p2 : 0 ≤ a * c := Int.mul_nonneg ha0 hC
      have CA := Lib.hid (fun h1 h2 w => add_any (a * b) (a * c) h1 h2 w)
      clear q1 ha hb hc hA hA2 hB0
      rcases near_bool (a * (b + c)) with hn | hn
      · have mm := mul_near ha0 (by omega : 0 ≤ b + c) hn
        have n1 := near_less hn p1 (by omega)
        have n2 := near_less hn p2 (by omega)
        have mb := mul_near ha0 hB n1
        have mc := mul_near ha0 hC n2
        have e1 := mm.2
        have e2 := mb.1
        have e3 := mb.2
        have e4 := mc.1
        have e5 := mc.2
        have e6 := mm.1
        have J1 : Hid (I64 (a * b)) := by have := near_iff.1 n1; show I64 _; unfold I64; omega
        have J2 : Hid (I64 (a * c)) := by have := near_iff.1 n2; show I64 _; unfold I64; omega
        have t1 : tN (a * b + a * c) = a * (b + c) := by rw [← hd]; exact tN_near hn
        have t2 : tE (a * b + a * c) = 0 := by rw [← hd]; exact tE_near hn
        clear mm mb mc n1 n2 hn
        generalize a * (b + c) = X at *
        have HD := Lib.hid hd; clear hd p1 p2
        go_enter Tryz.func8, Tryz.ntmps8
        go_wp2_with fail
        refine AW.out.mono ?_; rintro e w1 ⟨rfl, hb1⟩
        go_wp2_with fail
        refine (C1.out _).mono ?_; rintro e w2 ⟨rfl, rfl⟩
        go_wp2_with fail
        refine (C2.out _).mono ?_; rintro e w2 ⟨rfl, rfl⟩
        go_wp2_with fail
        refine (C3.out _).mono ?_; rintro e w2 ⟨rfl, rfl⟩
        go_wp2_with fail
        refine (C4.out _).mono ?_; rintro e w2 ⟨rfl, rfl⟩
        go_wp2_with fail
        refine (C5.out _).mono ?_; rintro e w2 ⟨rfl, rfl⟩
        go_wp2_with fail
        refine (carry hb1 (CA.out J1.out J2.out _)).mono ?_; rintro e w3 ⟨rfl, hb2⟩
        go_wp2_with (go_at_call 27; refine (is_yes _ _ rfl _).mono ?_; rintro e w' ⟨rfl, rfl⟩)
        go_ret
        exact ⟨rfl, hb2⟩
      · have m1 := mul_far ha0 (by omega : 0 ≤ b + c) hn
        have m2 : (mE a (b + c) != 0) = true := by rw [m1]; rfl
        have hfar := near_no.1 hn
        rcases near_bool (a * b) with n1 | n1
        · have mb := mul_near ha0 hB n1
          have e2 := mb.1
          have e3 := mb.2
          rcases near_bool (a * c) with n2 | n2
          · have mc := mul_near ha0 hC n2
            have e4 := mc.1
            have e5 := mc.2
            have b1 := near_iff.1 n1
            have b2 := near_iff.1 n2
            have t1 : decide (4611686018427387904 - a * c < a * b) = true := decide_eq_true (by omega)
            have b3 : a * c ≤ 4611686018427387904 := b2.2
            clear mb mc m1 n1 n2 hn hfar b1 b2 hd p1 CA
            go_enter Tryz.func8, Tryz.ntmps8
            go_wp2_with fail
            refine AW.out.mono ?_; rintro e w1 ⟨rfl, hb1⟩
            go_wp2_with fail
            refine (C1.out _).mono ?_; rintro e w2 ⟨rfl, rfl⟩
            go_wp2_with fail
            refine (C2.out _).mono ?_; rintro e w2 ⟨rfl, rfl⟩
            go_wp2_with fail
            refine (C3.out _).mono ?_; rintro e w2 ⟨rfl, rfl⟩
            go_wp2_with fail
            refine (C4.out _).mono ?_; rintro e w2 ⟨rfl, rfl⟩
            go_wp2_with fail
            refine (C5.out _).mono ?_; rintro e w2 ⟨rfl, rfl⟩
            go_wp2_with fail
            go_ret
            exact ⟨rfl, hb1⟩
          · have e5 := mul_far ha0 hC n2
            have e6 : (mE a c != 0) = true := by rw [e5]; rfl
            clear mb m1 n1 n2 hn hfar hd p1 p2 e5 CA
            go_enter Tryz.func8, Tryz.ntmps8
            go_wp2_with fail
            refine AW.out.mono ?_; rintro e w1 ⟨rfl, hb1⟩
            go_wp2_with fail
            refine (C1.out _).mono ?_; rintro e w2 ⟨rfl, rfl⟩
            go_wp2_with fail
            refine (C2.out _).mono ?_; rintro e w2 ⟨rfl, rfl⟩
            go_wp2_with fail
            refine (C3.out _).mono ?_; rintro e w2 ⟨rfl, rfl⟩
            go_wp2_with fail
            refine (C4.out _).mono ?_; rintro e w2 ⟨rfl, rfl⟩
            go_wp2_with fail
            refine (C5.out _).mono ?_; rintro e w2 ⟨rfl, rfl⟩
            go_wp2_with fail
            go_ret
            exact ⟨rfl, hb1⟩
        · have e5 := mul_far ha0 hB n1
          have e6 : (mE a b != 0) = true := by rw [e5]; rfl
          clear m1 n1 hn hfar hd p1 p2 CA
          go_enter Tryz.func8, Tryz.ntmps8
          go_wp2_with fail
          refine AW.out.mono ?_; rintro e w1 ⟨rfl, hb1⟩
          go_wp2_with fail
          refine (C1.out _).mono ?_; rintro e w2 ⟨rfl, rfl⟩
          go_wp2_with fail
          refine (C2.out _).mono ?_; rintro e w2 ⟨rfl, rfl⟩
          go_wp2_with fail
          refine (C3.out _).mono ?_; rintro e w2 ⟨rfl, rfl⟩
          go_wp2_with fail
          refine (C4.out _).mono ?_; rintro e w2 ⟨rfl, rfl⟩
          go_wp2_with fail
          refine (C5.out _).mono ?_; rintro e w2 ⟨rfl, rfl⟩
          go_wp2_with fail
          go_ret
          exact ⟨rfl, hb1⟩
theorem moneyTimes_walk (a b c : Int) (w : World) (w0 : (Lit.int .i64 a).wf = true) (w1 : (Lit.int .i64 b).wf = true) (w2 : (Lit.int .i64 c).wf = true) (E : Env w) :
    Calls Tryz.prog 8 #[.int .i64 a, .int .i64 b, .int .i64 c] w fun e w' => e = .returned (.bool true) ∧ Below w.heap.size w w' := by
  have ha := I64.of_wf w0
  have hb := I64.of_wf w1
  have hc := I64.of_wf w2
  by_cases hB : b < 0
  · exact times_neg a b c ha hb hc w E hB
  · by_cases hC : c < 0 ∨ 4611686018427387904 < c ∨ 4611686018427387904 - c < b
    · exact times_bad a b c ha hb hc w E hB hC
    · exact times_on a b c ha hb hc w E (by omega) (by omega) (by omega)

end Go.Proofs.YtfocdlhaohhkjaaGreatDoor.Money
