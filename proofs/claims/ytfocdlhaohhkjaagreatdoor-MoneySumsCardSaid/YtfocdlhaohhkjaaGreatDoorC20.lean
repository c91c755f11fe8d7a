/-
  The walk of the document's Cap.
-/
import Derived.Test.YtfocdlhaohhkjaaGreatDoorC9R
namespace Go.Proofs.YtfocdlhaohhkjaaGreatDoor.Money
open Go.RowKit

theorem clamp_low {a : Int} (h : a < 0) : clamp a = 0 := by unfold clamp; omega
theorem clamp_high {a : Int} (h : 4611686018427387904 < a) : clamp a = 4611686018427387904 := by unfold clamp; omega
theorem clamp_mid {a : Int} (h : ¬ a < 0) (k : ¬ 4611686018427387904 < a) : clamp a = a := by unfold clamp; omega
theorem clamp_ok (a : Int) : I64 (clamp a) := by have := clamp_bd a; unfold I64; omega
theorem cap_near {a b : Int} (h : near (clamp a + clamp b) = true) : capV a b = clamp a + clamp b := by rw [cap_sum, if_pos h]
theorem cap_far {a b : Int} (h : near (clamp a + clamp b) = false) : capV a b = 4611686018427387904 := by rw [cap_sum, if_neg (by rw [h]; decide)]
/-- each number, as the loop finds it -/
theorem three (a : Int) (P : Prop) (h1 : a < 0 → P) (h2 : ¬ a < 0 → 4611686018427387904 < a → P) (h3 : ¬ a < 0 → ¬ 4611686018427387904 < a → P) : P := by
  by_cases h : a < 0
  · exact h1 h
  · by_cases k : 4611686018427387904 < a
    · exact h2 h k
    · exact h3 h k

theorem one_round {w : World} {T : TypeId} {x y x' y' : Int} (h1 : x = x') (h2 : y = y') : Hid (w.alloc (.cells #[.int .i64 x, .int .i64 y] T) = w.alloc (.cells #[.int .i64 x', .int .i64 y'] T)) := by rw [h1, h2]; rfl
set_option maxRecDepth 100000 in
set_option maxHeartbeats 1000000 in
theorem rcap_any (a b : Int) (_ha : I64 a) (_hb : I64 b) (w : World) :
    Calls Tryz.prog 22 #[.int .i64 a, .int .i64 b] w fun e w' => e = .returned (.int .i64 (capV a b)) ∧ Below w.heap.size w w' := by
  have R := Lib.hid (fun w T => rsum_two (clamp a) (clamp b) (clamp_ok a) (clamp_ok b) w T)
  go_enter Tryz.func22, Tryz.ntmps22
  go_wp2
  go_loopw [6] (fun i wr => ∃ k : Nat, k ≤ 2 ∧ i = .int .i64 k ∧ Hid (wr = w.alloc (.cells #[.int .i64 (if 0 < k then clamp a else a), .int .i64 (if 1 < k then clamp b else b)] 2))) (fun i _ => 2 - (intOf i).toNat)
  case atStart => exact ⟨0, by decide, rfl, rfl⟩
  case round =>
    obtain ⟨k, hk, rfl, hW⟩ := hrel
    rcases k with _ | _ | _ | k
    · have hw := hW.out
      simp only [Nat.lt_irrefl, if_false, Nat.not_lt_zero] at hw
      subst hw
      refine three a _ (fun h => ?_) (fun h h' => ?_) (fun h h' => ?_)
      · have d1 : decide (a < 0) = true := decide_eq_true h
        have HC := Lib.hid (clamp_low h)
        clear h
        go_wp2
        go_roundw
        case rel => exact ⟨1, by decide, rfl, one_round (by rw [if_pos (by decide), HC.out]) (by rw [if_neg (by decide)])⟩
        case measure => simp [intOf]
      · have d1 : decide (a < 0) = false := decide_eq_false h
        have d2 : decide (4611686018427387904 < a) = true := decide_eq_true h'
        have HC := Lib.hid (clamp_high h')
        clear h h'
        go_wp2
        go_roundw
        case rel => exact ⟨1, by decide, rfl, one_round (by rw [if_pos (by decide), HC.out]) (by rw [if_neg (by decide)])⟩
        case measure => simp [intOf]
      · have d1 : decide (a < 0) = false := decide_eq_false h
        have d2 : decide (4611686018427387904 < a) = false := decide_eq_false h'
        have HC := Lib.hid (clamp_mid h h')
        clear h h'
        go_wp2
        go_roundw
        case rel => exact ⟨1, by decide, rfl, one_round (by rw [if_pos (by decide), HC.out]) (by rw [if_neg (by decide)])⟩
        case measure => simp [intOf]
    · have hw := hW.out
      simp only [Nat.zero_lt_one, Nat.lt_irrefl, if_true, if_false, Nat.zero_add] at hw
      subst hw
      refine three b _ (fun h => ?_) (fun h h' => ?_) (fun h h' => ?_)
      · have d1 : decide (b < 0) = true := decide_eq_true h
        have HC := Lib.hid (clamp_low h)
        clear h
        go_wp2
        go_roundw
        case rel => exact ⟨2, by decide, rfl, one_round (by rw [if_pos (by decide)]) (by rw [if_pos (by decide), HC.out])⟩
        case measure => simp [intOf]
      · have d1 : decide (b < 0) = false := decide_eq_false h
        have d2 : decide (4611686018427387904 < b) = true := decide_eq_true h'
        have HC := Lib.hid (clamp_high h')
        clear h h'
        go_wp2
        go_roundw
        case rel => exact ⟨2, by decide, rfl, one_round (by rw [if_pos (by decide)]) (by rw [if_pos (by decide), HC.out])⟩
        case measure => simp [intOf]
      · have d1 : decide (b < 0) = false := decide_eq_false h
        have d2 : decide (4611686018427387904 < b) = false := decide_eq_false h'
        have HC := Lib.hid (clamp_mid h h')
        clear h h'
        go_wp2
        go_roundw
        case rel => exact ⟨2, by decide, rfl, one_round (by rw [if_pos (by decide)]) (by rw [if_pos (by decide), HC.out])⟩
        case measure => simp [intOf]
    · have hw := hW.out
      simp only [show (0 < 0 + 1 + 1) = True from by simp, show (1 < 0 + 1 + 1) = True from by simp, if_true] at hw
      subst hw
      rcases tE_two (clamp a + clamp b) with e1 | e1
      · have hn : near (clamp a + clamp b) = true := by
          cases h : near (clamp a + clamp b) with
          | true => rfl
          | false => rw [tE_far h] at e1; cases e1
        have t1 := tN_near hn
        have HC := Lib.hid (cap_near hn)
        clear hn
        go_wp2_with fail
        refine (R.out w _).mono ?_; rintro e w1 ⟨rfl, hb1⟩
        go_wp2_with fail
        go_ret
        exact ⟨ret_int HC.out.symm, hb1⟩
      · have hn : near (clamp a + clamp b) = false := by
          cases h : near (clamp a + clamp b) with
          | false => rfl
          | true => rw [tE_near h] at e1; cases e1
        have HC := Lib.hid (cap_far hn)
        clear hn
        go_wp2_with fail
        refine (R.out w _).mono ?_; rintro e w1 ⟨rfl, hb1⟩
        go_wp2_with fail
        go_ret
        exact ⟨ret_int HC.out.symm, hb1⟩
    · omega

end Go.Proofs.YtfocdlhaohhkjaaGreatDoor.Money
