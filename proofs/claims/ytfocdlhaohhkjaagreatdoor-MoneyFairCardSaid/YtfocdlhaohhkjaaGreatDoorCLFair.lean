/-
  The walk of the statement MoneyFair.
-/
import Derived.Test.YtfocdlhaohhkjaaGreatDoorC17
import Derived.Test.YtfocdlhaohhkjaaGreatDoorC7A
namespace Go.Proofs.YtfocdlhaohhkjaaGreatDoor.Money
open Go.RowKit

theorem fE_zero {n b : Int} (h : fE n b = 0) : 0 ≤ n ∧ n ≤ 4611686018427387904 ∧ 0 ≤ b ∧ b ≤ 1000 := by
  by_cases h1 : n < 0 ∨ b < 0 ∨ 1000 < b
  · rw [(f_arg h1).2] at h; cases h
  · by_cases h2 : 4611686018427387904 < n
    · rw [(f_far (by omega) (by omega) (by omega) h2).2] at h; cases h
    · omega
theorem fN_err {n b : Int} (h : fE n b ≠ 0) : fN n b = 0 := by
  by_cases h1 : n < 0 ∨ b < 0 ∨ 1000 < b
  · exact (f_arg h1).1
  · by_cases h2 : 4611686018427387904 < n
    · exact (f_far (by omega) (by omega) (by omega) h2).1
    · exact absurd (f_ok (n := n) (b := b) (by omega) (by omega) (by omega) (by omega)).2 h
theorem fee_ok (n b : Int) (h : fE n b = 0) (w : World) :
    Calls Tryz.prog 15 #[.int .i64 n, .int .i64 b] w fun e w' => e = .returned (.tuple #[.int .i64 (feeV n b), .int .i64 0]) ∧ w = w' := by
  have z := fE_zero h
  exact pin_two (fee_any n b (by unfold I64; omega) (by unfold I64; omega) w) (f_ok z.1 z.2.2.1 z.2.2.2 z.2.1).1 h
theorem fE_ok {n b : Int} (h0 : 0 ≤ n) (h1 : n ≤ 4611686018427387904) (b0 : 0 ≤ b) (b1 : b ≤ 1000) : fE n b = 0 := (f_ok h0 b0 b1 h1).2

set_option maxRecDepth 100000 in
set_option maxHeartbeats 1000000 in
theorem fair_walk (a b f g : Int) (ha : I64 a) (hb : I64 b) (hf : I64 f) (hg : I64 g) (w : World) (E : Env w) :
    Calls Tryz.prog 9 #[.int .i64 a, .int .i64 b, .int .i64 f, .int .i64 g] w fun e w' => e = .returned (.bool true) ∧ Below w.heap.size w w' := by
  have AW := Lib.hid (awake_any w E); clear E
  have w0 : wrap64 0 = 0 := by unfold wrap64; decide +kernel
  by_cases hA : fE a f = 0
  · by_cases hB : fE b f = 0
    · have za := fE_zero hA
      have zb := fE_zero hB
      have C1 := Lib.hid (fee_ok a f hA)
      have C2 := Lib.hid (fee_ok b f hB)
      have C3 := Lib.hid (fee_ok a 0 (fE_ok za.1 za.2.1 (by decide) (by decide)))
      rw [feeV_zero] at C3
      have C4 := Lib.hid (fun w => fee_any a g ha hg w)
      have bx := feeV_bd a f za.1 za.2.1 za.2.2.1 za.2.2.2
      have by' := feeV_bd b f zb.1 zb.2.1 zb.2.2.1 zb.2.2.2
      have g1 : decide (feeV a f < 0) = false := decide_eq_false (by omega)
      have g2 : decide (a / 10 < feeV a f) = false := decide_eq_false (by omega)
      have a0 := za.1
      have a1 := za.2.1
      have HG : Hid (fE a g = 0 → f ≤ g → feeV a f ≤ fN a g) := fun h k => by
        have zg := fE_zero h
        rw [(f_ok zg.1 zg.2.2.1 zg.2.2.2 zg.2.1).1]; exact feeV_by a f g k za.1
      have HL : Hid (a ≤ b → feeV a f ≤ feeV b f) := fun h => feeV_more a b f h za.2.2.1
      have HS := Lib.hid (feeV_sum a b f)
      have C5 := Lib.hid (fun w => add_any a b ha hb w)
      have HZ : Hid (near (a + b) = true → fE (a + b) f = 0) := fun h => fE_ok (by omega) (near_iff.1 h).2 za.2.2.1 za.2.2.2
      have C6 := Lib.hid (fun h w => fee_ok (a + b) f (HZ.out h) w)
      clear ha hb hf hg hA hB za zb
      have hn' : near (a + b) = true ∨ near (a + b) = false := by cases near (a + b) <;> simp
      have bX0 : 0 ≤ feeV a f := bx.1
      have bX1 : feeV a f ≤ 461168601842738790 := bx.2.1
      have bY0 : 0 ≤ feeV b f := by'.1
      have bY1 : feeV b f ≤ 461168601842738790 := by'.2.1
      by_cases hab : a ≤ b
      · have g3 : decide (a ≤ b) = true := decide_eq_true hab
        have g4 : decide (feeV b f < feeV a f) = false := decide_eq_false (by have := HL.out hab; omega)
        clear hab
        by_cases hj : fE a g = 0
        · have j1 : (fE a g == 0) = true := by rw [beq_iff_eq]; exact hj
          by_cases hfg : f ≤ g
          · have j2 : decide (f ≤ g) = true := decide_eq_true hfg
            have j3 : decide (fN a g < feeV a f) = false := decide_eq_false (by have := HG.out hj hfg; omega)
            clear hj hfg
            rcases hn' with hn | hn
            · have N := Lib.hid hn
              have HN : Hid (Value.int IntKind.i64 (tE (a + b)) = .int .i64 0) := by rw [tE_near hn]; rfl
              have t1 := tN_near hn
              have t2 := tE_near hn
              clear hn
              have hz : (feeV (a + b) f == feeV a f + feeV b f) = true ∨ ((feeV (a + b) f == feeV a f + feeV b f) = false ∧ (feeV (a + b) f == feeV a f + feeV b f + 1) = true) := by
                rcases HS.out with h | h
                · left; rw [h]; exact beq_self_eq_true _
                · right; rw [h]; exact ⟨by rw [beq_eq_false_iff_ne]; omega, beq_self_eq_true _⟩
              rcases hz with z1 | ⟨z1, z2⟩
              · clear HG HL bx by'
                go_enter Tryz.func9, Tryz.ntmps9
                go_wp2_with fail
                refine AW.out.mono ?_; rintro e w1 ⟨rfl, hb1⟩
                go_wp2_with fail
                refine (C1.out _).mono ?_; rintro e w2 ⟨rfl, rfl⟩
                go_wp2_with fail
                refine (C2.out _).mono ?_; rintro e w2 ⟨rfl, rfl⟩
                go_wp2_with fail
                refine (C3.out _).mono ?_; rintro e w2 ⟨rfl, rfl⟩
                go_wp2_with (go_at_call 27; refine (is_yes _ _ rfl _).mono ?_; rintro e w' ⟨rfl, rfl⟩)
                refine (C4.out _).mono ?_; rintro e w2 ⟨rfl, rfl⟩
                go_wp2_with fail
                refine (carry hb1 (C5.out _)).mono ?_; rintro e w2 ⟨rfl, hb2⟩
                go_wp2_with fail
                refine (C6.out N.out _).mono ?_; rintro e w2 ⟨rfl, rfl⟩
                go_wp2_with fail
                go_ret
                exact ⟨rfl, hb2⟩
              · clear HG HL bx by'
                go_enter Tryz.func9, Tryz.ntmps9
                go_wp2_with fail
                refine AW.out.mono ?_; rintro e w1 ⟨rfl, hb1⟩
                go_wp2_with fail
                refine (C1.out _).mono ?_; rintro e w2 ⟨rfl, rfl⟩
                go_wp2_with fail
                refine (C2.out _).mono ?_; rintro e w2 ⟨rfl, rfl⟩
                go_wp2_with fail
                refine (C3.out _).mono ?_; rintro e w2 ⟨rfl, rfl⟩
                go_wp2_with (go_at_call 27; refine (is_yes _ _ rfl _).mono ?_; rintro e w' ⟨rfl, rfl⟩)
                refine (C4.out _).mono ?_; rintro e w2 ⟨rfl, rfl⟩
                go_wp2_with fail
                refine (carry hb1 (C5.out _)).mono ?_; rintro e w2 ⟨rfl, hb2⟩
                go_wp2_with fail
                refine (C6.out N.out _).mono ?_; rintro e w2 ⟨rfl, rfl⟩
                go_wp2_with fail
                go_ret
                exact ⟨rfl, hb2⟩
            · have t1 := tN_far hn
              have t2 := tE_far hn
              clear hn
              clear HG HL bx by'
              go_enter Tryz.func9, Tryz.ntmps9
              go_wp2_with fail
              refine AW.out.mono ?_; rintro e w1 ⟨rfl, hb1⟩
              go_wp2_with fail
              refine (C1.out _).mono ?_; rintro e w2 ⟨rfl, rfl⟩
              go_wp2_with fail
              refine (C2.out _).mono ?_; rintro e w2 ⟨rfl, rfl⟩
              go_wp2_with fail
              refine (C3.out _).mono ?_; rintro e w2 ⟨rfl, rfl⟩
              go_wp2_with (go_at_call 27; refine (is_yes _ _ rfl _).mono ?_; rintro e w' ⟨rfl, rfl⟩)
              refine (C4.out _).mono ?_; rintro e w2 ⟨rfl, rfl⟩
              go_wp2_with fail
              refine (carry hb1 (C5.out _)).mono ?_; rintro e w2 ⟨rfl, hb2⟩
              go_wp2_with fail
              go_ret
              exact ⟨rfl, hb2⟩
          · have j2 : decide (f ≤ g) = false := decide_eq_false hfg
            clear hj hfg
            rcases hn' with hn | hn
            · have N := Lib.hid hn
              have HN : Hid (Value.int IntKind.i64 (tE (a + b)) = .int .i64 0) := by rw [tE_near hn]; rfl
              have t1 := tN_near hn
              have t2 := tE_near hn
              clear hn
              have hz : (feeV (a + b) f == feeV a f + feeV b f) = true ∨ ((feeV (a + b) f == feeV a f + feeV b f) = false ∧ (feeV (a + b) f == feeV a f + feeV b f + 1) = true) := by
                rcases HS.out with h | h
                · left; rw [h]; exact beq_self_eq_true _
                · right; rw [h]; exact ⟨by rw [beq_eq_false_iff_ne]; omega, beq_self_eq_true _⟩
              rcases hz with z1 | ⟨z1, z2⟩
              · clear HG HL bx by'
                go_enter Tryz.func9, Tryz.ntmps9
                go_wp2_with fail
                refine AW.out.mono ?_; rintro e w1 ⟨rfl, hb1⟩
                go_wp2_with fail
                refine (C1.out _).mono ?_; rintro e w2 ⟨rfl, rfl⟩
                go_wp2_with fail
                refine (C2.out _).mono ?_; rintro e w2 ⟨rfl, rfl⟩
                go_wp2_with fail
                refine (C3.out _).mono ?_; rintro e w2 ⟨rfl, rfl⟩
                go_wp2_with (go_at_call 27; refine (is_yes _ _ rfl _).mono ?_; rintro e w' ⟨rfl, rfl⟩)
                refine (C4.out _).mono ?_; rintro e w2 ⟨rfl, rfl⟩
                go_wp2_with fail
                refine (carry hb1 (C5.out _)).mono ?_; rintro e w2 ⟨rfl, hb2⟩
                go_wp2_with fail
                refine (C6.out N.out _).mono ?_; rintro e w2 ⟨rfl, rfl⟩
                go_wp2_with fail
                go_ret
                exact ⟨rfl, hb2⟩
              · clear HG HL bx by'
                go_enter Tryz.func9, Tryz.ntmps9
                go_wp2_with fail
                refine AW.out.mono ?_; rintro e w1 ⟨rfl, hb1⟩
                go_wp2_with fail
                refine (C1.out _).mono ?_; rintro e w2 ⟨rfl, rfl⟩
                go_wp2_with fail
                refine (C2.out _).mono ?_; rintro e w2 ⟨rfl, rfl⟩
                go_wp2_with fail
                refine (C3.out _).mono ?_; rintro e w2 ⟨rfl, rfl⟩
                go_wp2_with (go_at_call 27; refine (is_yes _ _ rfl _).mono ?_; rintro e w' ⟨rfl, rfl⟩)
                refine (C4.out _).mono ?_; rintro e w2 ⟨rfl, rfl⟩
                go_wp2_with fail
                refine (carry hb1 (C5.out _)).mono ?_; rintro e w2 ⟨rfl, hb2⟩
                go_wp2_with fail
                refine (C6.out N.out _).mono ?_; rintro e w2 ⟨rfl, rfl⟩
                go_wp2_with fail
                go_ret
                exact ⟨rfl, hb2⟩
            · have t1 := tN_far hn
              have t2 := tE_far hn
              clear hn
              clear HG HL bx by'
              go_enter Tryz.func9, Tryz.ntmps9
              go_wp2_with fail
              refine AW.out.mono ?_; rintro e w1 ⟨rfl, hb1⟩
              go_wp2_with fail
              refine (C1.out _).mono ?_; rintro e w2 ⟨rfl, rfl⟩
              go_wp2_with fail
              refine (C2.out _).mono ?_; rintro e w2 ⟨rfl, rfl⟩
              go_wp2_with fail
              refine (C3.out _).mono ?_; rintro e w2 ⟨rfl, rfl⟩
              go_wp2_with (go_at_call 27; refine (is_yes _ _ rfl _).mono ?_; rintro e w' ⟨rfl, rfl⟩)
              refine (C4.out _).mono ?_; rintro e w2 ⟨rfl, rfl⟩
              go_wp2_with fail
              refine (carry hb1 (C5.out _)).mono ?_; rintro e w2 ⟨rfl, hb2⟩
              go_wp2_with fail
              go_ret
              exact ⟨rfl, hb2⟩
        · have j1 : (fE a g == 0) = false := by rw [beq_eq_false_iff_ne]; exact hj
          clear hj
          rcases hn' with hn | hn
          · have N := Lib.hid hn
            have HN : Hid (Value.int IntKind.i64 (tE (a + b)) = .int .i64 0) := by rw [tE_near hn]; rfl
            have t1 := tN_near hn
            have t2 := tE_near hn
            clear hn
            have hz : (feeV (a + b) f == feeV a f + feeV b f) = true ∨ ((feeV (a + b) f == feeV a f + feeV b f) = false ∧ (feeV (a + b) f == feeV a f + feeV b f + 1) = true) := by
              rcases HS.out with h | h
              · left; rw [h]; exact beq_self_eq_true _
              · right; rw [h]; exact ⟨by rw [beq_eq_false_iff_ne]; omega, beq_self_eq_true _⟩
            rcases hz with z1 | ⟨z1, z2⟩
            · clear HG HL bx by'
              go_enter Tryz.func9, Tryz.ntmps9
              go_wp2_with fail
              refine AW.out.mono ?_; rintro e w1 ⟨rfl, hb1⟩
              go_wp2_with fail
              refine (C1.out _).mono ?_; rintro e w2 ⟨rfl, rfl⟩
              go_wp2_with fail
              refine (C2.out _).mono ?_; rintro e w2 ⟨rfl, rfl⟩
              go_wp2_with fail
              refine (C3.out _).mono ?_; rintro e w2 ⟨rfl, rfl⟩
              go_wp2_with (go_at_call 27; refine (is_yes _ _ rfl _).mono ?_; rintro e w' ⟨rfl, rfl⟩)
              refine (C4.out _).mono ?_; rintro e w2 ⟨rfl, rfl⟩
              go_wp2_with fail
              refine (carry hb1 (C5.out _)).mono ?_; rintro e w2 ⟨rfl, hb2⟩
              go_wp2_with fail
              refine (C6.out N.out _).mono ?_; rintro e w2 ⟨rfl, rfl⟩
              go_wp2_with fail
              go_ret
              exact ⟨rfl, hb2⟩
            · clear HG HL bx by'
              go_enter Tryz.func9, Tryz.ntmps9
              go_wp2_with fail
              refine AW.out.mono ?_; rintro e w1 ⟨rfl, hb1⟩
              go_wp2_with fail
              refine (C1.out _).mono ?_; rintro e w2 ⟨rfl, rfl⟩
              go_wp2_with fail
              refine (C2.out _).mono ?_; rintro e w2 ⟨rfl, rfl⟩
              go_wp2_with fail
              refine (C3.out _).mono ?_; rintro e w2 ⟨rfl, rfl⟩
              go_wp2_with (go_at_call 27; refine (is_yes _ _ rfl _).mono ?_; rintro e w' ⟨rfl, rfl⟩)
              refine (C4.out _).mono ?_; rintro e w2 ⟨rfl, rfl⟩
              go_wp2_with fail
              refine (carry hb1 (C5.out _)).mono ?_; rintro e w2 ⟨rfl, hb2⟩
              go_wp2_with fail
              refine (C6.out N.out _).mono ?_; rintro e w2 ⟨rfl, rfl⟩
              go_wp2_with fail
              go_ret
              exact ⟨rfl, hb2⟩
          · have t1 := tN_far hn
            have t2 := tE_far hn
            clear hn
            clear HG HL bx by'
            go_enter Tryz.func9, Tryz.ntmps9
            go_wp2_with fail
            refine AW.out.mono ?_; rintro e w1 ⟨rfl, hb1⟩
            go_wp2_with fail
            refine (C1.out _).mono ?_; rintro e w2 ⟨rfl, rfl⟩
            go_wp2_with fail
            refine (C2.out _).mono ?_; rintro e w2 ⟨rfl, rfl⟩
            go_wp2_with fail
            refine (C3.out _).mono ?_; rintro e w2 ⟨rfl, rfl⟩
            go_wp2_with (go_at_call 27; refine (is_yes _ _ rfl _).mono ?_; rintro e w' ⟨rfl, rfl⟩)
            refine (C4.out _).mono ?_; rintro e w2 ⟨rfl, rfl⟩
            go_wp2_with fail
            refine (carry hb1 (C5.out _)).mono ?_; rintro e w2 ⟨rfl, hb2⟩
            go_wp2_with fail
            go_ret
            exact ⟨rfl, hb2⟩
      · have g3 : decide (a ≤ b) = false := decide_eq_false hab
        clear hab
        by_cases hj : fE a g = 0
        · have j1 : (fE a g == 0) = true := by rw [beq_iff_eq]; exact hj
          by_cases hfg : f ≤ g
          · have j2 : decide (f ≤ g) = true := decide_eq_true hfg
            have j3 : decide (fN a g < feeV a f) = false := decide_eq_false (by have := HG.out hj hfg; omega)
            clear hj hfg
            rcases hn' with hn | hn
            · have N := Lib.hid hn
              have HN : Hid (Value.int IntKind.i64 (tE (a + b)) = .int .i64 0) := by rw [tE_near hn]; rfl
              have t1 := tN_near hn
              have t2 := tE_near hn
              clear hn
              have hz : (feeV (a + b) f == feeV a f + feeV b f) = true ∨ ((feeV (a + b) f == feeV a f + feeV b f) = false ∧ (feeV (a + b) f == feeV a f + feeV b f + 1) = true) := by
                rcases HS.out with h | h
                · left; rw [h]; exact beq_self_eq_true _
                · right; rw [h]; exact ⟨by rw [beq_eq_false_iff_ne]; omega, beq_self_eq_true _⟩
              rcases hz with z1 | ⟨z1, z2⟩
              · clear HG HL bx by'
                go_enter Tryz.func9, Tryz.ntmps9
                go_wp2_with fail
                refine AW.out.mono ?_; rintro e w1 ⟨rfl, hb1⟩
                go_wp2_with fail
                refine (C1.out _).mono ?_; rintro e w2 ⟨rfl, rfl⟩
                go_wp2_with fail
                refine (C2.out _).mono ?_; rintro e w2 ⟨rfl, rfl⟩
                go_wp2_with fail
                refine (C3.out _).mono ?_; rintro e w2 ⟨rfl, rfl⟩
                go_wp2_with (go_at_call 27; refine (is_yes _ _ rfl _).mono ?_; rintro e w' ⟨rfl, rfl⟩)
                refine (C4.out _).mono ?_; rintro e w2 ⟨rfl, rfl⟩
                go_wp2_with fail
                refine (carry hb1 (C5.out _)).mono ?_; rintro e w2 ⟨rfl, hb2⟩
                go_wp2_with fail
                refine (C6.out N.out _).mono ?_; rintro e w2 ⟨rfl, rfl⟩
                go_wp2_with fail
                go_ret
                exact ⟨rfl, hb2⟩
              · clear HG HL bx by'
                go_enter Tryz.func9, Tryz.ntmps9
                go_wp2_with fail
                refine AW.out.mono ?_; rintro e w1 ⟨rfl, hb1⟩
                go_wp2_with fail
                refine (C1.out _).mono ?_; rintro e w2 ⟨rfl, rfl⟩
                go_wp2_with fail
                refine (C2.out _).mono ?_; rintro e w2 ⟨rfl, rfl⟩
                go_wp2_with fail
                refine (C3.out _).mono ?_; rintro e w2 ⟨rfl, rfl⟩
                go_wp2_with (go_at_call 27; refine (is_yes _ _ rfl _).mono ?_; rintro e w' ⟨rfl, rfl⟩)
                refine (C4.out _).mono ?_; rintro e w2 ⟨rfl, rfl⟩
                go_wp2_with fail
                refine (carry hb1 (C5.out _)).mono ?_; rintro e w2 ⟨rfl, hb2⟩
                go_wp2_with fail
                refine (C6.out N.out _).mono ?_; rintro e w2 ⟨rfl, rfl⟩
                go_wp2_with fail
                go_ret
                exact ⟨rfl, hb2⟩
            · have t1 := tN_far hn
              have t2 := tE_far hn
              clear hn
              clear HG HL bx by'
              go_enter Tryz.func9, Tryz.ntmps9
              go_wp2_with fail
              refine AW.out.mono ?_; rintro e w1 ⟨rfl, hb1⟩
              go_wp2_with fail
              refine (C1.out _).mono ?_; rintro e w2 ⟨rfl, rfl⟩
              go_wp2_with fail
              refine (C2.out _).mono ?_; rintro e w2 ⟨rfl, rfl⟩
              go_wp2_with fail
              refine (C3.out _).mono ?_; rintro e w2 ⟨rfl, rfl⟩
              go_wp2_with (go_at_call 27; refine (is_yes _ _ rfl _).mono ?_; rintro e w' ⟨rfl, rfl⟩)
              refine (C4.out _).mono ?_; rintro e w2 ⟨rfl, rfl⟩
              go_wp2_with fail
              refine (carry hb1 (C5.out _)).mono ?_; rintro e w2 ⟨rfl, hb2⟩
              go_wp2_with fail
              go_ret
              exact ⟨rfl, hb2⟩
          · have j2 : decide (f ≤ g) = false := decide_eq_false hfg
            clear hj hfg
            rcases hn' with hn | hn
            · have N := Lib.hid hn
              have HN : Hid (Value.int IntKind.i64 (tE (a + b)) = .int .i64 0) := by rw [tE_near hn]; rfl
              have t1 := tN_near hn
              have t2 := tE_near hn
              clear hn
              have hz : (feeV (a + b) f == feeV a f + feeV b f) = true ∨ ((feeV (a + b) f == feeV a f + feeV b f) = false ∧ (feeV (a + b) f == feeV a f + feeV b f + 1) = true) := by
                rcases HS.out with h | h
                · left; rw [h]; exact beq_self_eq_true _
                · right; rw [h]; exact ⟨by rw [beq_eq_false_iff_ne]; omega, beq_self_eq_true _⟩
              rcases hz with z1 | ⟨z1, z2⟩
              · clear HG HL bx by'
                go_enter Tryz.func9, Tryz.ntmps9
                go_wp2_with fail
                refine AW.out.mono ?_; rintro e w1 ⟨rfl, hb1⟩
                go_wp2_with fail
                refine (C1.out _).mono ?_; rintro e w2 ⟨rfl, rfl⟩
                go_wp2_with fail
                refine (C2.out _).mono ?_; rintro e w2 ⟨rfl, rfl⟩
                go_wp2_with fail
                refine (C3.out _).mono ?_; rintro e w2 ⟨rfl, rfl⟩
                go_wp2_with (go_at_call 27; refine (is_yes _ _ rfl _).mono ?_; rintro e w' ⟨rfl, rfl⟩)
                refine (C4.out _).mono ?_; rintro e w2 ⟨rfl, rfl⟩
                go_wp2_with fail
                refine (carry hb1 (C5.out _)).mono ?_; rintro e w2 ⟨rfl, hb2⟩
                go_wp2_with fail
                refine (C6.out N.out _).mono ?_; rintro e w2 ⟨rfl, rfl⟩
                go_wp2_with fail
                go_ret
                exact ⟨rfl, hb2⟩
              · clear HG HL bx by'
                go_enter Tryz.func9, Tryz.ntmps9
                go_wp2_with fail
                refine AW.out.mono ?_; rintro e w1 ⟨rfl, hb1⟩
                go_wp2_with fail
                refine (C1.out _).mono ?_; rintro e w2 ⟨rfl, rfl⟩
                go_wp2_with fail
                refine (C2.out _).mono ?_; rintro e w2 ⟨rfl, rfl⟩
                go_wp2_with fail
                refine (C3.out _).mono ?_; rintro e w2 ⟨rfl, rfl⟩
                go_wp2_with (go_at_call 27; refine (is_yes _ _ rfl _).mono ?_; rintro e w' ⟨rfl, rfl⟩)
                refine (C4.out _).mono ?_; rintro e w2 ⟨rfl, rfl⟩
                go_wp2_with fail
                refine (carry hb1 (C5.out _)).mono ?_; rintro e w2 ⟨rfl, hb2⟩
                go_wp2_with fail
                refine (C6.out N.out _).mono ?_; rintro e w2 ⟨rfl, rfl⟩
                go_wp2_with fail
                go_ret
                exact ⟨rfl, hb2⟩
            · have t1 := tN_far hn
              have t2 := tE_far hn
              clear hn
              clear HG HL bx by'
              go_enter Tryz.func9, Tryz.ntmps9
              go_wp2_with fail
              refine AW.out.mono ?_; rintro e w1 ⟨rfl, hb1⟩
              go_wp2_with fail
              refine (C1.out _).mono ?_; rintro e w2 ⟨rfl, rfl⟩
              go_wp2_with fail
              refine (C2.out _).mono ?_; rintro e w2 ⟨rfl, rfl⟩
              go_wp2_with fail
              refine (C3.out _).mono ?_; rintro e w2 ⟨rfl, rfl⟩
              go_wp2_with (go_at_call 27; refine (is_yes _ _ rfl _).mono ?_; rintro e w' ⟨rfl, rfl⟩)
              refine (C4.out _).mono ?_; rintro e w2 ⟨rfl, rfl⟩
              go_wp2_with fail
              refine (carry hb1 (C5.out _)).mono ?_; rintro e w2 ⟨rfl, hb2⟩
              go_wp2_with fail
              go_ret
              exact ⟨rfl, hb2⟩
        · have j1 : (fE a g == 0) = false := by rw [beq_eq_false_iff_ne]; exact hj
          clear hj
          rcases hn' with hn | hn
          · have N := Lib.hid hn
            have HN : Hid (Value.int IntKind.i64 (tE (a + b)) = .int .i64 0) := by rw [tE_near hn]; rfl
            have t1 := tN_near hn
            have t2 := tE_near hn
            clear hn
            have hz : (feeV (a + b) f == feeV a f + feeV b f) = true ∨ ((feeV (a + b) f == feeV a f + feeV b f) = false ∧ (feeV (a + b) f == feeV a f + feeV b f + 1) = true) := by
              rcases HS.out with h | h
              · left; rw [h]; exact beq_self_eq_true _
              · right; rw [h]; exact ⟨by rw [beq_eq_false_iff_ne]; omega, beq_self_eq_true _⟩
            rcases hz with z1 | ⟨z1, z2⟩
            · clear HG HL bx by'
              go_enter Tryz.func9, Tryz.ntmps9
              go_wp2_with fail
              refine AW.out.mono ?_; rintro e w1 ⟨rfl, hb1⟩
              go_wp2_with fail
              refine (C1.out _).mono ?_; rintro e w2 ⟨rfl, rfl⟩
              go_wp2_with fail
              refine (C2.out _).mono ?_; rintro e w2 ⟨rfl, rfl⟩
              go_wp2_with fail
              refine (C3.out _).mono ?_; rintro e w2 ⟨rfl, rfl⟩
              go_wp2_with (go_at_call 27; refine (is_yes _ _ rfl _).mono ?_; rintro e w' ⟨rfl, rfl⟩)
              refine (C4.out _).mono ?_; rintro e w2 ⟨rfl, rfl⟩
              go_wp2_with fail
              refine (carry hb1 (C5.out _)).mono ?_; rintro e w2 ⟨rfl, hb2⟩
              go_wp2_with fail
              refine (C6.out N.out _).mono ?_; rintro e w2 ⟨rfl, rfl⟩
              go_wp2_with fail
              go_ret
              exact ⟨rfl, hb2⟩
            · clear HG HL bx by'
              go_enter Tryz.func9, Tryz.ntmps9
              go_wp2_with fail
              refine AW.out.mono ?_; rintro e w1 ⟨rfl, hb1⟩
              go_wp2_with fail
              refine (C1.out _).mono ?_; rintro e w2 ⟨rfl, rfl⟩
              go_wp2_with fail
              refine (C2.out _).mono ?_; rintro e w2 ⟨rfl, rfl⟩
              go_wp2_with fail
              refine (C3.out _).mono ?_; rintro e w2 ⟨rfl, rfl⟩
              go_wp2_with (go_at_call 27; refine (is_yes _ _ rfl _).mono ?_; rintro e w' ⟨rfl, rfl⟩)
              refine (C4.out _).mono ?_; rintro e w2 ⟨rfl, rfl⟩
              go_wp2_with fail
              refine (carry hb1 (C5.out _)).mono ?_; rintro e w2 ⟨rfl, hb2⟩
              go_wp2_with fail
              refine (C6.out N.out _).mono ?_; rintro e w2 ⟨rfl, rfl⟩
              go_wp2_with fail
              go_ret
              exact ⟨rfl, hb2⟩
          · have t1 := tN_far hn
            have t2 := tE_far hn
            clear hn
            clear HG HL bx by'
            go_enter Tryz.func9, Tryz.ntmps9
            go_wp2_with fail
            refine AW.out.mono ?_; rintro e w1 ⟨rfl, hb1⟩
            go_wp2_with fail
            refine (C1.out _).mono ?_; rintro e w2 ⟨rfl, rfl⟩
            go_wp2_with fail
            refine (C2.out _).mono ?_; rintro e w2 ⟨rfl, rfl⟩
            go_wp2_with fail
            refine (C3.out _).mono ?_; rintro e w2 ⟨rfl, rfl⟩
            go_wp2_with (go_at_call 27; refine (is_yes _ _ rfl _).mono ?_; rintro e w' ⟨rfl, rfl⟩)
            refine (C4.out _).mono ?_; rintro e w2 ⟨rfl, rfl⟩
            go_wp2_with fail
            refine (carry hb1 (C5.out _)).mono ?_; rintro e w2 ⟨rfl, hb2⟩
            go_wp2_with fail
            go_ret
            exact ⟨rfl, hb2⟩
    · have hy := fN_err hB
      have hB' : (fE b f != 0) = true := by rw [bne_iff_ne]; exact hB
      have C1 := Lib.hid (fun w => fee_any a f ha hf w)
      have C2 := Lib.hid (fun w => fee_any b f hb hf w)
      have hA' : (fE a f != 0) = false := by rw [hA]; rfl
      clear ha hb hf hg hB
      go_enter Tryz.func9, Tryz.ntmps9
      go_wp2_with fail
      refine AW.out.mono ?_; rintro e w1 ⟨rfl, hb1⟩
      go_wp2_with fail
      refine (C1.out _).mono ?_; rintro e w2 ⟨rfl, rfl⟩
      go_wp2_with fail
      refine (C2.out _).mono ?_; rintro e w2 ⟨rfl, rfl⟩
      go_wp2_with fail
      go_ret
      exact ⟨rfl, hb1⟩
  · have hx := fN_err hA
    have hA' : (fE a f != 0) = true := by rw [bne_iff_ne]; exact hA
    have C1 := Lib.hid (fun w => fee_any a f ha hf w)
    have C2 := Lib.hid (fun w => fee_any b f hb hf w)
    clear ha hb hf hg hA
    go_enter Tryz.func9, Tryz.ntmps9
    go_wp2_with fail
    refine AW.out.mono ?_; rintro e w1 ⟨rfl, hb1⟩
    go_wp2_with fail
    refine (C1.out _).mono ?_; rintro e w2 ⟨rfl, rfl⟩
    go_wp2_with fail
    refine (C2.out _).mono ?_; rintro e w2 ⟨rfl, rfl⟩
    go_wp2_with fail
    go_ret
    exact ⟨rfl, hb1⟩

theorem moneyFair_walk (a b f g : Int) (w : World) (w0 : (Lit.int .i64 a).wf = true) (w1 : (Lit.int .i64 b).wf = true) (w2 : (Lit.int .i64 f).wf = true) (w3 : (Lit.int .i64 g).wf = true) (E : Env w) :
    Calls Tryz.prog 9 #[.int .i64 a, .int .i64 b, .int .i64 f, .int .i64 g] w fun e w' => e = .returned (.bool true) ∧ Below w.heap.size w w' :=
  fair_walk a b f g (.of_wf w0) (.of_wf w1) (.of_wf w2) (.of_wf w3) w E

end Go.Proofs.YtfocdlhaohhkjaaGreatDoor.Money
