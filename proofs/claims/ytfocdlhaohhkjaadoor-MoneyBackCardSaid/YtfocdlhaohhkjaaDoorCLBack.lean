/-
  The walk of the statement MoneyBack.
-/
import Derived.Test.YtfocdlhaohhkjaaDoorC17
namespace Go.Proofs.YtfocdlhaohhkjaaDoor.Money
open Go.RowKit

theorem pN_i64 (l : List UInt8) : I64 (pN l) := by
  unfold pN; split
  · exact tN_i64 _
  · unfold I64; decide
theorem show_len (n : Int) (h : I64 n) : (S (showI n)).size ≤ 30 := by
  unfold I64 at h
  rw [S_size]; unfold showI showN
  have := dec_len (n.natAbs / 100) (by omega)
  split
  · rw [List.length_cons, List.length_append]; show _ + 3 + 1 ≤ _; omega
  · rw [List.length_append]; show _ + 3 ≤ _; omega
theorem parse_shown (n : Int) (h : I64 n) (w : World) (E : Env w) :
    Calls Tryd.prog 5 #[.string (S (showI n))] w fun e w' => e = .returned (.tuple #[.int .i64 (tN n), .int .i64 (tE n)]) ∧ Below w.heap.size w w' :=
  pin_two (parse_any (S (showI n)) (Nat.le_trans (show_len n h) (by decide)) w E) (parse_show n).1 (parse_show n).2

set_option maxRecDepth 100000 in
set_option maxHeartbeats 1000000 in
theorem moneyBack_walk (n : Int) (s : ByteArray) (w : World) (w0 : (Lit.int .i64 n).wf = true) (ws : s.size ≤ maxLen) (E : Env w) :
    Calls Tryd.prog 3 #[.int .i64 n, .string s] w fun e w' => e = .returned (.bool true) ∧ Below w.heap.size w w' := by
  have hn := I64.of_wf w0
  have E0 := Lib.hid E
  have AW := Lib.hid (awake_any w E)
  clear E w0
  by_cases h200 : s.size ≤ 200
  · have d0 : decide ((200 : Int) < (s.size : Int)) = false := decide_eq_false (by omega)
    have C1 := Lib.hid (fun w E => show_any n hn w E)
    have C2 := Lib.hid (fun w E => parse_shown n hn w E)
    have C3 := Lib.hid (fun w E => parse_any s (by omega) w E)
    have HS : Hid (pE s.data.toList = 0 → S (showI (pN s.data.toList)) = s) := fun h => by
      rcases pE_cases s.data.toList with ⟨_, _, h3⟩ | ⟨h1, _⟩
      · rw [h3]; exact S_of s
      · exact absurd h h1
    have C4 := Lib.hid (fun w E (h : pE s.data.toList = 0) => by
      have c := show_any (pN s.data.toList) (pN_i64 _) w E
      rw [HS.out h] at c; exact c)
    have HK : Hid (pE s.data.toList ≠ 0 → pN s.data.toList = 0) := fun h => by
      rcases pE_cases s.data.toList with ⟨h1, _⟩ | ⟨_, h2⟩
      · exact absurd h1 h
      · exact h2
    clear ws
    by_cases hf : near n = true
    · have hb := near_iff.1 hf
      have t1 := tN_near hf
      have t2 := tE_near hf
      have d1 : decide (4611686018427387904 < n) = false := decide_eq_false (by omega)
      have d2 : decide (n < -4611686018427387904) = false := decide_eq_false (by omega)
      clear hf hb hn h200
      by_cases hp : pE s.data.toList = 0
      · have e1 : (pE s.data.toList != 0) = false := by rw [hp]; rfl
        have e2 : (pE s.data.toList == 0) = true := by rw [hp]; rfl
        have HP := Lib.hid hp; clear hp
        go_enter Tryd.func3, Tryd.ntmps3
        go_wp2_with fail
        refine AW.out.mono ?_; rintro e w1 ⟨rfl, hb1⟩
        have E1 := Lib.hid (E0.out.below hb1)
        go_wp2_with fail
        refine (carry hb1 (C1.out _ E1.out)).mono ?_; rintro e w2 ⟨rfl, hb2⟩
        have E2 := Lib.hid (E0.out.below hb2)
        go_wp2_with fail
        refine (carry hb2 (C2.out _ E2.out)).mono ?_; rintro e w3 ⟨rfl, hb3⟩
        have E3 := Lib.hid (E0.out.below hb3)
        go_wp2_with (go_at_call 7; refine (is_yes _ _ rfl _).mono ?_; rintro e w' ⟨rfl, rfl⟩)
        refine (carry hb3 (C3.out _ E3.out)).mono ?_; rintro e w4 ⟨rfl, hb4⟩
        have E4 := Lib.hid (E0.out.below hb4)
        go_wp2_with fail
        refine (carry hb4 (C4.out _ E4.out HP.out)).mono ?_; rintro e w5 ⟨rfl, hb5⟩
        go_wp2_with fail
        go_ret
        exact ⟨rfl, hb5⟩
      · have e1 : (pE s.data.toList != 0) = true := by rw [bne_iff_ne]; exact hp
        have e2 : (pE s.data.toList == 0) = false := by rw [beq_eq_false_iff_ne]; exact hp
        have e3 := HK.out hp
        clear hp
        go_enter Tryd.func3, Tryd.ntmps3
        go_wp2_with fail
        refine AW.out.mono ?_; rintro e w1 ⟨rfl, hb1⟩
        have E1 := Lib.hid (E0.out.below hb1)
        go_wp2_with fail
        refine (carry hb1 (C1.out _ E1.out)).mono ?_; rintro e w2 ⟨rfl, hb2⟩
        have E2 := Lib.hid (E0.out.below hb2)
        go_wp2_with fail
        refine (carry hb2 (C2.out _ E2.out)).mono ?_; rintro e w3 ⟨rfl, hb3⟩
        have E3 := Lib.hid (E0.out.below hb3)
        go_wp2_with (go_at_call 7; refine (is_yes _ _ rfl _).mono ?_; rintro e w' ⟨rfl, rfl⟩)
        refine (carry hb3 (C3.out _ E3.out)).mono ?_; rintro e w4 ⟨rfl, hb4⟩
        have E4 := Lib.hid (E0.out.below hb4)
        go_wp2_with fail
        go_ret
        exact ⟨rfl, hb4⟩
    · have hf' := Bool.eq_false_iff.2 hf
      have hb := near_no.1 hf'
      have t1 := tN_far hf'
      have t2 := tE_far hf'
      by_cases hgt : 4611686018427387904 < n
      · have d1 : decide (4611686018427387904 < n) = true := decide_eq_true hgt
        clear hf hf' hb hn h200 hgt
        by_cases hp : pE s.data.toList = 0
        · have e1 : (pE s.data.toList != 0) = false := by rw [hp]; rfl
          have e2 : (pE s.data.toList == 0) = true := by rw [hp]; rfl
          have HP := Lib.hid hp; clear hp
          go_enter Tryd.func3, Tryd.ntmps3
          go_wp2_with fail
          refine AW.out.mono ?_; rintro e w1 ⟨rfl, hb1⟩
          have E1 := Lib.hid (E0.out.below hb1)
          go_wp2_with fail
          refine (carry hb1 (C1.out _ E1.out)).mono ?_; rintro e w2 ⟨rfl, hb2⟩
          have E2 := Lib.hid (E0.out.below hb2)
          go_wp2_with fail
          refine (carry hb2 (C2.out _ E2.out)).mono ?_; rintro e w3 ⟨rfl, hb3⟩
          have E3 := Lib.hid (E0.out.below hb3)
          go_wp2_with fail
          refine (carry hb3 (C3.out _ E3.out)).mono ?_; rintro e w4 ⟨rfl, hb4⟩
          have E4 := Lib.hid (E0.out.below hb4)
          go_wp2_with fail
          refine (carry hb4 (C4.out _ E4.out HP.out)).mono ?_; rintro e w5 ⟨rfl, hb5⟩
          go_wp2_with fail
          go_ret
          exact ⟨rfl, hb5⟩
        · have e1 : (pE s.data.toList != 0) = true := by rw [bne_iff_ne]; exact hp
          have e2 : (pE s.data.toList == 0) = false := by rw [beq_eq_false_iff_ne]; exact hp
          have e3 := HK.out hp
          clear hp
          go_enter Tryd.func3, Tryd.ntmps3
          go_wp2_with fail
          refine AW.out.mono ?_; rintro e w1 ⟨rfl, hb1⟩
          have E1 := Lib.hid (E0.out.below hb1)
          go_wp2_with fail
          refine (carry hb1 (C1.out _ E1.out)).mono ?_; rintro e w2 ⟨rfl, hb2⟩
          have E2 := Lib.hid (E0.out.below hb2)
          go_wp2_with fail
          refine (carry hb2 (C2.out _ E2.out)).mono ?_; rintro e w3 ⟨rfl, hb3⟩
          have E3 := Lib.hid (E0.out.below hb3)
          go_wp2_with fail
          refine (carry hb3 (C3.out _ E3.out)).mono ?_; rintro e w4 ⟨rfl, hb4⟩
          have E4 := Lib.hid (E0.out.below hb4)
          go_wp2_with fail
          go_ret
          exact ⟨rfl, hb4⟩
      · have d1 : decide (4611686018427387904 < n) = false := decide_eq_false hgt
        have d2 : decide (n < -4611686018427387904) = true := decide_eq_true (by omega)
        clear hf hf' hb hn h200 hgt
        by_cases hp : pE s.data.toList = 0
        · have e1 : (pE s.data.toList != 0) = false := by rw [hp]; rfl
          have e2 : (pE s.data.toList == 0) = true := by rw [hp]; rfl
          have HP := Lib.hid hp; clear hp
          go_enter Tryd.func3, Tryd.ntmps3
          go_wp2_with fail
          refine AW.out.mono ?_; rintro e w1 ⟨rfl, hb1⟩
          have E1 := Lib.hid (E0.out.below hb1)
          go_wp2_with fail
          refine (carry hb1 (C1.out _ E1.out)).mono ?_; rintro e w2 ⟨rfl, hb2⟩
          have E2 := Lib.hid (E0.out.below hb2)
          go_wp2_with fail
          refine (carry hb2 (C2.out _ E2.out)).mono ?_; rintro e w3 ⟨rfl, hb3⟩
          have E3 := Lib.hid (E0.out.below hb3)
          go_wp2_with fail
          refine (carry hb3 (C3.out _ E3.out)).mono ?_; rintro e w4 ⟨rfl, hb4⟩
          have E4 := Lib.hid (E0.out.below hb4)
          go_wp2_with fail
          refine (carry hb4 (C4.out _ E4.out HP.out)).mono ?_; rintro e w5 ⟨rfl, hb5⟩
          go_wp2_with fail
          go_ret
          exact ⟨rfl, hb5⟩
        · have e1 : (pE s.data.toList != 0) = true := by rw [bne_iff_ne]; exact hp
          have e2 : (pE s.data.toList == 0) = false := by rw [beq_eq_false_iff_ne]; exact hp
          have e3 := HK.out hp
          clear hp
          go_enter Tryd.func3, Tryd.ntmps3
          go_wp2_with fail
          refine AW.out.mono ?_; rintro e w1 ⟨rfl, hb1⟩
          have E1 := Lib.hid (E0.out.below hb1)
          go_wp2_with fail
          refine (carry hb1 (C1.out _ E1.out)).mono ?_; rintro e w2 ⟨rfl, hb2⟩
          have E2 := Lib.hid (E0.out.below hb2)
          go_wp2_with fail
          refine (carry hb2 (C2.out _ E2.out)).mono ?_; rintro e w3 ⟨rfl, hb3⟩
          have E3 := Lib.hid (E0.out.below hb3)
          go_wp2_with fail
          refine (carry hb3 (C3.out _ E3.out)).mono ?_; rintro e w4 ⟨rfl, hb4⟩
          have E4 := Lib.hid (E0.out.below hb4)
          go_wp2_with fail
          go_ret
          exact ⟨rfl, hb4⟩
  · have d0 : decide ((200 : Int) < (s.size : Int)) = true := decide_eq_true (by omega)
    unfold maxLen at ws
    clear hn h200
    go_enter Tryd.func3, Tryd.ntmps3
    go_wp2_with fail
    refine AW.out.mono ?_; rintro e w1 ⟨rfl, hb1⟩
    go_wp2_with fail
    go_ret
    exact ⟨rfl, hb1⟩

end Go.Proofs.YtfocdlhaohhkjaaDoor.Money
