/-
  The walk of the statement MoneySums.
-/
import Derived.Test.YtfocdlhaohhkjaaGreatDoorCG
import Derived.Test.YtfocdlhaohhkjaaGreatDoorC20
import Derived.BigQuiet
import Derived.Deep.QuietTactic
namespace Go.Proofs.YtfocdlhaohhkjaaGreatDoor.Money
open Go.RowKit

set_option maxRecDepth 100000 in
set_option maxHeartbeats 1000000 in
theorem moneySums_walk (A : Option Addr) (cap : Nat) (xs : List Int) (a b : Int) (w : World) (y : Ints w A cap xs) (hcl : xs.length ≤ cap) (hcm : cap ≤ maxLen) (w1 : (Lit.int .i64 a).wf = true) (w2 : (Lit.int .i64 b).wf = true) (E : Env w) :
    Calls Tryz.prog 4 #[.slice A xs.length cap, .int .i64 a, .int .i64 b] w fun e w' => e = .returned (.bool true) ∧ Below w.heap.size w w' := by
  have ha := I64.of_wf w1
  have hb := I64.of_wf w2
  clear w1 w2
  have hcm' : cap ≤ 9223372036854775807 := by unfold maxLen at hcm; omega
  clear hcm
  have E0 := Lib.hid E; clear E
  by_cases hl : xs.length ≤ 1000
  · have d0 : decide ((1000 : Int) < (xs.length : Int)) = false := decide_eq_false (by omega)
    have HL : Hid (xs.length ≤ 1000) := hl
    have Y0 := Lib.hid (y.nums (by omega) (Below.refl _ w))
    have YA := Lib.hid y.1
    have YF := Lib.hid y.2.1
    have C1 := Lib.hid (fun w => add_any a b ha hb w)
    have C2 := Lib.hid (fun w T => rsum_two a b ha hb w T)
    have C3 := Lib.hid (fun w => sub_any a b ha hb w)
    have C4 := Lib.hid (fun w => rsub_any a b ha hb w)
    have C5 := Lib.hid (fun w => cap_any a b ha hb w)
    have C6 := Lib.hid (fun w => rcap_any a b ha hb w)
    clear y ha hb
    go_enter Tryz.func4, Tryz.ntmps4
    go_wp2_with (at_builtin; refine wpList_append_nums rfl (.tmp 25) (.tmp 26) rfl w.heap.size (.slice (some ⟨w.heap.size, 0, none⟩) 0 0) [] rfl (Own.made w w.heap.size (Nat.le_refl _)) A cap xs rfl ?c1 ?c2 ?c3 ?c4 ?_)
    case c1 => exact Y0.out.below (Below.lay _ _)
    case c2 => exact YA.out
    case c3 => have := HL.out; simp only [List.length_nil]; omega
    case c4 => simp
    · intro v' W1 hown hgrow
      have HB1 : Hid (Below w.heap.size w W1) := Below.grown (Below.lay w _) hgrow (by simp) (fun k hk => by cases hk; exact Nat.le_refl _)
      obtain ⟨A', cap', rfl, hn', -⟩ := hown.nums YF.out (by have := HL.out; omega)
      have N1 := Lib.hid hn'
      have M1 := Lib.hid (Y0.out.below HB1.out)
      clear hown hgrow hn'
      go_wp2_with fail
      refine (sum_any A' cap' xs.length xs rfl W1 N1.out).mono ?_; rintro e w2 ⟨rfl, rfl⟩
      go_wp2_with fail
      refine (rsum_any A cap xs.length xs rfl (by have := HL.out; omega) W1 M1.out).mono ?_; rintro e w2 ⟨rfl, rfl⟩
      go_wp2_with fail
      refine (C1.out W1).mono ?_; rintro e w2 ⟨rfl, hb2⟩
      have HB2 := Lib.hid hb2; clear hb2
      go_wp2_with fail
      refine (C2.out w2 _).mono ?_; rintro e w3 ⟨rfl, hb3⟩
      have HB3 := Lib.hid (below_on HB2.out hb3); clear hb3
      go_wp2_with fail
      refine (C3.out w3).mono ?_; rintro e w4 ⟨rfl, hb4⟩
      have HB4 := Lib.hid (below_on HB3.out hb4); clear hb4
      go_wp2_with fail
      refine (C4.out w4).mono ?_; rintro e w5 ⟨rfl, rfl⟩
      have N4 := Lib.hid (N1.out.below HB4.out)
      have M4 := Lib.hid (M1.out.below HB4.out)
      have HW4 := Lib.hid (HB1.out.trans (HB4.out.mono HB1.out.size))
      clear HB2 HB3
      go_wp2_with fail
      go_loopw [20] (fun i wr => ∃ k m : Nat, k ≤ xs.length ∧ i = .int .i64 k ∧ wr = w4.drewN m) (fun i _ => xs.length - (intOf i).toNat)
      case atStart => exact ⟨0, 0, Nat.zero_le _, rfl, rfl⟩
      case round =>
        obtain ⟨k, m, hk, rfl, rfl⟩ := hrel
        by_cases hlt : k < xs.length
        · have hne : xs ≠ [] := by intro e; rw [e] at hlt; cases hlt
          obtain ⟨b1, o1, rfl, hc1⟩ := N4.out.cells hne
          obtain ⟨b2, o2, rfl, hc2⟩ := M4.out.cells hne
          have hx1 := hc1 k hlt
          have hx2 := hc2 k hlt
          generalize xs.getD k 0 = x at *
          have H1 := Lib.hid hc1; have H2 := Lib.hid hc2
          clear hc1 hc2 hne
          have i0 : (0 : Int) ≤ (k : Int) := by omega
          have i1 : (k : Int) < (xs.length : Int) := by omega
          go_wp2_with fail
          go_quiet (fail)
          go_wp2_with fail
          go_roundw
          case rel => exact ⟨k + 1, _, by omega, by go_num, rfl⟩
          case measure => simp [intOf]; omega
        · have HW5 := Lib.hid (below_drewN HW4.out m)
          have E5 := Lib.hid (E0.out.below HW5.out)
          go_wp2_with fail
          refine (C5.out _).mono ?_; rintro e w5 ⟨rfl, rfl⟩
          go_wp2_with fail
          refine (C6.out _).mono ?_; rintro e w6 ⟨rfl, hb6⟩
          have HB6 := Lib.hid (below_on HW5.out hb6); clear hb6
          have AW := Lib.hid (awake_any w6 (E0.out.below HB6.out))
          go_wp2_with fail
          refine AW.out.mono ?_; rintro e w7 ⟨rfl, hb7⟩
          have HB7 := Lib.hid (below_on HB6.out hb7); clear hb7
          go_wp2_with fail
          go_ret
          exact ⟨rfl, HB7.out⟩
  · have d0 : decide ((1000 : Int) < (xs.length : Int)) = true := decide_eq_true (by omega)
    have AW := Lib.hid (awake_any w E0.out)
    clear hl
    go_enter Tryz.func4, Tryz.ntmps4
    go_wp2_with fail
    refine AW.out.mono ?_; rintro e w1 ⟨rfl, hb1⟩
    go_wp2_with fail
    go_ret
    exact ⟨rfl, hb1⟩

end Go.Proofs.YtfocdlhaohhkjaaGreatDoor.Money
