import Derived.Test.YthaafniahkejkaaRA
import Derived.Test.YthaafniahkejkaaLOne
/-
  The walk of the statement FrameMakes.
-/
namespace Go.Proofs.Ythaafniahkejkaa.Frame
open Go Go.RowKit
open Go.Proofs.Ythaafniahkejkaa.Wire (S S_list S_size)

set_option maxRecDepth 100000 in
set_option maxHeartbeats 4000000 in
theorem makes_law (q : Int) (s : ByteArray) (n : Int) (w1 : s.size ≤ maxLen) (w2 : (Lit.int .i64 n).wf = true) (w : World) :
    Calls Try.prog 4 #[.int .i64 q, .string s, .int .i64 n] w fun e w' => e = .returned (.bool true) ∧ Below w.heap.size w w' := by
  have HW := Lib.hid (fun W => works_any W)
  have hn := i64_of w2
  clear w1 w2
  by_cases hs : s.size ≤ 6000
  · have z0 : decide ((6000 : Int) < (s.size : Int)) = false := decide_eq_false (by omega)
    have z1 : decide (6000 < s.size) = false := decide_eq_false (by omega)
    have HM := Lib.hid (fun W => Make_any q s (by omega) W)
    have HR := Lib.hid (fun W => refMake_any q s (by omega) W)
    have HZ := Lib.hid (fun W => Size_any n W)
    clear hs
    unfold mkV at HM HR
    generalize S (mkB q s.data.toList) = F at *
    generalize (mkE q s.data.toList : Int) = x at *
    have hk : wrap64 (n + 16) = n + 16 ∨ 4096 < n := by
      by_cases h : 4096 < n
      · exact Or.inr h
      · exact Or.inl (IntWalk.wrap64_in _ ⟨by omega, by omega⟩)
    by_cases hr : 1 ≤ n ∧ n ≤ 4096
    · have hz : szI n = n + 16 := (if_pos hr).trans (by omega)
      have h1 : wrap64 (n + 16) = n + 16 := IntWalk.wrap64_in _ ⟨by omega, by omega⟩
      have g1 : decide (1 ≤ n) = true := decide_eq_true hr.1
      have g2 : decide (n ≤ 4096) = true := decide_eq_true hr.2
      rw [hz] at HZ
      clear hk hz hr hn
      go_enter Try.func4, Try.ntmps4
      go_wp2_with fail
      refine (HM.out _).mono ?_
      rintro e w1 ⟨rfl, hb⟩
      have HB := Lib.hid hb; clear hb
      go_wp2_with fail
      refine (HR.out _).mono ?_
      rintro e w2 ⟨rfl, hb⟩
      replace HB := Lib.hid (HB.out.trans (hb.mono HB.out.size)); clear hb
      go_wp2_with (first | (go_at_call 13; refine (HZ.out _).mono ?_; rintro e w3 ⟨rfl, rfl⟩) | (go_at_call 9; refine (HW.out _).mono ?_; rintro e w4 ⟨rfl, hb⟩))
      go_ret
      exact ⟨rfl, HB.out.trans (hb.mono HB.out.size)⟩
    · have hz : szI n = 0 := if_neg hr
      rw [hz] at HZ
      clear hk hz
      by_cases h1 : 1 ≤ n
      · have g1 : decide (1 ≤ n) = true := decide_eq_true h1
        have g2 : ¬ n ≤ 4096 := fun h => hr ⟨h1, h⟩
        have g3 : decide (n ≤ 4096) = false := decide_eq_false g2
        clear hr hn
        go_enter Try.func4, Try.ntmps4
        go_wp2_with fail
        refine (HM.out _).mono ?_
        rintro e w1 ⟨rfl, hb⟩
        have HB := Lib.hid hb; clear hb
        go_wp2_with fail
        refine (HR.out _).mono ?_
        rintro e w2 ⟨rfl, hb⟩
        replace HB := Lib.hid (HB.out.trans (hb.mono HB.out.size)); clear hb
        go_wp2_with (first | (go_at_call 13; refine (HZ.out _).mono ?_; rintro e w3 ⟨rfl, rfl⟩) | (go_at_call 9; refine (HW.out _).mono ?_; rintro e w4 ⟨rfl, hb⟩))
        go_ret
        exact ⟨rfl, HB.out.trans (hb.mono HB.out.size)⟩
      · have g1 : decide (1 ≤ n) = false := decide_eq_false h1
        clear hr hn
        go_enter Try.func4, Try.ntmps4
        go_wp2_with fail
        refine (HM.out _).mono ?_
        rintro e w1 ⟨rfl, hb⟩
        have HB := Lib.hid hb; clear hb
        go_wp2_with fail
        refine (HR.out _).mono ?_
        rintro e w2 ⟨rfl, hb⟩
        replace HB := Lib.hid (HB.out.trans (hb.mono HB.out.size)); clear hb
        go_wp2_with (first | (go_at_call 13; refine (HZ.out _).mono ?_; rintro e w3 ⟨rfl, rfl⟩) | (go_at_call 9; refine (HW.out _).mono ?_; rintro e w4 ⟨rfl, hb⟩))
        go_ret
        exact ⟨rfl, HB.out.trans (hb.mono HB.out.size)⟩
  · have z0 : (6000 : Int) < (s.size : Int) := by omega
    have z1 : 6000 < s.size := by omega
    clear hs
    go_enter Try.func4, Try.ntmps4
    go_wp2_with fail
    refine (HW.out _).mono ?_
    rintro e w1 ⟨rfl, hb⟩
    have HB := Lib.hid hb; clear hb
    go_wp2_with fail
    go_ret
    exact ⟨rfl, HB.out⟩
end Go.Proofs.Ythaafniahkejkaa.Frame
