import Derived.Test.YtkjnddgjnlbopaaIA
import Derived.BigQuiet
import Derived.Deep.QuietTactic
/-
  An index's simple calls: First, Next, Good, has, due; read.
-/
namespace Go.Proofs.Ytkjnddgjnlbopaa.Index
open Go Go.RowKit
open Go.Proofs.Ytkjnddgjnlbopaa.Wire (S S_list S_size cell_row frozen_row row_lt heap_set heap_far)
open Go.Proofs.Ytkjnddgjnlbopaa.Frame

theorem first_x (w : World) (b ev a n : Nat) (v : Value) (g : Nat) (h : IBx w b ev a n v g) :
    Calls Try.prog 19 #[.pointer (some ⟨b, 0, none⟩)] w fun e w' => e = .returned (.int .i64 (a : Int)) ∧ w = w' := by
  obtain ⟨⟨c0, c1, c2, c3, c4⟩, -⟩ := h.facts
  go_enter Try.func19, Try.ntmps19
  go_wp2_with fail
  go_ret
  exact ⟨rfl, rfl⟩
theorem next_x (w : World) (b ev a n : Nat) (v : Value) (g : Nat) (h : IBx w b ev a n v g) :
    Calls Try.prog 13 #[.pointer (some ⟨b, 0, none⟩)] w fun e w' => e = .returned (.int .i64 (n : Int)) ∧ w = w' := by
  obtain ⟨⟨c0, c1, c2, c3, c4⟩, -⟩ := h.facts
  go_enter Try.func13, Try.ntmps13
  go_wp2_with fail
  go_ret
  exact ⟨rfl, rfl⟩
theorem good_x (w : World) (b ev a n : Nat) (v : Value) (g : Nat) (h : IBx w b ev a n v g) :
    Calls Try.prog 14 #[.pointer (some ⟨b, 0, none⟩)] w fun e w' => e = .returned (.int .i64 (g : Int)) ∧ w = w' := by
  obtain ⟨⟨c0, c1, c2, c3, c4⟩, -⟩ := h.facts
  go_enter Try.func14, Try.ntmps14
  go_wp2_with fail
  go_ret
  exact ⟨rfl, rfl⟩
theorem first_nil (w : World) : Calls Try.prog 19 #[.pointer none] w fun e w' => e = .returned (.int .i64 0) ∧ w = w' := by
  go_enter Try.func19, Try.ntmps19
  go_wp2_with fail
  go_ret
  exact ⟨rfl, rfl⟩
theorem next_nil (w : World) : Calls Try.prog 13 #[.pointer none] w fun e w' => e = .returned (.int .i64 0) ∧ w = w' := by
  go_enter Try.func13, Try.ntmps13
  go_wp2_with fail
  go_ret
  exact ⟨rfl, rfl⟩
theorem good_nil (w : World) : Calls Try.prog 14 #[.pointer none] w fun e w' => e = .returned (.int .i64 0) ∧ w = w' := by
  go_enter Try.func14, Try.ntmps14
  go_wp2_with fail
  go_ret
  exact ⟨rfl, rfl⟩
/-- **has** -/
theorem has_x (w : World) (b ev a n : Nat) (v : Value) (g : Nat) (q : Int) (h : IBx w b ev a n v g) :
    Calls Try.prog 38 #[.pointer (some ⟨b, 0, none⟩), .int .i64 q] w fun e w' => e = .returned (.bool (decide ((a : Int) ≤ q ∧ q < (n : Int)))) ∧ w = w' := by
  have HF := Lib.hid (first_x w b ev a n v g h)
  have HN := Lib.hid (next_x w b ev a n v g h)
  clear h
  by_cases h1 : (a : Int) ≤ q
  · by_cases h2 : q < (n : Int)
    · rw [decide_eq_true (And.intro h1 h2)]
      go_enter Try.func38, Try.ntmps38
      go_wp2_with fail
      refine HF.out.mono ?_
      rintro e w1 ⟨rfl, rfl⟩
      go_wp2_with fail
      refine HN.out.mono ?_
      rintro e w1 ⟨rfl, rfl⟩
      go_wp2_with fail
      go_ret
      exact ⟨rfl, rfl⟩
    · have e0 : decide ((a : Int) ≤ q ∧ q < (n : Int)) = false := decide_eq_false (fun h => h2 h.2)
      rw [e0]
      have e1 : decide (q < (n : Int)) = false := decide_eq_false h2
      go_enter Try.func38, Try.ntmps38
      go_wp2_with fail
      refine HF.out.mono ?_
      rintro e w1 ⟨rfl, rfl⟩
      go_wp2_with fail
      refine HN.out.mono ?_
      rintro e w1 ⟨rfl, rfl⟩
      go_wp2_with fail
      go_ret
      exact ⟨rfl, rfl⟩
  · have e0 : decide ((a : Int) ≤ q ∧ q < (n : Int)) = false := decide_eq_false (fun h => h1 h.1)
    rw [e0]
    have e1 : decide ((a : Int) ≤ q) = false := decide_eq_false h1
    go_enter Try.func38, Try.ntmps38
    go_wp2_with fail
    refine HF.out.mono ?_
    rintro e w1 ⟨rfl, rfl⟩
    go_wp2_with fail
    go_ret
    exact ⟨rfl, rfl⟩
set_option maxHeartbeats 1000000 in
/-- **due**: whether the next frame has a mark -/
theorem due_any (w : World) (base b ev a : Nat) (ats : List Nat) (g : Nat) (h : Ix w base b ev a ats g) (hev : 1 ≤ ev ∧ ev ≤ 64) (hsm : a + ats.length ≤ 100000000) :
    Calls Try.prog 64 #[.pointer (some ⟨b, 0, none⟩)] w fun e w' => e = .returned (.bool (decide (ats.length % ev = 0))) ∧ Below w.heap.size w w' := by
  obtain ⟨v, hb, ho⟩ := h
  obtain ⟨A, cap, rfl, -, -, hrow, -⟩ := ho.row
  have hlen := mks_len ev a ats
  have hfm : Try.prog.follows .mixedOrders = true := by kernel_rfl
  by_cases h0 : ats.length = 0
  · have hl0 : (mks ev a ats).length = 0 := by rw [hlen, h0, nm_zero hev.1]
    rw [hl0] at hb
    rw [h0, Nat.zero_mod]
    obtain ⟨⟨c0, c1, c2, c3, c4⟩, -⟩ := hb.facts
    clear hrow ho hlen hl0 h0 hsm
    go_enter Try.func64, Try.ntmps64
    go_wp2_with fail
    go_big_quiet (fail)
    go_wp2_with fail
    go_ret
    exact ⟨rfl, below_dn _ _ _⟩
  · have hp := nm_pos hev.1 (show 0 < ats.length by omega)
    obtain ⟨k, hk⟩ : ∃ k, nm ev ats.length = k + 1 := ⟨nm ev ats.length - 1, by omega⟩
    obtain ⟨g2, rfl, -, d0, -⟩ := hrow k (by rw [hlen, hk]; omega)
    rw [mks_at] at d0
    have hdue := due_iff hev.1 hp
    have hkl := nm_lt hev.1 (show k < nm ev ats.length by omega)
    rw [hk, Nat.add_sub_cancel] at hdue
    obtain ⟨s, hs⟩ : ∃ s, a + k * ev = s := ⟨_, rfl⟩
    obtain ⟨n1, hn1⟩ : ∃ n1, a + ats.length = n1 := ⟨_, rfl⟩
    obtain ⟨d, hd⟩ : ∃ d, ats.length - k * ev = d := ⟨_, rfl⟩
    rw [hd] at hdue
    rw [show (a + k * ev, ats.getD (k * ev) 0).1 = s from hs] at d0
    obtain ⟨N, hN⟩ : ∃ N, (mks ev a ats).length = N := ⟨_, rfl⟩
    rw [hN, hn1] at hb
    have hN2 : N = k + 1 := by rw [← hN, hlen, hk]
    have hk64 : k ≤ 100000000 := by
      have := nm_le (n := ats.length) hev.1; omega
    generalize k * ev = P at *
    have kz : ((N : Int) == 0) = false := beq_eq_false_iff_ne.2 (by omega)
    have kz2 : ¬ (N : Int) = 0 := by omega
    have k3 : (0 : Int) ≤ (k : Int) := by omega
    have k4 : (k : Int) < (N : Int) := by omega
    have HK1 := Lib.hid (show wrap64 ((N : Int) - 1) = (k : Int) by rw [IntWalk.wrap64_in _ ⟨by omega, by omega⟩]; omega)
    have HD1 := Lib.hid (show wrap64 ((n1 : Int) - (s : Int)) = (d : Int) by rw [IntWalk.wrap64_in _ ⟨by omega, by omega⟩]; omega)
    obtain ⟨⟨c0, c1, c2, c3, c4⟩, -⟩ := hb.facts
    by_cases hdd : ats.length % ev = 0
    · have e1 : decide ((ev : Int) ≤ (d : Int)) = true := decide_eq_true (by have := hdue.2 hdd; omega)
      have e2 : (ev : Int) ≤ (d : Int) := by have := hdue.2 hdd; omega
      rw [decide_eq_true hdd]
      clear hdue hdd hrow ho hlen hp hk hkl hs hn1 hd hN hN2 hk64 hsm h0
      have hk1 := HK1.out
      have hd1 := HD1.out
      go_enter Try.func64, Try.ntmps64
      go_wp2_with fail
      go_big_quiet (fail)
      go_wp2_with fail
      go_ret
      exact ⟨rfl, below_dn _ _ _⟩
    · have e1 : decide ((ev : Int) ≤ (d : Int)) = false := decide_eq_false (fun h => hdd (hdue.1 (by omega)))
      have e3 : decide (ev ≤ d) = false := decide_eq_false (fun h => hdd (hdue.1 h))
      have e2 : ¬ (ev : Int) ≤ (d : Int) := fun h => hdd (hdue.1 (by omega))
      rw [decide_eq_false hdd]
      clear hdue hdd hrow ho hlen hp hk hkl hs hn1 hd hN hN2 hk64 hsm h0
      have hk1 := HK1.out
      have hd1 := HD1.out
      go_enter Try.func64, Try.ntmps64
      go_wp2_with fail
      go_big_quiet (fail)
      go_wp2_with fail
      go_ret
      exact ⟨rfl, below_dn _ _ _⟩
/-- what the code's own read tells at a place: error, payload, where it ends -/
def irE (l : List UInt8) (k : Nat) (q : Int) : Nat := if rdE (l.drop (min k l.length)) = 0 then (if (rdQ (l.drop (min k l.length)) : Int) = q then 0 else 4) else rdE (l.drop (min k l.length))
end Go.Proofs.Ytkjnddgjnlbopaa.Index
