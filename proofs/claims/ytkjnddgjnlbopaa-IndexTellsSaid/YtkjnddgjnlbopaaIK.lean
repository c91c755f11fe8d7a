import Derived.Test.YtkjnddgjnlbopaaIJ
/-
  The mark from which on a frame is found; Steps.
-/
namespace Go.Proofs.Ytkjnddgjnlbopaa.Index
open Go Go.RowKit
open Go.Proofs.Ytkjnddgjnlbopaa.Wire (S S_list S_size cell_row frozen_row row_lt heap_set heap_far)
open Go.Proofs.Ytkjnddgjnlbopaa.Frame Go.Proofs.Ytkjnddgjnlbopaa.Seg

/-- the number, and the place, of the mark from which on a frame is found -/
def frS (ev a q : Nat) : Nat := a + (q - a) / ev * ev
def frA (ev a q : Nat) (ats : List Nat) : Nat := ats.getD ((q - a) / ev * ev) 0
set_option maxRecDepth 100000 in
set_option maxHeartbeats 1000000 in
/-- **from** -/
theorem from_any (w : World) (base b ev a : Nat) (ats : List Nat) (g q : Nat) (h : Ix w base b ev a ats g) (hev : 1 ≤ ev) (hq : a ≤ q ∧ q < a + ats.length) (hl : ats.length ≤ 900000) :
    Calls Try.prog 40 #[.pointer (some ⟨b, 0, none⟩), .int .i64 (q : Int)] w fun e w' => e = .returned (.agg #[.int .i64 (frS ev a q : Int), .int .i64 (frA ev a q ats : Int)]) ∧ Below w.heap.size w w' := by
  obtain ⟨w1, hw1⟩ : ∃ w1, w.alloc (.cells #[.int .i64 0, .int .i64 0] 46) = w1 := ⟨_, rfl⟩
  have hb1 : Below w.heap.size w w1 := by rw [← hw1]; exact (Below.refl _ _).alloc (Nat.le_refl _) _
  have hX : w1.heap[w.heap.size]? = some (.cells #[.int .i64 0, .int .i64 0] 46 (0, 0)) := by rw [← hw1]; exact heap_alloc_new w _
  have hk := (from_k hev hq).1
  have HU := Lib.hid (upTo_any w1 base b ev a ats g q (h.below hb1) hev hq hl)
  have HX := Lib.hid hX
  have HB1 := Lib.hid hb1
  have HZ1 := Lib.hid (row_lt hX)
  have HW1 := Lib.hid hw1
  obtain ⟨j, hj⟩ : ∃ j, (q - a) / ev = j := ⟨_, rfl⟩
  have hml := mks_len ev a ats
  have hjl : j < (mks ev a ats).length := by rw [hml]; omega
  have hj9 : j ≤ 900000 := by have := nm_le (n := ats.length) hev; omega
  unfold frS frA
  rw [hj] at HU ⊢
  have hmk := mks_at ev a ats j hjl
  obtain ⟨s, hs⟩ : ∃ s, a + j * ev = s := ⟨_, rfl⟩
  obtain ⟨p, hp⟩ : ∃ p, ats.getD (j * ev) 0 = p := ⟨_, rfl⟩
  rw [hs, hp] at hmk ⊢
  have HJ1 := Lib.hid (show wrap64 (((j + 1 : Nat) : Int) - 1) = (j : Int) ∧ wrap64 ((j : Int) + 1 - 1) = (j : Int) ∧ wrap64 (j : Int) = (j : Int) from ⟨by rw [IntWalk.wrap64_in _ ⟨by omega, by omega⟩]; omega, by rw [IntWalk.wrap64_in _ ⟨by omega, by omega⟩]; omega, IntWalk.wrap64_in _ ⟨by omega, by omega⟩⟩)
  have HMK := Lib.hid hmk
  have HJL := Lib.hid hjl
  have k3 : (0 : Int) ≤ (j : Int) := by omega
  have k4 : (j : Int) < (j : Int) + 1 := by omega
  clear h hev hq hl hb1 hX hk hj hml hj9 hs hp hmk hw1
  go_enter Try.func40, Try.ntmps40
  go_wp2_with fail
  rw [HW1.out]
  refine HU.out.mono ?_
  rintro e w2 ⟨A, rfl, hrow, hb2⟩
  obtain ⟨g2, rfl, -, d0, d1⟩ := hrow j HJL.out
  rw [HMK.out] at d0 d1
  have hx2 := (hb2.block _ HZ1.out).trans HX.out
  have h5 := heap_set hx2 0 (.int .i64 (s : Int))
  have h6 := heap_set h5 1 (.int .i64 (p : Int))
  have y0 := cell_row hx2 0
  have y1 := frozen_row hx2 0
  have y2 : (w2.setCell ⟨w.heap.size, 0, none⟩ (.int .i64 (s : Int))).cell? ⟨w.heap.size, 1, none⟩ = some (.int .i64 0) := cell_row h5 1
  have y3 := frozen_row h5 1
  have x0 : ((w2.setCell ⟨w.heap.size, 0, none⟩ (.int .i64 (s : Int))).setCell ⟨w.heap.size, 1, none⟩ (.int .i64 (p : Int))).cell? ⟨w.heap.size, 0, none⟩ = some (.int .i64 (s : Int)) := cell_row h6 0
  have x1 : ((w2.setCell ⟨w.heap.size, 0, none⟩ (.int .i64 (s : Int))).setCell ⟨w.heap.size, 1, none⟩ (.int .i64 (p : Int))).cell? ⟨w.heap.size, 1, none⟩ = some (.int .i64 (p : Int)) := cell_row h6 1
  have HB := Lib.hid (((HB1.out.trans (hb2.mono HB1.out.size)).setCell (p := ⟨w.heap.size, 0, none⟩) (Nat.le_refl _) (.int .i64 (s : Int))).setCell (p := ⟨w.heap.size, 1, none⟩) (Nat.le_refl _) (.int .i64 (p : Int)))
  obtain ⟨z1, z2, z3⟩ := HJ1.out
  clear hrow hb2 hx2 h5 h6
  go_wp2_with fail
  refine bodyPost_ret (v := .agg #[.int .i64 (s : Int), .int .i64 (p : Int)]) (by simp [results, Try.results40, go_sem, x0, x1]) rfl ⟨rfl, HB.out⟩
set_option maxRecDepth 100000 in
set_option maxHeartbeats 1000000 in
/-- **Steps** -/
theorem steps_any (w : World) (base b ev a : Nat) (ats : List Nat) (g : Nat) (q : Int) (h : Ix w base b ev a ats g) (hev : 1 ≤ ev) (hl : ats.length ≤ 900000) (ha : a ≤ 100000000) :
    Calls Try.prog 20 #[.pointer (some ⟨b, 0, none⟩), .int .i64 q] w fun e w' => e = .returned (.int .i64 (if (a : Int) ≤ q ∧ q < (a : Int) + ats.length then (((q.toNat - a) % ev + 1 : Nat) : Int) else 0)) ∧ Below w.heap.size w w' := by
  obtain ⟨v, h1, h2⟩ := h
  obtain ⟨n, hn⟩ : ∃ n, a + ats.length = n := ⟨_, rfl⟩
  have HH := Lib.hid (has_x w b ev a (a + ats.length) v g q h1)
  rw [show (a : Int) + (ats.length : Int) = ((a + ats.length : Nat) : Int) by omega]
  by_cases hq : (a : Int) ≤ q ∧ q < ((a + ats.length : Nat) : Int)
  · rw [if_pos hq]
    rw [decide_eq_true hq] at HH
    obtain ⟨k, rfl⟩ : ∃ k : Nat, q = (k : Int) := ⟨q.toNat, by omega⟩
    have hk : a ≤ k ∧ k < a + ats.length := by omega
    have HF := Lib.hid (from_any w base b ev a ats g k ⟨v, h1, h2⟩ hev hk hl)
    rw [Int.toNat_natCast]
    have hdm := Nat.div_add_mod (k - a) ev
    have hfs : frS ev a k + (k - a) % ev = k := by unfold frS; rw [Nat.mul_comm]; omega
    have hml := Nat.mod_le (k - a) ev
    obtain ⟨r, hr⟩ : ∃ r, (k - a) % ev = r := ⟨_, rfl⟩
    rw [hr] at hfs hml ⊢
    generalize frS ev a k = s at *
    generalize frA ev a k ats = p at *
    have HZ := Lib.hid (show wrap64 ((k : Int) - (s : Int)) = (r : Int) ∧ wrap64 ((r : Int) + 1) = (r : Int) + 1 from ⟨by rw [IntWalk.wrap64_in _ ⟨by omega, by omega⟩]; omega, IntWalk.wrap64_in _ ⟨by omega, by omega⟩⟩)
    clear h1 h2 hn hq hk hdm hfs hml hr hev hl ha
    go_enter Try.func20, Try.ntmps20
    go_wp2_with fail
    refine HH.out.mono ?_
    rintro e w1 ⟨rfl, rfl⟩
    go_wp2_with fail
    refine HF.out.mono ?_
    rintro e w2 ⟨rfl, hb⟩
    have HB := Lib.hid hb
    clear hb
    obtain ⟨z1, z2⟩ := HZ.out
    have hfd : ∀ W, (Instr.field 46 (.agg #[.int .i64 (s : Int), .int .i64 (p : Int)]) 0).run Try.prog W = .ok (.int .i64 (s : Int)) W := fun _ => rfl
    go_wp2_with fail
    go_ret
    exact ⟨by first | rfl | (rw [z1, z2]; rfl), HB.out⟩
  · rw [if_neg hq]
    rw [decide_eq_false hq] at HH
    clear h1 h2 hn hq hev hl ha
    go_enter Try.func20, Try.ntmps20
    go_wp2_with fail
    refine HH.out.mono ?_
    rintro e w1 ⟨rfl, rfl⟩
    go_wp2_with fail
    go_ret
    exact ⟨rfl, Below.refl _ _⟩
end Go.Proofs.Ytkjnddgjnlbopaa.Index
