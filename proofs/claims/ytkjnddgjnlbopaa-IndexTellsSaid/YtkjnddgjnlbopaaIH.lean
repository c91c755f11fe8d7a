import Derived.Test.YtkjnddgjnlbopaaIG
/-
  An index's Copy; a binary search; the mark from which on a frame is found; Steps.
-/
namespace Go.Proofs.Ytkjnddgjnlbopaa.Index
open Go Go.RowKit
open Go.Proofs.Ytkjnddgjnlbopaa.Wire (S S_list S_size cell_row frozen_row row_lt heap_set heap_far)
open Go.Proofs.Ytkjnddgjnlbopaa.Frame Go.Proofs.Ytkjnddgjnlbopaa.Seg

set_option maxRecDepth 100000 in
set_option maxHeartbeats 1000000 in
/-- **Copy** -/
theorem copy_any (w : World) (base b ev a : Nat) (ats : List Nat) (g : Nat) (h : Ix w base b ev a ats g) (hev : 1 ≤ ev) (hl : ats.length ≤ 900000) :
    Calls Try.prog 18 #[.pointer (some ⟨b, 0, none⟩)] w fun e w' => e = .returned (.pointer (some ⟨w.heap.size, 0, none⟩)) ∧ Ix w' w.heap.size w.heap.size ev a ats g ∧ Below w.heap.size w w' := by
  obtain ⟨v, h1, h2⟩ := h
  have hml : (mks ev a ats).length ≤ 1000000 := by rw [mks_len]; have := nm_le (n := ats.length) hev; omega
  obtain ⟨n, hn⟩ : ∃ n, a + ats.length = n := ⟨_, rfl⟩
  unfold Ix
  rw [hn] at h1 ⊢
  obtain ⟨A, c, rfl, -, -, -, -⟩ := h2.row
  obtain ⟨⟨c0, c1, c2, c3, c4⟩, -⟩ := h1.facts
  obtain ⟨w1, hw1⟩ : ∃ w1, w.alloc (.cells #[.int .i64 (ev : Int), .int .i64 (a : Int), .int .i64 (n : Int), .slice A (mks ev a ats).length c, .int .i64 (g : Int)] 75) = w1 := ⟨_, rfl⟩
  have hb1 : Below w.heap.size w w1 := by rw [← hw1]; exact (Below.refl _ _).alloc (Nat.le_refl _) _
  have HX1 := Lib.hid (show IBx w1 w.heap.size ev a n (.slice A (mks ev a ats).length c) g by rw [← hw1]; exact heap_alloc_new w _)
  have hi1 : IBx w1 b ev a n (.slice A (mks ev a ats).length c) g := (hb1.block _ (row_lt h1)).trans h1
  obtain ⟨⟨x0, x1, x2, x3, x4⟩, -⟩ := hi1.facts
  have HC := Lib.hid (clone_any w1 base _ _ (h2.below hb1) hml)
  have HB1 := Lib.hid hb1
  have HZ1 := Lib.hid (show w.heap.size < w1.heap.size by rw [← hw1]; simp)
  have HW1 := Lib.hid hw1
  rw [← hw1] at x0 x1 x2 x3 x4
  clear hb1 hi1 hw1 h1 h2 hml
  go_enter Try.func18, Try.ntmps18
  go_wp2_with fail
  rw [HW1.out]
  refine HC.out.mono ?_
  rintro e w2 ⟨u, rfl, ho, hb⟩
  obtain ⟨A2, c2', rfl, -, -, -, -⟩ := ho.row
  have hx2 : IBx w2 w.heap.size ev a n (.slice A (mks ev a ats).length c) g := (hb.block _ HZ1.out).trans HX1.out
  have h5 := heap_set hx2 3 (.slice A2 (mks ev a ats).length c2')
  have HIX : Hid (IBx (w2.setCell ⟨w.heap.size, 3, none⟩ (.slice A2 (mks ev a ats).length c2')) w.heap.size ev a n (.slice A2 (mks ev a ats).length c2') g) := Lib.hid h5
  have HO : Hid (OwnM (w2.setCell ⟨w.heap.size, 3, none⟩ (.slice A2 (mks ev a ats).length c2')) w.heap.size (.slice A2 (mks ev a ats).length c2') (mks ev a ats)) := Lib.hid ((ho.less (Nat.le_of_lt HZ1.out)).keep (fun r hr => heap_far 3 _ (ibx_ne hx2 ho r hr)))
  have HB := Lib.hid ((HB1.out.trans (hb.mono HB1.out.size)).setCell (p := ⟨w.heap.size, 3, none⟩) (Nat.le_refl _) (.slice A2 (mks ev a ats).length c2'))
  obtain ⟨⟨y0, y1, y2, y3, y4⟩, z0, z1, z2, z3, z4⟩ := hx2.facts
  clear hb ho hx2 h5 x0 x1 x2 x3 x4 c0 c1 c2 c3 c4
  go_wp2_with fail
  go_ret
  exact ⟨rfl, ⟨_, HIX.out, HO.out⟩, HB.out⟩
theorem copy_nil (w : World) : Calls Try.prog 18 #[.pointer none] w fun e w' => e = .returned (.pointer none) ∧ w = w' := by
  go_enter Try.func18, Try.ntmps18
  go_wp2_with fail
  go_ret
  exact ⟨rfl, rfl⟩
/-- what a search asks of a mark: is it beyond a number? -/
theorem up1_any (w : World) (base b ev a : Nat) (ats : List Nat) (g x y q i : Nat) (h : Ix w base b ev a ats g) (hx : Boxed w x 27 (.pointer (some ⟨b, 0, none⟩))) (hy : Boxed w y 2 (.int .i64 (q : Int))) (hi : i < nm ev ats.length) :
    Calls Try.prog 87 #[.int .i64 (i : Int), .pointer (some ⟨x, 0, none⟩), .pointer (some ⟨y, 0, none⟩)] w fun e w' => e = .returned (.bool (decide ((q : Int) < ((a + i * ev : Nat) : Int)))) ∧ ∃ m, w' = w.drewN m := by
  obtain ⟨v, h1, h2⟩ := h
  obtain ⟨A, c, rfl, -, -, hrow, -⟩ := h2.row
  have hl := mks_len ev a ats
  obtain ⟨g2, rfl, -, d0, -⟩ := hrow i (by rw [hl]; exact hi)
  rw [mks_at] at d0
  obtain ⟨s, hs⟩ : ∃ s, a + i * ev = s := ⟨_, rfl⟩
  rw [show (a + i * ev, ats.getD (i * ev) 0).1 = s from hs] at d0
  rw [hs]
  obtain ⟨⟨c0, c1, c2, c3, c4⟩, -⟩ := h1.facts
  have e1 : w.cell? ⟨x, 0, none⟩ = some (.pointer (some ⟨b, 0, none⟩)) := cell_row hx 0
  have e2 : w.cell? ⟨y, 0, none⟩ = some (.int .i64 (q : Int)) := cell_row hy 0
  obtain ⟨N, hN⟩ : ∃ N, (mks ev a ats).length = N := ⟨_, rfl⟩
  rw [hN] at c3
  have k3 : (0 : Int) ≤ (i : Int) := by omega
  have k4 : (i : Int) < (N : Int) := by omega
  have hfm : Try.prog.follows .mixedOrders = true := by kernel_rfl
  clear hrow h1 h2 hl hs hx hy
  go_enter Try.func87, Try.ntmps87
  go_wp2_with fail
  go_big_quiet (fail)
  go_wp2_with fail
  go_ret
  exact ⟨by first | rfl | simp, ⟨nq, rfl⟩⟩
end Go.Proofs.Ytkjnddgjnlbopaa.Index
