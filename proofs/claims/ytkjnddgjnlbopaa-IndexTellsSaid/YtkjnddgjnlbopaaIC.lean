import Derived.Test.YtkjnddgjnlbopaaIB
/-
  An index's own read of a frame.
-/
namespace Go.Proofs.Ytkjnddgjnlbopaa.Index
open Go Go.RowKit
open Go.Proofs.Ytkjnddgjnlbopaa.Wire (S S_list S_size cell_row frozen_row row_lt heap_set heap_far)
open Go.Proofs.Ytkjnddgjnlbopaa.Frame

/-- what the index's own read tells at a place, of a number -/
def irV (s : ByteArray) (at_ : Nat) (q : Int) : Value :=
  if rdE (s.data.toList.drop (min at_ s.size)) = 0 then
    (if (rdQ (s.data.toList.drop (min at_ s.size)) : Int) = q then .tuple #[frV (rdQ (s.data.toList.drop (min at_ s.size))) (rdP (s.data.toList.drop (min at_ s.size))) (min at_ s.size : Nat), .int .i64 ((min at_ s.size : Nat) + rdK (s.data.toList.drop (min at_ s.size)) : Int), .int .i64 0]
     else .tuple #[frV 0 [] 0, .int .i64 0, .int .i64 4])
  else .tuple #[frV 0 [] 0, .int .i64 0, .int .i64 (rdE (s.data.toList.drop (min at_ s.size)) : Int)]
/-- a frame in a block of its own -/
def FrB (w : World) (b : Nat) (q : Int) (p : ByteArray) (i : Int) : Prop := w.heap[b]? = some (.cells #[.int .i64 q, .string p, .int .i64 i] 51 (0, 0))
theorem FrB.facts {w : World} {b : Nat} {q : Int} {p : ByteArray} {i : Int} (h : FrB w b q p i) : (w.cell? ⟨b, 0, none⟩ = some (.int .i64 q) ∧ w.cell? ⟨b, 1, none⟩ = some (.string p) ∧ w.cell? ⟨b, 2, none⟩ = some (.int .i64 i)) ∧ w.frozen? ⟨b, 0, none⟩ = false ∧ w.frozen? ⟨b, 1, none⟩ = false ∧ w.frozen? ⟨b, 2, none⟩ = false :=
  ⟨⟨cell_row h 0, cell_row h 1, cell_row h 2⟩, frozen_row h 0, frozen_row h 1, frozen_row h 2⟩
def set3 (w : World) (b : Nat) (q : Int) (p : ByteArray) (i : Int) : World := ((w.setCell ⟨b, 0, none⟩ (.int .i64 q)).setCell ⟨b, 1, none⟩ (.string p)).setCell ⟨b, 2, none⟩ (.int .i64 i)
theorem FrB.store {w : World} {b : Nat} {q0 : Int} {p0 : ByteArray} {i0 : Int} (h : FrB w b q0 p0 i0) (q : Int) (p : ByteArray) (i : Int) : FrB (set3 w b q p i) b q p i := by
  have h1 := heap_set h 0 (.int .i64 q)
  have h2 := heap_set h1 1 (.string p)
  have h3 := heap_set h2 2 (.int .i64 i)
  exact h3
theorem below_set3 {n b : Nat} {a w : World} (h : Below n a w) (hb : n ≤ b) (q : Int) (p : ByteArray) (i : Int) : Below n a (set3 w b q p i) :=
  ((h.setCell (p := ⟨b, 0, none⟩) hb (.int .i64 q)).setCell (p := ⟨b, 1, none⟩) hb (.string p)).setCell (p := ⟨b, 2, none⟩) hb (.int .i64 i)
set_option maxHeartbeats 1000000 in
/-- **read** -/
theorem iread_any (s : ByteArray) (at_ : Nat) (q : Int) (hs : s.size ≤ 1000000000000) (w : World) :
    Calls Try.prog 66 #[.string s, .int .i64 (at_ : Int), .int .i64 q] w fun e w' => e = .returned (irV s at_ q) ∧ Below w.heap.size w w' := by
  obtain ⟨k, hk⟩ : ∃ k, min at_ s.size = k := ⟨_, rfl⟩
  have hks : k ≤ s.size := by omega
  have hmin : min (at_ : Int) (s.size : Int) = (k : Int) := by omega
  have hrd := fun W => Read_any s (k : Int) hs W
  unfold rdV at hrd
  rw [if_pos (by omega), Int.toNat_natCast] at hrd
  unfold irV
  rw [hk]
  generalize s.data.toList.drop k = l at *
  obtain ⟨W0, hW0⟩ : ∃ W0, w.alloc (.cells #[.int .i64 0, .string ⟨#[]⟩, .int .i64 0] 51) = W0 := ⟨_, rfl⟩
  have HX : Hid (FrB W0 w.heap.size 0 ⟨#[]⟩ 0) := Lib.hid (by rw [← hW0]; exact heap_alloc_new w _)
  have HB := Lib.hid (show Below w.heap.size w W0 by rw [← hW0]; exact (Below.refl _ _).alloc (Nat.le_refl _) _)
  have HW := Lib.hid hW0
  have HZ := Lib.hid (show w.heap.size < W0.heap.size by rw [← hW0]; simp)
  clear hW0 hk
  by_cases h0 : rdE l = 0
  · rw [if_pos h0] at hrd ⊢
    have HRD := Lib.hid hrd
    clear hrd h0
    generalize hN : ((k : Int) + (rdK l : Int)) = N at *
    clear hN
    by_cases hq : (rdQ l : Int) = q
    · rw [if_pos hq]
      subst hq
      generalize rdQ l = Q at *
      generalize rdP l = P at *
      unfold frV at *
      go_enter Try.func66, Try.ntmps66
      go_wp2_with fail
      rw [HW.out]
      try rw [hmin]
      clear hmin
      refine (HRD.out W0).mono ?_
      rintro e w1 ⟨rfl, hb⟩
      have HX1 := Lib.hid ((show FrB w1 w.heap.size 0 ⟨#[]⟩ 0 from (hb.block _ HZ.out).trans HX.out))
      have HB1 := Lib.hid (HB.out.trans (hb.mono HB.out.size))
      clear hb
      obtain ⟨⟨c0, c1, c2⟩, f0, f1, f2⟩ := HX1.out.facts
      obtain ⟨⟨d0, d1, d2⟩, g0, g1, g2⟩ := (HX1.out.store (Q : Int) (S P) (k : Int)).facts
      obtain ⟨⟨x0, x1, x2⟩, -⟩ := ((HX1.out.store (Q : Int) (S P) (k : Int)).store (Q : Int) (S P) (k : Int)).facts
      have HBE := Lib.hid (below_set3 (below_set3 HB1.out (Nat.le_refl _) (Q : Int) (S P) (k : Int)) (Nat.le_refl _) (Q : Int) (S P) (k : Int))
      unfold set3 at *
      go_wp2_with fail
      refine bodyPost_ret (v := .tuple #[.agg #[.int .i64 (Q : Int), .string (S P), .int .i64 (k : Int)], .int .i64 N, .int .i64 0]) (by simp [results, Try.results66, go_sem, x0, x1, x2]) rfl ⟨rfl, HBE.out⟩
    · rw [if_neg hq]
      have e1 : ((rdQ l : Int) != q) = true := bne_iff_ne.2 hq
      generalize rdQ l = Q at *
      generalize rdP l = P at *
      unfold frV at *
      go_enter Try.func66, Try.ntmps66
      go_wp2_with fail
      rw [HW.out]
      try rw [hmin]
      clear hmin
      refine (HRD.out W0).mono ?_
      rintro e w1 ⟨rfl, hb⟩
      have HX1 := Lib.hid ((show FrB w1 w.heap.size 0 ⟨#[]⟩ 0 from (hb.block _ HZ.out).trans HX.out))
      have HB1 := Lib.hid (HB.out.trans (hb.mono HB.out.size))
      clear hb
      obtain ⟨⟨c0, c1, c2⟩, f0, f1, f2⟩ := HX1.out.facts
      obtain ⟨⟨d0, d1, d2⟩, g0, g1, g2⟩ := (HX1.out.store (Q : Int) (S P) (k : Int)).facts
      have h2 := (HX1.out.store (Q : Int) (S P) (k : Int)).store 0 ⟨#[]⟩ 0
      obtain ⟨⟨y0, y1, y2⟩, y3, y4, y5⟩ := h2.facts
      have HBE := Lib.hid (below_set3 (below_set3 HB1.out (Nat.le_refl _) (Q : Int) (S P) (k : Int)) (Nat.le_refl _) 0 ⟨#[]⟩ 0)
      unfold set3 at *
      go_wp2_with fail
      refine bodyPost_ret (v := .tuple #[.agg #[.int .i64 0, .string ⟨#[]⟩, .int .i64 0], .int .i64 0, .int .i64 4]) (by simp [results, Try.results66, go_sem, y0, y1, y2]) rfl ⟨rfl, HBE.out⟩
  · rw [if_neg h0] at hrd ⊢
    have HRD := Lib.hid hrd
    obtain ⟨q1, q2, q3, q4, q5⟩ := nat_ne h0
    clear hrd h0
    generalize rdE l = X at *
    unfold frV at *
    go_enter Try.func66, Try.ntmps66
    go_wp2_with fail
    rw [HW.out]
    try rw [hmin]
    clear hmin
    refine (HRD.out W0).mono ?_
    rintro e w1 ⟨rfl, hb⟩
    have HX1 := Lib.hid ((show FrB w1 w.heap.size 0 ⟨#[]⟩ 0 from (hb.block _ HZ.out).trans HX.out))
    have HB1 := Lib.hid (HB.out.trans (hb.mono HB.out.size))
    clear hb
    obtain ⟨⟨c0, c1, c2⟩, f0, f1, f2⟩ := HX1.out.facts
    obtain ⟨⟨d0, d1, d2⟩, g0, g1, g2⟩ := (HX1.out.store 0 (S []) 0).facts
    have h2 := (HX1.out.store 0 (S []) 0).store 0 (S []) 0
    obtain ⟨⟨y0, y1, y2⟩, y3, y4, y5⟩ := h2.facts
    have HBE := Lib.hid (below_set3 (below_set3 HB1.out (Nat.le_refl _) 0 (S []) 0) (Nat.le_refl _) 0 (S []) 0)
    unfold set3 at *
    go_wp2_with fail
    refine bodyPost_ret (v := .tuple #[.agg #[.int .i64 0, .string (S []), .int .i64 0], .int .i64 0, .int .i64 (X : Int)]) (by simp [results, Try.results66, go_sem, y0, y1, y2]) rfl ⟨rfl, HBE.out⟩
end Go.Proofs.Ytkjnddgjnlbopaa.Index
