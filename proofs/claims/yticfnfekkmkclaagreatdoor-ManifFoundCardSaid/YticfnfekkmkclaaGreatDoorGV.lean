import Derived.Test.YticfnfekkmkclaaGreatDoorMR
/-
  The laws' own manifest of the program: given.
-/
namespace Go.Proofs.YticfnfekkmkclaaGreatDoor.Manif
open Go Go.RowKit
open Go.Proofs.YticfnfekkmkclaaGreatDoor.Wire (S S_list S_size cell_row frozen_row row_lt heap_set heap_far)

set_option maxRecDepth 100000 in
set_option maxHeartbeats 4000000 in
/-- **given** -/
theorem given_any (w : World) (g : Int) (A : Option Addr) (cap : Nat) (l : List (Int × Int)) (hl : l.length ≤ 1000) (hx : RowE w A l) :
    Calls Tryz.prog 25 #[.agg #[.int .i64 g, .slice A l.length cap]] w fun e w' => ∃ v, e = .returned (.agg #[.int .i64 g, v]) ∧ OwnE w' w.heap.size v l ∧ Below w.heap.size w w' := by
  obtain ⟨w3, hw3⟩ : ∃ w3, (w.alloc (.cells #[.int .i64 g, .slice A l.length cap] 47)).alloc (.cells #[.int .i64 0, .slice none 0 0] 25) = w3 := ⟨_, rfl⟩
  have e1 : (w.alloc (.cells #[.int .i64 g, .slice A l.length cap] 47)).heap.size = w.heap.size + 1 := by simp
  have hz3 : w3.heap.size = w.heap.size + 2 := by rw [← hw3]; simp
  have hb3 : Below w.heap.size w w3 := by rw [← hw3]; exact ((Below.refl _ w).alloc (Nat.le_refl _) _).alloc (by simp) _
  have m0 : w3.heap[w.heap.size]? = some (.cells #[.int .i64 g, .slice A l.length cap] 47 (0, 0)) := by
    rw [← hw3]
    exact (Below.heap_alloc _ _ _ (by rw [e1]; omega)).trans (heap_alloc_new w _)
  have m1 : w3.heap[w.heap.size + 1]? = some (.cells #[.int .i64 0, .slice none 0 0] 25 (0, 0)) := by rw [← hw3, ← e1]; exact heap_alloc_new _ _
  have c0 : w3.cell? ⟨w.heap.size, 0, none⟩ = some (.int .i64 g) := cell_row m0 0
  obtain ⟨hb5, hm5⟩ := mnew w3 (.int .i64 g) (.slice none 0 0)
  obtain ⟨W4, hW4⟩ : ∃ W, w3.alloc (.cells #[.int .i64 0, .slice none 0 0] 25) = W := ⟨_, rfl⟩
  have ha4 : W4.heap[w3.heap.size]? = some (.cells #[.int .i64 0, .slice none 0 0] 25 (0, 0)) := by rw [← hW4]; exact heap_alloc_new w3 _
  rw [hW4] at hb5 hm5
  obtain ⟨b0, f0, b1, f1, d0, d1, -⟩ := mset ha4 (.int .i64 g) (.slice none 0 0)
  have HM5 := Lib.hid hm5
  have HB5 := Lib.hid (hb3.trans (hb5.mono hb3.size))
  have HE5 := Lib.hid ((hb5.block _ (row_lt m1)).trans m1)
  have HR5 := Lib.hid ((hb5.block _ (row_lt m0)).trans m0)
  have HX := Lib.hid hx
  have HL := Lib.hid hl
  have HM := Lib.hid hz3
  have HXW : Hid (∀ k, k < l.length → ∀ b o, A = some ⟨b, o, none⟩ → b < w.heap.size) := Lib.hid (fun k hk b o e => by
    obtain ⟨b2, o2, h1, h2, -⟩ := hx k hk
    rw [e] at h1; injection h1 with h1; injection h1 with h1; omega)
  clear hx hl hb3 e1 m0 m1 hb5 hm5 ha4 hz3
  go_enter Tryz.func25, Tryz.ntmps25
  go_wp2_with fail
  clear b0 f0 b1 f1 d0 d1 c0 hW4 hw3
  obtain ⟨M, hM⟩ : ∃ m, w3.heap.size = m := ⟨_, rfl⟩
  rw [hM] at HM5 HE5 HR5 HB5 HM ⊢
  clear hM
  go_loopw [4] (fun y wr => ∃ j : Nat, j ≤ l.length ∧ y = .int .i64 (j : Int) ∧ Hid (∃ v, wr.heap[M]? = some (.cells #[.int .i64 g, v] 25 (0, 0)) ∧ OwnE wr (M + 1) v (l.take j)) ∧ Hid (wr.heap[w.heap.size]? = some (.cells #[.int .i64 g, .slice A l.length cap] 47 (0, 0))) ∧ Hid (wr.heap[w.heap.size + 1]? = some (.cells #[.int .i64 0, .slice none 0 0] 25 (0, 0))) ∧ Hid (Below w.heap.size w wr)) (fun y _ => l.length - (intOf y).toNat)
  case atStart => exact ⟨0, Nat.zero_le _, rfl, Lib.hid ⟨_, HM5.out, OwnE.nil _ _⟩, HR5, HE5, HB5⟩
  case round =>
    clear HM5 HR5 HE5 HB5
    obtain ⟨j, hj, rfl, HMV, HR, HE, HB⟩ := hrel
    obtain ⟨v, hm, ho⟩ := HMV.out
    have HMX := Lib.hid hm
    have HO := Lib.hid ho
    have a1 : wr.cell? ⟨w.heap.size, 1, none⟩ = some (.slice A l.length cap) := cell_row HR.out 1
    clear HMV
    by_cases hlt : j < l.length
    · as_aux_lemma =>
        have e1 : decide ((j : Int) < (l.length : Int)) = true := decide_eq_true (by omega)
        have HLT := Lib.hid hlt
        have HI1 := Lib.hid (show wrap64 ((j : Int) + 1) = (j : Int) + 1 from IntWalk.wrap64_in _ ⟨by omega, by have := HL.out; omega⟩)
        have HY := Lib.hid (show l.take (j + 1) = l.take j ++ [((l[j]'hlt).1, (l[j]'hlt).2)] from List.take_succ_eq_append_getElem hlt)
        obtain ⟨B, off, rfl, hbb, d0, d1⟩ := HX.out.below HB.out j hlt
        have HBW := Lib.hid (HXW.out j hlt B off rfl)
        have c1 : wr.cell? ⟨M, 1, none⟩ = some v := cell_row hm 1
        have HZ := Lib.hid (And.intro (row_lt hm) (Nat.lt_of_lt_of_le HBW.out HB.out.size))
        have g1 : (0 : Int) ≤ (j : Int) := by omega
        have g2 : (j : Int) < (l.length : Int) := by omega
        have HJ6 := Lib.hid (show (l.take j).length ≤ 1000000 by rw [List.length_take]; have := HL.out; omega)
        have HJL := Lib.hid (show (l.take j).length = j by rw [List.length_take]; omega)
        generalize (l[j]'hlt).1 = x at *
        generalize (l[j]'hlt).2 = y at *
        have hal : Below wr.heap.size wr (wr.alloc (.cells #[.int .i64 x, .int .i64 y] 27)) := (Below.refl _ _).alloc (Nat.le_refl _) _
        have HOA := Lib.hid (HO.out.below hal)
        have HMA := Lib.hid ((hal.block _ (row_lt hm)).trans hm)
        have HRA := Lib.hid ((hal.block _ (row_lt HR.out)).trans HR.out)
        have HEA := Lib.hid ((hal.block _ (row_lt HE.out)).trans HE.out)
        have HBA := Lib.hid (HB.out.trans (hal.mono HB.out.size))
        have HSA := Lib.hid (show M + 1 ≤ (wr.alloc (.cells #[.int .i64 x, .int .i64 y] 27)).heap.size from Nat.le_trans (row_lt hm) hal.size)
        have c7 : (wr.alloc (.cells #[.int .i64 x, .int .i64 y] 27)).cell? ⟨M, 1, none⟩ = some v := cell_row HMA.out 1
        have HKA : Hid (∀ (w6 : World), (wr.alloc (.cells #[.int .i64 x, .int .i64 y] 27)).grownBy w6 v.ownBlock → w6.heap[M]? = some (.cells #[.int .i64 g, v] 25 (0, 0)) ∧ w6.heap[w.heap.size]? = some (.cells #[.int .i64 g, .slice (some ⟨B, off, none⟩) l.length cap] 47 (0, 0)) ∧ w6.heap[w.heap.size + 1]? = some (.cells #[.int .i64 0, .slice none 0 0] 25 (0, 0)) ∧ Below w.heap.size w w6) := Lib.hid (fun w6 hgr => by
          have hne : ∀ k, k ≤ M → some k ≠ v.ownBlock := fun k hk e => by have := (HOA.out.lt k e.symm).2; omega
          have hMM := HM.out
          exact ⟨(hgr.block M (row_lt HMA.out) (hne M (Nat.le_refl _))).trans HMA.out, (hgr.block _ (row_lt HRA.out) (hne _ (by omega))).trans HRA.out, (hgr.block _ (row_lt HEA.out) (hne _ (by omega))).trans HEA.out, HBA.out.grown hgr HBA.out.size (fun k hk => by have := (HOA.out.lt k hk).2; omega)⟩)
        clear hm ho hal hj hlt hbb
        generalize l.take j = P at *
        go_wp2_with fail
        go_region_law (refine step_append_e (by rfl) (.tmp 16) (.tmp 22) (by rfl) (M + 1) v P (by rfl) HOA.out wr.heap.size 1 (x, y) (by rfl) (heap_alloc_new wr _) HJ6.out HSA.out ?_; intro v' w6 hown hgr; (have HOW := Lib.hid hown); (have HGR := Lib.hid (HKA.out w6 ⟨hgr.os, hgr.tape, hgr.output, hgr.size, hgr.block⟩)); obtain ⟨A4, c4, rfl, -, -, -, -⟩ := hown.row; (have c6 : w6.cell? ⟨M, 1, none⟩ = some v := cell_row HGR.out.1 1); (have f6 : w6.frozen? ⟨M, 1, none⟩ = false := frozen_row HGR.out.1 1); clear hown hgr)
        all_goals
          clear c6 c7 f6 c1 a1 d0 d1
          have HLL := Lib.hid (show (P ++ [(x, y)]).length = P.length + 1 by simp)
          obtain ⟨g1, g3, g2, g4⟩ := HGR.out
          have g5 := HOW.out
          rw [← HY.out] at g5
          have g6 := heap_set g1 1 (.slice A4 (P.length + 1) c4)
          have g5b : OwnE w6 (M + 1) (.slice A4 (P.length + 1) c4) (l.take (j + 1)) := by
            have h : (l.take (j + 1)).length = P.length + 1 := by rw [HY.out]; exact HLL.out
            rw [h] at g5; exact g5
          have hMM := HM.out
          have HM8 := Lib.hid (show ∃ v, (w6.setCell ⟨M, 1, none⟩ (.slice A4 (P.length + 1) c4)).heap[M]? = some (.cells #[.int .i64 g, v] 25 (0, 0)) ∧ OwnE (w6.setCell ⟨M, 1, none⟩ (.slice A4 (P.length + 1) c4)) (M + 1) v (l.take (j + 1)) from ⟨_, g6, g5b.keep (fun k hk => heap_far 1 _ (by have := (g5b.lt k hk).2; omega))⟩)
          have HR8 := Lib.hid ((heap_far (w := w6) (b := M) 1 (.slice A4 (P.length + 1) c4) (show w.heap.size ≠ M by omega)).trans g3)
          have HE8 := Lib.hid ((heap_far (w := w6) (b := M) 1 (.slice A4 (P.length + 1) c4) (show w.heap.size + 1 ≠ M by omega)).trans g2)
          have HB8 := Lib.hid (g4.setCell (p := ⟨M, 1, none⟩) (show w.heap.size ≤ M by omega) (.slice A4 (P.length + 1) c4))
          clear g1 g2 g3 g4 g5 g6 g5b hMM
          go_wp2_with fail
          go_roundw
          case rel => exact ⟨j + 1, HLT.out, by rw [HI1.out]; rfl, HM8, HR8, HE8, HB8⟩
          case measure =>
            rw [HI1.out]
            show l.length - ((j : Int) + 1).toNat < l.length - (j : Int).toNat
            have := HLT.out; omega
    · as_aux_lemma =>
        have e1 : decide ((j : Int) < (l.length : Int)) = false := decide_eq_false (by omega)
        obtain rfl : j = l.length := by omega
        rw [List.take_length] at HO
        obtain ⟨A5, c5, rfl, -, -, -, -⟩ := HO.out.row
        have c0 : wr.cell? ⟨M, 0, none⟩ = some (.int .i64 g) := cell_row hm 0
        have c1 : wr.cell? ⟨M, 1, none⟩ = some (.slice A5 l.length c5) := cell_row hm 1
        obtain ⟨b0, f0, b1, f1, d0, d1, -⟩ := mset HE.out (.int .i64 g) (.slice A5 l.length c5)
        have HBF := Lib.hid ((HB.out.setCell (p := ⟨w.heap.size + 1, 0, none⟩) (show w.heap.size ≤ w.heap.size + 1 by omega) (.int .i64 g)).setCell (p := ⟨w.heap.size + 1, 1, none⟩) (show w.heap.size ≤ w.heap.size + 1 by omega) (.slice A5 l.length c5))
        have HOF : Hid (OwnE ((wr.setCell ⟨w.heap.size + 1, 0, none⟩ (.int .i64 g)).setCell ⟨w.heap.size + 1, 1, none⟩ (.slice A5 l.length c5)) w.heap.size (.slice A5 l.length c5) l) := Lib.hid ((HO.out.keep (fun k hk => by
          have := (HO.out.lt k hk).2
          have h1 := HM.out
          rw [heap_far 1 _ (by omega), heap_far 0 _ (by omega)])).less (by have h1 := HM.out; omega))
        clear hm ho hj hlt
        go_wp2_with fail
        refine bodyPost_ret (v := .agg #[.int .i64 g, .slice A5 l.length c5]) (by simp [results, Tryz.results25, go_sem, d0, d1]) rfl ?_
        exact ⟨_, rfl, HOF.out, HBF.out⟩
end Go.Proofs.YticfnfekkmkclaaGreatDoor.Manif
