import Derived.Test.YtkjnddgjnlbopaaIB
import Derived.Deep.RegionLaw
import Derived.Laws.AppendOwn
/-
  A frame put behind the others of an index.
-/
namespace Go.Proofs.Ytkjnddgjnlbopaa.Index
open Go Go.RowKit
open Go.Proofs.Ytkjnddgjnlbopaa.Wire (S S_list S_size cell_row frozen_row row_lt heap_set heap_far)
open Go.Proofs.Ytkjnddgjnlbopaa.Frame

theorem wpList_append_m {ops : Array Oper} {rest : List Oper} {o : Oper} {a : Act} {w : World} {Q : Exit → Act → World → Prop} (hgd : o.guard = none) (s x : Operand)
    (ho : o.op = .call { callee := .builtin .append, args := #[s, x], argTypes := #[30, 30] })
    (base : Nat) (v : Value) (xs : List (Nat × Nat)) (hs : a.eval s = v) (hown : OwnM w base v xs)
    (g : Nat) (cap : Nat) (y : Nat × Nat) (hx : a.eval x = .slice (some ⟨g, 0, none⟩) 1 cap) (hn : w.heap[g]? = some (.cells (mkC y).toArray 46 (0, 0)))
    (hlen : xs.length ≤ 1000000) (hbase : base ≤ w.heap.size)
    (h : ∀ v' w', OwnM w' base v' (xs ++ [y]) → w.grownBy w' v.ownBlock → wpList Try.prog ops Q rest (a.put o.dst v') w') : wpList Try.prog ops Q (o :: rest) a w := by
  obtain ⟨i0, hi, hz0, hz1, hz2⟩ := info_parts infoM
  refine wpList_append_own w hgd s x 30 ho base 46 i0 _ 2 16 Try.underlying30 hi hz0 hz1 hz2 rfl (by decide) v xs.length (cellsM xs) hs hown ⟨g, 0, none⟩ 1 cap (mkC y) hx rfl ?_ (fun u hu => cellsM_one [y] u (by rw [cellsM, cellsM, List.append_nil]; exact hu)) (by unfold maxLen; omega) (by omega) hbase ?_
  · intro j u hj
    rw [addr_add0, cell_row hn]
    simpa using hj
  · intro v' w' hown' hg _
    exact h v' w' (by unfold OwnM; rw [cellsM_append, List.length_append, cellsM, cellsM, List.append_nil]; exact hown') hg
theorem step_append_m {ops : Array Oper} {o : Oper} {a : Act} {w : World} {K : Act → World → Prop} {Q : Exit → Act → World → Prop} {X : Prop} (hgd : o.guard = none) (s x : Operand)
    (ho : o.op = .call { callee := .builtin .append, args := #[s, x], argTypes := #[30, 30] })
    (base : Nat) (v : Value) (xs : List (Nat × Nat)) (hs : a.eval s = v) (hown : OwnM w base v xs)
    (g : Nat) (cap : Nat) (y : Nat × Nat) (hx : a.eval x = .slice (some ⟨g, 0, none⟩) 1 cap) (hn : w.heap[g]? = some (.cells (mkC y).toArray 46 (0, 0)))
    (hlen : xs.length ≤ 1000000) (hbase : base ≤ w.heap.size)
    (h : ∀ v' w', OwnM w' base v' (xs ++ [y]) → w.grownBy w' v.ownBlock → K (a.put o.dst v') w') :
    if Region.wanted o (yielded ops a.tmps) = true then Oper.wp Try.prog o a w K Q else X := by
  obtain ⟨i0, hi, hz0, hz1, hz2⟩ := info_parts infoM
  rw [if_pos (by simp [Region.wanted, hgd])]
  refine wp_append_own w s x 30 ho base 46 i0 _ 2 16 Try.underlying30 hi hz0 hz1 hz2 rfl (by decide) v xs.length (cellsM xs) hs hown ⟨g, 0, none⟩ 1 cap (mkC y) hx rfl ?_ (fun u hu => cellsM_one [y] u (by rw [cellsM, cellsM, List.append_nil]; exact hu)) (by unfold maxLen; omega) (by omega) hbase ?_
  · intro j u hj
    rw [addr_add0, cell_row hn]
    simpa using hj
  · intro v' w' hown' hg _
    exact h v' w' (by unfold OwnM; rw [cellsM_append, List.length_append, cellsM, cellsM, List.append_nil]; exact hown') hg
set_option maxRecDepth 100000 in
set_option maxHeartbeats 2000000 in
/-- **put**: a frame of so many bytes behind the others -/
theorem put_any (w : World) (base b ev a : Nat) (ats : List Nat) (g sz : Nat) (h : Ix w base b ev a ats g) (hbb : base ≤ b) (hev : 1 ≤ ev ∧ ev ≤ 64) (hsm : a + ats.length ≤ 100000000) (hl : ats.length ≤ 900000) (hg : g + sz ≤ 1000000000000) :
    Calls Try.prog 35 #[.pointer (some ⟨b, 0, none⟩), .int .i64 (sz : Int)] w fun e w' => e = .returned (.int .i64 (g : Int)) ∧ Ix w' base b ev a (ats ++ [g]) (g + sz) ∧ Below base w w' := by
  have HD := Lib.hid (due_any w base b ev a ats g h hev hsm)
  have HI := Lib.hid h
  obtain ⟨v0, hb0, -⟩ := h
  have HBS := Lib.hid (Nat.le_trans hbb (Nat.le_of_lt (row_lt hb0)))
  have HBB := Lib.hid hbb
  obtain ⟨n, hn⟩ : ∃ n, a + ats.length = n := ⟨_, rfl⟩
  have HN1 := Lib.hid (show wrap64 ((n : Int) + 1) = ((n + 1 : Nat) : Int) by rw [IntWalk.wrap64_in _ ⟨by omega, by omega⟩]; omega)
  have HG1 := Lib.hid (show wrap64 ((g : Int) + (sz : Int)) = ((g + sz : Nat) : Int) by rw [IntWalk.wrap64_in _ ⟨by omega, by omega⟩]; omega)
  have hnl : a + (ats ++ [g]).length = n + 1 := by rw [List.length_append, List.length_singleton]; omega
  rw [hn] at hb0
  have hml : (mks ev a ats).length ≤ 1000000 := by rw [mks_len]; have := nm_le (n := ats.length) hev.1; omega
  have HML := Lib.hid hml
  obtain ⟨⟨c0, c1, c2, c3, c4⟩, -⟩ := hb0.facts
  by_cases hdd : ats.length % ev = 0
  · have HMK := Lib.hid (mks_due hev.1 a ats g hdd)
    rw [decide_eq_true hdd] at HD
    rw [hn] at HMK
    clear hdd hsm hl hg hbb hml
    go_enter Try.func35, Try.ntmps35
    go_wp2_with fail
    refine HD.out.mono ?_
    rintro e w1 ⟨rfl, hb⟩
    obtain ⟨v, h1, h2⟩ := HI.out.below hb
    rw [hn] at h1
    have HB1 := Lib.hid (hb.mono HBS.out)
    clear hb hb0 c0 c1 c2 c3 c4
    obtain ⟨⟨c0, c1, c2, c3, c4⟩, f0, f1, f2, f3, f4⟩ := h1.facts
    go_wp2_with fail
    have hb2 : Below w1.heap.size w1 (w1.drew.alloc (.cells #[.int .i64 (n : Int), .int .i64 (g : Int)] 46)) := (Below.refl _ _).drew.alloc (Nat.le_refl _) _
    have hi2 : IBx (w1.drew.alloc (.cells #[.int .i64 (n : Int), .int .i64 (g : Int)] 46)) b ev a n v g := (hb2.block _ (row_lt h1)).trans h1
    have HI2 := Lib.hid hi2
    have HO2 := Lib.hid (h2.below hb2)
    have HM2 := Lib.hid (show (w1.drew.alloc (.cells #[.int .i64 (n : Int), .int .i64 (g : Int)] 46)).heap[w1.heap.size]? = some (.cells (mkC (n, g)).toArray 46 (0, 0)) from heap_alloc_new w1.drew _)
    have HB2 := Lib.hid (HB1.out.trans (hb2.mono (Nat.le_trans HBS.out HB1.out.size)))
    have HBZ := Lib.hid (show base ≤ (w1.drew.alloc (.cells #[.int .i64 (n : Int), .int .i64 (g : Int)] 46)).heap.size from Nat.le_trans (Nat.le_trans HBS.out HB1.out.size) hb2.size)
    obtain ⟨⟨x0, x1, x2, x3, x4⟩, y0, y1, y2, y3, y4⟩ := hi2.facts
    have hi4 : IBx (w1.alloc (.cells #[.int .i64 (n : Int), .int .i64 (g : Int)] 46)) b ev a n v g := hi2
    obtain ⟨⟨x5, x6, x7, x8, x9⟩, y5, y6, y7, y8, y9⟩ := hi4.facts
    clear hb2 hi2 hi4
    go_region_law ((refine step_append_m (by rfl) (.tmp 15) (.tmp 22) (by rfl) base v (mks ev a ats) (by rfl) HO2.out w1.heap.size 1 (n, g) (by rfl) HM2.out HML.out HBZ.out ?_; intro v' w3 hown hgr; (have hi3 : IBx w3 b ev a n v g := (hgr.block _ (row_lt HI2.out) (fun e => (ibx_ne HI2.out HO2.out b e.symm) rfl)).trans HI2.out); obtain ⟨⟨z0, z1, z2, z3, z4⟩, t0, t1, t2, t3, t4⟩ := hi3.facts; (have HOW := Lib.hid hown); (have HI3 := Lib.hid hi3); (have HGR := Lib.hid hgr); obtain ⟨A4, c4, rfl, -, -, -, -⟩ := hown.row; clear hi3 hgr hown))
    all_goals
      clear x0 x1 x2 x3 x4 x5 x6 x7 x8 x9 y0 y1 y2 y3 y4 y5 y6 y7 y8 y9 z0 z1 z2 z3 z4 t0 t1 t2 t3 t4
      have h5 := heap_set HI3.out 3 (.slice A4 ((mks ev a ats).length + 1) c4)
      have how : OwnM w3 base (.slice A4 ((mks ev a ats).length + 1) c4) (mks ev a ats ++ [(n, g)]) := by
        have := HOW.out
        rw [List.length_append, List.length_singleton] at this
        exact this
      have h6 := heap_set h5 2 (.int .i64 (wrap64 ((n : Int) + 1)))
      have h7 := heap_set h6 4 (.int .i64 (wrap64 ((g : Int) + (sz : Int))))
      have u2 : (w3.setCell ⟨b, 3, none⟩ (.slice A4 ((mks ev a ats).length + 1) c4)).cell? ⟨b, 2, none⟩ = some (.int .i64 (n : Int)) := cell_row h5 2
      have u3 := frozen_row h5 2
      have u4 : ((w3.setCell ⟨b, 3, none⟩ (.slice A4 ((mks ev a ats).length + 1) c4)).setCell ⟨b, 2, none⟩ (.int .i64 (wrap64 ((n : Int) + 1)))).cell? ⟨b, 4, none⟩ = some (.int .i64 (g : Int)) := cell_row h6 4
      have u5 := frozen_row h6 4
      have HIX : Hid (Ix (((w3.setCell ⟨b, 3, none⟩ (.slice A4 ((mks ev a ats).length + 1) c4)).setCell ⟨b, 2, none⟩ (.int .i64 (wrap64 ((n : Int) + 1)))).setCell ⟨b, 4, none⟩ (.int .i64 (wrap64 ((g : Int) + (sz : Int))))) base b ev a (ats ++ [g]) (g + sz)) := Lib.hid (by
        refine ⟨.slice A4 ((mks ev a ats).length + 1) c4, ?_, ?_⟩
        · rw [hnl]
          unfold IBx
          rw [← HN1.out, ← HG1.out]
          exact h7
        · rw [HMK.out]
          refine how.keep (fun r hr => ?_)
          have hne := (ibx_ne HI3.out how) r hr
          rw [heap_far 4 _ hne, heap_far 2 _ hne, heap_far 3 _ hne])
      have HBE : Hid (Below base w (((w3.setCell ⟨b, 3, none⟩ (.slice A4 ((mks ev a ats).length + 1) c4)).setCell ⟨b, 2, none⟩ (.int .i64 (wrap64 ((n : Int) + 1)))).setCell ⟨b, 4, none⟩ (.int .i64 (wrap64 ((g : Int) + (sz : Int)))))) := Lib.hid ((((HB2.out.grown HGR.out HBZ.out (fun r hr => (HO2.out.lt r hr).2)).setCell (p := ⟨b, 3, none⟩) HBB.out _).setCell (p := ⟨b, 2, none⟩) HBB.out _).setCell (p := ⟨b, 4, none⟩) HBB.out _)
      clear h5 h6 h7
      go_wp2_with fail
      go_ret
      exact ⟨rfl, HIX.out, HBE.out⟩
  · have HMK := Lib.hid (mks_not hev.1 a ats g hdd)
    rw [decide_eq_false hdd] at HD
    clear hdd hsm hl hg hbb hml
    go_enter Try.func35, Try.ntmps35
    go_wp2_with fail
    refine HD.out.mono ?_
    rintro e w1 ⟨rfl, hb⟩
    obtain ⟨v, h5, how⟩ := HI.out.below hb
    rw [hn] at h5
    have hi5 := h5
    have HB1 := Lib.hid (hb.mono HBS.out)
    clear hb hb0 c0 c1 c2 c3 c4
    unfold IBx at h5
    have h6 := heap_set h5 2 (.int .i64 (wrap64 ((n : Int) + 1)))
    have h7 := heap_set h6 4 (.int .i64 (wrap64 ((g : Int) + (sz : Int))))
    have u2 : (w1).cell? ⟨b, 2, none⟩ = some (.int .i64 (n : Int)) := cell_row h5 2
    have u3 := frozen_row h5 2
    have u4 : ((w1).setCell ⟨b, 2, none⟩ (.int .i64 (wrap64 ((n : Int) + 1)))).cell? ⟨b, 4, none⟩ = some (.int .i64 (g : Int)) := cell_row h6 4
    have u5 := frozen_row h6 4
    have HIX : Hid (Ix (((w1).setCell ⟨b, 2, none⟩ (.int .i64 (wrap64 ((n : Int) + 1)))).setCell ⟨b, 4, none⟩ (.int .i64 (wrap64 ((g : Int) + (sz : Int))))) base b ev a (ats ++ [g]) (g + sz)) := Lib.hid (by
      refine ⟨v, ?_, ?_⟩
      · rw [hnl]
        unfold IBx
        rw [← HN1.out, ← HG1.out]
        exact h7
      · rw [HMK.out]
        refine how.keep (fun r hr => ?_)
        have hne := (ibx_ne hi5 how) r hr
        rw [heap_far 4 _ hne, heap_far 2 _ hne])
    have HBE : Hid (Below base w (((w1).setCell ⟨b, 2, none⟩ (.int .i64 (wrap64 ((n : Int) + 1)))).setCell ⟨b, 4, none⟩ (.int .i64 (wrap64 ((g : Int) + (sz : Int)))))) := Lib.hid ((HB1.out.setCell (p := ⟨b, 2, none⟩) HBB.out _).setCell (p := ⟨b, 4, none⟩) HBB.out _)
    clear h5 h6 h7
    go_wp2_with fail
    go_ret
    exact ⟨rfl, HIX.out, HBE.out⟩
end Go.Proofs.Ytkjnddgjnlbopaa.Index
