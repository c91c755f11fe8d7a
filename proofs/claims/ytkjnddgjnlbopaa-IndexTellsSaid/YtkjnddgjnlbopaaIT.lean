import Derived.Test.YtkjnddgjnlbopaaIE
import Derived.Deep.RegionLaw
import Derived.Laws.AppendOwn
/-
  A frame put behind the others of an index: what blocks stay as they are.
-/
namespace Go.Proofs.Ytkjnddgjnlbopaa.Index
open Go Go.RowKit
open Go.Proofs.Ytkjnddgjnlbopaa.Wire (S S_list S_size cell_row frozen_row row_lt heap_set heap_far)
open Go.Proofs.Ytkjnddgjnlbopaa.Frame

section
variable {P : Program} (w : World)
/-- an append to a row of one's own: it stays where it is, or goes to a new block -/
theorem run_append_own2 (base : Nat) (t ty e : TypeId) (i : TypeInfo) (z : Value) (size bytes : Nat) (ht : P.underlying t = some (.slice e)) (hi : P.info? e = some i) (hz : i.zero = some z)
    (hsize : i.size = size) (hby : i.bytes = bytes) (hzs : z.cells.size = size) (hsz : 0 < size)
    (v : Value) (n : Nat) (xs : List Value) (hown : w.ownsRow base e size v n xs)
    (a : Addr) (m c : Nat) (news : List Value) (hl : news.length = m * size) (hnews : ∀ j u, news[j]? = some u → w.cell? (a.add j) = some u) (h1 : ∀ u ∈ news, u.oneCell' = true)
    (h63 : n + m ≤ maxLen) (hbytes : (n + m) * bytes ≤ 140737488355328) (hbase : base ≤ w.heap.size) (hm : 0 < m) :
    ∃ v' w', (Builtin.append_ #[t, t] ty #[v, .slice (some a) m c]).run P w = .ok v' w' ∧ w'.ownsRow base e size v' (n + m) (xs ++ news) ∧ w.grownBy w' v.ownBlock ∧
      (∀ r, v'.ownBlock = some r → v.ownBlock = some r ∨ w.heap.size ≤ r) := by
  obtain ⟨v', w', hr, ho, hg, -⟩ := run_append_own (P := P) w base t ty e i z size bytes ht hi hz hsize hby hzs hsz v n xs hown a m c news hl hnews h1 h63 hbytes hbase
  refine ⟨v', w', hr, ho, hg, fun r hv => ?_⟩
  rcases hown.2 with ⟨rfl, rfl⟩ | ⟨g, cap, cur, rfl, hbg, hgg, hnc, hcm, hcs, htake⟩
  · have hx : xs = [] := List.eq_nil_of_length_eq_zero (by simpa using hown.1)
    subst hx
    obtain ⟨v2, w2, hr2, ho2, -, -⟩ := run_append_own (P := P) w w.heap.size t ty e i z size bytes ht hi hz hsize hby hzs hsz (.slice none 0 0) 0 [] (World.ownsRow_nil w _ e size) a m c news hl hnews h1 h63 hbytes (Nat.le_refl _)
    rw [hr] at hr2
    injection hr2 with e1 e2
    subst e1 e2
    exact Or.inr (ho2.lt r hv).1
  · by_cases hroom : n + m ≤ cap
    · have hfit : n * i.size + news.length ≤ cur.size := by rw [hl, hcs, hsize, ← Nat.add_mul]; exact Nat.mul_le_mul_right _ hroom
      have hr2 := run_append_room (P := P) w t ty e i ht hi g n cap cur hgg a m c news (by rw [hsize]; exact hl) hnews h1 hroom hfit
      rw [hr] at hr2
      injection hr2 with e1 e2
      subst e1
      exact Or.inl hv
    · have holds : ∀ j u, xs[j]? = some u → w.cell? ((⟨g, 0, none⟩ : Addr).add j) = some u := hown.cells (g := g) rfl
      have hr2 := run_append_grow (P := P) w t ty e i z ht hi hz ⟨g, 0, none⟩ n cap xs (by rw [hsize]; exact hown.1) holds a m c news (by rw [hsize]; exact hl) hnews (by omega) (by simp only [maxLen] at h63; omega) (by rw [hby]; exact growslice_fits (by omega) hbytes)
      rw [hr] at hr2
      injection hr2 with e1 e2
      subst e1
      simp only [Value.ownBlock, Option.some.injEq] at hv
      exact Or.inr (Nat.le_of_eq hv)
theorem wp_append_own2 {o : Oper} {a : Act} {K : Act → World → Prop} {Q : Exit → Act → World → Prop} (s x : Operand) (t : TypeId)
    (ho : o.op = .call { callee := .builtin .append, args := #[s, x], argTypes := #[t, t] })
    (base : Nat) (e : TypeId) (i : TypeInfo) (z : Value) (size bytes : Nat) (ht : P.underlying t = some (.slice e)) (hi : P.info? e = some i) (hz : i.zero = some z)
    (hsize : i.size = size) (hby : i.bytes = bytes) (hzs : z.cells.size = size) (hsz : 0 < size)
    (v : Value) (n : Nat) (xs : List Value) (hs : a.eval s = v) (hown : w.ownsRow base e size v n xs)
    (ad : Addr) (m c : Nat) (news : List Value) (hx : a.eval x = .slice (some ad) m c) (hl : news.length = m * size) (hnews : ∀ j u, news[j]? = some u → w.cell? (ad.add j) = some u) (h1 : ∀ u ∈ news, u.oneCell' = true)
    (h63 : n + m ≤ maxLen) (hbytes : (n + m) * bytes ≤ 140737488355328) (hbase : base ≤ w.heap.size) (hm : 0 < m)
    (h : ∀ v' w', w'.ownsRow base e size v' (n + m) (xs ++ news) → w.grownBy w' v.ownBlock → (∀ r, v'.ownBlock = some r → v.ownBlock = some r ∨ w.heap.size ≤ r) → K (a.put o.dst v') w') : o.wp P a w K Q := by
  obtain ⟨v', w', hr, h2, h3, h4⟩ := run_append_own2 (P := P) w base t o.type e i z size bytes ht hi hz hsize hby hzs hsz v n xs hown ad m c news hl hnews h1 h63 hbytes hbase hm
  unfold Oper.wp execOp
  simp only [ho, resolve, invoke, builtin, Sem.run_bind, Sem.run_pure, Result.andThen_ok, List.map_toArray, List.map_cons, List.map_nil, hs, hx, hr]
  exact h v' w' h2 h3 h4
end
theorem step_append_m2 {ops : Array Oper} {o : Oper} {a : Act} {w : World} {K : Act → World → Prop} {Q : Exit → Act → World → Prop} {X : Prop} (hgd : o.guard = none) (s x : Operand)
    (ho : o.op = .call { callee := .builtin .append, args := #[s, x], argTypes := #[30, 30] })
    (base : Nat) (v : Value) (xs : List (Nat × Nat)) (hs : a.eval s = v) (hown : OwnM w base v xs)
    (g : Nat) (cap : Nat) (y : Nat × Nat) (hx : a.eval x = .slice (some ⟨g, 0, none⟩) 1 cap) (hn : w.heap[g]? = some (.cells (mkC y).toArray 46 (0, 0)))
    (hlen : xs.length ≤ 1000000) (hbase : base ≤ w.heap.size)
    (h : ∀ v' w', OwnM w' base v' (xs ++ [y]) → w.grownBy w' v.ownBlock → (∀ r, v'.ownBlock = some r → v.ownBlock = some r ∨ w.heap.size ≤ r) → K (a.put o.dst v') w') :
    if Region.wanted o (yielded ops a.tmps) = true then Oper.wp Try.prog o a w K Q else X := by
  obtain ⟨i0, hi, hz0, hz1, hz2⟩ := info_parts infoM
  rw [if_pos (by simp [Region.wanted, hgd])]
  refine wp_append_own2 w s x 30 ho base 46 i0 _ 2 16 Try.underlying30 hi hz0 hz1 hz2 rfl (by decide) v xs.length (cellsM xs) hs hown ⟨g, 0, none⟩ 1 cap (mkC y) hx rfl ?_ (fun u hu => cellsM_one [y] u (by rw [cellsM, cellsM, List.append_nil]; exact hu)) (by unfold maxLen; omega) (by omega) hbase (by decide) ?_
  · intro j u hj
    rw [addr_add0, cell_row hn]
    simpa using hj
  · intro v' w' hown' hg hn
    exact h v' w' (by unfold OwnM; rw [cellsM_append, List.length_append, cellsM, cellsM, List.append_nil]; exact hown') hg hn
theorem own_slice (A : Option Addr) (n c m d : Nat) : (Value.slice A n c).ownBlock = (Value.slice A m d).ownBlock := by cases A <;> rfl
/-- blocks that stay as they are -/
def SameP (P : Nat → Prop) (w w' : World) : Prop := ∀ r, P r → w'.heap[r]? = w.heap[r]?
/-- an index none of whose blocks is one of these -/
def IxP (P : Nat → Prop) (w : World) (base b ev a : Nat) (ats : List Nat) (g : Nat) : Prop :=
  ∃ v, IBx w b ev a (a + ats.length) v g ∧ OwnM w base v (mks ev a ats) ∧ ¬ P b ∧ ∀ r, v.ownBlock = some r → ¬ P r
theorem IxP.ix {P : Nat → Prop} {w : World} {base b ev a : Nat} {ats : List Nat} {g : Nat} (h : IxP P w base b ev a ats g) : Ix w base b ev a ats g := by
  obtain ⟨v, h1, h2, _⟩ := h
  exact ⟨v, h1, h2⟩
theorem IxP.below {P : Nat → Prop} {w w' : World} {base b ev a : Nat} {ats : List Nat} {g : Nat} (h : IxP P w base b ev a ats g) (hb : Below w.heap.size w w') : IxP P w' base b ev a ats g := by
  obtain ⟨v, h1, h2, h3⟩ := h
  exact ⟨v, (hb.block _ (row_lt h1)).trans h1, h2.below hb, h3⟩
set_option maxRecDepth 100000 in
set_option maxHeartbeats 2000000 in
/-- **put**: the same, and blocks that are none of the index's stay as they are -/
theorem put_p (P : Nat → Prop) (w : World) (hP : ∀ r, P r → r < w.heap.size) (base b ev a : Nat) (ats : List Nat) (g sz : Nat) (h : IxP P w base b ev a ats g) (hbb : base ≤ b) (hev : 1 ≤ ev ∧ ev ≤ 64) (hsm : a + ats.length ≤ 100000000) (hl : ats.length ≤ 900000) (hg : g + sz ≤ 1000000000000) :
    Calls Try.prog 35 #[.pointer (some ⟨b, 0, none⟩), .int .i64 (sz : Int)] w fun e w' => e = .returned (.int .i64 (g : Int)) ∧ IxP P w' base b ev a (ats ++ [g]) (g + sz) ∧ Below base w w' ∧ SameP P w w' := by
  have HP := Lib.hid hP
  clear hP
  have HD := Lib.hid (due_any w base b ev a ats g h.ix hev hsm)
  have HI := Lib.hid h
  obtain ⟨v0, hb0, -, -⟩ := h
  have HBS := Lib.hid (Nat.le_trans hbb (Nat.le_of_lt (row_lt hb0)))
  have HBB := Lib.hid hbb
  obtain ⟨n, hn⟩ : ∃ n, a + ats.length = n := ⟨_, rfl⟩
  have HN1 := Lib.hid (show wrap64 ((n : Int) + 1) = ((n + 1 : Nat) : Int) by rw [IntWalk.wrap64_in _ ⟨by omega, by omega⟩]; omega)
  have HG1 := Lib.hid (show wrap64 ((g : Int) + (sz : Int)) = ((g + sz : Nat) : Int) by rw [IntWalk.wrap64_in _ ⟨by omega, by omega⟩]; omega)
  have hnl : a + (ats ++ [g]).length = n + 1 := by rw [List.length_append, List.length_singleton]; omega
  rw [hn] at hb0
  have hml : (mks ev a ats).length ≤ 1000000 := by rw [mks_len]; have := nm_le (n := ats.length) hev.1; omega
  have HML := Lib.hid hml
  obtain ⟨⟨c0, c1, c2, c3, c4⟩, -⟩ := hb0.facts
  by_cases hdd : ats.length % ev = 0
  · have HMK := Lib.hid (mks_due hev.1 a ats g hdd)
    rw [decide_eq_true hdd] at HD
    rw [hn] at HMK
    clear hdd hsm hl hg hbb hml
    go_enter Try.func35, Try.ntmps35
    go_wp2_with fail
    refine HD.out.mono ?_
    rintro e w1 ⟨rfl, hb⟩
    have HSA := Lib.hid (show SameP P w w1 from fun r hr => hb.block r (HP.out r hr))
    have HSZ := Lib.hid hb.size
    obtain ⟨v, h1, h2, hfar⟩ := HI.out.below hb
    have HFAR := Lib.hid hfar
    clear hfar
    rw [hn] at h1
    have HB1 := Lib.hid (hb.mono HBS.out)
    clear hb hb0 c0 c1 c2 c3 c4
    obtain ⟨⟨c0, c1, c2, c3, c4⟩, f0, f1, f2, f3, f4⟩ := h1.facts
    go_wp2_with fail
    have hb2 : Below w1.heap.size w1 (w1.drew.alloc (.cells #[.int .i64 (n : Int), .int .i64 (g : Int)] 46)) := (Below.refl _ _).drew.alloc (Nat.le_refl _) _
    have hi2 : IBx (w1.drew.alloc (.cells #[.int .i64 (n : Int), .int .i64 (g : Int)] 46)) b ev a n v g := (hb2.block _ (row_lt h1)).trans h1
    have HI2 := Lib.hid hi2
    have HO2 := Lib.hid (h2.below hb2)
    have HM2 := Lib.hid (show (w1.drew.alloc (.cells #[.int .i64 (n : Int), .int .i64 (g : Int)] 46)).heap[w1.heap.size]? = some (.cells (mkC (n, g)).toArray 46 (0, 0)) from heap_alloc_new w1.drew _)
    have HS2 := Lib.hid (show SameP P w1 (w1.drew.alloc (.cells #[.int .i64 (n : Int), .int .i64 (g : Int)] 46)) from fun r hr => hb2.block r (Nat.lt_of_lt_of_le (HP.out r hr) HSZ.out))
    have HZ2 := Lib.hid (Nat.le_trans HSZ.out hb2.size)
    have HB2 := Lib.hid (HB1.out.trans (hb2.mono (Nat.le_trans HBS.out HB1.out.size)))
    have HBZ := Lib.hid (show base ≤ (w1.drew.alloc (.cells #[.int .i64 (n : Int), .int .i64 (g : Int)] 46)).heap.size from Nat.le_trans (Nat.le_trans HBS.out HB1.out.size) hb2.size)
    obtain ⟨⟨x0, x1, x2, x3, x4⟩, y0, y1, y2, y3, y4⟩ := hi2.facts
    have hi4 : IBx (w1.alloc (.cells #[.int .i64 (n : Int), .int .i64 (g : Int)] 46)) b ev a n v g := hi2
    obtain ⟨⟨x5, x6, x7, x8, x9⟩, y5, y6, y7, y8, y9⟩ := hi4.facts
    clear hb2 hi2 hi4
    go_region_law ((refine step_append_m2 (by rfl) (.tmp 15) (.tmp 22) (by rfl) base v (mks ev a ats) (by rfl) HO2.out w1.heap.size 1 (n, g) (by rfl) HM2.out HML.out HBZ.out ?_; intro v' w3 hown hgr hnw; (have hi3 : IBx w3 b ev a n v g := (hgr.block _ (row_lt HI2.out) (fun e => (ibx_ne HI2.out HO2.out b e.symm) rfl)).trans HI2.out); obtain ⟨⟨z0, z1, z2, z3, z4⟩, t0, t1, t2, t3, t4⟩ := hi3.facts; (have HOW := Lib.hid hown); (have HI3 := Lib.hid hi3); (have HGR := Lib.hid hgr); (have HNW := Lib.hid hnw); obtain ⟨A4, c4, rfl, -, -, -, -⟩ := hown.row; clear hi3 hgr hown hnw))
    all_goals
      clear x0 x1 x2 x3 x4 x5 x6 x7 x8 x9 y0 y1 y2 y3 y4 y5 y6 y7 y8 y9 z0 z1 z2 z3 z4 t0 t1 t2 t3 t4
      have h5 := heap_set HI3.out 3 (.slice A4 ((mks ev a ats).length + 1) c4)
      have how : OwnM w3 base (.slice A4 ((mks ev a ats).length + 1) c4) (mks ev a ats ++ [(n, g)]) := by
        have := HOW.out
        rw [List.length_append, List.length_singleton] at this
        exact this
      have h6 := heap_set h5 2 (.int .i64 (wrap64 ((n : Int) + 1)))
      have h7 := heap_set h6 4 (.int .i64 (wrap64 ((g : Int) + (sz : Int))))
      have u2 : (w3.setCell ⟨b, 3, none⟩ (.slice A4 ((mks ev a ats).length + 1) c4)).cell? ⟨b, 2, none⟩ = some (.int .i64 (n : Int)) := cell_row h5 2
      have u3 := frozen_row h5 2
      have u4 : ((w3.setCell ⟨b, 3, none⟩ (.slice A4 ((mks ev a ats).length + 1) c4)).setCell ⟨b, 2, none⟩ (.int .i64 (wrap64 ((n : Int) + 1)))).cell? ⟨b, 4, none⟩ = some (.int .i64 (g : Int)) := cell_row h6 4
      have u5 := frozen_row h6 4
      have HIX : Hid (IxP P (((w3.setCell ⟨b, 3, none⟩ (.slice A4 ((mks ev a ats).length + 1) c4)).setCell ⟨b, 2, none⟩ (.int .i64 (wrap64 ((n : Int) + 1)))).setCell ⟨b, 4, none⟩ (.int .i64 (wrap64 ((g : Int) + (sz : Int))))) base b ev a (ats ++ [g]) (g + sz)) := Lib.hid (by
        refine ⟨.slice A4 ((mks ev a ats).length + 1) c4, ?_, ?_, HFAR.out.1, fun r hr hpr => ?_⟩
        · rw [hnl]
          unfold IBx
          rw [← HN1.out, ← HG1.out]
          exact h7
        · rw [HMK.out]
          refine how.keep (fun r hr => ?_)
          have hne := (ibx_ne HI3.out how) r hr
          rw [heap_far 4 _ hne, heap_far 2 _ hne, heap_far 3 _ hne]
        · rcases HNW.out r ((own_slice _ _ _ _ _).trans hr) with h | h
          · exact HFAR.out.2 r h hpr
          · have h1 := HP.out r hpr
            have h2 := HZ2.out
            exact absurd (Nat.lt_of_lt_of_le h1 h2) (Nat.not_lt.2 h))
      have HSP : Hid (SameP P w (((w3.setCell ⟨b, 3, none⟩ (.slice A4 ((mks ev a ats).length + 1) c4)).setCell ⟨b, 2, none⟩ (.int .i64 (wrap64 ((n : Int) + 1)))).setCell ⟨b, 4, none⟩ (.int .i64 (wrap64 ((g : Int) + (sz : Int)))))) := Lib.hid (fun r hr => by
        have hne : r ≠ b := fun e => HFAR.out.1 (e ▸ hr)
        rw [heap_far 4 _ hne, heap_far 2 _ hne, heap_far 3 _ hne]
        exact (HGR.out.block r (Nat.lt_of_lt_of_le (HP.out r hr) HZ2.out) (fun e => HFAR.out.2 r e.symm hr)).trans ((HS2.out r hr).trans (HSA.out r hr)))
      have HBE : Hid (Below base w (((w3.setCell ⟨b, 3, none⟩ (.slice A4 ((mks ev a ats).length + 1) c4)).setCell ⟨b, 2, none⟩ (.int .i64 (wrap64 ((n : Int) + 1)))).setCell ⟨b, 4, none⟩ (.int .i64 (wrap64 ((g : Int) + (sz : Int)))))) := Lib.hid ((((HB2.out.grown HGR.out HBZ.out (fun r hr => (HO2.out.lt r hr).2)).setCell (p := ⟨b, 3, none⟩) HBB.out _).setCell (p := ⟨b, 2, none⟩) HBB.out _).setCell (p := ⟨b, 4, none⟩) HBB.out _)
      clear h5 h6 h7
      go_wp2_with fail
      go_ret
      exact ⟨rfl, HIX.out, HBE.out, HSP.out⟩
  · have HMK := Lib.hid (mks_not hev.1 a ats g hdd)
    rw [decide_eq_false hdd] at HD
    clear hdd hsm hl hg hbb hml
    go_enter Try.func35, Try.ntmps35
    go_wp2_with fail
    refine HD.out.mono ?_
    rintro e w1 ⟨rfl, hb⟩
    have HSA := Lib.hid (show SameP P w w1 from fun r hr => hb.block r (HP.out r hr))
    obtain ⟨v, h5, how, hfar⟩ := HI.out.below hb
    have HFAR := Lib.hid hfar
    clear hfar
    rw [hn] at h5
    have hi5 := h5
    have HB1 := Lib.hid (hb.mono HBS.out)
    clear hb hb0 c0 c1 c2 c3 c4
    unfold IBx at h5
    have h6 := heap_set h5 2 (.int .i64 (wrap64 ((n : Int) + 1)))
    have h7 := heap_set h6 4 (.int .i64 (wrap64 ((g : Int) + (sz : Int))))
    have u2 : (w1).cell? ⟨b, 2, none⟩ = some (.int .i64 (n : Int)) := cell_row h5 2
    have u3 := frozen_row h5 2
    have u4 : ((w1).setCell ⟨b, 2, none⟩ (.int .i64 (wrap64 ((n : Int) + 1)))).cell? ⟨b, 4, none⟩ = some (.int .i64 (g : Int)) := cell_row h6 4
    have u5 := frozen_row h6 4
    have HIX : Hid (IxP P (((w1).setCell ⟨b, 2, none⟩ (.int .i64 (wrap64 ((n : Int) + 1)))).setCell ⟨b, 4, none⟩ (.int .i64 (wrap64 ((g : Int) + (sz : Int))))) base b ev a (ats ++ [g]) (g + sz)) := Lib.hid (by
      refine ⟨v, ?_, ?_, HFAR.out⟩
      · rw [hnl]
        unfold IBx
        rw [← HN1.out, ← HG1.out]
        exact h7
      · rw [HMK.out]
        refine how.keep (fun r hr => ?_)
        have hne := (ibx_ne hi5 how) r hr
        rw [heap_far 4 _ hne, heap_far 2 _ hne])
    have HSP : Hid (SameP P w (((w1).setCell ⟨b, 2, none⟩ (.int .i64 (wrap64 ((n : Int) + 1)))).setCell ⟨b, 4, none⟩ (.int .i64 (wrap64 ((g : Int) + (sz : Int)))))) := Lib.hid (fun r hr => by
      have hne : r ≠ b := fun e => HFAR.out.1 (e ▸ hr)
      rw [heap_far 4 _ hne, heap_far 2 _ hne]
      exact HSA.out r hr)
    have HBE : Hid (Below base w (((w1).setCell ⟨b, 2, none⟩ (.int .i64 (wrap64 ((n : Int) + 1)))).setCell ⟨b, 4, none⟩ (.int .i64 (wrap64 ((g : Int) + (sz : Int)))))) := Lib.hid ((HB1.out.setCell (p := ⟨b, 2, none⟩) HBB.out _).setCell (p := ⟨b, 4, none⟩) HBB.out _)
    clear h5 h6 h7
    go_wp2_with fail
    go_ret
    exact ⟨rfl, HIX.out, HBE.out, HSP.out⟩
set_option maxRecDepth 100000 in
set_option maxHeartbeats 1000000 in
/-- **Add**: the same, and blocks that are none of the index's stay as they are -/
theorem add_p (P : Nat → Prop) (w : World) (hP : ∀ r, P r → r < w.heap.size) (base b ev a : Nat) (ats : List Nat) (g : Nat) (q : Int) (h : IxP P w base b ev a ats g) (hbb : base ≤ b) (hev : 1 ≤ ev ∧ ev ≤ 64) (hsm : a + ats.length ≤ 100000000) (hl : ats.length ≤ 900000) (hg : g ≤ 100000000000) :
    Calls Try.prog 16 #[.pointer (some ⟨b, 0, none⟩), .int .i64 q] w fun e w' => e = .returned (adV q (a + ats.length) g) ∧ (if adE q (a + ats.length) = 0 then IxP P w' base b ev a (ats ++ [g]) (g + (16 + q.toNat)) else IxP P w' base b ev a ats g) ∧ Below base w w' ∧ SameP P w w' := by
  have HSZ := Lib.hid (fun W => Size_any q W)
  have HI := Lib.hid h
  obtain ⟨v, h1, -, -⟩ := h
  obtain ⟨⟨c0, c1, c2, c3, c4⟩, -⟩ := h1.facts
  obtain ⟨n, hn⟩ : ∃ n, a + ats.length = n := ⟨_, rfl⟩
  rw [hn] at c2 ⊢
  by_cases hq : 1 ≤ q ∧ q ≤ 4096
  · obtain ⟨k, rfl⟩ : ∃ k : Nat, q = (k : Int) := ⟨q.toNat, by omega⟩
    have hk : 1 ≤ k ∧ k ≤ 4096 := by omega
    rw [szI_yes hk] at HSZ
    have z1 : ((16 + (k : Int)) == 0) = false := beq_eq_false_iff_ne.2 (by omega)
    have z2 : ¬ (16 + (k : Int)) = 0 := by omega
    by_cases hm : 1048576 ≤ n
    · have he : adE (k : Int) n = 40 := by unfold adE; rw [if_pos hq, if_pos hm]
      unfold adV
      rw [he, if_neg (by decide)]
      have m1 : (1048576 : Int) ≤ (n : Int) := by omega
      have m2 : decide ((1048576 : Int) ≤ (n : Int)) = true := decide_eq_true m1
      clear hsm hl hg hk hq he hn h1
      go_enter Try.func16, Try.ntmps16
      go_wp2_with fail
      refine (HSZ.out w).mono ?_
      rintro e w1 ⟨rfl, rfl⟩
      go_wp2_with fail
      go_ret2
      exact ⟨rfl, by first | exact HI.out | (rw [if_neg (by decide)]; exact HI.out), Below.refl _ _, fun _ _ => rfl⟩
    · have he : adE (k : Int) n = 0 := by unfold adE; rw [if_pos hq, if_neg hm]
      unfold adV
      rw [he, if_pos rfl, Int.toNat_natCast]
      have m1 : ¬ (1048576 : Int) ≤ (n : Int) := by omega
      have m2 : decide ((1048576 : Int) ≤ (n : Int)) = false := decide_eq_false m1
      have HP := Lib.hid (put_p P w hP base b ev a ats g (16 + k) HI.out hbb hev hsm hl (by omega))
      rw [show ((16 + k : Nat) : Int) = 16 + (k : Int) by omega] at HP
      suffices hs : ∀ PX : World → Prop, (∀ w', IxP P w' base b ev a (ats ++ [g]) (g + (16 + k)) → PX w') → Calls Try.prog 16 #[.pointer (some ⟨b, 0, none⟩), .int .i64 (k : Int)] w fun e w' => e = .returned (.tuple #[.int .i64 (g : Int), .int .i64 0]) ∧ PX w' ∧ Below base w w' ∧ SameP P w w' from hs _ (fun _ h => by rw [if_pos rfl]; exact h)
      intro PX hPX
      have HPX := Lib.hid hPX
      clear hsm hl hg hk hq he hn h1 hm hPX
      go_enter Try.func16, Try.ntmps16
      go_wp2_with fail
      refine (HSZ.out w).mono ?_
      rintro e w1 ⟨rfl, rfl⟩
      go_wp2_with fail
      refine HP.out.mono ?_
      rintro e w2 ⟨rfl, hi, hb, hsp⟩
      have HI2 := Lib.hid hi
      have HB2 := Lib.hid hb
      have HS2 := Lib.hid hsp
      clear hi hb hsp
      go_wp2_with fail
      go_ret2
      exact ⟨rfl, HPX.out _ HI2.out, HB2.out, HS2.out⟩
  · have he : adE q n = 4 := by unfold adE; rw [if_neg hq]
    have hz : szI q = 0 := if_neg hq
    unfold adV
    rw [he, if_neg (by decide)]
    rw [hz] at HSZ
    clear hsm hl hg hq he hn h1 hz
    go_enter Try.func16, Try.ntmps16
    go_wp2_with fail
    refine (HSZ.out w).mono ?_
    rintro e w1 ⟨rfl, rfl⟩
    go_wp2_with fail
    go_ret2
    exact ⟨rfl, by first | exact HI.out | (rw [if_neg (by decide)]; exact HI.out), Below.refl _ _, fun _ _ => rfl⟩
end Go.Proofs.Ytkjnddgjnlbopaa.Index
