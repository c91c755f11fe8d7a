import Derived.Test.YtkjnddgjnlbopaaJB
/-
  The document's Index: Add.
-/
namespace Go.Proofs.Ytkjnddgjnlbopaa.Index
open Go Go.RowKit
open Go.Proofs.Ytkjnddgjnlbopaa.Wire (S S_list S_size cell_row frozen_row row_lt heap_set heap_far)
open Go.Proofs.Ytkjnddgjnlbopaa.Frame Go.Proofs.Ytkjnddgjnlbopaa.Seg

theorem wpList_append_n2 {ops : Array Oper} {rest : List Oper} {o : Oper} {a : Act} {w : World} {Q : Exit → Act → World → Prop} (hgd : o.guard = none) (s x : Operand)
    (ho : o.op = .call { callee := .builtin .append, args := #[s, x], argTypes := #[40, 40] })
    (base : Nat) (v : Value) (xs : List Nat) (hs : a.eval s = v) (hown : OwnN w base v xs)
    (g : Nat) (cap : Nat) (y : Nat) (hx : a.eval x = .slice (some ⟨g, 0, none⟩) 1 cap) (hn : w.heap[g]? = some (.cells #[.int .i64 (y : Int)] 3 (0, 0)))
    (hlen : xs.length ≤ 1000000) (hbase : base ≤ w.heap.size)
    (h : ∀ v' w', OwnN w' base v' (xs ++ [y]) → w.grownBy w' v.ownBlock → (∀ r, v'.ownBlock = some r → v.ownBlock = some r ∨ w.heap.size ≤ r) → wpList Try.prog ops Q rest (a.put o.dst v') w') : wpList Try.prog ops Q (o :: rest) a w := by
  obtain ⟨i0, hi, hz0, hz1, hz2⟩ := info_parts infoN
  refine wpList_plain hgd fun _ hK => wp_append_own2 w s x 40 ho base 3 i0 _ 1 8 Try.underlying40 hi hz0 hz1 hz2 rfl (by decide) v xs.length (valsN xs) hs hown ⟨g, 0, none⟩ 1 cap [.int .i64 (y : Int)] hx rfl ?_ (fun u hu => by obtain rfl := List.mem_singleton.1 hu; rfl) (by unfold maxLen; omega) (by omega) hbase (by decide) (fun v' w' h2 h3 h4 => hK _ _ (h v' w' (by unfold OwnN; rw [valsN_append, List.length_append]; exact h2) h3 h4))
  intro j u hj
  rw [addr_add0, cell_row hn]
  simpa using hj
set_option maxRecDepth 100000 in
set_option maxHeartbeats 4000000 in
/-- **Add** -/
theorem add_r (P : Nat → Prop) (w : World) (hP : ∀ r, P r → r < w.heap.size) (base b ev a : Nat) (ats : List Nat) (g : Nat) (q : Int) (h : Rx P w base b ev a ats g) (hbb : base ≤ b) (hsm : a + ats.length ≤ 100000000) (hl : ats.length ≤ 900000) (hg : g ≤ 100000000000) :
    Calls Try.prog 23 #[.pointer (some ⟨b, 0, none⟩), .int .i64 q] w fun e w' => e = .returned (adV q (a + ats.length) g) ∧ (if adE q (a + ats.length) = 0 then Rx P w' base b ev a (ats ++ [g]) (g + (16 + q.toNat)) else Rx P w' base b ev a ats g) ∧ Below base w w' ∧ SameP P w w' := by
  have HP := Lib.hid hP
  have HI := Lib.hid h
  obtain ⟨v, h1, h2, h3, h4⟩ := h
  have HBB := Lib.hid hbb
  have HBS := Lib.hid (Nat.le_trans hbb (Nat.le_of_lt (row_lt h1)))
  obtain ⟨A, cap, hv, hcl, -⟩ := h2.row
  have HN := Lib.hid (next_r w b a ev A ats.length cap g (hv ▸ h1) hsm)
  obtain ⟨n, hn⟩ : ∃ n, a + ats.length = n := ⟨_, rfl⟩
  rw [hn] at HN ⊢
  clear hv hcl
  by_cases hq : 1 ≤ q ∧ q ≤ 4096
  · obtain ⟨k, rfl⟩ : ∃ k : Nat, q = (k : Int) := ⟨q.toNat, by omega⟩
    have e1 : decide ((k : Int) < 1) = false := decide_eq_false (by omega)
    have e2 : decide ((4096 : Int) < (k : Int)) = false := decide_eq_false (by omega)
    have e3 : ¬ (4096 : Int) < (k : Int) := by omega
    have e4 : ¬ (k : Int) < 1 := by omega
    have e5 : ¬ 4096 < k := by omega
    have e6 : ¬ k = 0 := by omega
    by_cases hm : 1048576 ≤ n
    · have he : adE (k : Int) n = 40 := by unfold adE; rw [if_pos hq, if_pos hm]
      unfold adV
      rw [he, if_neg (by decide)]
      have m1 : (1048576 : Int) ≤ (n : Int) := by omega
      have m2 : decide ((1048576 : Int) ≤ (n : Int)) = true := decide_eq_true m1
      clear hsm hl hg hq he hn h1 h2 h3 h4 hP
      go_enter Try.func23, Try.ntmps23
      go_wp2_with fail
      refine HN.out.mono ?_
      rintro e w1 ⟨rfl, hb⟩
      have HB1 := Lib.hid (hb.mono HBS.out)
      have HI1 := Lib.hid (HI.out.below hb)
      have HS1 := Lib.hid (show SameP P w w1 from fun r hr => hb.block r (HP.out r hr))
      clear hb
      go_wp2_with fail
      go_ret2
      exact ⟨rfl, by first | exact HI1.out | (rw [if_neg (by decide)]; exact HI1.out), HB1.out, HS1.out⟩
    · have he : adE (k : Int) n = 0 := by unfold adE; rw [if_pos hq, if_neg hm]
      unfold adV
      rw [he, if_pos rfl, Int.toNat_natCast]
      have m1 : ¬ (1048576 : Int) ≤ (n : Int) := by omega
      have m2 : decide ((1048576 : Int) ≤ (n : Int)) = false := decide_eq_false m1
      have HG1 := Lib.hid (show wrap64 (wrap64 ((g : Int) + 16) + (k : Int)) = ((g + (16 + k) : Nat) : Int) by
        rw [IntWalk.wrap64_in ((g : Int) + 16) ⟨by omega, by omega⟩, IntWalk.wrap64_in _ ⟨by omega, by omega⟩]; omega)
      have HML := Lib.hid (show ats.length ≤ 1000000 by omega)
      suffices hs : ∀ PX : World → Prop, (∀ w', Rx P w' base b ev a (ats ++ [g]) (g + (16 + k)) → PX w') → Calls Try.prog 23 #[.pointer (some ⟨b, 0, none⟩), .int .i64 (k : Int)] w fun e w' => e = .returned (.tuple #[.int .i64 (g : Int), .int .i64 0]) ∧ PX w' ∧ Below base w w' ∧ SameP P w w' from hs _ (fun _ h => by rw [if_pos rfl]; exact h)
      intro PX hPX
      have HPX := Lib.hid hPX
      clear hsm hl hg hq he hn h1 h2 h3 h4 hm hPX hP
      go_enter Try.func23, Try.ntmps23
      go_wp2_with fail
      refine HN.out.mono ?_
      rintro e w1 ⟨rfl, hb⟩
      have HB1 := Lib.hid (hb.mono HBS.out)
      have HS1 := Lib.hid (show SameP P w w1 from fun r hr => hb.block r (HP.out r hr))
      have HSZ := Lib.hid hb.size
      obtain ⟨v, h1, h2, h3, h4⟩ := HI.out.below hb
      have HF := Lib.hid (And.intro h3 h4)
      clear hb h3 h4
      obtain ⟨⟨c0, c1, c2, c3⟩, f0, f1, f2, f3⟩ := h1.facts
      have hb2 : Below w1.heap.size w1 (w1.alloc (.cells #[.int .i64 (g : Int)] 3)) := (Below.refl _ _).alloc (Nat.le_refl _) _
      have hi2 : RB4 (w1.alloc (.cells #[.int .i64 (g : Int)] 3)) b a ev v g := (hb2.block _ (row_lt h1)).trans h1
      have HI2 := Lib.hid hi2
      have HO2 := Lib.hid (h2.below hb2)
      have HM2 := Lib.hid (show (w1.alloc (.cells #[.int .i64 (g : Int)] 3)).heap[w1.heap.size]? = some (.cells #[.int .i64 (g : Int)] 3 (0, 0)) from heap_alloc_new w1 _)
      have HB2 := Lib.hid (HB1.out.trans (hb2.mono (Nat.le_trans HBS.out HSZ.out)))
      have HBZ := Lib.hid (show base ≤ (w1.alloc (.cells #[.int .i64 (g : Int)] 3)).heap.size from Nat.le_trans (Nat.le_trans HBS.out HSZ.out) hb2.size)
      have HS2 := Lib.hid (show SameP P w1 (w1.alloc (.cells #[.int .i64 (g : Int)] 3)) from fun r hr => hb2.block r (Nat.lt_of_lt_of_le (HP.out r hr) HSZ.out))
      have HZ2 := Lib.hid (Nat.le_trans HSZ.out hb2.size)
      obtain ⟨⟨x0, x1, x2, x3⟩, y0, y1, y2, y3⟩ := hi2.facts
      clear hb2 hi2 h1 h2
      go_wp2_with (at_builtin; refine wpList_append_n2 rfl _ _ rfl base v ats rfl HO2.out w1.heap.size 1 g rfl HM2.out HML.out HBZ.out ?_)
      intro v' w3 hown hgr hnw
      obtain ⟨A4, c4, rfl, -, -⟩ := hown.row
      have hi3 : RB4 w3 b a ev v g := (hgr.block _ (row_lt HI2.out) (fun e => (rb_ne HI2.out HO2.out _ e.symm) rfl)).trans HI2.out
      have how : OwnN w3 base (.slice A4 (ats.length + 1) c4) (ats ++ [g]) := by
        have := hown
        rw [List.length_append, List.length_singleton] at this
        exact this
      have h5 := heap_set hi3 2 (.slice A4 (ats.length + 1) c4)
      have h6 := heap_set h5 3 (.int .i64 (wrap64 (wrap64 ((g : Int) + 16) + (k : Int))))
      have HIX : Hid (Rx P ((w3.setCell ⟨b, 2, none⟩ (.slice A4 (ats.length + 1) c4)).setCell ⟨b, 3, none⟩ (.int .i64 (wrap64 (wrap64 ((g : Int) + 16) + (k : Int))))) base b ev a (ats ++ [g]) (g + (16 + k))) := Lib.hid (by
        refine ⟨.slice A4 (ats.length + 1) c4, ?_, ?_, HF.out.1, fun r hr hpr => ?_⟩
        · unfold RB4
          rw [← HG1.out]
          exact h6
        · refine OwnN.keep how (fun r hr => ?_)
          have hne := rb_ne hi3 how r hr
          rw [heap_far 3 _ hne, heap_far 2 _ hne]
        · rcases hnw r ((own_slice _ _ _ _ _).trans hr) with h | h
          · exact HF.out.2 r h hpr
          · exact absurd (Nat.lt_of_lt_of_le (HP.out r hpr) HZ2.out) (Nat.not_lt.2 (by simpa using h)))
      have HSP : Hid (SameP P w ((w3.setCell ⟨b, 2, none⟩ (.slice A4 (ats.length + 1) c4)).setCell ⟨b, 3, none⟩ (.int .i64 (wrap64 (wrap64 ((g : Int) + 16) + (k : Int)))))) := Lib.hid (fun r hr => by
        have hne : r ≠ b := fun e => HF.out.1 (e ▸ hr)
        rw [heap_far 3 _ hne, heap_far 2 _ hne]
        exact (hgr.block r (Nat.lt_of_lt_of_le (HP.out r hr) HZ2.out) (fun e => HF.out.2 r e.symm hr)).trans ((HS2.out r hr).trans (HS1.out r hr)))
      have HBE : Hid (Below base w ((w3.setCell ⟨b, 2, none⟩ (.slice A4 (ats.length + 1) c4)).setCell ⟨b, 3, none⟩ (.int .i64 (wrap64 (wrap64 ((g : Int) + 16) + (k : Int)))))) := Lib.hid (((HB2.out.grown hgr HBZ.out (fun r hr => (OwnN.lt HO2.out r hr).2)).setCell (p := ⟨b, 2, none⟩) HBB.out _).setCell (p := ⟨b, 3, none⟩) HBB.out _)
      clear x0 x1 x2 x3 y0 y1 y2 y3 c0 c1 c2 c3 f0 f1 f2 f3
      obtain ⟨⟨x0, x1, x2, x3⟩, y0, y1, y2, y3⟩ := hi3.facts
      have u2 : (w3.setCell ⟨b, 2, none⟩ (.slice A4 (ats.length + 1) c4)).cell? ⟨b, 3, none⟩ = some (.int .i64 (g : Int)) := cell_row h5 3
      have u3 := frozen_row h5 3
      clear hi3 how h5 h6 hown hgr hnw
      go_wp2_with fail
      go_ret2
      exact ⟨rfl, HPX.out _ HIX.out, HBE.out, HSP.out⟩
  · have he : adE q n = 4 := by unfold adE; rw [if_neg hq]
    unfold adV
    rw [he, if_neg (by decide)]
    by_cases h0 : q < 1
    · have e1 : decide (q < 1) = true := decide_eq_true h0
      clear hsm hl hg hq he hn h1 h2 h3 h4 hP
      go_enter Try.func23, Try.ntmps23
      go_wp2_with fail
      go_ret2
      exact ⟨rfl, by first | exact HI.out | (rw [if_neg (by decide)]; exact HI.out), Below.refl _ _, fun _ _ => rfl⟩
    · have e1 : decide (q < 1) = false := decide_eq_false h0
      have e2 : decide (4096 < q) = true := decide_eq_true (by omega)
      have e3 : 4096 < q := by omega
      clear hsm hl hg hq he hn h1 h2 h3 h4 hP
      go_enter Try.func23, Try.ntmps23
      go_wp2_with fail
      go_ret2
      exact ⟨rfl, by first | exact HI.out | (rw [if_neg (by decide)]; exact HI.out), Below.refl _ _, fun _ _ => rfl⟩
end Go.Proofs.Ytkjnddgjnlbopaa.Index
