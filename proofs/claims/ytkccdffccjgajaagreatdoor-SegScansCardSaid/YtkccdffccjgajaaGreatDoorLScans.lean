import Derived.Test.YtkccdffccjgajaaGreatDoorRI
/-
  The walk of the statement SegScans.
-/
namespace Go.Proofs.YtkccdffccjgajaaGreatDoor.Seg
open Go Go.RowKit
open Go.Proofs.YtkccdffccjgajaaGreatDoor.Wire (S S_list S_size S_append cell_row frozen_row row_lt heap_set heap_far U)
open Go.Proofs.YtkccdffccjgajaaGreatDoor.Frame Go.Proofs.YtkccdffccjgajaaGreatDoor.Ranges

/-- what is scanned of any bytes -/
theorem sc_all (l : List UInt8) (hl : l.length ≤ 20000) : nxI (fiQ l : Int) (scL l) = (fiQ l : Int) + ((scL l).length : Int) ∧ (∀ f ∈ scL l, f.q < 1048576) ∧ (scL l).length ≤ 1000000 ∧ fiQ l ≤ 1048576 := by
  by_cases h0 : fiE l = 0
  · obtain ⟨a1, a2, a3, a4, a5⟩ := sc_again l h0
    have eQ : fiQ l = fiN l := if_pos h0
    have hn := nx_row (pays (scL l)) (fiN l) 16
    have hr := row_q (pays (scL l)) (fiN l) 16 a1
    rw [a5] at hn hr
    rw [pays_len] at hn
    have e := segB_length (fiN l) (pays (scL l))
    have h2 := segN_ge (pays (scL l))
    rw [pays_len] at h2
    rw [a2, List.length_take] at e
    rw [eQ]
    exact ⟨hn, hr, by omega, (fi_parts h0).2.2.2⟩
  · have eQ : fiQ l = 0 := if_neg h0
    have eL : scL l = [] := if_neg h0
    rw [eQ, eL]
    exact ⟨rfl, by simp, Nat.zero_le _, Nat.zero_le _⟩

set_option maxRecDepth 100000 in
set_option maxHeartbeats 8000000 in
theorem scans_law (s : ByteArray) (size n most : Int) (w : World) (_w0 : s.size ≤ maxLen) (w1 : (Lit.int .i64 size).wf = true) (_w2 : (Lit.int .i64 n).wf = true) (w3 : (Lit.int .i64 most).wf = true) (E : Env w) :
    Calls Tryz.prog 5 #[.string s, .int .i64 size, .int .i64 n, .int .i64 most] w fun e w' => e = .returned (.bool true) ∧ Below w.heap.size w w' := by
  have HAW := Lib.hid (fun W EW => awake_any W EW)
  have HE := Lib.hid E
  by_cases hs : 20000 < s.size
  · have z1 : (20000 : Int) < (s.size : Int) := by omega
    clear E _w0 w1 _w2 w3
    go_enter Tryz.func5, Tryz.ntmps5
    go_wp2_with fail
    refine (HAW.out w HE.out).mono ?_
    rintro e w1 ⟨rfl, hb⟩
    go_wp2_with fail
    go_ret
    exact ⟨rfl, hb⟩
  · have z0 : decide ((20000 : Int) < (s.size : Int)) = false := decide_eq_false (by omega)
    have z1 : decide (20000 < s.size) = false := decide_eq_false (by omega)
    have hz : s.data.toList.length = s.size := by simp
    have H1 := Lib.hid (fun W => refSScan_any s (by omega) W)
    have H2 := Lib.hid (fun W => SScan_any s (by omega) W)
    have HF1 := Lib.hid (fun W => Fits_any size n most w1 w3 W)
    have HF2 := Lib.hid (fun W => refFits_any size n most w1 w3 W)
    have HF3 := Lib.hid (fun W => Fits_any 16 n most (by decide) w3 W)
    have HF4 := Lib.hid (fun W => refFits_any 16 n most (by decide) w3 W)
    obtain ⟨hnx, hlq, hln, hqq⟩ := sc_all s.data.toList (by omega)
    have HNX := Lib.hid hnx
    have HLQ := Lib.hid hlq
    have HLN := Lib.hid hln
    clear E _w0 w1 _w2 w3 hs hz
    generalize fiQ s.data.toList = Q at *
    generalize fiE s.data.toList = e0 at *
    generalize scL s.data.toList = L at *
    generalize scG s.data.toList = G at *
    generalize scW s.data.toList = D at *
    generalize fitsB size n most = F1 at *
    generalize fitsB 16 n most = F2 at *
    have HA1 := Lib.hid (show wrap64 ((Q : Int) + (L.length : Int)) = (Q : Int) + (L.length : Int) from IntWalk.wrap64_in _ ⟨by omega, by omega⟩)
    have HA2 := Lib.hid (show IntKind.i64.wrap ((Q : Int) + (L.length : Int)) = (Q : Int) + (L.length : Int) from IntWalk.i64_in _ ⟨by omega, by omega⟩)
    clear hnx hlq hln hqq
    go_enter Tryz.func5, Tryz.ntmps5
    go_wp2_with fail
    refine (H1.out w).mono ?_
    rintro e w1 ⟨B, cb, rfl, ho, hb⟩
    obtain ⟨B', cb', he, -, -, hrow, -⟩ := ho.row
    cases he
    obtain ⟨w2, hw2⟩ : ∃ w2, w1.alloc (.cells #[.int .i64 (Q : Int), .slice B L.length cb, .int .i64 (G : Int), .bool D] 41) = w2 := ⟨_, rfl⟩
    have hb2 : Below w1.heap.size w1 w2 := by rw [← hw2]; exact (Below.refl _ _).alloc (Nat.le_refl _) _
    have HY := Lib.hid (show SBr w2 w1.heap.size (Q : Int) (.slice B L.length cb) (G : Int) D by rw [← hw2]; exact heap_alloc_new w1 _)
    have HR := Lib.hid (hrow.below hb2)
    have HB := Lib.hid (hb.trans (hb2.mono hb.size))
    have HZ := Lib.hid hb.size
    have HW2 := Lib.hid hw2
    clear hb hb2 hrow ho hw2
    go_wp2_with fail
    rw [HW2.out]
    go_loopw [11] (fun y wr => ∃ j : Nat, j ≤ 2 ∧ y = .int .i64 (j : Int) ∧ Hid (RowRf wr B L) ∧ Hid (SBr wr w1.heap.size (Q : Int) (.slice B L.length cb) (G : Int) D) ∧ Hid (Below w.heap.size w wr)) (fun y _ => 2 - (intOf y).toNat)
    case atStart => exact ⟨0, by omega, rfl, HR, HY, HB⟩
    case round =>
      clear HR HY HB HW2
      obtain ⟨j, hj, rfl, HR, HY, HB⟩ := hrel
      by_cases hlt : j < 2
      · have e1 : (j : Int) < 2 := by omega
        have e2 : decide ((j : Int) < 2) = true := decide_eq_true e1
        go_wp2_with fail
        refine (H2.out wr).mono ?_
        rintro e w3 ⟨A, ca, rfl, ho, hb⟩
        obtain ⟨A', ca', he, -, -, hrow, -⟩ := ho.row
        cases he
        obtain ⟨w4, hw4⟩ : ∃ w4, w3.alloc (.cells #[.int .i64 (Q : Int), .slice A L.length ca, .int .i64 (G : Int), .bool D] 46) = w4 := ⟨_, rfl⟩
        have hb4 : Below w3.heap.size w3 w4 := by rw [← hw4]; exact (Below.refl _ _).alloc (Nat.le_refl _) _
        have hx4 : SBx w4 w3.heap.size (Q : Int) (.slice A L.length ca) (G : Int) D := by rw [← hw4]; exact heap_alloc_new w3 _
        have hz4 : w3.heap.size < w4.heap.size := by rw [← hw4]; simp
        have hb24 : Below wr.heap.size wr w4 := hb.trans (hb4.mono hb.size)
        have HX4 := Lib.hid hx4
        have HO4 := Lib.hid (show OwnFr w4 wr.heap.size (.slice A L.length ca) L from ho.grw (T := fun _ => False) (grw_below hb4) (fun _ _ h => h))
        have HR4 := Lib.hid (HR.out.below hb24)
        have HY4 := Lib.hid (show SBr w4 w1.heap.size (Q : Int) (.slice B L.length cb) (G : Int) D from (hb24.block _ (row_lt HY.out)).trans HY.out)
        have HB4 := Lib.hid (HB.out.trans (hb24.mono HB.out.size))
        have HRX := Lib.hid (hrow.below hb4)
        have HZ4 := Lib.hid hz4
        have HW4 := Lib.hid hw4
        have HBB := Lib.hid (show ∀ b, B = some b → 0 < L.length → b.block < wr.heap.size from fun b hb0 hp => by obtain ⟨b2, o, e, h1, _⟩ := HR.out 0 hp; rw [hb0] at e; injection e with e; rw [e]; exact h1)
        have HSZ := Lib.hid hb24.size
        have HYL := Lib.hid (row_lt HY.out)
        clear hb hb4 hx4 hz4 hb24 ho hrow hw4
        go_wp2_with fail
        rw [HW4.out]
        obtain ⟨⟨c0, c1, c2, c3⟩, -⟩ := HX4.out.facts
        obtain ⟨⟨d0, d1, d2, d3⟩, -⟩ := HY4.out.facts
        have HNC : Hid (∀ n, Calls Tryz.prog 27 #[.agg #[.int .i64 (Q : Int), .slice A L.length ca, .int .i64 (G : Int), .bool D]] (w4.drewN n) fun e w' => e = .returned (.int .i64 ((Q : Int) + (L.length : Int))) ∧ Below w4.heap.size w4 w') :=
          Lib.hid (fun n => (Next_any (Q : Int) A ca L (G : Int) D (w4.drewN n) HRX.out HLQ.out (by have := HLN.out; omega)).mono fun e w' ⟨h1, h2⟩ => ⟨by rw [h1, HNX.out], (below_dn w4.heap.size n w4).trans h2⟩)
        have hfm : Tryz.prog.follows .mixedOrders = true := by kernel_rfl
        have hadd := HA1.out
        have hadd2 := HA2.out
        go_region_with (first | (go_at_call 27; (first | refine (HNC.out _).mono ?_ | refine (HNC.out 1).mono ?_ | refine (HNC.out 0).mono ?_); rintro e w5 ⟨rfl, hb5⟩; (have HX5 := Lib.hid (show SBx w5 w3.heap.size (Q : Int) (.slice A L.length ca) (G : Int) D from (hb5.block _ HZ4.out).trans HX4.out)); (have HY5 := Lib.hid (show SBr w5 w1.heap.size (Q : Int) (.slice B L.length cb) (G : Int) D from (hb5.block _ (row_lt HY4.out)).trans HY4.out)); obtain ⟨⟨k0, k1, k2, k3⟩, -⟩ := HX5.out.facts; obtain ⟨⟨l0, l1, l2, l3⟩, -⟩ := HY5.out.facts; (have HO5 := Lib.hid (show OwnFr w5 wr.heap.size (.slice A L.length ca) L from HO4.out.grw (T := fun _ => False) (grw_below hb5) (fun _ _ h => h))); (have HR5 := Lib.hid (HR4.out.below hb5)); (have HB5 := Lib.hid (HB4.out.trans (hb5.mono HB4.out.size))); (have HIS : Hid (∀ n, Calls Tryz.prog 28 #[.agg #[.int .i64 (Q : Int), .slice A L.length ca, .int .i64 (G : Int), .bool D], .agg #[.int .i64 (Q : Int), .slice B L.length cb, .int .i64 (G : Int), .bool D]] (w5.drewN n) fun e w' => e = .returned (.bool true) ∧ Grw (fun r => (Value.slice A L.length ca).ownBlock = some r) w5 w') := Lib.hid (fun n => (is_any wr.heap.size A B ca cb (Q : Int) (G : Int) D L HLN.out (w5.drewN n) HO5.out HR5.out (fun x y h1 h2 hp => by have q1 := HO5.out.ge x.block (by rw [h1]; rfl); have q2 := HBB.out y h2 hp; omega)).mono fun e w' ⟨h1, h2⟩ => ⟨h1, (grw_below (below_dn w5.heap.size n w5)).trans h2⟩)); clear hb5) | (go_at_call 28; (first | refine (HIS.out _).mono ?_ | refine (HIS.out 1).mono ?_ | refine (HIS.out 0).mono ?_); rintro e w6 ⟨rfl, hg⟩))
        all_goals
          have hnl : ∀ r, (Value.slice A L.length ca).ownBlock = some r → wr.heap.size ≤ r := fun r hr => HO5.out.ge r hr
          have hlr := HB.out.size
          have HB6 := Lib.hid (hg.below HB5.out (Nat.le_refl _) (fun r hr => by have := hnl r hr; omega))
          have HR6 : Hid (RowRf w6 B L) := Lib.hid (by
            rcases Nat.eq_zero_or_pos L.length with hp | hp
            · exact fun i hi => absurd hi (by omega)
            · refine rowRf_over HR5.out hg.size (fun b hb0 => ?_)
              obtain ⟨b2, o2, e2, h2, _⟩ := HR5.out 0 hp
              have q2 := HBB.out b hb0 hp
              rw [hb0] at e2
              injection e2 with e2
              exact hg.block _ (by rw [e2]; exact h2) (fun e => by have q1 := hnl _ e; omega))
          have HY6 := Lib.hid (show SBr w6 w1.heap.size (Q : Int) (.slice B L.length cb) (G : Int) D from (hg.block _ (row_lt HY5.out) (fun e => by have q1 := hnl _ e; have q2 := HYL.out; omega)).trans HY5.out)
          clear hg hnl hlr
          go_wp2_with fail
          go_roundw
          case rel => exact ⟨j + 1, by omega, by go_num, HR6, HY6, HB6⟩
          case measure => simp [intOf]; omega
      · obtain rfl : j = 2 := by omega
        clear HR HY H1 H2
        go_wp2_with fail
        refine (HF1.out wr).mono ?_
        rintro e w3 ⟨rfl, rfl⟩
        go_wp2_with fail
        refine (HF2.out _).mono ?_
        rintro e w3 ⟨rfl, rfl⟩
        go_wp2_with fail
        refine (HF3.out _).mono ?_
        rintro e w3 ⟨rfl, rfl⟩
        go_wp2_with fail
        refine (HF4.out _).mono ?_
        rintro e w3 ⟨rfl, rfl⟩
        go_wp2_with fail
        refine (HAW.out _ (HE.out.over HB.out)).mono ?_
        rintro e w3 ⟨rfl, hb⟩
        replace HB := Lib.hid (HB.out.trans (hb.mono HB.out.size)); clear hb
        go_wp2_with fail
        go_ret
        exact ⟨rfl, HB.out⟩
end Go.Proofs.YtkccdffccjgajaaGreatDoor.Seg
