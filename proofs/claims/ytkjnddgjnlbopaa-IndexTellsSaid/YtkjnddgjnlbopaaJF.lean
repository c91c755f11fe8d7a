import Derived.Test.YtkjnddgjnlbopaaJD
import Derived.Deep.RegionWith
/-
  The statement's own question: is an index the document's?
-/
namespace Go.Proofs.Ytkjnddgjnlbopaa.Index
open Go Go.RowKit
open Go.Proofs.Ytkjnddgjnlbopaa.Wire (S S_list S_size cell_row frozen_row row_lt heap_set heap_far)
open Go.Proofs.Ytkjnddgjnlbopaa.Frame Go.Proofs.Ytkjnddgjnlbopaa.Seg

set_option maxRecDepth 100000 in
set_option maxHeartbeats 4000000 in
theorem like_gen (w : World) (b b2 a ev : Nat) (ats : List Nat) (v : Value) (g : Nat) (base : Nat) (h : Ix w b b ev a ats g) (hy : RB4 w b2 a ev v g) (ho : OwnN w base v ats) (hev : 1 ≤ ev ∧ ev ≤ 64) (hl : ats.length ≤ 900000) (hsm : a + ats.length ≤ 100000000)
    (hmr : ∀ W, Below w.heap.size w W → Calls Try.prog 44 #[.pointer (some ⟨b2, 0, none⟩)] W fun e w' => ∃ u, e = .returned u ∧ OwnR w' W.heap.size u (mks ev a ats) ∧ Below W.heap.size W w') :
    Calls Try.prog 22 #[.pointer (some ⟨b, 0, none⟩), .pointer (some ⟨b2, 0, none⟩)] w fun e w' => e = .returned (.bool true) ∧ Below w.heap.size w w' := by
  obtain ⟨A, cap, rfl, -, -⟩ := ho.row
  have HMX : Hid (∀ n, Calls Try.prog 12 #[.pointer (some ⟨b, 0, none⟩)] (w.drewN n) fun e w' => ∃ u, e = .returned u ∧ OwnM w' w.heap.size u (mks ev a ats) ∧ Below w.heap.size w w') :=
    Lib.hid (fun n => (marks_any (w.drewN n) b b ev a ats g (h.below (below_dn _ _ _)) hev.1 hl).mono fun e w' ⟨u, h1, h2, h3⟩ => ⟨u, h1, h2, (below_dn w.heap.size n w).trans h3⟩)
  have HMR : Hid (∀ W n, Below w.heap.size w W → Calls Try.prog 44 #[.pointer (some ⟨b2, 0, none⟩)] (W.drewN n) fun e w' => ∃ u, e = .returned u ∧ OwnR w' W.heap.size u (mks ev a ats) ∧ Below W.heap.size W w') :=
    Lib.hid (fun W n hb => (hmr (W.drewN n) (hb.trans (below_dn _ _ _))).mono fun e w' ⟨u, h1, h2, h3⟩ => ⟨u, h1, h2, (below_dn W.heap.size n W).trans h3⟩)
  have HML := Lib.hid (show (mks ev a ats).length ≤ 1000000 by rw [mks_len]; have := nm_le (n := ats.length) hev.1; omega)
  have HY := Lib.hid hy
  have HX := Lib.hid h
  have HNR : Hid (∀ W n, Below w.heap.size w W → Calls Try.prog 45 #[.pointer (some ⟨b2, 0, none⟩)] (W.drewN n) fun e w' => e = .returned (.int .i64 ((a + ats.length : Nat) : Int)) ∧ Below W.heap.size W w') :=
    Lib.hid (fun W n hb => (next_r (W.drewN n) b2 a ev A ats.length cap g ((hb.block _ (row_lt HY.out)).trans HY.out) hsm).mono fun e w' ⟨h1, h3⟩ => ⟨h1, (below_dn W.heap.size n W).trans h3⟩)
  obtain ⟨⟨c0, c1, c2, c3⟩, -⟩ := hy.facts
  have hfm : Try.prog.follows .mixedOrders = true := by kernel_rfl
  clear h hy ho hev hl hsm hmr
  obtain ⟨n0, hn0⟩ : ∃ n0, a + ats.length = n0 := ⟨_, rfl⟩
  have HN0 := Lib.hid hn0
  rw [hn0] at HNR
  clear hn0
  generalize mks ev a ats = M at *
  go_enter Try.func22, Try.ntmps22
  go_wp2_with fail
  go_region_with (first
    | (go_at_call 12; (first | refine (HMX.out _).mono ?_ | refine (HMX.out 1).mono ?_ | refine (HMX.out 0).mono ?_); rintro e w1 ⟨u1, rfl, ho1, hb1⟩; obtain ⟨A1, c1', rfl, -, -, hr1, -⟩ := ho1.row; (have HB1 := Lib.hid hb1); (have HR1 := Lib.hid hr1); clear ho1 hb1 hr1)
    | (go_at_call 44; (first | refine (HMR.out w1 _ HB1.out).mono ?_ | refine (HMR.out w1 1 HB1.out).mono ?_ | refine (HMR.out w1 0 HB1.out).mono ?_); rintro e w2 ⟨u2, rfl, ho2, hb2⟩; obtain ⟨A2, c2', rfl, -, -, hr2⟩ := ho2.row; (have HB2 := Lib.hid (HB1.out.trans (hb2.mono HB1.out.size))); (have HR2 := Lib.hid (HR1.out.below hb2)); (have HS2 := Lib.hid hr2); (have HSM : Hid (∀ n, Calls Try.prog 43 #[.slice A1 M.length c1', .slice A2 M.length c2'] (w2.drewN n) fun e w' => e = .returned (.bool true) ∧ Below w2.heap.size w2 w') := Lib.hid (fun n => (same_any (w2.drewN n) A1 A2 c1' c2' M HML.out (HR2.out.below (below_dn _ _ _)) (HS2.out.below (below_dn _ _ _))).mono fun e w' ⟨x1, x2⟩ => ⟨x1, (below_dn w2.heap.size n w2).trans x2⟩)); clear ho2 hb2 hr2)
    | (go_at_call 43; (first | refine (HSM.out _).mono ?_ | refine (HSM.out 1).mono ?_ | refine (HSM.out 0).mono ?_); rintro e w3 ⟨rfl, hb3⟩; (have HB3 := Lib.hid (HB2.out.trans (hb3.mono HB2.out.size))); (have hy3 : RB4 w3 b2 a ev (.slice A ats.length cap) g := (HB3.out.block _ (row_lt HY.out)).trans HY.out); obtain ⟨⟨d0, d1, d2, d3⟩, -⟩ := hy3.facts; obtain ⟨vx, hx3, -⟩ := HX.out.below HB3.out; (have HX3 := Lib.hid hx3); clear hb3 hy3 hx3)
    | (go_at_call 19; (first | refine (first_x w3 b ev a _ vx g HX3.out).mono ?_ | refine (first_x (w3.drewN _) b ev a _ vx g HX3.out).mono ?_); rintro e w4 ⟨rfl, rfl⟩)
    | (go_at_call 13; (first | refine (next_x w3 b ev a _ vx g HX3.out).mono ?_ | refine (next_x (w3.drewN _) b ev a _ vx g HX3.out).mono ?_); rw [HN0.out]; rintro e w4 ⟨rfl, rfl⟩)
    | (go_at_call 45; (first | refine (HNR.out w3 _ HB3.out).mono ?_ | refine (HNR.out w3 1 HB3.out).mono ?_ | refine (HNR.out w3 0 HB3.out).mono ?_); rintro e w5 ⟨rfl, hb5⟩; (have HB5 := Lib.hid (HB3.out.trans (hb5.mono HB3.out.size))); (have hy5 : RB4 w5 b2 a ev (.slice A ats.length cap) g := (HB5.out.block _ (row_lt HY.out)).trans HY.out); obtain ⟨⟨e0, e1, e2, e3⟩, -⟩ := hy5.facts; (have HX5 := Lib.hid ((hb5.block _ (row_lt HX3.out)).trans HX3.out)); clear hb5 hy5)
    | (go_at_call 14; (first | refine (good_x w5 b ev a _ vx g HX5.out).mono ?_ | refine (good_x (w5.drewN _) b ev a _ vx g HX5.out).mono ?_); rintro e w6 ⟨rfl, rfl⟩))
  all_goals
    go_wp2_with fail
    go_ret
    exact ⟨rfl, by first | exact HB5.out | exact HB5.out.trans (below_dn _ _ _)⟩
end Go.Proofs.Ytkjnddgjnlbopaa.Index
