import Derived.Test.YtbjpkffhpdcapaaDoorUN
import Derived.Test.YtbjpkffhpdcapaaDoorUO
/-
  The walk of the statement UpcastBack.
-/
namespace Go.Proofs.YtbjpkffhpdcapaaDoor.Upcast
open Go Go.RowKit
open Go.Proofs.YtbjpkffhpdcapaaDoor.Schema

set_option maxRecDepth 100000 in
set_option maxHeartbeats 4000000 in
theorem upBack_any (A : Option Addr) (ca : Nat) (B : Option Addr) (cb : Nat) (e : Ev) (C : Option Addr) (cc : Nat) (D : Option Addr) (cd : Nat) (f : Ev) (w : World) (hA : EvAt w A ca B cb e) (lA : e.ns.length ≤ 140737488355328 ∧ e.ts.length ≤ 140737488355328) (hC : EvAt w C cc D cd f) (lC : f.ns.length ≤ 140737488355328 ∧ f.ts.length ≤ 140737488355328) (E : Env w) :
    Calls Tryd.prog 4 #[evV A ca B cb e, evV C cc D cd f] w fun z w' => z = .returned (.bool true) ∧ Below w.heap.size w w' := by
  have HE := Lib.hid E
  have HhA := Lib.hid hA
  have LhA := Lib.hid lA
  have HhC := Lib.hid hC
  have LhC := Lib.hid lC
  clear E hA lA hC lC
  unfold evV
  have hb0 := (Below.refl w.heap.size w).alloc (Nat.le_refl _) (.cells #[.int .u8 e.v, .int .u8 e.k, .slice A e.ns.length ca, .slice B e.ts.length cb] 25)
  have hb1 := (Below.refl (w.alloc (.cells #[.int .u8 e.v, .int .u8 e.k, .slice A e.ns.length ca, .slice B e.ts.length cb] 25)).heap.size (w.alloc (.cells #[.int .u8 e.v, .int .u8 e.k, .slice A e.ns.length ca, .slice B e.ts.length cb] 25))).alloc (Nat.le_refl _) (.cells #[.int .u8 f.v, .int .u8 f.k, .slice C f.ns.length cc, .slice D f.ts.length cd] 25)
  have hp0 := ((show Four _ w.heap.size _ _ _ _ from box4 w (.int .u8 e.v) (.int .u8 e.k) (.slice A e.ns.length ca) (.slice B e.ts.length cb) 25).below hb1)
  have HP := Lib.hid hp0
  clear hp0
  have hp1 := (show Four _ (w.alloc (.cells #[.int .u8 e.v, .int .u8 e.k, .slice A e.ns.length ca, .slice B e.ts.length cb] 25)).heap.size _ _ _ _ from box4 (w.alloc (.cells #[.int .u8 e.v, .int .u8 e.k, .slice A e.ns.length ca, .slice B e.ts.length cb] 25)) (.int .u8 f.v) (.int .u8 f.k) (.slice C f.ns.length cc) (.slice D f.ts.length cd) 25)
  rw [show (w.alloc (.cells #[.int .u8 e.v, .int .u8 e.k, .slice A e.ns.length ca, .slice B e.ts.length cb] 25)).heap.size = w.heap.size + 1 by simp] at hp1
  have HQ := Lib.hid hp1
  clear hp1
  have HB := Lib.hid (below_step hb0 hb1)
  replace HhA := Lib.hid (HhA.out.below HB.out)
  replace HhC := Lib.hid (HhC.out.below HB.out)
  replace HE := Lib.hid (HE.out.below HB.out)
  clear hb0 hb1
  go_enter Tryd.func4, Tryd.ntmps4
  go_upto_region 1 with (fail)
  generalize ((w.alloc (.cells #[.int .u8 e.v, .int .u8 e.k, .slice A e.ns.length ca, .slice B e.ts.length cb] 25)).alloc (.cells #[.int .u8 f.v, .int .u8 f.k, .slice C f.ns.length cc, .slice D f.ts.length cd] 25)) = X1 at HP HQ HB HhA HhC HE ⊢
  obtain ⟨hp_0, hp_1, hp_2, hp_3⟩ := HP.out
  go_wp2_with fail
  clear hp_0 hp_1 hp_2 hp_3
  refine (long_any A ca B cb e LhA.out.1 LhA.out.2 X1 HhA.out).mono ?_
  rintro z X2 ⟨b1, rfl, hl1, hb⟩
  replace HP := Lib.hid (HP.out.below hb)
  replace HQ := Lib.hid (HQ.out.below hb)
  replace HB := Lib.hid (below_step HB.out hb)
  replace HhA := Lib.hid (HhA.out.below hb)
  replace HhC := Lib.hid (HhC.out.below hb)
  replace HE := Lib.hid (HE.out.below hb)
  clear hb
  cases b1 with
  | true =>
    clear hl1
    go_wp2_with fail
    refine (awake_any _ HE.out).mono ?_
    rintro z Xz ⟨rfl, hb⟩
    have HZ := Lib.hid (below_step HB.out hb)
    clear hb
    go_wp2_with fail
    go_ret
    exact ⟨rfl, HZ.out⟩
  | false =>
    have ShA := Lib.hid (hl1 rfl)
    clear hl1
    obtain ⟨hq_0, hq_1, hq_2, hq_3⟩ := HQ.out
    go_wp2_with fail
    clear hq_0 hq_1 hq_2 hq_3
    refine (long_any C cc D cd f LhC.out.1 LhC.out.2 X2 HhC.out).mono ?_
    rintro z X3 ⟨b1, rfl, hl1, hb⟩
    replace HP := Lib.hid (HP.out.below hb)
    replace HQ := Lib.hid (HQ.out.below hb)
    replace HB := Lib.hid (below_step HB.out hb)
    replace HhA := Lib.hid (HhA.out.below hb)
    replace HhC := Lib.hid (HhC.out.below hb)
    replace HE := Lib.hid (HE.out.below hb)
    clear hb
    cases b1 with
    | true =>
      clear hl1
      go_wp2_with fail
      refine (awake_any _ HE.out).mono ?_
      rintro z Xz ⟨rfl, hb⟩
      have HZ := Lib.hid (below_step HB.out hb)
      clear hb
      go_wp2_with fail
      go_ret
      exact ⟨rfl, HZ.out⟩
    | false =>
      have ShC := Lib.hid (hl1 rfl)
      clear hl1
      go_wp2_with fail
      refine (awake_any X3 HE.out).mono ?_
      rintro z X4 ⟨rfl, hb⟩
      replace HP := Lib.hid (HP.out.below hb)
      replace HQ := Lib.hid (HQ.out.below hb)
      replace HB := Lib.hid (below_step HB.out hb)
      replace HhA := Lib.hid (HhA.out.below hb)
      replace HhC := Lib.hid (HhC.out.below hb)
      replace HE := Lib.hid (HE.out.below hb)
      clear hb
      obtain ⟨hp_0, hp_1, hp_2, hp_3⟩ := HP.out
      go_wp2_with fail
      clear hp_0 hp_1 hp_2 hp_3
      refine (Up_ev (by have := ShA.out; omega) HhA.out HE.out).mono ?_
      rintro z X5 ⟨uu, nu, Au, cu, Cu, du, rfl, hev, hsm, hgot, hb⟩
      replace HP := Lib.hid (HP.out.below hb)
      replace HQ := Lib.hid (HQ.out.below hb)
      replace HB := Lib.hid (below_step HB.out hb)
      replace HhA := Lib.hid (HhA.out.below hb)
      replace HhC := Lib.hid (HhC.out.below hb)
      replace HE := Lib.hid (HE.out.below hb)
      have HYu := Lib.hid hev
      have HSu := Lib.hid hsm
      have HGu := Lib.hid hgot
      clear hev hsm hgot hb
      unfold evV
      go_upto_region 4 with (fail)
      have hb := (Below.refl X5.heap.size X5).alloc (Nat.le_refl _) (.cells #[.int .u8 uu.v, .int .u8 uu.k, .slice Au uu.ns.length cu, .slice Cu uu.ts.length du] 25)
      replace HP := Lib.hid (HP.out.below hb)
      replace HQ := Lib.hid (HQ.out.below hb)
      replace HB := Lib.hid (below_step HB.out hb)
      replace HhA := Lib.hid (HhA.out.below hb)
      replace HhC := Lib.hid (HhC.out.below hb)
      replace HE := Lib.hid (HE.out.below hb)
      replace HYu := Lib.hid (HYu.out.below hb)
      have HPu := Lib.hid (show Four _ X5.heap.size _ _ _ _ from box4 X5 (.int .u8 uu.v) (.int .u8 uu.k) (.slice Au uu.ns.length cu) (.slice Cu uu.ts.length du) 25)
      clear hb
      generalize X5.alloc (.cells #[.int .u8 uu.v, .int .u8 uu.k, .slice Au uu.ns.length cu, .slice Cu uu.ts.length du] 25) = X6 at HP HQ HB HhA HhC HE HYu HPu ⊢
      generalize hWs : X5.heap.size = bu at HPu ⊢
      clear hWs
      by_cases hu : nu = 0
      case pos =>
        subst hu
        have HU := Lib.hid (back_up (HGu.out.ok rfl))
        obtain ⟨hpu_0, hpu_1, hpu_2, hpu_3⟩ := HPu.out
        go_wp2_with fail
        clear hpu_0 hpu_1 hpu_2 hpu_3
        refine (Down_ev (by have := HSu.out; omega) HYu.out HE.out).mono ?_
        rintro z X7 ⟨uk, nk, Ak, ck, Ck, dk, rfl, hev, hsm, hgot, hb⟩
        replace HP := Lib.hid (HP.out.below hb)
        replace HQ := Lib.hid (HQ.out.below hb)
        replace HB := Lib.hid (below_step HB.out hb)
        replace HhA := Lib.hid (HhA.out.below hb)
        replace HhC := Lib.hid (HhC.out.below hb)
        replace HE := Lib.hid (HE.out.below hb)
        replace HYu := Lib.hid (HYu.out.below hb)
        replace HPu := Lib.hid (HPu.out.below hb)
        have HYk := Lib.hid hev
        have HSk := Lib.hid hsm
        have HGk := Lib.hid hgot
        clear hev hsm hgot hb
        unfold evV
        go_upto_region 6 with (fail)
        have hb := (Below.refl X7.heap.size X7).alloc (Nat.le_refl _) (.cells #[.int .u8 uk.v, .int .u8 uk.k, .slice Ak uk.ns.length ck, .slice Ck uk.ts.length dk] 25)
        replace HP := Lib.hid (HP.out.below hb)
        replace HQ := Lib.hid (HQ.out.below hb)
        replace HB := Lib.hid (below_step HB.out hb)
        replace HhA := Lib.hid (HhA.out.below hb)
        replace HhC := Lib.hid (HhC.out.below hb)
        replace HE := Lib.hid (HE.out.below hb)
        replace HYu := Lib.hid (HYu.out.below hb)
        replace HPu := Lib.hid (HPu.out.below hb)
        replace HYk := Lib.hid (HYk.out.below hb)
        have HPk := Lib.hid (show Four _ X7.heap.size _ _ _ _ from box4 X7 (.int .u8 uk.v) (.int .u8 uk.k) (.slice Ak uk.ns.length ck) (.slice Ck uk.ts.length dk) 25)
        clear hb
        generalize X7.alloc (.cells #[.int .u8 uk.v, .int .u8 uk.k, .slice Ak uk.ns.length ck, .slice Ck uk.ts.length dk] 25) = X8 at HP HQ HB HhA HhC HE HYu HPu HYk HPk ⊢
        generalize hWs : X7.heap.size = bk at HPk ⊢
        clear hWs
        obtain ⟨rfl, rfl⟩ := HGk.out.of HU.out
        obtain ⟨hpk_0, hpk_1, hpk_2, hpk_3⟩ := HPk.out
        obtain ⟨hp_0, hp_1, hp_2, hp_3⟩ := HP.out
        go_wp2_with fail
        clear hpk_0 hpk_1 hpk_2 hpk_3
        clear hp_0 hp_1 hp_2 hp_3
        refine (told_any _ _ _ _ uk 0 _ _ _ _ uk (by have := HSk.out; omega) (by have := HSk.out; omega) (by have := HSk.out; omega) (by have := HSk.out; omega) X8 HYk.out HhA.out).mono ?_
        rintro z X9 ⟨rfl, hb⟩
        replace HP := Lib.hid (HP.out.below hb)
        replace HQ := Lib.hid (HQ.out.below hb)
        replace HB := Lib.hid (below_step HB.out hb)
        replace HhA := Lib.hid (HhA.out.below hb)
        replace HhC := Lib.hid (HhC.out.below hb)
        replace HE := Lib.hid (HE.out.below hb)
        replace HYu := Lib.hid (HYu.out.below hb)
        replace HPu := Lib.hid (HPu.out.below hb)
        replace HYk := Lib.hid (HYk.out.below hb)
        replace HPk := Lib.hid (HPk.out.below hb)
        clear hb
        rw [same_self]
        clear HPk
        clear HYk
        obtain ⟨hq_0, hq_1, hq_2, hq_3⟩ := HQ.out
        go_wp2_with fail
        clear hq_0 hq_1 hq_2 hq_3
        refine (Down_ev (by have := ShC.out; omega) HhC.out HE.out).mono ?_
        rintro z X10 ⟨ud, nd, Ad, cd, Cd, dd, rfl, hev, hsm, hgot, hb⟩
        replace HP := Lib.hid (HP.out.below hb)
        replace HQ := Lib.hid (HQ.out.below hb)
        replace HB := Lib.hid (below_step HB.out hb)
        replace HhA := Lib.hid (HhA.out.below hb)
        replace HhC := Lib.hid (HhC.out.below hb)
        replace HE := Lib.hid (HE.out.below hb)
        replace HYu := Lib.hid (HYu.out.below hb)
        replace HPu := Lib.hid (HPu.out.below hb)
        have HYd := Lib.hid hev
        have HSd := Lib.hid hsm
        have HGd := Lib.hid hgot
        clear hev hsm hgot hb
        unfold evV
        go_upto_region 9 with (fail)
        have hb := (Below.refl X10.heap.size X10).alloc (Nat.le_refl _) (.cells #[.int .u8 ud.v, .int .u8 ud.k, .slice Ad ud.ns.length cd, .slice Cd ud.ts.length dd] 25)
        replace HP := Lib.hid (HP.out.below hb)
        replace HQ := Lib.hid (HQ.out.below hb)
        replace HB := Lib.hid (below_step HB.out hb)
        replace HhA := Lib.hid (HhA.out.below hb)
        replace HhC := Lib.hid (HhC.out.below hb)
        replace HE := Lib.hid (HE.out.below hb)
        replace HYu := Lib.hid (HYu.out.below hb)
        replace HPu := Lib.hid (HPu.out.below hb)
        replace HYd := Lib.hid (HYd.out.below hb)
        have HPd := Lib.hid (show Four _ X10.heap.size _ _ _ _ from box4 X10 (.int .u8 ud.v) (.int .u8 ud.k) (.slice Ad ud.ns.length cd) (.slice Cd ud.ts.length dd) 25)
        clear hb
        generalize X10.alloc (.cells #[.int .u8 ud.v, .int .u8 ud.k, .slice Ad ud.ns.length cd, .slice Cd ud.ts.length dd] 25) = X11 at HP HQ HB HhA HhC HE HYu HPu HYd HPd ⊢
        generalize hWs : X10.heap.size = bd at HPd ⊢
        clear hWs
        by_cases hd : nd = 0
        case pos =>
          have HD := Lib.hid (back_down (HGd.out.ok hd))
          subst hd
          obtain ⟨hpd_0, hpd_1, hpd_2, hpd_3⟩ := HPd.out
          go_wp2_with fail
          clear hpd_0 hpd_1 hpd_2 hpd_3
          refine (Up_ev (by have := HSd.out; omega) HYd.out HE.out).mono ?_
          rintro z X12 ⟨ub, nb, Ab, cb, Cb, db, rfl, hev, hsm, hgot, hb⟩
          replace HP := Lib.hid (HP.out.below hb)
          replace HQ := Lib.hid (HQ.out.below hb)
          replace HB := Lib.hid (below_step HB.out hb)
          replace HhA := Lib.hid (HhA.out.below hb)
          replace HhC := Lib.hid (HhC.out.below hb)
          replace HE := Lib.hid (HE.out.below hb)
          replace HYu := Lib.hid (HYu.out.below hb)
          replace HPu := Lib.hid (HPu.out.below hb)
          replace HYd := Lib.hid (HYd.out.below hb)
          replace HPd := Lib.hid (HPd.out.below hb)
          have HYb := Lib.hid hev
          have HSb := Lib.hid hsm
          have HGb := Lib.hid hgot
          clear hev hsm hgot hb
          unfold evV
          go_upto_region 11 with (fail)
          have hb := (Below.refl X12.heap.size X12).alloc (Nat.le_refl _) (.cells #[.int .u8 ub.v, .int .u8 ub.k, .slice Ab ub.ns.length cb, .slice Cb ub.ts.length db] 25)
          replace HP := Lib.hid (HP.out.below hb)
          replace HQ := Lib.hid (HQ.out.below hb)
          replace HB := Lib.hid (below_step HB.out hb)
          replace HhA := Lib.hid (HhA.out.below hb)
          replace HhC := Lib.hid (HhC.out.below hb)
          replace HE := Lib.hid (HE.out.below hb)
          replace HYu := Lib.hid (HYu.out.below hb)
          replace HPu := Lib.hid (HPu.out.below hb)
          replace HYd := Lib.hid (HYd.out.below hb)
          replace HPd := Lib.hid (HPd.out.below hb)
          replace HYb := Lib.hid (HYb.out.below hb)
          have HPb := Lib.hid (show Four _ X12.heap.size _ _ _ _ from box4 X12 (.int .u8 ub.v) (.int .u8 ub.k) (.slice Ab ub.ns.length cb) (.slice Cb ub.ts.length db) 25)
          clear hb
          generalize X12.alloc (.cells #[.int .u8 ub.v, .int .u8 ub.k, .slice Ab ub.ns.length cb, .slice Cb ub.ts.length db] 25) = X13 at HP HQ HB HhA HhC HE HYu HPu HYd HPd HYb HPb ⊢
          generalize hWs : X12.heap.size = bb at HPb ⊢
          clear hWs
          obtain ⟨rfl, rfl⟩ := HGb.out.of HD.out.1
          have hv1 := HYd.out.v
          have hv := HD.out.2
          have hs : IntKind.u8.wrap ((ub.v : Int) - 1) = (ud.v : Int) := by (rw [IntKind.wrap_u8]; omega)
          have hs2 : (((ub.v : Int) - 1) % 256) = (ud.v : Int) := by omega
          have hs3 : ((ud.v : Int) == (ud.v : Int)) = true := beq_self_eq_true _
          have hc := told_any _ _ _ _ ub 0 _ _ _ _ ub (by have := HSb.out; omega) (by have := HSb.out; omega) (by have := HSb.out; omega) (by have := HSb.out; omega) X13 HYb.out HhC.out
          rw [same_self] at hc
          have HC := Lib.hid hc
          clear hc hv hv1
          obtain ⟨hpb_0, hpb_1, hpb_2, hpb_3⟩ := HPb.out
          obtain ⟨hq_0, hq_1, hq_2, hq_3⟩ := HQ.out
          obtain ⟨hpd_0, hpd_1, hpd_2, hpd_3⟩ := HPd.out
          go_wp2_with (go_at_call 21; refine HC.out.mono ?_; rintro z Xt ⟨rfl, hb⟩; have HZ := Lib.hid (below_step HB.out hb); have g1 := cell_kept hpd_0 hb; have g2 := cell_kept hq_0 hb; clear hb)
          go_ret
          exact ⟨by simp, HZ.out⟩
        case neg =>
          have HG2 := Lib.hid (HGd.out.bad hd).1
          obtain rfl := (HGd.out.bad hd).2
          rw [show ev0.ns.length = 0 from rfl, show ev0.ts.length = 0 from rfl] at HPd
          have hc := same_any _ _ _ _ uu _ _ _ _ f (by have := HSu.out; omega) (by have := ShC.out; omega) (by have := HSu.out; omega) (by have := ShC.out; omega) X11 HYu.out HhC.out
          rw [back_not HGu.out rfl HGd.out hd] at hc
          have HC := Lib.hid hc
          clear hc
          obtain ⟨hpd_0, hpd_1, hpd_2, hpd_3⟩ := HPd.out
          obtain ⟨hpu_0, hpu_1, hpu_2, hpu_3⟩ := HPu.out
          obtain ⟨hq_0, hq_1, hq_2, hq_3⟩ := HQ.out
          go_wp2_with (go_at_call 22; refine HC.out.mono ?_; rintro z Xt ⟨rfl, hb⟩; have HZ := Lib.hid (below_step HB.out hb); clear hb)
          go_ret
          exact ⟨by simp, HZ.out⟩
      case neg =>
        have z1 : ((nu : Int) == 0) = false := by (rw [beq_eq_false_iff_ne]; omega)
        have z2 : ¬ (nu : Int) = 0 := by omega
        have z3 : ((nu : Int) != 0) = true := by (rw [bne_iff_ne]; omega)
        obtain ⟨hq_0, hq_1, hq_2, hq_3⟩ := HQ.out
        go_wp2_with fail
        clear hq_0 hq_1 hq_2 hq_3
        refine (Down_ev (by have := ShC.out; omega) HhC.out HE.out).mono ?_
        rintro z X14 ⟨ud, nd, Ad, cd, Cd, dd, rfl, hev, hsm, hgot, hb⟩
        replace HP := Lib.hid (HP.out.below hb)
        replace HQ := Lib.hid (HQ.out.below hb)
        replace HB := Lib.hid (below_step HB.out hb)
        replace HhA := Lib.hid (HhA.out.below hb)
        replace HhC := Lib.hid (HhC.out.below hb)
        replace HE := Lib.hid (HE.out.below hb)
        replace HYu := Lib.hid (HYu.out.below hb)
        replace HPu := Lib.hid (HPu.out.below hb)
        have HYd := Lib.hid hev
        have HSd := Lib.hid hsm
        have HGd := Lib.hid hgot
        clear hev hsm hgot hb
        unfold evV
        go_upto_region 9 with (fail)
        have hb := (Below.refl X14.heap.size X14).alloc (Nat.le_refl _) (.cells #[.int .u8 ud.v, .int .u8 ud.k, .slice Ad ud.ns.length cd, .slice Cd ud.ts.length dd] 25)
        replace HP := Lib.hid (HP.out.below hb)
        replace HQ := Lib.hid (HQ.out.below hb)
        replace HB := Lib.hid (below_step HB.out hb)
        replace HhA := Lib.hid (HhA.out.below hb)
        replace HhC := Lib.hid (HhC.out.below hb)
        replace HE := Lib.hid (HE.out.below hb)
        replace HYu := Lib.hid (HYu.out.below hb)
        replace HPu := Lib.hid (HPu.out.below hb)
        replace HYd := Lib.hid (HYd.out.below hb)
        have HPd := Lib.hid (show Four _ X14.heap.size _ _ _ _ from box4 X14 (.int .u8 ud.v) (.int .u8 ud.k) (.slice Ad ud.ns.length cd) (.slice Cd ud.ts.length dd) 25)
        clear hb
        generalize X14.alloc (.cells #[.int .u8 ud.v, .int .u8 ud.k, .slice Ad ud.ns.length cd, .slice Cd ud.ts.length dd] 25) = X15 at HP HQ HB HhA HhC HE HYu HPu HYd HPd ⊢
        generalize hWs : X14.heap.size = bd at HPd ⊢
        clear hWs
        by_cases hd : nd = 0
        case pos =>
          have HD := Lib.hid (back_down (HGd.out.ok hd))
          subst hd
          obtain ⟨hpd_0, hpd_1, hpd_2, hpd_3⟩ := HPd.out
          go_wp2_with fail
          clear hpd_0 hpd_1 hpd_2 hpd_3
          refine (Up_ev (by have := HSd.out; omega) HYd.out HE.out).mono ?_
          rintro z X16 ⟨ub, nb, Ab, cb, Cb, db, rfl, hev, hsm, hgot, hb⟩
          replace HP := Lib.hid (HP.out.below hb)
          replace HQ := Lib.hid (HQ.out.below hb)
          replace HB := Lib.hid (below_step HB.out hb)
          replace HhA := Lib.hid (HhA.out.below hb)
          replace HhC := Lib.hid (HhC.out.below hb)
          replace HE := Lib.hid (HE.out.below hb)
          replace HYu := Lib.hid (HYu.out.below hb)
          replace HPu := Lib.hid (HPu.out.below hb)
          replace HYd := Lib.hid (HYd.out.below hb)
          replace HPd := Lib.hid (HPd.out.below hb)
          have HYb := Lib.hid hev
          have HSb := Lib.hid hsm
          have HGb := Lib.hid hgot
          clear hev hsm hgot hb
          unfold evV
          go_upto_region 11 with (fail)
          have hb := (Below.refl X16.heap.size X16).alloc (Nat.le_refl _) (.cells #[.int .u8 ub.v, .int .u8 ub.k, .slice Ab ub.ns.length cb, .slice Cb ub.ts.length db] 25)
          replace HP := Lib.hid (HP.out.below hb)
          replace HQ := Lib.hid (HQ.out.below hb)
          replace HB := Lib.hid (below_step HB.out hb)
          replace HhA := Lib.hid (HhA.out.below hb)
          replace HhC := Lib.hid (HhC.out.below hb)
          replace HE := Lib.hid (HE.out.below hb)
          replace HYu := Lib.hid (HYu.out.below hb)
          replace HPu := Lib.hid (HPu.out.below hb)
          replace HYd := Lib.hid (HYd.out.below hb)
          replace HPd := Lib.hid (HPd.out.below hb)
          replace HYb := Lib.hid (HYb.out.below hb)
          have HPb := Lib.hid (show Four _ X16.heap.size _ _ _ _ from box4 X16 (.int .u8 ub.v) (.int .u8 ub.k) (.slice Ab ub.ns.length cb) (.slice Cb ub.ts.length db) 25)
          clear hb
          generalize X16.alloc (.cells #[.int .u8 ub.v, .int .u8 ub.k, .slice Ab ub.ns.length cb, .slice Cb ub.ts.length db] 25) = X17 at HP HQ HB HhA HhC HE HYu HPu HYd HPd HYb HPb ⊢
          generalize hWs : X16.heap.size = bb at HPb ⊢
          clear hWs
          obtain ⟨rfl, rfl⟩ := HGb.out.of HD.out.1
          have hv1 := HYd.out.v
          have hv := HD.out.2
          have hs : IntKind.u8.wrap ((ub.v : Int) - 1) = (ud.v : Int) := by (rw [IntKind.wrap_u8]; omega)
          have hs2 : (((ub.v : Int) - 1) % 256) = (ud.v : Int) := by omega
          have hs3 : ((ud.v : Int) == (ud.v : Int)) = true := beq_self_eq_true _
          have hc := told_any _ _ _ _ ub 0 _ _ _ _ ub (by have := HSb.out; omega) (by have := HSb.out; omega) (by have := HSb.out; omega) (by have := HSb.out; omega) X17 HYb.out HhC.out
          rw [same_self] at hc
          have HC := Lib.hid hc
          clear hc hv hv1
          obtain ⟨hpb_0, hpb_1, hpb_2, hpb_3⟩ := HPb.out
          obtain ⟨hq_0, hq_1, hq_2, hq_3⟩ := HQ.out
          obtain ⟨hpd_0, hpd_1, hpd_2, hpd_3⟩ := HPd.out
          go_wp2_with (go_at_call 21; refine HC.out.mono ?_; rintro z Xt ⟨rfl, hb⟩; have HZ := Lib.hid (below_step HB.out hb); have g1 := cell_kept hpd_0 hb; have g2 := cell_kept hq_0 hb; clear hb)
          go_ret
          exact ⟨by simp, HZ.out⟩
        case neg =>
          have HG2 := Lib.hid (HGd.out.bad hd).1
          obtain rfl := (HGd.out.bad hd).2
          rw [show ev0.ns.length = 0 from rfl, show ev0.ts.length = 0 from rfl] at HPd
          obtain ⟨hpd_0, hpd_1, hpd_2, hpd_3⟩ := HPd.out
          go_wp2_with fail
          go_ret
          exact ⟨by simp, HB.out⟩

end Go.Proofs.YtbjpkffhpdcapaaDoor.Upcast
