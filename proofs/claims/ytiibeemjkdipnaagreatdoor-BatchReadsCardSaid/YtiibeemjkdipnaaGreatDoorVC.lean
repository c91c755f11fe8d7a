import Derived.Test.YtiibeemjkdipnaaGreatDoorVM
import Derived.Test.YtiibeemjkdipnaaGreatDoorVB
/-
  The document's letting down: Down.
-/
namespace Go.Proofs.YtiibeemjkdipnaaGreatDoor.Upcast
open Go Go.RowKit
open Go.Proofs.YtiibeemjkdipnaaGreatDoor.Schema

theorem ownE_boxT {w : World} {base : Nat} {E T : TypeId} {v : Value} {vs : List Value} (h : OwnE w base E v vs) {q : Nat} (hx : BoxT w T q) (hE : ¬ E = T) (o : Nat) (x : Value) : OwnE (w.setCell ⟨q, o, none⟩ x) base E v vs := by
  rcases h with h | h
  · left
    obtain ⟨h1, h2⟩ := h
    refine ⟨h1, ?_⟩
    rcases h2 with h2 | ⟨g, cap, cur, e, hbg, hh, r⟩
    · exact Or.inl h2
    · refine Or.inr ⟨g, cap, cur, e, hbg, ?_, r⟩
      have hne : g ≠ q := fun hq => by
        subst hq
        obtain ⟨c, f, hc⟩ := hx
        rw [hc] at hh
        injection hh with hh
        injection hh with _ h5 _
        exact hE h5.symm
      exact (Below.heap_setCell w _ x g hne).trans hh
  · exact Or.inr h
theorem ownE_box4 {w : World} {base : Nat} {E T : TypeId} {v : Value} {vs : List Value} (h : OwnE w base E v vs) {q : Nat} (hx : BoxT w T q) (hE : ¬ E = T) (x0 x1 x2 x3 : Value) : OwnE ((((w.setCell ⟨q, 0, none⟩ x0).setCell ⟨q, 1, none⟩ x1).setCell ⟨q, 2, none⟩ x2).setCell ⟨q, 3, none⟩ x3) base E v vs :=
  ownE_boxT (ownE_boxT (ownE_boxT (ownE_boxT h hx hE 0 x0) (hx.set 0 x0) hE 1 x1) ((hx.set 0 x0).set 1 x1) hE 2 x2) (((hx.set 0 x0).set 1 x1).set 2 x2) hE 3 x3
theorem boxT_gr {w w' : World} {T : TypeId} {b g : Nat} (h : BoxT w T b) (k : w.grownBy w' (some g)) (hne : b ≠ g) : BoxT w' T b := by
  obtain ⟨c, f, hc⟩ := h
  exact ⟨c, f, (k.block b (row_lt hc) (fun e => hne (Option.some.inj e))).trans hc⟩
theorem boxT_low {n b : Nat} {w w' : World} {T : TypeId} (h : BoxT w T b) (hb : Below n w w') (hn : b < n) : BoxT w' T b := by
  obtain ⟨c, f, hc⟩ := h
  exact ⟨c, f, (hb.block b hn).trans hc⟩

set_option maxRecDepth 100000 in
set_option maxHeartbeats 4000000 in
theorem rDown_any (A : Option Addr) (ca : Nat) (C : Option Addr) (cc : Nat) (e : Ev) (w : World) (hA : EvAt w A ca C cc e) :
    Calls Tryz.prog 79 #[evV A ca C cc e] w (ExV (dnX e) w) := by
  have HA0 := Lib.hid hA
  clear hA
  unfold evV
  have hb1 := (Below.refl w.heap.size w).alloc (Nat.le_refl _) (.cells #[.int .u8 e.v, .int .u8 e.k, .slice A e.ns.length ca, .slice C e.ts.length cc] 39)
  have hs1 : (w.alloc (.cells #[.int .u8 e.v, .int .u8 e.k, .slice A e.ns.length ca, .slice C e.ts.length cc] 39)).heap.size = w.heap.size + 1 := by simp
  have hb2 := (Below.refl (w.alloc (.cells #[.int .u8 e.v, .int .u8 e.k, .slice A e.ns.length ca, .slice C e.ts.length cc] 39)).heap.size (w.alloc (.cells #[.int .u8 e.v, .int .u8 e.k, .slice A e.ns.length ca, .slice C e.ts.length cc] 39))).alloc (Nat.le_refl _) (.cells #[.int .u8 0, .int .u8 0, .slice none 0 0, .slice none 0 0] 39)
  have hx : Four _ w.heap.size _ _ _ _ := Four.below (box4 w (.int .u8 e.v) (.int .u8 e.k) (.slice A e.ns.length ca) (.slice C e.ts.length cc) 39) hb2
  have hxf := free_below (free_new w #[.int .u8 e.v, .int .u8 e.k, .slice A e.ns.length ca, .slice C e.ts.length cc] 39) hb2
  have HX := Lib.hid hx
  have HXF := Lib.hid hxf
  have hp : Four _ (w.alloc (.cells #[.int .u8 e.v, .int .u8 e.k, .slice A e.ns.length ca, .slice C e.ts.length cc] 39)).heap.size _ _ _ _ := box4 (w.alloc (.cells #[.int .u8 e.v, .int .u8 e.k, .slice A e.ns.length ca, .slice C e.ts.length cc] 39)) (.int .u8 0) (.int .u8 0) (.slice none 0 0) (.slice none 0 0) 39
  have hf := free_new (w.alloc (.cells #[.int .u8 e.v, .int .u8 e.k, .slice A e.ns.length ca, .slice C e.ts.length cc] 39)) #[.int .u8 0, .int .u8 0, .slice none 0 0, .slice none 0 0] 39
  rw [hs1] at hp hf
  have HP := Lib.hid hp
  have HPF := Lib.hid hf
  have HB := Lib.hid (below_step hb1 hb2)
  clear hb1 hb2 hs1 hx hp hf hxf
  have HA := Lib.hid (HA0.out.below HB.out)
  go_enter Tryz.func79, Tryz.ntmps79
  go_upto_region 1 with (fail)
  generalize ((w.alloc (.cells #[.int .u8 e.v, .int .u8 e.k, .slice A e.ns.length ca, .slice C e.ts.length cc] 39)).alloc (.cells #[.int .u8 0, .int .u8 0, .slice none 0 0, .slice none 0 0] 39)) = W at HX HXF HP HPF HB HA ⊢
  obtain ⟨x0, x1, x2, x3⟩ := HX.out
  go_wp2_with fail
  clear x0 x1 x2 x3
  refine (rMay_any A ca C cc e W HA.out).mono ?_
  rintro z W2 ⟨rfl, hb⟩
  replace HX := Lib.hid (HX.out.below hb)
  replace HXF := Lib.hid (free_below HXF.out hb)
  replace HP := Lib.hid (HP.out.below hb)
  replace HPF := Lib.hid (free_below HPF.out hb)
  replace HA := Lib.hid (HA.out.below hb)
  replace HB := Lib.hid (below_step HB.out hb)
  clear hb
  cases hm : may e with
  | false =>
    have HDN := Lib.hid (Down_no hm)
    clear hm
    obtain ⟨p0, p1, p2, p3⟩ := HP.out
    have f0 := HPF.out.2 0
    have f1 := HPF.out.2 1
    have f2 := HPF.out.2 2
    have f3 := HPF.out.2 3
    go_wp2_with fail
    clear p0 p1 p2 p3 f0 f1 f2 f3
    obtain ⟨d0, d1, d2, d3⟩ := HP.out.set4 (.int .u8 0) (.int .u8 0) (.slice none 0 0) (.slice none 0 0)
    refine bodyPost_ret (v := .tuple #[.agg #[.int .u8 0, .int .u8 0, .slice none 0 0, .slice none 0 0], .int .i64 4]) (by simp [results, Tryz.results79, go_sem, d0, d1, d2, d3]) rfl ?_
    rw [HDN.out]
    exact ⟨rfl, HB.out.trans ((touch4 W2 (w.heap.size + 1) _ _ _ _).below (Nat.le_succ _) HB.out.size)⟩
  | true =>
    have HM := Lib.hid hm
    have HO := Lib.hid (may_out hm)
    clear hm
    obtain ⟨v, hvv⟩ : ∃ v, v = e.v - 1 := ⟨_, rfl⟩
    have hve : e.v = v + 1 := by (have := HO.out.v1; omega)
    have hv3 : v < 3 := by (have := HO.out.v3; omega)
    have HVE := Lib.hid hve
    have HV3 := Lib.hid hv3
    have hvw : IntKind.u8.wrap ((e.v : Int) - 1) = (v : Int) := by (rw [IntKind.wrap_u8]; omega)
    have hvw2 : ((e.v : Int) - 1) % 256 = (v : Int) := by omega
    have HDN := Lib.hid (down_is HM.out)
    clear hvv hve hv3
    obtain ⟨x0, x1, x2, x3⟩ := HX.out
    go_wp2_with fail
    clear x0 x1 x2 x3 hvw hvw2
    refine (rFields_any v e.k (by have := HV3.out; omega) HA0.out.k W2).mono ?_
    rintro z W3 ⟨rfl, rfl⟩
    cases ht : tall v e.k with
    | false =>
      replace HDN := Lib.hid (HDN.out.trans (dK_no HVE.out ht))
      clear ht
      obtain ⟨p0, p1, p2, p3⟩ := HP.out
      have f0 := HPF.out.2 0
      have f1 := HPF.out.2 1
      have f2 := HPF.out.2 2
      have f3 := HPF.out.2 3
      go_wp2_with fail
      clear p0 p1 p2 p3 f0 f1 f2 f3
      obtain ⟨d0, d1, d2, d3⟩ := HP.out.set4 (.int .u8 0) (.int .u8 0) (.slice none 0 0) (.slice none 0 0)
      refine bodyPost_ret (v := .tuple #[.agg #[.int .u8 0, .int .u8 0, .slice none 0 0, .slice none 0 0], .int .i64 43]) (by simp [results, Tryz.results79, go_sem, d0, d1, d2, d3]) rfl ?_
      rw [HDN.out]
      exact ⟨rfl, HB.out.trans ((touch4 W2 (w.heap.size + 1) _ _ _ _).below (Nat.le_succ _) HB.out.size)⟩
    | true =>
      have HTL := Lib.hid ht
      have HLN := Lib.hid (show e.ns.length = (lets (v + 1) e.k).size by rw [← HVE.out]; exact HO.out.ln)
      clear ht
      obtain ⟨x0, x1, x2, x3⟩ := HX.out
      go_wp2_with fail
      clear x0 x1 x2 x3
      refine (rMore_any e.k W2).mono ?_
      rintro z W4 ⟨rfl, hw⟩
      subst hw
      have HI : Hid (RuI w A ca C cc e (.slice none 0 0) (dnK v e.k e.ns 0) W4) := Lib.hid ⟨HB.out, HX.out, HP.out, HPF.out, Own.nil _ _ _⟩
      have hfew := lets_few (v + 1) e.k
      rw [← HLN.out] at hfew
      have HFEW := Lib.hid hfew
      have HOKS : Hid (∀ j, j < 0 → okD e.ns j (ruAt v e.k j) = true) := Lib.hid (fun j hj => absurd hj (by omega))
      clear hfew HX HXF HP HPF HB HA
      go_wp2_with fail
      go_loopw [10, 11] (fun n i wr => ∃ (k : Nat) (z : Value), k ≤ e.ns.length ∧ i = .int .i64 k ∧ n = z ∧ Hid (RuI w A ca C cc e z (dnK v e.k e.ns k) wr) ∧ Hid (∀ j, j < k → okD e.ns j (ruAt v e.k j) = true)) (fun _ i _ => e.ns.length - (intOf i).toNat)
      case atStart => exact ⟨0, _, Nat.zero_le _, rfl, rfl, HI, HOKS⟩
      case round =>
        clear HI HOKS
        obtain ⟨k, z, hk, rfl, rfl, HI, HOKS⟩ := hrel
        by_cases hlt : k < e.ns.length
        case pos =>
          have hfew := HFEW.out
          have zk : IntKind.i64.wrap ((k : Int) + 1) = (k : Int) + 1 := by (rw [IntKind.wrap_i64]; omega)
          have z0 : (0 : Int) ≤ (k : Int) := by omega
          have z1 : (k : Int) < (e.ns.length : Int) := by omega
          have HLT := Lib.hid hlt
          have HI8 := Lib.hid (show k < (lets (v + 1) e.k).size by rw [← HLN.out]; exact hlt)
          obtain ⟨b, o, rfl, c0⟩ := ((HA0.out.below HI.out.bel).ns) k _ (nums_at e.ns k hlt)
          have HRG := Lib.hid (HO.out.rng k)
          have HBAD := Lib.hid (fun h => dK_bad (e := e) HVE.out HTL.out HV3.out HI8.out h)
          have HST := Lib.hid (show dnK v e.k e.ns (k + 1) = stK v e.k e.ns k (dnK v e.k e.ns k) from rfl)
          unfold stK at HST
          have HLEN := Lib.hid (dnK_len v e.k e.ns k)
          cases hn : newK v e.k k with
          | true =>
            have hnn := (newK_iff v e.k k).1 hn
            have HOD := Lib.hid (okD_new HTL.out HV3.out HI8.out hn e.ns)
            rw [hn, if_pos rfl] at HST
            clear hn
            have zp : plcK e.k = (k : Int) := hnn.2.2
            have zv : ((v : Int) == 1) = true := by (rw [hnn.1]; rfl)
            have zv2 : (v : Int) = 1 := by (rw [hnn.1]; rfl)
            have zq : ((k : Int) == plcK e.k) = true := by (rw [zp]; exact beq_self_eq_true _)
            clear hnn
            generalize e.ns.getD k 0 = x at c0 HRG HOD
            generalize plsK e.k = y at HOD ⊢
            generalize plcK e.k = pk at zp zq ⊢
            subst zp
            by_cases hxy : x = y
            case pos =>
              have zx : (x != y) = false := by (rw [hxy]; simp)
              have HOK2 : Hid (∀ j, j < k + 1 → okD e.ns j (ruAt v e.k j) = true) := Lib.hid (fun j hj => by
                by_cases hjk : j = k
                · rw [hjk, HOD.out]; exact decide_eq_true hxy
                · exact HOKS.out j (by omega))
              subst hxy
              obtain ⟨x0, x1, x2, x3⟩ := HI.out.x
              go_wp2_with fail
              clear x0 x1 x2 x3
              go_roundw
              case rel => exact ⟨k + 1, _, by have := HLT.out; omega, by go_num, rfl, by rw [HST.out]; exact HI, HOK2⟩
              case measure => simp [intOf] <;> (have := HLT.out; omega)
            case neg =>
              have zx : (x != y) = true := by (rw [bne_iff_ne]; exact hxy)
              replace HDN := Lib.hid (HDN.out.trans (HBAD.out (HOD.out.trans (decide_eq_false hxy))))
              have HX := Lib.hid HI.out.x
              have HP := Lib.hid HI.out.p
              have HPF := Lib.hid HI.out.pf
              have HB := Lib.hid HI.out.bel
              obtain ⟨x0, x1, x2, x3⟩ := HI.out.x
              go_upto_region 14 with (fail)
              clear x0 x1 x2 x3
              obtain ⟨p0, p1, p2, p3⟩ := HP.out
              have f0 := HPF.out.2 0
              have f1 := HPF.out.2 1
              have f2 := HPF.out.2 2
              have f3 := HPF.out.2 3
              go_wp2_with fail
              clear p0 p1 p2 p3 f0 f1 f2 f3
              obtain ⟨d0, d1, d2, d3⟩ := HP.out.set4 (.int .u8 0) (.int .u8 0) (.slice none 0 0) (.slice none 0 0)
              refine bodyPost_ret (v := .tuple #[.agg #[.int .u8 0, .int .u8 0, .slice none 0 0, .slice none 0 0], .int .i64 43]) (by simp [results, Tryz.results79, go_sem, d0, d1, d2, d3]) rfl ?_
              rw [HDN.out]
              exact ⟨rfl, HB.out.trans ((touch4 wr (w.heap.size + 1) _ _ _ _).below (Nat.le_succ _) HB.out.size)⟩
          | false =>
            have hno := newK_no hn
            have HOD := Lib.hid (okD_old HTL.out HV3.out HI8.out hn e.ns)
            have hql := idxK_lt HTL.out HV3.out HI8.out hn
            rw [hn, if_neg (by decide)] at HST
            clear hn
            obtain ⟨An, cn, hz, hvn, hnn, hln, -⟩ := HI.out.own.vat
            subst hz
            rw [nums_len, HLEN.out] at hln
            skip
            have HVN := Lib.hid hvn
            have HNN := Lib.hid hnn
            have HLN2 := Lib.hid hln
            clear hvn hnn hln
            have hnl : (nums (dnK v e.k e.ns k)).length = idxK v e.k k := by rw [nums_len]; exact HLEN.out
            rw [hnl] at HI ⊢
            clear hnl
            unfold takeK at HOD HST
            skip
            have hsc : ((lets v e.k)[idxK v e.k k]'hql).toNat = byteAt (lets v e.k) (idxK v e.k k) := byteAt_eq _ _ hql
            have hc8 := byteAt_lt (lets v e.k) (idxK v e.k k)
            have hsz := lets_few v e.k
            have hne : v = 1 → plcK e.k ≠ (k : Int) := fun h1 h2 => hno ⟨h1, by omega, h2⟩
            clear hno
            generalize plcK e.k = pk at hne ⊢
            generalize plsK e.k = py
            generalize e.ns.getD k 0 = x at c0 HRG HOD HST
            generalize dnK v e.k e.ns k = l at HI HLEN HST
            generalize idxK v e.k k = q at hql hsc hc8 HOD HST HI HLEN HLN2 ⊢
            generalize hs : lets v e.k = s at hql hsc hc8 hsz HOD HST ⊢
            clear hs
            have z2 : (0 : Int) ≤ (q : Int) := by omega
            have z3 : (q : Int) < (s.size : Int) := by omega
            have z9 : ((s[q]'hql).toNat : Int) = (byteAt s q : Int) := by rw [hsc]
            generalize byteAt s q = c at hsc hc8 z9 HOD HST
            rcases (show v = 1 ∨ v = 2 by (have h1 := (tall_range HTL.out).1; have h2 := HV3.out; omega)) with hv | hv
            · skip
              have zv1 : ((v : Int) == 1) = true := by (rw [hv]; rfl)
              have zw1 : (v == 1) = true := by (rw [hv]; rfl)
              have zd1 : decide (v = 1) = true := decide_eq_true (by omega)
              have zv2 : ((v : Int) == 2) = false := by (rw [beq_eq_false_iff_ne]; omega)
              have zw2 : (v == 2) = false := by (rw [beq_eq_false_iff_ne]; omega)
              have zd2 : decide (v = 2) = false := decide_eq_false (by omega)
              have zn2 : ¬ (v : Int) = 2 := by omega
              have zr : ((k : Int) == pk) = false := by (rw [beq_eq_false_iff_ne]; exact fun h => hne hv h.symm)
              have zr2 : ¬ (k : Int) = pk := fun h => hne hv h.symm
              have HV1 := Lib.hid hv
              clear hne hv
              obtain ⟨x0, x1, x2, x3⟩ := HI.out.x
              go_upto_region 16 with (fail)
              have HLE := Lib.hid (show l.length ≤ 10 by rw [HLEN.out]; omega)
              clear x0 x1 x2 x3 z2 z3 z9 hsc hql hsz
              generalize Value.slice An q cn = sl at HI ⊢
              by_cases n109 : c = 109
              case pos =>
                subst n109
                obtain ⟨t, ht⟩ : ∃ t : Int, t = 100 := ⟨_, rfl⟩
                obtain ⟨y, hy⟩ : ∃ y : Int, y = x := ⟨_, rfl⟩
                have hpl : x - plK v 109 = y := by unfold plK; rw [HV1.out, hy]; simp
                have hti : tiK v 109 = t := by unfold tiK; rw [HV1.out, ht]; simp
                rw [hpl, hti] at HOD HST
                clear hpl hti
                have hr := HRG.out
                obtain ⟨x0, x1, x2, x3⟩ := HI.out.x
                go_upto_region 23 with (fail)
                clear x0 x1 x2 x3 c0
                rw [show Value.int IntKind.i64 100 = Value.int IntKind.i64 t by rw [ht]]
                subst hy
                have hyb : -100 ≤ y ∧ y ≤ 1125899906842624 := by omega
                have hti1 : 1 ≤ t := by omega
                have hti2 : t ≤ 100 := by omega
                clear ht hr
                have q3 : ¬ t = 0 := by omega
                have q4 : (t == 0) = false := beq_eq_false_iff_ne.2 q3
                have hq := tdiv_bound y t hyb hti1
                have hm := tmod_bound y t hyb hti1
                have hqw : IntKind.i64.wrap (y.tdiv t) = y.tdiv t := IntWalk.i64_in _ (by omega)
                have hmw : IntKind.i64.wrap (y.tmod t) = y.tmod t := IntWalk.i64_in _ (by omega)
                by_cases hy0 : y.tmod t = 0
                case neg =>
                  replace HDN := Lib.hid (HDN.out.trans (HBAD.out (HOD.out.trans (decide_eq_false hy0))))
                  have q5 : (y.tmod t == 0) = false := beq_eq_false_iff_ne.2 hy0
                  have HX := Lib.hid HI.out.x
                  have HP := Lib.hid HI.out.p
                  have HPF := Lib.hid HI.out.pf
                  have HB := Lib.hid HI.out.bel
                  go_upto_region 24 with (fail)
                  clear q3 q4 q5 hq hm hqw hmw hy0 hti1 hti2 hyb z0 z1 zk hfew hlt
                  obtain ⟨p0, p1, p2, p3⟩ := HP.out
                  have f0 := HPF.out.2 0
                  have f1 := HPF.out.2 1
                  have f2 := HPF.out.2 2
                  have f3 := HPF.out.2 3
                  go_wp2_with fail
                  clear p0 p1 p2 p3 f0 f1 f2 f3
                  obtain ⟨d0, d1, d2, d3⟩ := HP.out.set4 (.int .u8 0) (.int .u8 0) (.slice none 0 0) (.slice none 0 0)
                  refine bodyPost_ret (v := .tuple #[.agg #[.int .u8 0, .int .u8 0, .slice none 0 0, .slice none 0 0], .int .i64 43]) (by simp [results, Tryz.results79, go_sem, d0, d1, d2, d3]) rfl ?_
                  rw [HDN.out]
                  exact ⟨rfl, HB.out.trans ((touch4 wr (w.heap.size + 1) _ _ _ _).below (Nat.le_succ _) HB.out.size)⟩
                have q5 : (y.tmod t == 0) = true := by rw [hy0]; rfl
                have HOK2 : Hid (∀ j, j < k + 1 → okD e.ns j (ruAt v e.k j) = true) := Lib.hid (fun j hj => by
                  by_cases hjk : j = k
                  · rw [hjk, HOD.out]; exact decide_eq_true hy0
                  · exact HOKS.out j (by omega))
                have HI1 := Lib.hid (HI.out.low (((Below.refl wr.heap.size wr).alloc (Nat.le_refl _) (.cells #[.int .i64 (y.tdiv t)] 2)).mono HI.out.sz) (HI.out.own.below ((Below.refl wr.heap.size wr).alloc (Nat.le_refl _) (.cells #[.int .i64 (y.tdiv t)] 2))))
                go_wp2_with (at_builtin; refine wpList_append_vals 36 2 (.int .i64 0) 8 Tryz.underlying36 infoN rfl (by decide) rfl (.tmp 104) (.tmp 108) rfl (w.heap.size + 2) _ (nums l) rfl HI1.out.own (some ⟨wr.heap.size, 0, none⟩) 1 1 [.int .i64 (y.tdiv t)] rfl rfl (vat_new wr _ _) (by simp; rfl) (by simp) (by rw [nums_len]; have := HLE.out; simp; omega) HI1.out.sz ?_)
                intro v' W5 hO hg
                have HI2 := Lib.hid (HI1.out.low (l' := l ++ [y.tdiv t]) (below_grown HI1.out.own (Nat.le_refl _) HI1.out.sz hg) (by rw [nums_snoc]; exact hO))
                clear hO hg HI1
                go_wp2_with fail
                go_roundw
                case rel => exact ⟨k + 1, _, by have := HLT.out; omega, by go_num, rfl, by rw [HST.out]; exact HI2, HOK2⟩
                case measure => simp [intOf] <;> (have := HLT.out; omega)
              case neg =>
                by_cases n112 : c = 112
                case pos =>
                  subst n112
                  obtain ⟨t, ht⟩ : ∃ t : Int, t = 100 := ⟨_, rfl⟩
                  obtain ⟨y, hy⟩ : ∃ y : Int, y = x := ⟨_, rfl⟩
                  have hpl : x - plK v 112 = y := by unfold plK; rw [HV1.out, hy]; simp
                  have hti : tiK v 112 = t := by unfold tiK; rw [HV1.out, ht]; simp
                  rw [hpl, hti] at HOD HST
                  clear hpl hti
                  have hr := HRG.out
                  obtain ⟨x0, x1, x2, x3⟩ := HI.out.x
                  go_upto_region 23 with (fail)
                  clear x0 x1 x2 x3 c0
                  rw [show Value.int IntKind.i64 100 = Value.int IntKind.i64 t by rw [ht]]
                  subst hy
                  have hyb : -100 ≤ y ∧ y ≤ 1125899906842624 := by omega
                  have hti1 : 1 ≤ t := by omega
                  have hti2 : t ≤ 100 := by omega
                  clear ht hr
                  have q3 : ¬ t = 0 := by omega
                  have q4 : (t == 0) = false := beq_eq_false_iff_ne.2 q3
                  have hq := tdiv_bound y t hyb hti1
                  have hm := tmod_bound y t hyb hti1
                  have hqw : IntKind.i64.wrap (y.tdiv t) = y.tdiv t := IntWalk.i64_in _ (by omega)
                  have hmw : IntKind.i64.wrap (y.tmod t) = y.tmod t := IntWalk.i64_in _ (by omega)
                  by_cases hy0 : y.tmod t = 0
                  case neg =>
                    replace HDN := Lib.hid (HDN.out.trans (HBAD.out (HOD.out.trans (decide_eq_false hy0))))
                    have q5 : (y.tmod t == 0) = false := beq_eq_false_iff_ne.2 hy0
                    have HX := Lib.hid HI.out.x
                    have HP := Lib.hid HI.out.p
                    have HPF := Lib.hid HI.out.pf
                    have HB := Lib.hid HI.out.bel
                    go_upto_region 24 with (fail)
                    clear q3 q4 q5 hq hm hqw hmw hy0 hti1 hti2 hyb z0 z1 zk hfew hlt
                    obtain ⟨p0, p1, p2, p3⟩ := HP.out
                    have f0 := HPF.out.2 0
                    have f1 := HPF.out.2 1
                    have f2 := HPF.out.2 2
                    have f3 := HPF.out.2 3
                    go_wp2_with fail
                    clear p0 p1 p2 p3 f0 f1 f2 f3
                    obtain ⟨d0, d1, d2, d3⟩ := HP.out.set4 (.int .u8 0) (.int .u8 0) (.slice none 0 0) (.slice none 0 0)
                    refine bodyPost_ret (v := .tuple #[.agg #[.int .u8 0, .int .u8 0, .slice none 0 0, .slice none 0 0], .int .i64 43]) (by simp [results, Tryz.results79, go_sem, d0, d1, d2, d3]) rfl ?_
                    rw [HDN.out]
                    exact ⟨rfl, HB.out.trans ((touch4 wr (w.heap.size + 1) _ _ _ _).below (Nat.le_succ _) HB.out.size)⟩
                  have q5 : (y.tmod t == 0) = true := by rw [hy0]; rfl
                  have HOK2 : Hid (∀ j, j < k + 1 → okD e.ns j (ruAt v e.k j) = true) := Lib.hid (fun j hj => by
                    by_cases hjk : j = k
                    · rw [hjk, HOD.out]; exact decide_eq_true hy0
                    · exact HOKS.out j (by omega))
                  have HI1 := Lib.hid (HI.out.low (((Below.refl wr.heap.size wr).alloc (Nat.le_refl _) (.cells #[.int .i64 (y.tdiv t)] 2)).mono HI.out.sz) (HI.out.own.below ((Below.refl wr.heap.size wr).alloc (Nat.le_refl _) (.cells #[.int .i64 (y.tdiv t)] 2))))
                  go_wp2_with (at_builtin; refine wpList_append_vals 36 2 (.int .i64 0) 8 Tryz.underlying36 infoN rfl (by decide) rfl (.tmp 104) (.tmp 108) rfl (w.heap.size + 2) _ (nums l) rfl HI1.out.own (some ⟨wr.heap.size, 0, none⟩) 1 1 [.int .i64 (y.tdiv t)] rfl rfl (vat_new wr _ _) (by simp; rfl) (by simp) (by rw [nums_len]; have := HLE.out; simp; omega) HI1.out.sz ?_)
                  intro v' W5 hO hg
                  have HI2 := Lib.hid (HI1.out.low (l' := l ++ [y.tdiv t]) (below_grown HI1.out.own (Nat.le_refl _) HI1.out.sz hg) (by rw [nums_snoc]; exact hO))
                  clear hO hg HI1
                  go_wp2_with fail
                  go_roundw
                  case rel => exact ⟨k + 1, _, by have := HLT.out; omega, by go_num, rfl, by rw [HST.out]; exact HI2, HOK2⟩
                  case measure => simp [intOf] <;> (have := HLT.out; omega)
                case neg =>
                  by_cases n98 : c = 98
                  case pos =>
                    subst n98
                    obtain ⟨t, ht⟩ : ∃ t : Int, t = 100 := ⟨_, rfl⟩
                    obtain ⟨y, hy⟩ : ∃ y : Int, y = x := ⟨_, rfl⟩
                    have hpl : x - plK v 98 = y := by unfold plK; rw [HV1.out, hy]; simp
                    have hti : tiK v 98 = t := by unfold tiK; rw [HV1.out, ht]; simp
                    rw [hpl, hti] at HOD HST
                    clear hpl hti
                    have hr := HRG.out
                    obtain ⟨x0, x1, x2, x3⟩ := HI.out.x
                    go_upto_region 23 with (fail)
                    clear x0 x1 x2 x3 c0
                    rw [show Value.int IntKind.i64 100 = Value.int IntKind.i64 t by rw [ht]]
                    subst hy
                    have hyb : -100 ≤ y ∧ y ≤ 1125899906842624 := by omega
                    have hti1 : 1 ≤ t := by omega
                    have hti2 : t ≤ 100 := by omega
                    clear ht hr
                    have q3 : ¬ t = 0 := by omega
                    have q4 : (t == 0) = false := beq_eq_false_iff_ne.2 q3
                    have hq := tdiv_bound y t hyb hti1
                    have hm := tmod_bound y t hyb hti1
                    have hqw : IntKind.i64.wrap (y.tdiv t) = y.tdiv t := IntWalk.i64_in _ (by omega)
                    have hmw : IntKind.i64.wrap (y.tmod t) = y.tmod t := IntWalk.i64_in _ (by omega)
                    by_cases hy0 : y.tmod t = 0
                    case neg =>
                      replace HDN := Lib.hid (HDN.out.trans (HBAD.out (HOD.out.trans (decide_eq_false hy0))))
                      have q5 : (y.tmod t == 0) = false := beq_eq_false_iff_ne.2 hy0
                      have HX := Lib.hid HI.out.x
                      have HP := Lib.hid HI.out.p
                      have HPF := Lib.hid HI.out.pf
                      have HB := Lib.hid HI.out.bel
                      go_upto_region 24 with (fail)
                      clear q3 q4 q5 hq hm hqw hmw hy0 hti1 hti2 hyb z0 z1 zk hfew hlt
                      obtain ⟨p0, p1, p2, p3⟩ := HP.out
                      have f0 := HPF.out.2 0
                      have f1 := HPF.out.2 1
                      have f2 := HPF.out.2 2
                      have f3 := HPF.out.2 3
                      go_wp2_with fail
                      clear p0 p1 p2 p3 f0 f1 f2 f3
                      obtain ⟨d0, d1, d2, d3⟩ := HP.out.set4 (.int .u8 0) (.int .u8 0) (.slice none 0 0) (.slice none 0 0)
                      refine bodyPost_ret (v := .tuple #[.agg #[.int .u8 0, .int .u8 0, .slice none 0 0, .slice none 0 0], .int .i64 43]) (by simp [results, Tryz.results79, go_sem, d0, d1, d2, d3]) rfl ?_
                      rw [HDN.out]
                      exact ⟨rfl, HB.out.trans ((touch4 wr (w.heap.size + 1) _ _ _ _).below (Nat.le_succ _) HB.out.size)⟩
                    have q5 : (y.tmod t == 0) = true := by rw [hy0]; rfl
                    have HOK2 : Hid (∀ j, j < k + 1 → okD e.ns j (ruAt v e.k j) = true) := Lib.hid (fun j hj => by
                      by_cases hjk : j = k
                      · rw [hjk, HOD.out]; exact decide_eq_true hy0
                      · exact HOKS.out j (by omega))
                    have HI1 := Lib.hid (HI.out.low (((Below.refl wr.heap.size wr).alloc (Nat.le_refl _) (.cells #[.int .i64 (y.tdiv t)] 2)).mono HI.out.sz) (HI.out.own.below ((Below.refl wr.heap.size wr).alloc (Nat.le_refl _) (.cells #[.int .i64 (y.tdiv t)] 2))))
                    go_wp2_with (at_builtin; refine wpList_append_vals 36 2 (.int .i64 0) 8 Tryz.underlying36 infoN rfl (by decide) rfl (.tmp 104) (.tmp 108) rfl (w.heap.size + 2) _ (nums l) rfl HI1.out.own (some ⟨wr.heap.size, 0, none⟩) 1 1 [.int .i64 (y.tdiv t)] rfl rfl (vat_new wr _ _) (by simp; rfl) (by simp) (by rw [nums_len]; have := HLE.out; simp; omega) HI1.out.sz ?_)
                    intro v' W5 hO hg
                    have HI2 := Lib.hid (HI1.out.low (l' := l ++ [y.tdiv t]) (below_grown HI1.out.own (Nat.le_refl _) HI1.out.sz hg) (by rw [nums_snoc]; exact hO))
                    clear hO hg HI1
                    go_wp2_with fail
                    go_roundw
                    case rel => exact ⟨k + 1, _, by have := HLT.out; omega, by go_num, rfl, by rw [HST.out]; exact HI2, HOK2⟩
                    case measure => simp [intOf] <;> (have := HLT.out; omega)
                  case neg =>
                    have m109 : ((c : Int) == 109) = false := by (rw [beq_eq_false_iff_ne]; omega)
                    have p109 : ¬ (c : Int) = 109 := by omega
                    have m112 : ((c : Int) == 112) = false := by (rw [beq_eq_false_iff_ne]; omega)
                    have p112 : ¬ (c : Int) = 112 := by omega
                    have m98 : ((c : Int) == 98) = false := by (rw [beq_eq_false_iff_ne]; omega)
                    have p98 : ¬ (c : Int) = 98 := by omega
                    obtain ⟨t, ht⟩ : ∃ t : Int, t = 1 := ⟨_, rfl⟩
                    obtain ⟨y, hy⟩ : ∃ y : Int, y = x := ⟨_, rfl⟩
                    have hpl : x - plK v c = y := by unfold plK; rw [HV1.out, hy]; simp [n109, n112, n98]
                    have hti : tiK v c = t := by unfold tiK; rw [HV1.out, ht]; simp [n109, n112, n98]
                    rw [hpl, hti] at HOD HST
                    clear hpl hti
                    have hr := HRG.out
                    obtain ⟨x0, x1, x2, x3⟩ := HI.out.x
                    go_upto_region 23 with (fail)
                    clear x0 x1 x2 x3 c0
                    rw [show Value.int IntKind.i64 1 = Value.int IntKind.i64 t by rw [ht]]
                    subst hy
                    have hyb : -100 ≤ y ∧ y ≤ 1125899906842624 := by omega
                    have hti1 : 1 ≤ t := by omega
                    have hti2 : t ≤ 100 := by omega
                    clear ht hr
                    have q3 : ¬ t = 0 := by omega
                    have q4 : (t == 0) = false := beq_eq_false_iff_ne.2 q3
                    have hq := tdiv_bound y t hyb hti1
                    have hm := tmod_bound y t hyb hti1
                    have hqw : IntKind.i64.wrap (y.tdiv t) = y.tdiv t := IntWalk.i64_in _ (by omega)
                    have hmw : IntKind.i64.wrap (y.tmod t) = y.tmod t := IntWalk.i64_in _ (by omega)
                    by_cases hy0 : y.tmod t = 0
                    case neg =>
                      replace HDN := Lib.hid (HDN.out.trans (HBAD.out (HOD.out.trans (decide_eq_false hy0))))
                      have q5 : (y.tmod t == 0) = false := beq_eq_false_iff_ne.2 hy0
                      have HX := Lib.hid HI.out.x
                      have HP := Lib.hid HI.out.p
                      have HPF := Lib.hid HI.out.pf
                      have HB := Lib.hid HI.out.bel
                      go_upto_region 24 with (fail)
                      clear q3 q4 q5 hq hm hqw hmw hy0 hti1 hti2 hyb z0 z1 zk hfew hlt
                      obtain ⟨p0, p1, p2, p3⟩ := HP.out
                      have f0 := HPF.out.2 0
                      have f1 := HPF.out.2 1
                      have f2 := HPF.out.2 2
                      have f3 := HPF.out.2 3
                      go_wp2_with fail
                      clear p0 p1 p2 p3 f0 f1 f2 f3
                      obtain ⟨d0, d1, d2, d3⟩ := HP.out.set4 (.int .u8 0) (.int .u8 0) (.slice none 0 0) (.slice none 0 0)
                      refine bodyPost_ret (v := .tuple #[.agg #[.int .u8 0, .int .u8 0, .slice none 0 0, .slice none 0 0], .int .i64 43]) (by simp [results, Tryz.results79, go_sem, d0, d1, d2, d3]) rfl ?_
                      rw [HDN.out]
                      exact ⟨rfl, HB.out.trans ((touch4 wr (w.heap.size + 1) _ _ _ _).below (Nat.le_succ _) HB.out.size)⟩
                    have q5 : (y.tmod t == 0) = true := by rw [hy0]; rfl
                    have HOK2 : Hid (∀ j, j < k + 1 → okD e.ns j (ruAt v e.k j) = true) := Lib.hid (fun j hj => by
                      by_cases hjk : j = k
                      · rw [hjk, HOD.out]; exact decide_eq_true hy0
                      · exact HOKS.out j (by omega))
                    have HI1 := Lib.hid (HI.out.low (((Below.refl wr.heap.size wr).alloc (Nat.le_refl _) (.cells #[.int .i64 (y.tdiv t)] 2)).mono HI.out.sz) (HI.out.own.below ((Below.refl wr.heap.size wr).alloc (Nat.le_refl _) (.cells #[.int .i64 (y.tdiv t)] 2))))
                    go_wp2_with (at_builtin; refine wpList_append_vals 36 2 (.int .i64 0) 8 Tryz.underlying36 infoN rfl (by decide) rfl (.tmp 104) (.tmp 108) rfl (w.heap.size + 2) _ (nums l) rfl HI1.out.own (some ⟨wr.heap.size, 0, none⟩) 1 1 [.int .i64 (y.tdiv t)] rfl rfl (vat_new wr _ _) (by simp; rfl) (by simp) (by rw [nums_len]; have := HLE.out; simp; omega) HI1.out.sz ?_)
                    intro v' W5 hO hg
                    have HI2 := Lib.hid (HI1.out.low (l' := l ++ [y.tdiv t]) (below_grown HI1.out.own (Nat.le_refl _) HI1.out.sz hg) (by rw [nums_snoc]; exact hO))
                    clear hO hg HI1
                    go_wp2_with fail
                    go_roundw
                    case rel => exact ⟨k + 1, _, by have := HLT.out; omega, by go_num, rfl, by rw [HST.out]; exact HI2, HOK2⟩
                    case measure => simp [intOf] <;> (have := HLT.out; omega)
            · skip
              have zv1 : ((v : Int) == 1) = false := by (rw [beq_eq_false_iff_ne]; omega)
              have zw1 : (v == 1) = false := by (rw [beq_eq_false_iff_ne]; omega)
              have zd1 : decide (v = 1) = false := decide_eq_false (by omega)
              have zn1 : ¬ (v : Int) = 1 := by omega
              have zv2 : ((v : Int) == 2) = true := by (rw [hv]; rfl)
              have zw2 : (v == 2) = true := by (rw [hv]; rfl)
              have zd2 : decide (v = 2) = true := decide_eq_true (by omega)
              have HV1 := Lib.hid hv
              clear hne hv
              obtain ⟨x0, x1, x2, x3⟩ := HI.out.x
              go_upto_region 16 with (fail)
              have HLE := Lib.hid (show l.length ≤ 10 by rw [HLEN.out]; omega)
              clear x0 x1 x2 x3 z2 z3 z9 hsc hql hsz
              generalize Value.slice An q cn = sl at HI ⊢
              by_cases n116 : c = 116
              case pos =>
                subst n116
                obtain ⟨t, ht⟩ : ∃ t : Int, t = 10 := ⟨_, rfl⟩
                obtain ⟨y, hy⟩ : ∃ y : Int, y = x := ⟨_, rfl⟩
                have hpl : x - plK v 116 = y := by unfold plK; rw [HV1.out, hy]; simp
                have hti : tiK v 116 = t := by unfold tiK; rw [HV1.out, ht]; simp
                rw [hpl, hti] at HOD HST
                clear hpl hti
                have hr := HRG.out
                obtain ⟨x0, x1, x2, x3⟩ := HI.out.x
                go_upto_region 23 with (fail)
                clear x0 x1 x2 x3 c0
                rw [show Value.int IntKind.i64 10 = Value.int IntKind.i64 t by rw [ht]]
                subst hy
                have hyb : -100 ≤ y ∧ y ≤ 1125899906842624 := by omega
                have hti1 : 1 ≤ t := by omega
                have hti2 : t ≤ 100 := by omega
                clear ht hr
                have q3 : ¬ t = 0 := by omega
                have q4 : (t == 0) = false := beq_eq_false_iff_ne.2 q3
                have hq := tdiv_bound y t hyb hti1
                have hm := tmod_bound y t hyb hti1
                have hqw : IntKind.i64.wrap (y.tdiv t) = y.tdiv t := IntWalk.i64_in _ (by omega)
                have hmw : IntKind.i64.wrap (y.tmod t) = y.tmod t := IntWalk.i64_in _ (by omega)
                by_cases hy0 : y.tmod t = 0
                case neg =>
                  replace HDN := Lib.hid (HDN.out.trans (HBAD.out (HOD.out.trans (decide_eq_false hy0))))
                  have q5 : (y.tmod t == 0) = false := beq_eq_false_iff_ne.2 hy0
                  have HX := Lib.hid HI.out.x
                  have HP := Lib.hid HI.out.p
                  have HPF := Lib.hid HI.out.pf
                  have HB := Lib.hid HI.out.bel
                  go_upto_region 24 with (fail)
                  clear q3 q4 q5 hq hm hqw hmw hy0 hti1 hti2 hyb z0 z1 zk hfew hlt
                  obtain ⟨p0, p1, p2, p3⟩ := HP.out
                  have f0 := HPF.out.2 0
                  have f1 := HPF.out.2 1
                  have f2 := HPF.out.2 2
                  have f3 := HPF.out.2 3
                  go_wp2_with fail
                  clear p0 p1 p2 p3 f0 f1 f2 f3
                  obtain ⟨d0, d1, d2, d3⟩ := HP.out.set4 (.int .u8 0) (.int .u8 0) (.slice none 0 0) (.slice none 0 0)
                  refine bodyPost_ret (v := .tuple #[.agg #[.int .u8 0, .int .u8 0, .slice none 0 0, .slice none 0 0], .int .i64 43]) (by simp [results, Tryz.results79, go_sem, d0, d1, d2, d3]) rfl ?_
                  rw [HDN.out]
                  exact ⟨rfl, HB.out.trans ((touch4 wr (w.heap.size + 1) _ _ _ _).below (Nat.le_succ _) HB.out.size)⟩
                have q5 : (y.tmod t == 0) = true := by rw [hy0]; rfl
                have HOK2 : Hid (∀ j, j < k + 1 → okD e.ns j (ruAt v e.k j) = true) := Lib.hid (fun j hj => by
                  by_cases hjk : j = k
                  · rw [hjk, HOD.out]; exact decide_eq_true hy0
                  · exact HOKS.out j (by omega))
                have HI1 := Lib.hid (HI.out.low (((Below.refl wr.heap.size wr).alloc (Nat.le_refl _) (.cells #[.int .i64 (y.tdiv t)] 2)).mono HI.out.sz) (HI.out.own.below ((Below.refl wr.heap.size wr).alloc (Nat.le_refl _) (.cells #[.int .i64 (y.tdiv t)] 2))))
                go_wp2_with (at_builtin; refine wpList_append_vals 36 2 (.int .i64 0) 8 Tryz.underlying36 infoN rfl (by decide) rfl (.tmp 104) (.tmp 108) rfl (w.heap.size + 2) _ (nums l) rfl HI1.out.own (some ⟨wr.heap.size, 0, none⟩) 1 1 [.int .i64 (y.tdiv t)] rfl rfl (vat_new wr _ _) (by simp; rfl) (by simp) (by rw [nums_len]; have := HLE.out; simp; omega) HI1.out.sz ?_)
                intro v' W5 hO hg
                have HI2 := Lib.hid (HI1.out.low (l' := l ++ [y.tdiv t]) (below_grown HI1.out.own (Nat.le_refl _) HI1.out.sz hg) (by rw [nums_snoc]; exact hO))
                clear hO hg HI1
                go_wp2_with fail
                go_roundw
                case rel => exact ⟨k + 1, _, by have := HLT.out; omega, by go_num, rfl, by rw [HST.out]; exact HI2, HOK2⟩
                case measure => simp [intOf] <;> (have := HLT.out; omega)
              case neg =>
                by_cases n115 : c = 115
                case pos =>
                  subst n115
                  obtain ⟨t, ht⟩ : ∃ t : Int, t = 1 := ⟨_, rfl⟩
                  obtain ⟨y, hy⟩ : ∃ y : Int, y = x - 1 := ⟨_, rfl⟩
                  have hpl : x - plK v 115 = y := by unfold plK; rw [HV1.out, hy]; simp
                  have hti : tiK v 115 = t := by unfold tiK; rw [HV1.out, ht]; simp
                  rw [hpl, hti] at HOD HST
                  clear hpl hti
                  have hr := HRG.out
                  have zy : IntKind.i64.wrap (x - 1) = x - 1 := by (rw [IntKind.wrap_i64]; omega)
                  obtain ⟨x0, x1, x2, x3⟩ := HI.out.x
                  go_upto_region 23 with (fail)
                  clear x0 x1 x2 x3 c0 zy
                  rw [show Value.int IntKind.i64 1 = Value.int IntKind.i64 t by rw [ht]]
                  rw [show Value.int IntKind.i64 (x - 1) = Value.int IntKind.i64 y by rw [hy]]
                  have hyb : -100 ≤ y ∧ y ≤ 1125899906842624 := by omega
                  have hti1 : 1 ≤ t := by omega
                  have hti2 : t ≤ 100 := by omega
                  clear ht hr hy
                  clear HRG
                  skip
                  have q3 : ¬ t = 0 := by omega
                  have q4 : (t == 0) = false := beq_eq_false_iff_ne.2 q3
                  have hq := tdiv_bound y t hyb hti1
                  have hm := tmod_bound y t hyb hti1
                  have hqw : IntKind.i64.wrap (y.tdiv t) = y.tdiv t := IntWalk.i64_in _ (by omega)
                  have hmw : IntKind.i64.wrap (y.tmod t) = y.tmod t := IntWalk.i64_in _ (by omega)
                  by_cases hy0 : y.tmod t = 0
                  case neg =>
                    replace HDN := Lib.hid (HDN.out.trans (HBAD.out (HOD.out.trans (decide_eq_false hy0))))
                    have q5 : (y.tmod t == 0) = false := beq_eq_false_iff_ne.2 hy0
                    have HX := Lib.hid HI.out.x
                    have HP := Lib.hid HI.out.p
                    have HPF := Lib.hid HI.out.pf
                    have HB := Lib.hid HI.out.bel
                    go_upto_region 24 with (fail)
                    clear q3 q4 q5 hq hm hqw hmw hy0 hti1 hti2 hyb z0 z1 zk hfew hlt
                    obtain ⟨p0, p1, p2, p3⟩ := HP.out
                    have f0 := HPF.out.2 0
                    have f1 := HPF.out.2 1
                    have f2 := HPF.out.2 2
                    have f3 := HPF.out.2 3
                    go_wp2_with fail
                    clear p0 p1 p2 p3 f0 f1 f2 f3
                    obtain ⟨d0, d1, d2, d3⟩ := HP.out.set4 (.int .u8 0) (.int .u8 0) (.slice none 0 0) (.slice none 0 0)
                    refine bodyPost_ret (v := .tuple #[.agg #[.int .u8 0, .int .u8 0, .slice none 0 0, .slice none 0 0], .int .i64 43]) (by simp [results, Tryz.results79, go_sem, d0, d1, d2, d3]) rfl ?_
                    rw [HDN.out]
                    exact ⟨rfl, HB.out.trans ((touch4 wr (w.heap.size + 1) _ _ _ _).below (Nat.le_succ _) HB.out.size)⟩
                  have q5 : (y.tmod t == 0) = true := by rw [hy0]; rfl
                  have HOK2 : Hid (∀ j, j < k + 1 → okD e.ns j (ruAt v e.k j) = true) := Lib.hid (fun j hj => by
                    by_cases hjk : j = k
                    · rw [hjk, HOD.out]; exact decide_eq_true hy0
                    · exact HOKS.out j (by omega))
                  have HI1 := Lib.hid (HI.out.low (((Below.refl wr.heap.size wr).alloc (Nat.le_refl _) (.cells #[.int .i64 (y.tdiv t)] 2)).mono HI.out.sz) (HI.out.own.below ((Below.refl wr.heap.size wr).alloc (Nat.le_refl _) (.cells #[.int .i64 (y.tdiv t)] 2))))
                  go_wp2_with (at_builtin; refine wpList_append_vals 36 2 (.int .i64 0) 8 Tryz.underlying36 infoN rfl (by decide) rfl (.tmp 104) (.tmp 108) rfl (w.heap.size + 2) _ (nums l) rfl HI1.out.own (some ⟨wr.heap.size, 0, none⟩) 1 1 [.int .i64 (y.tdiv t)] rfl rfl (vat_new wr _ _) (by simp; rfl) (by simp) (by rw [nums_len]; have := HLE.out; simp; omega) HI1.out.sz ?_)
                  intro v' W5 hO hg
                  have HI2 := Lib.hid (HI1.out.low (l' := l ++ [y.tdiv t]) (below_grown HI1.out.own (Nat.le_refl _) HI1.out.sz hg) (by rw [nums_snoc]; exact hO))
                  clear hO hg HI1
                  go_wp2_with fail
                  go_roundw
                  case rel => exact ⟨k + 1, _, by have := HLT.out; omega, by go_num, rfl, by rw [HST.out]; exact HI2, HOK2⟩
                  case measure => simp [intOf] <;> (have := HLT.out; omega)
                case neg =>
                  have m116 : ((c : Int) == 116) = false := by (rw [beq_eq_false_iff_ne]; omega)
                  have p116 : ¬ (c : Int) = 116 := by omega
                  have m115 : ((c : Int) == 115) = false := by (rw [beq_eq_false_iff_ne]; omega)
                  have p115 : ¬ (c : Int) = 115 := by omega
                  obtain ⟨t, ht⟩ : ∃ t : Int, t = 1 := ⟨_, rfl⟩
                  obtain ⟨y, hy⟩ : ∃ y : Int, y = x := ⟨_, rfl⟩
                  have hpl : x - plK v c = y := by unfold plK; rw [HV1.out, hy]; simp [n116, n115]
                  have hti : tiK v c = t := by unfold tiK; rw [HV1.out, ht]; simp [n116, n115]
                  rw [hpl, hti] at HOD HST
                  clear hpl hti
                  have hr := HRG.out
                  obtain ⟨x0, x1, x2, x3⟩ := HI.out.x
                  go_upto_region 23 with (fail)
                  clear x0 x1 x2 x3 c0
                  rw [show Value.int IntKind.i64 1 = Value.int IntKind.i64 t by rw [ht]]
                  subst hy
                  have hyb : -100 ≤ y ∧ y ≤ 1125899906842624 := by omega
                  have hti1 : 1 ≤ t := by omega
                  have hti2 : t ≤ 100 := by omega
                  clear ht hr
                  have q3 : ¬ t = 0 := by omega
                  have q4 : (t == 0) = false := beq_eq_false_iff_ne.2 q3
                  have hq := tdiv_bound y t hyb hti1
                  have hm := tmod_bound y t hyb hti1
                  have hqw : IntKind.i64.wrap (y.tdiv t) = y.tdiv t := IntWalk.i64_in _ (by omega)
                  have hmw : IntKind.i64.wrap (y.tmod t) = y.tmod t := IntWalk.i64_in _ (by omega)
                  by_cases hy0 : y.tmod t = 0
                  case neg =>
                    replace HDN := Lib.hid (HDN.out.trans (HBAD.out (HOD.out.trans (decide_eq_false hy0))))
                    have q5 : (y.tmod t == 0) = false := beq_eq_false_iff_ne.2 hy0
                    have HX := Lib.hid HI.out.x
                    have HP := Lib.hid HI.out.p
                    have HPF := Lib.hid HI.out.pf
                    have HB := Lib.hid HI.out.bel
                    go_upto_region 24 with (fail)
                    clear q3 q4 q5 hq hm hqw hmw hy0 hti1 hti2 hyb z0 z1 zk hfew hlt
                    obtain ⟨p0, p1, p2, p3⟩ := HP.out
                    have f0 := HPF.out.2 0
                    have f1 := HPF.out.2 1
                    have f2 := HPF.out.2 2
                    have f3 := HPF.out.2 3
                    go_wp2_with fail
                    clear p0 p1 p2 p3 f0 f1 f2 f3
                    obtain ⟨d0, d1, d2, d3⟩ := HP.out.set4 (.int .u8 0) (.int .u8 0) (.slice none 0 0) (.slice none 0 0)
                    refine bodyPost_ret (v := .tuple #[.agg #[.int .u8 0, .int .u8 0, .slice none 0 0, .slice none 0 0], .int .i64 43]) (by simp [results, Tryz.results79, go_sem, d0, d1, d2, d3]) rfl ?_
                    rw [HDN.out]
                    exact ⟨rfl, HB.out.trans ((touch4 wr (w.heap.size + 1) _ _ _ _).below (Nat.le_succ _) HB.out.size)⟩
                  have q5 : (y.tmod t == 0) = true := by rw [hy0]; rfl
                  have HOK2 : Hid (∀ j, j < k + 1 → okD e.ns j (ruAt v e.k j) = true) := Lib.hid (fun j hj => by
                    by_cases hjk : j = k
                    · rw [hjk, HOD.out]; exact decide_eq_true hy0
                    · exact HOKS.out j (by omega))
                  have HI1 := Lib.hid (HI.out.low (((Below.refl wr.heap.size wr).alloc (Nat.le_refl _) (.cells #[.int .i64 (y.tdiv t)] 2)).mono HI.out.sz) (HI.out.own.below ((Below.refl wr.heap.size wr).alloc (Nat.le_refl _) (.cells #[.int .i64 (y.tdiv t)] 2))))
                  go_wp2_with (at_builtin; refine wpList_append_vals 36 2 (.int .i64 0) 8 Tryz.underlying36 infoN rfl (by decide) rfl (.tmp 104) (.tmp 108) rfl (w.heap.size + 2) _ (nums l) rfl HI1.out.own (some ⟨wr.heap.size, 0, none⟩) 1 1 [.int .i64 (y.tdiv t)] rfl rfl (vat_new wr _ _) (by simp; rfl) (by simp) (by rw [nums_len]; have := HLE.out; simp; omega) HI1.out.sz ?_)
                  intro v' W5 hO hg
                  have HI2 := Lib.hid (HI1.out.low (l' := l ++ [y.tdiv t]) (below_grown HI1.out.own (Nat.le_refl _) HI1.out.sz hg) (by rw [nums_snoc]; exact hO))
                  clear hO hg HI1
                  go_wp2_with fail
                  go_roundw
                  case rel => exact ⟨k + 1, _, by have := HLT.out; omega, by go_num, rfl, by rw [HST.out]; exact HI2, HOK2⟩
                  case measure => simp [intOf] <;> (have := HLT.out; omega)
        case neg =>
          have z1 : ¬ (k : Int) < (e.ns.length : Int) := by omega
          have hks : k = e.ns.length := by omega
          rw [hks] at HI HOKS
          rw [HLN.out] at HOKS
          clear hlt hk hks
          replace HDN := Lib.hid (HDN.out.trans (dK_yes HVE.out HTL.out HV3.out HOKS.out))
          rw [← HLN.out] at HDN
          obtain ⟨d, hd⟩ : ∃ d : Ev, d = ⟨v, e.k, dnK v e.k e.ns e.ns.length, e.ts⟩ := ⟨_, rfl⟩
          rw [← hd] at HDN
          have HMD := Lib.hid (down_may HM.out ((down_is HM.out).symm.trans HDN.out))
          have hdv : v = d.v := by rw [hd]
          have hdk : e.k = d.k := by rw [hd]
          have hdn : dnK v e.k e.ns e.ns.length = d.ns := by rw [hd]
          have hdt : e.ts = d.ts := by rw [hd]
          rw [hdn] at HI
          obtain ⟨A1, c1, hz, hvn, -, -, -⟩ := HI.out.own.vat
          subst hz
          rw [nums_len] at HI ⊢
          have HX := Lib.hid HI.out.x
          have HP := Lib.hid HI.out.p
          have HPF := Lib.hid HI.out.pf
          have HB := Lib.hid HI.out.bel
          have HO1 : Hid (OwnE wr (w.heap.size + 2) 2 (.slice A1 d.ns.length c1) (nums d.ns)) := Lib.hid (Or.inl HI.out.own)
          have HDV := Lib.hid hdv
          have HDK := Lib.hid hdk
          have HDT := Lib.hid hdt
          clear HI hd hdn hvn hdv hdk hdt HOKS
          obtain ⟨x0, x1, x2, x3⟩ := HX.out
          go_upto_region 26 with (fail)
          clear x0 x1 x2 x3 z1
          go_cut [15] (fun u wx => ∃ (q c2 : Nat) (C2 : Option Addr), u = .pointer (some ⟨q, 0, none⟩) ∧ Hid (Four wx q (.int .u8 v) (.int .u8 e.k) (.slice A1 d.ns.length c1) (.slice C2 e.ts.length c2) ∧ Four wx (w.heap.size + 1) (.int .u8 0) (.int .u8 0) (.slice none 0 0) (.slice none 0 0) ∧ Free wx (w.heap.size + 1) ∧ Below w.heap.size w wx ∧ OwnE wx (w.heap.size + 2) 2 (.slice A1 d.ns.length c1) (nums d.ns) ∧ OwnE wx (w.heap.size + 2) 9 (.slice C2 e.ts.length c2) (texts e.ts)))
          case first =>
            refine wp_region_held_drew (S := (fun w' => w'.cell? ⟨w.heap.size, 0, none⟩ = some (.int .u8 e.v) ∧ w'.cell? ⟨w.heap.size, 1, none⟩ = some (.int .u8 e.k) ∧ w'.cell? ⟨w.heap.size, 2, none⟩ = some (.slice A e.ns.length ca) ∧ w'.cell? ⟨w.heap.size, 3, none⟩ = some (.slice C e.ts.length cc))) (by kernel_rfl) (HX.out.below (below_drew wr.heap.size wr)) (fun hHeld => ?_)
            have gd := below_drew wr.heap.size wr
            replace HX := Lib.hid (HX.out.below gd)
            replace HP := Lib.hid (HP.out.below gd)
            replace HPF := Lib.hid (free_below HPF.out gd)
            replace HB := Lib.hid (below_step HB.out gd)
            replace HO1 := Lib.hid (HO1.out.below gd)
            clear gd
            generalize wr.drew = D0 at HX HP HPF HB HO1 hHeld ⊢
            refine wpAnyH_take (i := 0) (oi := { dst := some 110, op := Go.Op.move (Go.Operand.tmp 4), type := 5, pos := "ref.go:131", after := #[], guard := none }) (v := ?v1) rfl (by kernel_rfl) (by kernel_rfl) (by kernel_rfl) (fun _ _ _ h => h) (Or.inl ⟨by rfl, ?hy1⟩) (by assumption) ?rest1
            case hy1 => (intro w hSw; obtain ⟨s0, s1, s2, s3⟩ := hSw; go_simp; try with_reducible rfl)
            try simp only [Act.put, List.setIfInBounds_toArray, List.set_cons_zero, List.set_cons_succ]
            refine wpAnyH_take (i := 1) (oi := { dst := some 111, op := Go.Op.fieldAddr 39 (Go.Operand.tmp 1) 1, type := 0, pos := "ref.go:131", after := #[], guard := none }) (v := ?v2) rfl (by kernel_rfl) (by kernel_rfl) (by kernel_rfl) (fun _ _ _ h => h) (Or.inl ⟨by rfl, ?hy2⟩) (by assumption) ?rest2
            case hy2 => (intro w hSw; obtain ⟨s0, s1, s2, s3⟩ := hSw; go_simp; try with_reducible rfl)
            try simp only [Act.put, List.setIfInBounds_toArray, List.set_cons_zero, List.set_cons_succ]
            refine wpAnyH_take (i := 2) (oi := { dst := some 112, op := Go.Op.load 5 (Go.Operand.tmp 111), type := 5, pos := "ref.go:131", after := #[{ on := 1, ground := Go.Ground.data }], guard := none }) (v := ?v3) rfl (by kernel_rfl) (by kernel_rfl) (by kernel_rfl) (fun _ _ _ h => h) (Or.inl ⟨by rfl, ?hy3⟩) (by assumption) ?rest3
            case hy3 => (intro w hSw; obtain ⟨s0, s1, s2, s3⟩ := hSw; go_simp; try with_reducible rfl)
            try simp only [Act.put, List.setIfInBounds_toArray, List.set_cons_zero, List.set_cons_succ]
            refine wpAnyH_take (i := 3) (oi := { dst := some 113, op := Go.Op.move (Go.Operand.tmp 10), type := 36, pos := "ref.go:131", after := #[], guard := none }) (v := ?v4) rfl (by kernel_rfl) (by kernel_rfl) (by kernel_rfl) (fun _ _ _ h => h) (Or.inl ⟨by rfl, ?hy4⟩) (by assumption) ?rest4
            case hy4 => (intro w hSw; obtain ⟨s0, s1, s2, s3⟩ := hSw; go_simp; try with_reducible rfl)
            try simp only [Act.put, List.setIfInBounds_toArray, List.set_cons_zero, List.set_cons_succ]
            refine wpAnyH_take (i := 5) (oi := { dst := some 115, op := Go.Op.fieldAddr 39 (Go.Operand.tmp 1) 3, type := 0, pos := "ref.go:131", after := #[], guard := none }) (v := ?v5) rfl (by kernel_rfl) (by kernel_rfl) (by kernel_rfl) (fun _ _ _ h => h) (Or.inl ⟨by rfl, ?hy5⟩) (by assumption) ?rest5
            case hy5 => (intro w hSw; obtain ⟨s0, s1, s2, s3⟩ := hSw; go_simp; try with_reducible rfl)
            try simp only [Act.put, List.setIfInBounds_toArray, List.set_cons_zero, List.set_cons_succ]
            refine wpAnyH_take (i := 6) (oi := { dst := some 116, op := Go.Op.load 37 (Go.Operand.tmp 115), type := 37, pos := "ref.go:131", after := #[{ on := 5, ground := Go.Ground.data }], guard := none }) (v := ?v6) rfl (by kernel_rfl) (by kernel_rfl) (by kernel_rfl) (fun _ _ _ h => h) (Or.inl ⟨by rfl, ?hy6⟩) (by assumption) ?rest6
            case hy6 => (intro w hSw; obtain ⟨s0, s1, s2, s3⟩ := hSw; go_simp; try with_reducible rfl)
            try simp only [Act.put, List.setIfInBounds_toArray, List.set_cons_zero, List.set_cons_succ]
            refine wpAnyH_ready (rs := [4, 9]) (by kernel_rfl) (by simp) ?_
            refine (AllReadyH.cons (o := { dst := some 114, op := Go.Op.buildSlice 37 0 #[], type := 37, pos := "ref.go:131", after := #[], guard := none }) rfl (fun K hK => ?br7_4) (AllReadyH.cons (o := { dst := some 15, op := Go.Op.alloc 39, type := 0, pos := "ref.go:131", after := #[], guard := none }) rfl (fun K hK => ?br7_9) AllReadyH.nil))
            case br7_4 =>
             have hb := (Below.refl D0.heap.size D0).alloc (Nat.le_refl _) (.cells #[] 9)
             have HG0 := Lib.hid (show w.heap.size + 2 ≤ D0.heap.size from HPF.out.1)
             replace HX := Lib.hid (HX.out.below hb)
             replace HP := Lib.hid (HP.out.below hb)
             replace HPF := Lib.hid (free_below HPF.out hb)
             replace HB := Lib.hid (below_step HB.out hb)
             replace HO1 := Lib.hid (HO1.out.below hb)
             have HS0 := Lib.hid (Own.made D0 D0.heap.size 9 (Nat.le_refl _))
             go_simp
             refine hK.out _ _ HX.out (fun hHeld => ?_)
             clear hK K hb
             generalize D0.heap.size = g at HS0 HG0 ⊢
             generalize D0.alloc (.cells #[] 9) = V1 at HX HP HPF HB HO1 HS0 hHeld ⊢
             try simp only [Act.put, List.setIfInBounds_toArray, List.set_cons_zero, List.set_cons_succ]
             refine wpAnyH_ready (rs := [7, 9]) (by kernel_rfl) (by simp) ?_
             refine (AllReadyH.cons (o := { dst := some 117, op := Go.Op.call { callee := Go.Callee.builtin Go.Builtin.append, args := #[Go.Operand.tmp 114, Go.Operand.tmp 116], argTypes := #[37, 37] }, type := 37, pos := "ref.go:131", after := #[{ on := 4, ground := Go.Ground.data }, { on := 6, ground := Go.Ground.data }], guard := none }) rfl (fun K hK => ?br8_7) (AllReadyH.cons (o := { dst := some 15, op := Go.Op.alloc 39, type := 0, pos := "ref.go:131", after := #[], guard := none }) rfl (fun K hK => ?br8_9) AllReadyH.nil))
             case br8_7 =>
              refine wp_append_vals 37 9 (.string ByteArray.empty) 16 Tryz.underlying37 infoT rfl (by decide) (.tmp 114) (.tmp 116) rfl g (.slice (some ⟨g, 0, none⟩) 0 0) [] rfl HS0.out C _ cc (texts e.ts) rfl (texts_len _).symm ((HA0.out.below HB.out).ts) (texts_cell _) HA0.out.nB (by have := HO.out.tx; have := texts_len e.ts; simp only [List.length_nil]; omega) (Nat.le_of_lt (World.ownsRow.lt HS0.out g rfl).2) ?_
              intro v' V2 hO hg
              rw [List.nil_append] at hO
              obtain ⟨C2, c2, rfl, -, -⟩ := hO.vat
              rw [texts_len] at hO ⊢
              have hb := below_grown HS0.out (Nat.le_refl _) (Nat.le_of_lt (World.ownsRow.lt HS0.out g rfl).2) hg
              have hgg : V1.grownBy V2 (some g) := hg
              have hg0 := HG0.out
              have HO2 : Hid (OwnE V2 (w.heap.size + 2) 9 (.slice C2 e.ts.length c2) (texts e.ts)) := Lib.hid (Or.inl (hO.less hg0))
              replace HX := Lib.hid (four_low HX.out hb (by omega))
              replace HP := Lib.hid (four_low HP.out hb (by omega))
              replace HPF := Lib.hid (free_low HPF.out hb (by omega))
              replace HB := Lib.hid (HB.out.trans (hb.mono (by omega)))
              replace HO1 := Lib.hid (ownE_apart HO1.out HS0.out (by decide) hg)
              clear hO hg hb hgg hg0 HS0 HG0
              refine hK.out _ _ HX.out (fun hHeld => ?_)
              clear hK K
              try simp only [Act.put, List.setIfInBounds_toArray, List.set_cons_zero, List.set_cons_succ]
              refine wpAnyH_take (i := 8) (oi := { dst := some 118, op := Go.Op.build 39 #[(0, Go.Operand.tmp 110), (1, Go.Operand.tmp 112), (2, Go.Operand.tmp 113), (3, Go.Operand.tmp 117)], type := 39, pos := "ref.go:131", after := #[{ on := 0, ground := Go.Ground.data }, { on := 2, ground := Go.Ground.data }, { on := 3, ground := Go.Ground.data }, { on := 7, ground := Go.Ground.data }], guard := none }) (v := ?v9) rfl (by kernel_rfl) (by kernel_rfl) (by kernel_rfl) (fun _ _ _ h => h) (Or.inl ⟨by rfl, ?hy9⟩) (by assumption) ?rest9
              case hy9 => (intro w hSw; obtain ⟨s0, s1, s2, s3⟩ := hSw; go_simp; try with_reducible rfl)
              try simp only [Act.put, List.setIfInBounds_toArray, List.set_cons_zero, List.set_cons_succ]
              refine wpAnyH_ready (rs := [9]) (by kernel_rfl) (by simp) ?_
              refine (AllReadyH.cons (o := { dst := some 15, op := Go.Op.alloc 39, type := 0, pos := "ref.go:131", after := #[], guard := none }) rfl (fun K hK => ?br10_9) AllReadyH.nil)
              case br10_9 =>
               have hb := (Below.refl V2.heap.size V2).alloc (Nat.le_refl _) (.cells #[.int .u8 0, .int .u8 0, .slice none 0 0, .slice none 0 0] 39)
               have HQ0 := Lib.hid (show w.heap.size + 2 ≤ V2.heap.size from HPF.out.1)
               replace HX := Lib.hid (HX.out.below hb)
               replace HP := Lib.hid (HP.out.below hb)
               replace HPF := Lib.hid (free_below HPF.out hb)
               replace HB := Lib.hid (below_step HB.out hb)
               replace HO1 := Lib.hid (HO1.out.below hb)
               replace HO2 := Lib.hid (HO2.out.below hb)
               have HQ := Lib.hid (show Four _ V2.heap.size _ _ _ _ from box4 V2 (.int .u8 0) (.int .u8 0) (.slice none 0 0) (.slice none 0 0) 39)
               have HQF := Lib.hid (free_new V2 #[.int .u8 0, .int .u8 0, .slice none 0 0, .slice none 0 0] 39)
               have HQT := Lib.hid (boxT_new V2 #[.int .u8 0, .int .u8 0, .slice none 0 0, .slice none 0 0] 39)
               go_simp
               refine hK.out _ _ HX.out (fun hHeld => ?_)
               clear hK K hb
               generalize V2.heap.size = q at HQ HQF HQT HQ0 ⊢
               generalize V2.alloc (.cells #[.int .u8 0, .int .u8 0, .slice none 0 0, .slice none 0 0] 39) = V3 at HX HP HPF HB HO1 HO2 HQ HQF HQT hHeld ⊢
               try simp only [Act.put, List.setIfInBounds_toArray, List.set_cons_zero, List.set_cons_succ]
               refine wpAnyH_ready (rs := [10]) (by kernel_rfl) (by simp) ?_
               refine (AllReadyH.cons (o := { dst := none, op := Go.Op.store 39 (Go.Operand.tmp 15) (Go.Operand.tmp 118), type := 0, pos := "ref.go:131", after := #[{ on := 9, ground := Go.Ground.data }, { on := 8, ground := Go.Ground.data }, { on := 7, ground := Go.Ground.chain }, { on := 0, ground := Go.Ground.phase }, { on := 1, ground := Go.Ground.phase }, { on := 2, ground := Go.Ground.phase }, { on := 3, ground := Go.Ground.phase }, { on := 4, ground := Go.Ground.phase }, { on := 5, ground := Go.Ground.phase }, { on := 6, ground := Go.Ground.phase }, { on := 7, ground := Go.Ground.phase }, { on := 8, ground := Go.Ground.phase }, { on := 9, ground := Go.Ground.phase }], guard := none }) rfl (fun K hK => ?br11_10) AllReadyH.nil)
               case br11_10 =>
                obtain ⟨y0, y1, y2, y3⟩ := HQ.out
                have f0 := HQF.out.2 0
                have f1 := HQF.out.2 1
                have f2 := HQF.out.2 2
                have f3 := HQF.out.2 3
                go_simp
                clear y0 y1 y2 y3 f0 f1 f2 f3
                have hq0 := HQ0.out
                have ht := touch4 V3 q (.int .u8 v) (.int .u8 e.k) (.slice A1 d.ns.length c1) (.slice C2 e.ts.length c2)
                have hq4 := HQ.out.set4 (.int .u8 v) (.int .u8 e.k) (.slice A1 d.ns.length c1) (.slice C2 e.ts.length c2)
                have hp4 := Four.touch HP.out ht (Or.inl (by omega))
                have hf4 := free_touch HPF.out ht (Or.inl (by omega))
                have hb4 := HB.out.trans (ht.below (by omega) HB.out.size)
                have ho1 := ownE_box4 HO1.out HQT.out (by decide) (.int .u8 v) (.int .u8 e.k) (.slice A1 d.ns.length c1) (.slice C2 e.ts.length c2)
                have ho2 := ownE_box4 HO2.out HQT.out (by decide) (.int .u8 v) (.int .u8 e.k) (.slice A1 d.ns.length c1) (.slice C2 e.ts.length c2)
                have hx4 := Four.touch HX.out ht (Or.inl (by omega))
                refine hK.out _ _ hx4 (fun hHeld => ?_)
                have HH := Lib.hid (And.intro hq4 (And.intro hp4 (And.intro hf4 (And.intro hb4 (And.intro ho1 ho2)))))
                clear hK K hx4 ht hq0 hq4 hp4 hf4 hb4 ho1 ho2
                try simp only [Act.put, List.setIfInBounds_toArray, List.set_cons_zero, List.set_cons_succ]
                refine wpAnyH_done (by kernel_rfl) ?_ _
                go_wp2_with fail
                go_meet
                exact ⟨q, c2, C2, rfl, HH⟩
             case br8_9 =>
              have hb := (Below.refl V1.heap.size V1).alloc (Nat.le_refl _) (.cells #[.int .u8 0, .int .u8 0, .slice none 0 0, .slice none 0 0] 39)
              have HQ0 := Lib.hid (show w.heap.size + 2 ≤ V1.heap.size from HPF.out.1)
              have HQG := Lib.hid (show V1.heap.size ≠ g from fun h => by (have h2 := (World.ownsRow.lt HS0.out g rfl).2; omega))
              replace HX := Lib.hid (HX.out.below hb)
              replace HP := Lib.hid (HP.out.below hb)
              replace HPF := Lib.hid (free_below HPF.out hb)
              replace HB := Lib.hid (below_step HB.out hb)
              replace HO1 := Lib.hid (HO1.out.below hb)
              replace HS0 := Lib.hid (HS0.out.below hb)
              have HQ := Lib.hid (show Four _ V1.heap.size _ _ _ _ from box4 V1 (.int .u8 0) (.int .u8 0) (.slice none 0 0) (.slice none 0 0) 39)
              have HQF := Lib.hid (free_new V1 #[.int .u8 0, .int .u8 0, .slice none 0 0, .slice none 0 0] 39)
              have HQT := Lib.hid (boxT_new V1 #[.int .u8 0, .int .u8 0, .slice none 0 0, .slice none 0 0] 39)
              go_simp
              refine hK.out _ _ HX.out (fun hHeld => ?_)
              clear hK K hb
              generalize V1.heap.size = q at HQ HQF HQT HQ0 HQG ⊢
              generalize V1.alloc (.cells #[.int .u8 0, .int .u8 0, .slice none 0 0, .slice none 0 0] 39) = V2 at HX HP HPF HB HO1 HS0 HQ HQF HQT hHeld ⊢
              try simp only [Act.put, List.setIfInBounds_toArray, List.set_cons_zero, List.set_cons_succ]
              refine wpAnyH_ready (rs := [7]) (by kernel_rfl) (by simp) ?_
              refine (AllReadyH.cons (o := { dst := some 117, op := Go.Op.call { callee := Go.Callee.builtin Go.Builtin.append, args := #[Go.Operand.tmp 114, Go.Operand.tmp 116], argTypes := #[37, 37] }, type := 37, pos := "ref.go:131", after := #[{ on := 4, ground := Go.Ground.data }, { on := 6, ground := Go.Ground.data }], guard := none }) rfl (fun K hK => ?br12_7) AllReadyH.nil)
              case br12_7 =>
               refine wp_append_vals 37 9 (.string ByteArray.empty) 16 Tryz.underlying37 infoT rfl (by decide) (.tmp 114) (.tmp 116) rfl g (.slice (some ⟨g, 0, none⟩) 0 0) [] rfl HS0.out C _ cc (texts e.ts) rfl (texts_len _).symm ((HA0.out.below HB.out).ts) (texts_cell _) HA0.out.nB (by have := HO.out.tx; have := texts_len e.ts; simp only [List.length_nil]; omega) (Nat.le_of_lt (World.ownsRow.lt HS0.out g rfl).2) ?_
               intro v' V3 hO hg
               rw [List.nil_append] at hO
               obtain ⟨C2, c2, rfl, -, -⟩ := hO.vat
               rw [texts_len] at hO ⊢
               have hb := below_grown HS0.out (Nat.le_refl _) (Nat.le_of_lt (World.ownsRow.lt HS0.out g rfl).2) hg
               have hgg : V2.grownBy V3 (some g) := hg
               have hg0 := HG0.out
               have HO2 : Hid (OwnE V3 (w.heap.size + 2) 9 (.slice C2 e.ts.length c2) (texts e.ts)) := Lib.hid (Or.inl (hO.less hg0))
               replace HX := Lib.hid (four_low HX.out hb (by omega))
               replace HP := Lib.hid (four_low HP.out hb (by omega))
               replace HPF := Lib.hid (free_low HPF.out hb (by omega))
               replace HB := Lib.hid (HB.out.trans (hb.mono (by omega)))
               replace HO1 := Lib.hid (ownE_apart HO1.out HS0.out (by decide) hg)
               replace HQ := Lib.hid (four_gr HQ.out hgg HQG.out)
               replace HQF := Lib.hid (free_gr HQF.out hgg HQG.out)
               replace HQT := Lib.hid (boxT_gr HQT.out hgg HQG.out)
               clear HQG
               clear hO hg hb hgg hg0 HS0 HG0
               refine hK.out _ _ HX.out (fun hHeld => ?_)
               clear hK K
               try simp only [Act.put, List.setIfInBounds_toArray, List.set_cons_zero, List.set_cons_succ]
               refine wpAnyH_take (i := 8) (oi := { dst := some 118, op := Go.Op.build 39 #[(0, Go.Operand.tmp 110), (1, Go.Operand.tmp 112), (2, Go.Operand.tmp 113), (3, Go.Operand.tmp 117)], type := 39, pos := "ref.go:131", after := #[{ on := 0, ground := Go.Ground.data }, { on := 2, ground := Go.Ground.data }, { on := 3, ground := Go.Ground.data }, { on := 7, ground := Go.Ground.data }], guard := none }) (v := ?v13) rfl (by kernel_rfl) (by kernel_rfl) (by kernel_rfl) (fun _ _ _ h => h) (Or.inl ⟨by rfl, ?hy13⟩) (by assumption) ?rest13
               case hy13 => (intro w hSw; obtain ⟨s0, s1, s2, s3⟩ := hSw; go_simp; try with_reducible rfl)
               try simp only [Act.put, List.setIfInBounds_toArray, List.set_cons_zero, List.set_cons_succ]
               refine wpAnyH_ready (rs := [10]) (by kernel_rfl) (by simp) ?_
               refine (AllReadyH.cons (o := { dst := none, op := Go.Op.store 39 (Go.Operand.tmp 15) (Go.Operand.tmp 118), type := 0, pos := "ref.go:131", after := #[{ on := 9, ground := Go.Ground.data }, { on := 8, ground := Go.Ground.data }, { on := 7, ground := Go.Ground.chain }, { on := 0, ground := Go.Ground.phase }, { on := 1, ground := Go.Ground.phase }, { on := 2, ground := Go.Ground.phase }, { on := 3, ground := Go.Ground.phase }, { on := 4, ground := Go.Ground.phase }, { on := 5, ground := Go.Ground.phase }, { on := 6, ground := Go.Ground.phase }, { on := 7, ground := Go.Ground.phase }, { on := 8, ground := Go.Ground.phase }, { on := 9, ground := Go.Ground.phase }], guard := none }) rfl (fun K hK => ?br14_10) AllReadyH.nil)
               case br14_10 =>
                obtain ⟨y0, y1, y2, y3⟩ := HQ.out
                have f0 := HQF.out.2 0
                have f1 := HQF.out.2 1
                have f2 := HQF.out.2 2
                have f3 := HQF.out.2 3
                go_simp
                clear y0 y1 y2 y3 f0 f1 f2 f3
                have hq0 := HQ0.out
                have ht := touch4 V3 q (.int .u8 v) (.int .u8 e.k) (.slice A1 d.ns.length c1) (.slice C2 e.ts.length c2)
                have hq4 := HQ.out.set4 (.int .u8 v) (.int .u8 e.k) (.slice A1 d.ns.length c1) (.slice C2 e.ts.length c2)
                have hp4 := Four.touch HP.out ht (Or.inl (by omega))
                have hf4 := free_touch HPF.out ht (Or.inl (by omega))
                have hb4 := HB.out.trans (ht.below (by omega) HB.out.size)
                have ho1 := ownE_box4 HO1.out HQT.out (by decide) (.int .u8 v) (.int .u8 e.k) (.slice A1 d.ns.length c1) (.slice C2 e.ts.length c2)
                have ho2 := ownE_box4 HO2.out HQT.out (by decide) (.int .u8 v) (.int .u8 e.k) (.slice A1 d.ns.length c1) (.slice C2 e.ts.length c2)
                have hx4 := Four.touch HX.out ht (Or.inl (by omega))
                refine hK.out _ _ hx4 (fun hHeld => ?_)
                have HH := Lib.hid (And.intro hq4 (And.intro hp4 (And.intro hf4 (And.intro hb4 (And.intro ho1 ho2)))))
                clear hK K hx4 ht hq0 hq4 hp4 hf4 hb4 ho1 ho2
                try simp only [Act.put, List.setIfInBounds_toArray, List.set_cons_zero, List.set_cons_succ]
                refine wpAnyH_done (by kernel_rfl) ?_ _
                go_wp2_with fail
                go_meet
                exact ⟨q, c2, C2, rfl, HH⟩
            case br7_9 =>
             have hb := (Below.refl D0.heap.size D0).alloc (Nat.le_refl _) (.cells #[.int .u8 0, .int .u8 0, .slice none 0 0, .slice none 0 0] 39)
             have HQ0 := Lib.hid (show w.heap.size + 2 ≤ D0.heap.size from HPF.out.1)
             replace HX := Lib.hid (HX.out.below hb)
             replace HP := Lib.hid (HP.out.below hb)
             replace HPF := Lib.hid (free_below HPF.out hb)
             replace HB := Lib.hid (below_step HB.out hb)
             replace HO1 := Lib.hid (HO1.out.below hb)
             have HQ := Lib.hid (show Four _ D0.heap.size _ _ _ _ from box4 D0 (.int .u8 0) (.int .u8 0) (.slice none 0 0) (.slice none 0 0) 39)
             have HQF := Lib.hid (free_new D0 #[.int .u8 0, .int .u8 0, .slice none 0 0, .slice none 0 0] 39)
             have HQT := Lib.hid (boxT_new D0 #[.int .u8 0, .int .u8 0, .slice none 0 0, .slice none 0 0] 39)
             go_simp
             refine hK.out _ _ HX.out (fun hHeld => ?_)
             clear hK K hb
             generalize D0.heap.size = q at HQ HQF HQT HQ0 ⊢
             generalize D0.alloc (.cells #[.int .u8 0, .int .u8 0, .slice none 0 0, .slice none 0 0] 39) = V1 at HX HP HPF HB HO1 HQ HQF HQT hHeld ⊢
             try simp only [Act.put, List.setIfInBounds_toArray, List.set_cons_zero, List.set_cons_succ]
             refine wpAnyH_ready (rs := [4]) (by kernel_rfl) (by simp) ?_
             refine (AllReadyH.cons (o := { dst := some 114, op := Go.Op.buildSlice 37 0 #[], type := 37, pos := "ref.go:131", after := #[], guard := none }) rfl (fun K hK => ?br15_4) AllReadyH.nil)
             case br15_4 =>
              have hb := (Below.refl V1.heap.size V1).alloc (Nat.le_refl _) (.cells #[] 9)
              have HG0 := Lib.hid (show w.heap.size + 2 ≤ V1.heap.size from HPF.out.1)
              have HQG := Lib.hid (show q ≠ V1.heap.size from fun h => by (have h2 := HQF.out.1; omega))
              replace HX := Lib.hid (HX.out.below hb)
              replace HP := Lib.hid (HP.out.below hb)
              replace HPF := Lib.hid (free_below HPF.out hb)
              replace HB := Lib.hid (below_step HB.out hb)
              replace HO1 := Lib.hid (HO1.out.below hb)
              replace HQ := Lib.hid (HQ.out.below hb)
              replace HQF := Lib.hid (free_below HQF.out hb)
              replace HQT := Lib.hid (HQT.out.below hb)
              have HS0 := Lib.hid (Own.made V1 V1.heap.size 9 (Nat.le_refl _))
              go_simp
              refine hK.out _ _ HX.out (fun hHeld => ?_)
              clear hK K hb
              generalize V1.heap.size = g at HS0 HG0 HQG ⊢
              generalize V1.alloc (.cells #[] 9) = V2 at HX HP HPF HB HO1 HS0 HQ HQF HQT hHeld ⊢
              try simp only [Act.put, List.setIfInBounds_toArray, List.set_cons_zero, List.set_cons_succ]
              refine wpAnyH_ready (rs := [7]) (by kernel_rfl) (by simp) ?_
              refine (AllReadyH.cons (o := { dst := some 117, op := Go.Op.call { callee := Go.Callee.builtin Go.Builtin.append, args := #[Go.Operand.tmp 114, Go.Operand.tmp 116], argTypes := #[37, 37] }, type := 37, pos := "ref.go:131", after := #[{ on := 4, ground := Go.Ground.data }, { on := 6, ground := Go.Ground.data }], guard := none }) rfl (fun K hK => ?br16_7) AllReadyH.nil)
              case br16_7 =>
               refine wp_append_vals 37 9 (.string ByteArray.empty) 16 Tryz.underlying37 infoT rfl (by decide) (.tmp 114) (.tmp 116) rfl g (.slice (some ⟨g, 0, none⟩) 0 0) [] rfl HS0.out C _ cc (texts e.ts) rfl (texts_len _).symm ((HA0.out.below HB.out).ts) (texts_cell _) HA0.out.nB (by have := HO.out.tx; have := texts_len e.ts; simp only [List.length_nil]; omega) (Nat.le_of_lt (World.ownsRow.lt HS0.out g rfl).2) ?_
               intro v' V3 hO hg
               rw [List.nil_append] at hO
               obtain ⟨C2, c2, rfl, -, -⟩ := hO.vat
               rw [texts_len] at hO ⊢
               have hb := below_grown HS0.out (Nat.le_refl _) (Nat.le_of_lt (World.ownsRow.lt HS0.out g rfl).2) hg
               have hgg : V2.grownBy V3 (some g) := hg
               have hg0 := HG0.out
               have HO2 : Hid (OwnE V3 (w.heap.size + 2) 9 (.slice C2 e.ts.length c2) (texts e.ts)) := Lib.hid (Or.inl (hO.less hg0))
               replace HX := Lib.hid (four_low HX.out hb (by omega))
               replace HP := Lib.hid (four_low HP.out hb (by omega))
               replace HPF := Lib.hid (free_low HPF.out hb (by omega))
               replace HB := Lib.hid (HB.out.trans (hb.mono (by omega)))
               replace HO1 := Lib.hid (ownE_apart HO1.out HS0.out (by decide) hg)
               replace HQ := Lib.hid (four_gr HQ.out hgg HQG.out)
               replace HQF := Lib.hid (free_gr HQF.out hgg HQG.out)
               replace HQT := Lib.hid (boxT_gr HQT.out hgg HQG.out)
               clear HQG
               clear hO hg hb hgg hg0 HS0 HG0
               refine hK.out _ _ HX.out (fun hHeld => ?_)
               clear hK K
               try simp only [Act.put, List.setIfInBounds_toArray, List.set_cons_zero, List.set_cons_succ]
               refine wpAnyH_take (i := 8) (oi := { dst := some 118, op := Go.Op.build 39 #[(0, Go.Operand.tmp 110), (1, Go.Operand.tmp 112), (2, Go.Operand.tmp 113), (3, Go.Operand.tmp 117)], type := 39, pos := "ref.go:131", after := #[{ on := 0, ground := Go.Ground.data }, { on := 2, ground := Go.Ground.data }, { on := 3, ground := Go.Ground.data }, { on := 7, ground := Go.Ground.data }], guard := none }) (v := ?v17) rfl (by kernel_rfl) (by kernel_rfl) (by kernel_rfl) (fun _ _ _ h => h) (Or.inl ⟨by rfl, ?hy17⟩) (by assumption) ?rest17
               case hy17 => (intro w hSw; obtain ⟨s0, s1, s2, s3⟩ := hSw; go_simp; try with_reducible rfl)
               try simp only [Act.put, List.setIfInBounds_toArray, List.set_cons_zero, List.set_cons_succ]
               refine wpAnyH_ready (rs := [10]) (by kernel_rfl) (by simp) ?_
               refine (AllReadyH.cons (o := { dst := none, op := Go.Op.store 39 (Go.Operand.tmp 15) (Go.Operand.tmp 118), type := 0, pos := "ref.go:131", after := #[{ on := 9, ground := Go.Ground.data }, { on := 8, ground := Go.Ground.data }, { on := 7, ground := Go.Ground.chain }, { on := 0, ground := Go.Ground.phase }, { on := 1, ground := Go.Ground.phase }, { on := 2, ground := Go.Ground.phase }, { on := 3, ground := Go.Ground.phase }, { on := 4, ground := Go.Ground.phase }, { on := 5, ground := Go.Ground.phase }, { on := 6, ground := Go.Ground.phase }, { on := 7, ground := Go.Ground.phase }, { on := 8, ground := Go.Ground.phase }, { on := 9, ground := Go.Ground.phase }], guard := none }) rfl (fun K hK => ?br18_10) AllReadyH.nil)
               case br18_10 =>
                obtain ⟨y0, y1, y2, y3⟩ := HQ.out
                have f0 := HQF.out.2 0
                have f1 := HQF.out.2 1
                have f2 := HQF.out.2 2
                have f3 := HQF.out.2 3
                go_simp
                clear y0 y1 y2 y3 f0 f1 f2 f3
                have hq0 := HQ0.out
                have ht := touch4 V3 q (.int .u8 v) (.int .u8 e.k) (.slice A1 d.ns.length c1) (.slice C2 e.ts.length c2)
                have hq4 := HQ.out.set4 (.int .u8 v) (.int .u8 e.k) (.slice A1 d.ns.length c1) (.slice C2 e.ts.length c2)
                have hp4 := Four.touch HP.out ht (Or.inl (by omega))
                have hf4 := free_touch HPF.out ht (Or.inl (by omega))
                have hb4 := HB.out.trans (ht.below (by omega) HB.out.size)
                have ho1 := ownE_box4 HO1.out HQT.out (by decide) (.int .u8 v) (.int .u8 e.k) (.slice A1 d.ns.length c1) (.slice C2 e.ts.length c2)
                have ho2 := ownE_box4 HO2.out HQT.out (by decide) (.int .u8 v) (.int .u8 e.k) (.slice A1 d.ns.length c1) (.slice C2 e.ts.length c2)
                have hx4 := Four.touch HX.out ht (Or.inl (by omega))
                refine hK.out _ _ hx4 (fun hHeld => ?_)
                have HH := Lib.hid (And.intro hq4 (And.intro hp4 (And.intro hf4 (And.intro hb4 (And.intro ho1 ho2)))))
                clear hK K hx4 ht hq0 hq4 hp4 hf4 hb4 ho1 ho2
                try simp only [Act.put, List.setIfInBounds_toArray, List.set_cons_zero, List.set_cons_succ]
                refine wpAnyH_done (by kernel_rfl) ?_ _
                go_wp2_with fail
                go_meet
                exact ⟨q, c2, C2, rfl, HH⟩
          case rest =>
            obtain ⟨q, c2, C2, rfl, hq⟩ := hcut
            have HQ := Lib.hid hq.out.1
            have HP := Lib.hid hq.out.2.1
            have HPF := Lib.hid hq.out.2.2.1
            have HB := Lib.hid hq.out.2.2.2.1
            have HO1 := Lib.hid hq.out.2.2.2.2.1
            have HO2 := Lib.hid hq.out.2.2.2.2.2
            clear hq
            rw [HDV.out, HDK.out, HDT.out] at HQ
            rw [HDT.out] at HO2
            have HAD := Lib.hid (evAt_of HMD.out (show ∀ t ∈ d.ts, t.size ≤ maxLen by (rw [← HDT.out]; exact HA0.out.txt)) HO1.out HO2.out)
            obtain ⟨y0, y1, y2, y3⟩ := HQ.out
            go_wp2_with fail
            clear y0 y1 y2 y3
            skip
            refine (rMay_any A1 c1 C2 c2 d wc HAD.out).mono ?_
            rintro z W9 ⟨rfl, hb⟩
            rw [HMD.out]
            replace HQ := Lib.hid (HQ.out.below hb)
            replace HP := Lib.hid (HP.out.below hb)
            replace HPF := Lib.hid (free_below HPF.out hb)
            replace HB := Lib.hid (below_step HB.out hb)
            replace HO1 := Lib.hid (HO1.out.below hb)
            replace HO2 := Lib.hid (HO2.out.below hb)
            clear hb HX HAD
            obtain ⟨y0, y1, y2, y3⟩ := HQ.out
            obtain ⟨p0, p1, p2, p3⟩ := HP.out
            have f0 := HPF.out.2 0
            have f1 := HPF.out.2 1
            have f2 := HPF.out.2 2
            have f3 := HPF.out.2 3
            go_wp2_with fail
            clear p0 p1 p2 p3 f0 f1 f2 f3 y0 y1 y2 y3
            obtain ⟨d0, d1, d2, d3⟩ := HP.out.set4 (.int .u8 d.v) (.int .u8 d.k) (.slice A1 d.ns.length c1) (.slice C2 d.ts.length c2)
            refine bodyPost_ret (v := .tuple #[.agg #[.int .u8 d.v, .int .u8 d.k, .slice A1 d.ns.length c1, .slice C2 d.ts.length c2], .int .i64 0]) (by simp [results, Tryz.results79, go_sem, d0, d1, d2, d3]) rfl ?_
            rw [HDN.out]
            exact ⟨A1, c1, C2, c2, rfl, (ownE_set4 HO1.out (Nat.lt_succ_self _)).less (by omega), (ownE_set4 HO2.out (Nat.lt_succ_self _)).less (by omega), HB.out.trans ((touch4 W9 (w.heap.size + 1) _ _ _ _).below (Nat.le_succ _) HB.out.size)⟩

end Go.Proofs.YtiibeemjkdipnaaGreatDoor.Upcast
