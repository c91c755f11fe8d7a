import Derived.Test.YtiibeemjkdipnaaGreatDoorVA
import Derived.Test.YtiibeemjkdipnaaGreatDoorVC
/-
  The document's To.
-/
namespace Go.Proofs.YtiibeemjkdipnaaGreatDoor.Upcast
open Go Go.RowKit
open Go.Proofs.YtiibeemjkdipnaaGreatDoor.Schema

theorem dto_new {e : Ev} {v : Nat} (h : may e = true) (hv : v ≤ e.v) : dto (newE e) v = dto e v := by
  have ho := may_out h
  have h1 := ho.v1
  have h3 := ho.v3
  by_cases c3 : e.v = 3
  · rw [newE3 c3]
  by_cases c2 : e.v = 2
  · rw [newE2 c2]
    exact dto_step (by show 1 ≤ e.v + 1; omega) (by show v < e.v + 1; omega) (up_down h (by omega))
  have c1 : e.v = 1 := by omega
  have hm := up_may h (show e.v < 3 by omega)
  rw [newE1 c1]
  have s1 := dto_step (e := upE (upE e)) (f := upE e) (v := v) (by show 1 ≤ e.v + 1 + 1; omega) (by show v < e.v + 1 + 1; omega) (up_down hm (by show e.v + 1 < 3; omega))
  have s2 := dto_step (e := upE e) (f := e) (v := v) (by show 1 ≤ e.v + 1; omega) (by show v < e.v + 1; omega) (up_down h (by omega))
  exact s1.trans s2
theorem to_err' {e : Ev} {v x : Nat} (h : may e = true) (hv : isV v = true) (hlt : v < e.v) (hd : downX e = .error x) : toX e v = .error x := by
  rw [to_yes h hv, dto_new h (by omega)]
  exact dto_err hlt hd
theorem to_less {e d : Ev} {v : Nat} (h : may e = true) (hd : downX e = .ok d) : toX e v = toX d v := to_like h (down_may h hd) (new_down h hd).symm
theorem to_more {e : Ev} {v : Nat} (h : may e = true) (hv : e.v < 3) : toX e v = toX (upE e) v := to_like h (up_may h hv) (new_upE h hv).symm
theorem own_apart {w w' : World} {base base' : Nat} {v x : Value} {vs ys : List Value} {E F : TypeId} (h : Own w base E v vs) (ho : Own w base' F x ys) (hE : E ≠ F) (hg : w.grownBy w' x.ownBlock) : Own w' base E v vs := by
  obtain ⟨h1, h2⟩ := h
  refine ⟨h1, ?_⟩
  rcases h2 with h2 | ⟨g, cap, cur, e, hbg, hh, r⟩
  · exact Or.inl h2
  · refine Or.inr ⟨g, cap, cur, e, hbg, ?_, r⟩
    refine (hg.block g (row_lt hh) (fun hx => ?_)).trans hh
    obtain ⟨_, h3⟩ := ho
    rcases h3 with ⟨rfl, _⟩ | ⟨g', cap', cur', rfl, _, hh', _⟩
    · cases hx
    · have : g = g' := by simpa [Value.ownBlock] using hx
      subst this
      rw [hh] at hh'
      injection hh' with hh'
      injection hh' with _ h5 _
      exact hE h5
theorem to_evAt {o : Except Nat Ev} {u : Ev} {n b : Nat} {A C : Option Addr} {c d : Nat} {w : World} (hm : may u = true) (ht : ∀ t ∈ u.ts, t.size ≤ maxLen) (h1 : OwnE w b 2 (.slice A u.ns.length c) (nums u.ns)) (h2 : OwnE w b 9 (.slice C u.ts.length d) (texts u.ts)) : EvAt w A c C d u := evAt_of hm ht h1 h2

set_option maxRecDepth 100000 in
set_option maxHeartbeats 4000000 in
theorem rTo_n : ∀ (n : Nat) (A : Option Addr) (ca : Nat) (C : Option Addr) (cc : Nat) (e : Ev) (v : Nat) (_ : (e.v - v) + (v - e.v) = n) (_ : v < 256) (w : World) (_ : EvAt w A ca C cc e),
    Calls Tryz.prog 54 #[evV A ca C cc e, .int .u8 (v : Int)] w (ExV (toX e v) w) := by
  intro n
  induction n using Nat.strongRecOn with
  | _ n ih =>
  intro A ca C cc e v hd hv w hA
  have HA0 := Lib.hid hA
  have HVV := Lib.hid hv
  have IH := Lib.hid ih
  have HDI := Lib.hid hd
  clear hA hv ih hd
  unfold evV
  have hb1 := (Below.refl w.heap.size w).alloc (Nat.le_refl _) (.cells #[.int .u8 e.v, .int .u8 e.k, .slice A e.ns.length ca, .slice C e.ts.length cc] 39)
  have hs1 : (w.alloc (.cells #[.int .u8 e.v, .int .u8 e.k, .slice A e.ns.length ca, .slice C e.ts.length cc] 39)).heap.size = w.heap.size + 1 := by simp
  have hb2 := (Below.refl (w.alloc (.cells #[.int .u8 e.v, .int .u8 e.k, .slice A e.ns.length ca, .slice C e.ts.length cc] 39)).heap.size (w.alloc (.cells #[.int .u8 e.v, .int .u8 e.k, .slice A e.ns.length ca, .slice C e.ts.length cc] 39))).alloc (Nat.le_refl _) (.cells #[.int .u8 0, .int .u8 0, .slice none 0 0, .slice none 0 0] 39)
  have hx : Four _ w.heap.size _ _ _ _ := Four.below (box4 w (.int .u8 e.v) (.int .u8 e.k) (.slice A e.ns.length ca) (.slice C e.ts.length cc) 39) hb2
  have hxf := free_below (free_new w #[.int .u8 e.v, .int .u8 e.k, .slice A e.ns.length ca, .slice C e.ts.length cc] 39) hb2
  have HX := Lib.hid hx
  have HXF := Lib.hid hxf
  have hp : Four _ (w.alloc (.cells #[.int .u8 e.v, .int .u8 e.k, .slice A e.ns.length ca, .slice C e.ts.length cc] 39)).heap.size _ _ _ _ := box4 (w.alloc (.cells #[.int .u8 e.v, .int .u8 e.k, .slice A e.ns.length ca, .slice C e.ts.length cc] 39)) (.int .u8 0) (.int .u8 0) (.slice none 0 0) (.slice none 0 0) 39
  have hf := free_new (w.alloc (.cells #[.int .u8 e.v, .int .u8 e.k, .slice A e.ns.length ca, .slice C e.ts.length cc] 39)) #[.int .u8 0, .int .u8 0, .slice none 0 0, .slice none 0 0] 39
  rw [hs1] at hp hf
  have HP := Lib.hid hp
  have HPF := Lib.hid hf
  have HB := Lib.hid (below_step hb1 hb2)
  clear hb1 hb2 hs1 hx hp hf hxf
  have HA := Lib.hid (HA0.out.below HB.out)
  go_enter Tryz.func54, Tryz.ntmps54
  go_upto_region 1 with (fail)
  generalize ((w.alloc (.cells #[.int .u8 e.v, .int .u8 e.k, .slice A e.ns.length ca, .slice C e.ts.length cc] 39)).alloc (.cells #[.int .u8 0, .int .u8 0, .slice none 0 0, .slice none 0 0] 39)) = W at HX HXF HP HPF HB HA ⊢
  obtain ⟨x0, x1, x2, x3⟩ := HX.out
  go_wp2_with fail
  clear x0 x1 x2 x3
  refine (rMay_any A ca C cc e W HA.out).mono ?_
  rintro z W2 ⟨rfl, hb⟩
  replace HX := Lib.hid (HX.out.below hb)
  replace HXF := Lib.hid (free_below HXF.out hb)
  replace HP := Lib.hid (HP.out.below hb)
  replace HPF := Lib.hid (free_below HPF.out hb)
  replace HA := Lib.hid (HA.out.below hb)
  replace HB := Lib.hid (below_step HB.out hb)
  clear hb
  cases hm : may e with
  | false =>
    have HDN := Lib.hid (to_no (v := v) hm)
    clear hm
    obtain ⟨p0, p1, p2, p3⟩ := HP.out
    have f0 := HPF.out.2 0
    have f1 := HPF.out.2 1
    have f2 := HPF.out.2 2
    have f3 := HPF.out.2 3
    go_wp2_with fail
    clear p0 p1 p2 p3 f0 f1 f2 f3
    obtain ⟨d0, d1, d2, d3⟩ := HP.out.set4 (.int .u8 0) (.int .u8 0) (.slice none 0 0) (.slice none 0 0)
    refine bodyPost_ret (v := .tuple #[.agg #[.int .u8 0, .int .u8 0, .slice none 0 0, .slice none 0 0], .int .i64 4]) (by simp [results, Tryz.results54, go_sem, d0, d1, d2, d3]) rfl ?_
    rw [HDN.out]
    exact ⟨rfl, HB.out.trans ((touch4 W2 (w.heap.size + 1) _ _ _ _).below (Nat.le_succ _) HB.out.size)⟩
  | true =>
    have HM := Lib.hid hm
    have HO := Lib.hid (may_out hm)
    clear hm
    by_cases hv1 : v < 1
    case pos =>
      have z1 : (v : Int) < 1 := by omega
      have z2 : decide ((v : Int) < 1) = true := decide_eq_true z1
      have HDN := Lib.hid (to_ver HM.out (show isV v = false from decide_eq_false (by omega)))
      clear hv1
      obtain ⟨p0, p1, p2, p3⟩ := HP.out
      have f0 := HPF.out.2 0
      have f1 := HPF.out.2 1
      have f2 := HPF.out.2 2
      have f3 := HPF.out.2 3
      go_wp2_with fail
      clear p0 p1 p2 p3 f0 f1 f2 f3
      obtain ⟨d0, d1, d2, d3⟩ := HP.out.set4 (.int .u8 0) (.int .u8 0) (.slice none 0 0) (.slice none 0 0)
      refine bodyPost_ret (v := .tuple #[.agg #[.int .u8 0, .int .u8 0, .slice none 0 0, .slice none 0 0], .int .i64 43]) (by simp [results, Tryz.results54, go_sem, d0, d1, d2, d3]) rfl ?_
      rw [HDN.out]
      exact ⟨rfl, HB.out.trans ((touch4 W2 (w.heap.size + 1) _ _ _ _).below (Nat.le_succ _) HB.out.size)⟩
    case neg =>
      by_cases hv3 : 3 < v
      case pos =>
        have z1 : ¬ (v : Int) < 1 := by omega
        have z2 : decide ((v : Int) < 1) = false := decide_eq_false z1
        have z3 : (3 : Int) < (v : Int) := by omega
        have z4 : decide ((3 : Int) < (v : Int)) = true := decide_eq_true z3
        have z5 : decide ((v : Int) > 3) = true := decide_eq_true z3
        have HDN := Lib.hid (to_ver HM.out (show isV v = false from decide_eq_false (by omega)))
        clear hv1 hv3
        obtain ⟨p0, p1, p2, p3⟩ := HP.out
        have f0 := HPF.out.2 0
        have f1 := HPF.out.2 1
        have f2 := HPF.out.2 2
        have f3 := HPF.out.2 3
        go_wp2_with fail
        clear p0 p1 p2 p3 f0 f1 f2 f3
        obtain ⟨d0, d1, d2, d3⟩ := HP.out.set4 (.int .u8 0) (.int .u8 0) (.slice none 0 0) (.slice none 0 0)
        refine bodyPost_ret (v := .tuple #[.agg #[.int .u8 0, .int .u8 0, .slice none 0 0, .slice none 0 0], .int .i64 43]) (by simp [results, Tryz.results54, go_sem, d0, d1, d2, d3]) rfl ?_
        rw [HDN.out]
        exact ⟨rfl, HB.out.trans ((touch4 W2 (w.heap.size + 1) _ _ _ _).below (Nat.le_succ _) HB.out.size)⟩
      case neg =>
        have z1 : ¬ (v : Int) < 1 := by omega
        have z2 : decide ((v : Int) < 1) = false := decide_eq_false z1
        have z3 : ¬ (3 : Int) < (v : Int) := by omega
        have z4 : decide ((3 : Int) < (v : Int)) = false := decide_eq_false z3
        have z5 : decide ((v : Int) > 3) = false := decide_eq_false z3
        have HIV := Lib.hid (show isV v = true from decide_eq_true (by omega))
        have HV3 := Lib.hid hv3
        clear hv1 hv3
        go_upto_region 5 with (fail)
        clear z1 z2 z3 z4 z5
        by_cases hlt : e.v < v
        case pos =>
          have z1 : (e.v : Int) < (v : Int) := by omega
          have z2 : decide ((e.v : Int) < (v : Int)) = true := decide_eq_true z1
          have HLT := Lib.hid hlt
          have hv3 : e.v < 3 := by have := HV3.out; omega
          have HDN := Lib.hid (to_more (v := v) HM.out hv3)
          have HUP := Lib.hid (up_is HM.out hv3)
          have HUM := Lib.hid (up_may HM.out hv3)
          have HUT := Lib.hid (show ∀ t ∈ (upE e).ts, t.size ≤ maxLen from HA0.out.txt)
          have HUV := Lib.hid (show (upE e).v = e.v + 1 from rfl)
          clear hlt hv3
          obtain ⟨x0, x1, x2, x3⟩ := HX.out
          go_wp2_with fail
          clear x0 x1 x2 x3 z1 z2
          refine (rUp_any A ca C cc e W2 HA.out).mono ?_
          rintro z W3 hz
          rw [HUP.out] at hz
          generalize upE e = u at hz HUM HUT HUV HDN
          obtain ⟨A3, c3, C3, d3, rfl, ho1, ho2, hb⟩ := hz
          have HEV := Lib.hid (evAt_of HUM.out HUT.out ho1 ho2)
          clear ho1 ho2 HA
          replace HX := Lib.hid (HX.out.below hb)
          replace HXF := Lib.hid (free_below HXF.out hb)
          replace HP := Lib.hid (HP.out.below hb)
          replace HPF := Lib.hid (free_below HPF.out hb)
          replace HB := Lib.hid (below_step HB.out hb)
          clear hb
          unfold evV
          have hb := (Below.refl W3.heap.size W3).alloc (Nat.le_refl _) (.cells #[.int .u8 u.v, .int .u8 u.k, .slice A3 u.ns.length c3, .slice C3 u.ts.length d3] 39)
          have HQ := Lib.hid (show Four _ W3.heap.size _ _ _ _ from box4 W3 (.int .u8 u.v) (.int .u8 u.k) (.slice A3 u.ns.length c3) (.slice C3 u.ts.length d3) 39)
          replace HEV := Lib.hid (HEV.out.below hb)
          replace HX := Lib.hid (HX.out.below hb)
          replace HXF := Lib.hid (free_below HXF.out hb)
          replace HP := Lib.hid (HP.out.below hb)
          replace HPF := Lib.hid (free_below HPF.out hb)
          replace HB := Lib.hid (below_step HB.out hb)
          clear hb
          go_upto_region 7 with (fail)
          generalize hWs : W3.heap.size = b8 at HQ ⊢
          clear hWs
          generalize W3.alloc (.cells #[.int .u8 u.v, .int .u8 u.k, .slice A3 u.ns.length c3, .slice C3 u.ts.length d3] 39) = W4 at HX HXF HP HPF HB HEV HQ ⊢
          obtain ⟨q0, q1, q2, q3⟩ := HQ.out
          go_wp2_with fail
          clear q0 q1 q2 q3
          have hsz := HPF.out.1
          refine (IH.out _ (by have := HDI.out; have := HLT.out; have := HUV.out; omega) A3 c3 C3 d3 u v rfl HVV.out W4 HEV.out).mono ?_
          rintro z W5 hz
          cases hq : toX u v with
          | error x =>
            rw [hq] at hz
            obtain ⟨rfl, hb⟩ := hz
            replace HX := Lib.hid (HX.out.below hb)
            replace HXF := Lib.hid (free_below HXF.out hb)
            replace HP := Lib.hid (HP.out.below hb)
            replace HPF := Lib.hid (free_below HPF.out hb)
            replace HB := Lib.hid (below_step HB.out hb)
            clear hb
            replace HDN := Lib.hid (HDN.out.trans hq)
            clear hq HEV
            obtain ⟨p0, p1, p2, p3⟩ := HP.out
            have f0 := HPF.out.2 0
            have f1 := HPF.out.2 1
            have f2 := HPF.out.2 2
            have f3 := HPF.out.2 3
            go_wp2_with fail
            clear p0 p1 p2 p3 f0 f1 f2 f3
            obtain ⟨d0, d1, d2, d3⟩ := HP.out.set4 (.int .u8 0) (.int .u8 0) (.slice none 0 0) (.slice none 0 0)
            refine bodyPost_ret (v := .tuple #[.agg #[.int .u8 0, .int .u8 0, .slice none 0 0, .slice none 0 0], .int .i64 x]) (by simp [results, Tryz.results54, go_sem, d0, d1, d2, d3]) rfl ?_
            rw [HDN.out]
            exact ⟨rfl, HB.out.trans ((touch4 W5 (w.heap.size + 1) _ _ _ _).below (Nat.le_succ _) HB.out.size)⟩
          | ok g =>
            rw [hq] at hz
            obtain ⟨A1, c1, C1, c2, rfl, ho1, ho2, hb⟩ := hz
            have HO1 := Lib.hid (ho1.less (show w.heap.size + 2 ≤ _ by omega))
            have HO2 := Lib.hid (ho2.less (show w.heap.size + 2 ≤ _ by omega))
            replace HX := Lib.hid (HX.out.below hb)
            replace HXF := Lib.hid (free_below HXF.out hb)
            replace HP := Lib.hid (HP.out.below hb)
            replace HPF := Lib.hid (free_below HPF.out hb)
            replace HB := Lib.hid (below_step HB.out hb)
            clear hb
            replace HDN := Lib.hid (HDN.out.trans hq)
            clear hq ho1 ho2 hsz HEV
            unfold evV
            obtain ⟨p0, p1, p2, p3⟩ := HP.out
            have f0 := HPF.out.2 0
            have f1 := HPF.out.2 1
            have f2 := HPF.out.2 2
            have f3 := HPF.out.2 3
            go_wp2_with fail
            clear p0 p1 p2 p3 f0 f1 f2 f3
            obtain ⟨d0, d1, d2, d3⟩ := HP.out.set4 (.int .u8 g.v) (.int .u8 g.k) (.slice A1 g.ns.length c1) (.slice C1 g.ts.length c2)
            refine bodyPost_ret (v := .tuple #[.agg #[.int .u8 g.v, .int .u8 g.k, .slice A1 g.ns.length c1, .slice C1 g.ts.length c2], .int .i64 0]) (by simp [results, Tryz.results54, go_sem, d0, d1, d2, d3]) rfl ?_
            rw [HDN.out]
            exact ⟨A1, c1, C1, c2, rfl, (ownE_set4 HO1.out (Nat.lt_succ_self _)).less (by omega), (ownE_set4 HO2.out (Nat.lt_succ_self _)).less (by omega), HB.out.trans ((touch4 W5 (w.heap.size + 1) _ _ _ _).below (Nat.le_succ _) HB.out.size)⟩
        case neg =>
          have z1 : ¬ (e.v : Int) < (v : Int) := by omega
          have z2 : decide ((e.v : Int) < (v : Int)) = false := decide_eq_false z1
          have HGE := Lib.hid hlt
          clear hlt
          obtain ⟨x0, x1, x2, x3⟩ := HX.out
          go_upto_region 8 with (fail)
          clear x0 x1 x2 x3 z1 z2
          by_cases hlt : v < e.v
          case pos =>
            have z1 : (v : Int) < (e.v : Int) := by omega
            have z2 : decide ((v : Int) < (e.v : Int)) = true := decide_eq_true z1
            have z3 : decide ((e.v : Int) > (v : Int)) = true := decide_eq_true z1
            have HLT := Lib.hid hlt
            have HDM := Lib.hid (down_is HM.out)
            clear hlt
            obtain ⟨x0, x1, x2, x3⟩ := HX.out
            go_wp2_with fail
            clear x0 x1 x2 x3 z1 z2 z3
            refine (rDown_any A ca C cc e W2 HA.out).mono ?_
            rintro z W3 hz
            rw [HDM.out] at hz
            cases hq : downX e with
            | error x =>
              have hx := down_err hq
              subst hx
              rw [hq] at hz
              obtain ⟨rfl, hb⟩ := hz
              have HDN := Lib.hid (to_err' HM.out HIV.out HLT.out hq)
              clear HA hq
              replace HX := Lib.hid (HX.out.below hb)
              replace HXF := Lib.hid (free_below HXF.out hb)
              replace HP := Lib.hid (HP.out.below hb)
              replace HPF := Lib.hid (free_below HPF.out hb)
              replace HB := Lib.hid (below_step HB.out hb)
              clear hb
              have hb := (Below.refl W3.heap.size W3).alloc (Nat.le_refl _) (.cells #[.int .u8 0, .int .u8 0, .slice none 0 0, .slice none 0 0] 39)
              replace HX := Lib.hid (HX.out.below hb)
              replace HXF := Lib.hid (free_below HXF.out hb)
              replace HP := Lib.hid (HP.out.below hb)
              replace HPF := Lib.hid (free_below HPF.out hb)
              replace HB := Lib.hid (below_step HB.out hb)
              clear hb
              go_upto_region 10 with (fail)
              generalize W3.alloc (.cells #[.int .u8 0, .int .u8 0, .slice none 0 0, .slice none 0 0] 39) = W4 at HX HXF HP HPF HB ⊢
              obtain ⟨p0, p1, p2, p3⟩ := HP.out
              have f0 := HPF.out.2 0
              have f1 := HPF.out.2 1
              have f2 := HPF.out.2 2
              have f3 := HPF.out.2 3
              go_wp2_with fail
              clear p0 p1 p2 p3 f0 f1 f2 f3
              obtain ⟨d0, d1, d2, d3⟩ := HP.out.set4 (.int .u8 0) (.int .u8 0) (.slice none 0 0) (.slice none 0 0)
              refine bodyPost_ret (v := .tuple #[.agg #[.int .u8 0, .int .u8 0, .slice none 0 0, .slice none 0 0], .int .i64 43]) (by simp [results, Tryz.results54, go_sem, d0, d1, d2, d3]) rfl ?_
              rw [HDN.out]
              exact ⟨rfl, HB.out.trans ((touch4 W4 (w.heap.size + 1) _ _ _ _).below (Nat.le_succ _) HB.out.size)⟩
            | ok d =>
              have HDN := Lib.hid (to_less (v := v) HM.out hq)
              have hdo := down_out HO.out.v1 hq
              have HUM := Lib.hid (down_may HM.out hq)
              have HUV := Lib.hid hdo.ev
              have HUT := Lib.hid (show ∀ t ∈ d.ts, t.size ≤ maxLen by rw [← hdo.ts]; exact HA0.out.txt)
              rw [hq] at hz
              obtain ⟨A3, c3, C3, d3, rfl, ho1, ho2, hb⟩ := hz
              have HEV := Lib.hid (evAt_of HUM.out HUT.out ho1 ho2)
              clear ho1 ho2 HA hq hdo
              replace HX := Lib.hid (HX.out.below hb)
              replace HXF := Lib.hid (free_below HXF.out hb)
              replace HP := Lib.hid (HP.out.below hb)
              replace HPF := Lib.hid (free_below HPF.out hb)
              replace HB := Lib.hid (below_step HB.out hb)
              clear hb
              unfold evV
              have hb := (Below.refl W3.heap.size W3).alloc (Nat.le_refl _) (.cells #[.int .u8 d.v, .int .u8 d.k, .slice A3 d.ns.length c3, .slice C3 d.ts.length d3] 39)
              have HQ := Lib.hid (show Four _ W3.heap.size _ _ _ _ from box4 W3 (.int .u8 d.v) (.int .u8 d.k) (.slice A3 d.ns.length c3) (.slice C3 d.ts.length d3) 39)
              replace HEV := Lib.hid (HEV.out.below hb)
              replace HX := Lib.hid (HX.out.below hb)
              replace HXF := Lib.hid (free_below HXF.out hb)
              replace HP := Lib.hid (HP.out.below hb)
              replace HPF := Lib.hid (free_below HPF.out hb)
              replace HB := Lib.hid (below_step HB.out hb)
              clear hb
              go_upto_region 12 with (fail)
              generalize hWs : W3.heap.size = b8 at HQ ⊢
              clear hWs
              generalize W3.alloc (.cells #[.int .u8 d.v, .int .u8 d.k, .slice A3 d.ns.length c3, .slice C3 d.ts.length d3] 39) = W4 at HX HXF HP HPF HB HEV HQ ⊢
              obtain ⟨q0, q1, q2, q3⟩ := HQ.out
              go_wp2_with fail
              clear q0 q1 q2 q3
              have hsz := HPF.out.1
              refine (IH.out _ (by have := HDI.out; have := HLT.out; have := HUV.out; omega) A3 c3 C3 d3 d v rfl HVV.out W4 HEV.out).mono ?_
              rintro z W5 hz
              cases hq : toX d v with
              | error x =>
                rw [hq] at hz
                obtain ⟨rfl, hb⟩ := hz
                replace HX := Lib.hid (HX.out.below hb)
                replace HXF := Lib.hid (free_below HXF.out hb)
                replace HP := Lib.hid (HP.out.below hb)
                replace HPF := Lib.hid (free_below HPF.out hb)
                replace HB := Lib.hid (below_step HB.out hb)
                clear hb
                replace HDN := Lib.hid (HDN.out.trans hq)
                clear hq HEV
                obtain ⟨p0, p1, p2, p3⟩ := HP.out
                have f0 := HPF.out.2 0
                have f1 := HPF.out.2 1
                have f2 := HPF.out.2 2
                have f3 := HPF.out.2 3
                go_wp2_with fail
                clear p0 p1 p2 p3 f0 f1 f2 f3
                obtain ⟨d0, d1, d2, d3⟩ := HP.out.set4 (.int .u8 0) (.int .u8 0) (.slice none 0 0) (.slice none 0 0)
                refine bodyPost_ret (v := .tuple #[.agg #[.int .u8 0, .int .u8 0, .slice none 0 0, .slice none 0 0], .int .i64 x]) (by simp [results, Tryz.results54, go_sem, d0, d1, d2, d3]) rfl ?_
                rw [HDN.out]
                exact ⟨rfl, HB.out.trans ((touch4 W5 (w.heap.size + 1) _ _ _ _).below (Nat.le_succ _) HB.out.size)⟩
              | ok g =>
                rw [hq] at hz
                obtain ⟨A1, c1, C1, c2, rfl, ho1, ho2, hb⟩ := hz
                have HO1 := Lib.hid (ho1.less (show w.heap.size + 2 ≤ _ by omega))
                have HO2 := Lib.hid (ho2.less (show w.heap.size + 2 ≤ _ by omega))
                replace HX := Lib.hid (HX.out.below hb)
                replace HXF := Lib.hid (free_below HXF.out hb)
                replace HP := Lib.hid (HP.out.below hb)
                replace HPF := Lib.hid (free_below HPF.out hb)
                replace HB := Lib.hid (below_step HB.out hb)
                clear hb
                replace HDN := Lib.hid (HDN.out.trans hq)
                clear hq ho1 ho2 hsz HEV
                unfold evV
                obtain ⟨p0, p1, p2, p3⟩ := HP.out
                have f0 := HPF.out.2 0
                have f1 := HPF.out.2 1
                have f2 := HPF.out.2 2
                have f3 := HPF.out.2 3
                go_wp2_with fail
                clear p0 p1 p2 p3 f0 f1 f2 f3
                obtain ⟨d0, d1, d2, d3⟩ := HP.out.set4 (.int .u8 g.v) (.int .u8 g.k) (.slice A1 g.ns.length c1) (.slice C1 g.ts.length c2)
                refine bodyPost_ret (v := .tuple #[.agg #[.int .u8 g.v, .int .u8 g.k, .slice A1 g.ns.length c1, .slice C1 g.ts.length c2], .int .i64 0]) (by simp [results, Tryz.results54, go_sem, d0, d1, d2, d3]) rfl ?_
                rw [HDN.out]
                exact ⟨A1, c1, C1, c2, rfl, (ownE_set4 HO1.out (Nat.lt_succ_self _)).less (by omega), (ownE_set4 HO2.out (Nat.lt_succ_self _)).less (by omega), HB.out.trans ((touch4 W5 (w.heap.size + 1) _ _ _ _).below (Nat.le_succ _) HB.out.size)⟩
          case neg =>
            have z1 : ¬ (v : Int) < (e.v : Int) := by omega
            have z2 : decide ((v : Int) < (e.v : Int)) = false := decide_eq_false z1
            have z3 : decide ((e.v : Int) > (v : Int)) = false := decide_eq_false z1
            have HDN := Lib.hid (show toX e v = .ok e by (have h := to_self HM.out; rw [show e.v = v by (have := HGE.out; omega)] at h; exact h))
            clear hlt
            obtain ⟨x0, x1, x2, x3⟩ := HX.out
            go_upto_region 13 with (fail)
            clear x0 x1 x2 x3 z1 z2 z3 HA
            refine wp_region_held_drew (S := (fun w' => w'.cell? ⟨w.heap.size, 0, none⟩ = some (.int .u8 e.v) ∧ w'.cell? ⟨w.heap.size, 1, none⟩ = some (.int .u8 e.k) ∧ w'.cell? ⟨w.heap.size, 2, none⟩ = some (.slice A e.ns.length ca) ∧ w'.cell? ⟨w.heap.size, 3, none⟩ = some (.slice C e.ts.length cc))) (by kernel_rfl) (HX.out.below (below_drew W2.heap.size W2)) (fun hHeld => ?_)
            have gd := below_drew W2.heap.size W2
            replace HX := Lib.hid (HX.out.below gd)
            replace HP := Lib.hid (HP.out.below gd)
            replace HPF := Lib.hid (free_below HPF.out gd)
            replace HB := Lib.hid (below_step HB.out gd)
            clear gd HXF
            generalize W2.drew = D0 at HX HP HPF HB hHeld ⊢
            refine wpAnyH_take (i := 0) (oi := { dst := some 53, op := Go.Op.fieldAddr 39 (Go.Operand.tmp 2) 0, type := 0, pos := "ref.go:157", after := #[], guard := none }) (v := ?v1) rfl (by kernel_rfl) (by kernel_rfl) (by kernel_rfl) (fun _ _ _ h => h) (Or.inl ⟨by rfl, ?hy1⟩) (by assumption) ?rest1
            case hy1 => (intro w hSw; obtain ⟨s0, s1, s2, s3⟩ := hSw; go_simp; try with_reducible rfl)
            try simp only [Act.put, List.setIfInBounds_toArray, List.set_cons_zero, List.set_cons_succ]
            refine wpAnyH_take (i := 1) (oi := { dst := some 54, op := Go.Op.load 5 (Go.Operand.tmp 53), type := 5, pos := "ref.go:157", after := #[{ on := 0, ground := Go.Ground.data }], guard := none }) (v := ?v2) rfl (by kernel_rfl) (by kernel_rfl) (by kernel_rfl) (fun _ _ _ h => h) (Or.inl ⟨by rfl, ?hy2⟩) (by assumption) ?rest2
            case hy2 => (intro w hSw; obtain ⟨s0, s1, s2, s3⟩ := hSw; go_simp; try with_reducible rfl)
            try simp only [Act.put, List.setIfInBounds_toArray, List.set_cons_zero, List.set_cons_succ]
            refine wpAnyH_take (i := 2) (oi := { dst := some 55, op := Go.Op.fieldAddr 39 (Go.Operand.tmp 2) 1, type := 0, pos := "ref.go:157", after := #[], guard := none }) (v := ?v3) rfl (by kernel_rfl) (by kernel_rfl) (by kernel_rfl) (fun _ _ _ h => h) (Or.inl ⟨by rfl, ?hy3⟩) (by assumption) ?rest3
            case hy3 => (intro w hSw; obtain ⟨s0, s1, s2, s3⟩ := hSw; go_simp; try with_reducible rfl)
            try simp only [Act.put, List.setIfInBounds_toArray, List.set_cons_zero, List.set_cons_succ]
            refine wpAnyH_take (i := 3) (oi := { dst := some 56, op := Go.Op.load 5 (Go.Operand.tmp 55), type := 5, pos := "ref.go:157", after := #[{ on := 2, ground := Go.Ground.data }], guard := none }) (v := ?v4) rfl (by kernel_rfl) (by kernel_rfl) (by kernel_rfl) (fun _ _ _ h => h) (Or.inl ⟨by rfl, ?hy4⟩) (by assumption) ?rest4
            case hy4 => (intro w hSw; obtain ⟨s0, s1, s2, s3⟩ := hSw; go_simp; try with_reducible rfl)
            try simp only [Act.put, List.setIfInBounds_toArray, List.set_cons_zero, List.set_cons_succ]
            refine wpAnyH_take (i := 5) (oi := { dst := some 58, op := Go.Op.fieldAddr 39 (Go.Operand.tmp 2) 2, type := 0, pos := "ref.go:157", after := #[], guard := none }) (v := ?v5) rfl (by kernel_rfl) (by kernel_rfl) (by kernel_rfl) (fun _ _ _ h => h) (Or.inl ⟨by rfl, ?hy5⟩) (by assumption) ?rest5
            case hy5 => (intro w hSw; obtain ⟨s0, s1, s2, s3⟩ := hSw; go_simp; try with_reducible rfl)
            try simp only [Act.put, List.setIfInBounds_toArray, List.set_cons_zero, List.set_cons_succ]
            refine wpAnyH_take (i := 6) (oi := { dst := some 59, op := Go.Op.load 36 (Go.Operand.tmp 58), type := 36, pos := "ref.go:157", after := #[{ on := 5, ground := Go.Ground.data }], guard := none }) (v := ?v6) rfl (by kernel_rfl) (by kernel_rfl) (by kernel_rfl) (fun _ _ _ h => h) (Or.inl ⟨by rfl, ?hy6⟩) (by assumption) ?rest6
            case hy6 => (intro w hSw; obtain ⟨s0, s1, s2, s3⟩ := hSw; go_simp; try with_reducible rfl)
            try simp only [Act.put, List.setIfInBounds_toArray, List.set_cons_zero, List.set_cons_succ]
            refine wpAnyH_take (i := 9) (oi := { dst := some 62, op := Go.Op.fieldAddr 39 (Go.Operand.tmp 2) 3, type := 0, pos := "ref.go:157", after := #[], guard := none }) (v := ?v7) rfl (by kernel_rfl) (by kernel_rfl) (by kernel_rfl) (fun _ _ _ h => h) (Or.inl ⟨by rfl, ?hy7⟩) (by assumption) ?rest7
            case hy7 => (intro w hSw; obtain ⟨s0, s1, s2, s3⟩ := hSw; go_simp; try with_reducible rfl)
            try simp only [Act.put, List.setIfInBounds_toArray, List.set_cons_zero, List.set_cons_succ]
            refine wpAnyH_take (i := 10) (oi := { dst := some 63, op := Go.Op.load 37 (Go.Operand.tmp 62), type := 37, pos := "ref.go:157", after := #[{ on := 9, ground := Go.Ground.data }], guard := none }) (v := ?v8) rfl (by kernel_rfl) (by kernel_rfl) (by kernel_rfl) (fun _ _ _ h => h) (Or.inl ⟨by rfl, ?hy8⟩) (by assumption) ?rest8
            case hy8 => (intro w hSw; obtain ⟨s0, s1, s2, s3⟩ := hSw; go_simp; try with_reducible rfl)
            try simp only [Act.put, List.setIfInBounds_toArray, List.set_cons_zero, List.set_cons_succ]
            refine wpAnyH_ready (rs := [4, 8]) (by kernel_rfl) (by simp) ?_
            refine (AllReadyH.cons (o := { dst := some 57, op := Go.Op.buildSlice 36 0 #[], type := 36, pos := "ref.go:157", after := #[], guard := none }) rfl (fun K hK => ?br9_4) (AllReadyH.cons (o := { dst := some 61, op := Go.Op.buildSlice 37 0 #[], type := 37, pos := "ref.go:157", after := #[], guard := none }) rfl (fun K hK => ?br9_8) AllReadyH.nil))
            case br9_4 =>
             have hb := (Below.refl D0.heap.size D0).alloc (Nat.le_refl _) (.cells #[] 2)
             have HGN := Lib.hid (show w.heap.size + 2 ≤ D0.heap.size from HPF.out.1)
             replace HX := Lib.hid (HX.out.below hb)
             replace HP := Lib.hid (HP.out.below hb)
             replace HPF := Lib.hid (free_below HPF.out hb)
             replace HB := Lib.hid (below_step HB.out hb)
             have HSN := Lib.hid (Own.made D0 D0.heap.size 2 (Nat.le_refl _))
             go_simp
             refine hK.out _ _ HX.out (fun hHeld => ?_)
             clear hK K hb
             generalize D0.heap.size = gN at HSN HGN ⊢
             generalize D0.alloc (.cells #[] 2) = V1 at HX HP HPF HB HSN hHeld ⊢
             try simp only [Act.put, List.setIfInBounds_toArray, List.set_cons_zero, List.set_cons_succ]
             refine wpAnyH_ready (rs := [7, 8]) (by kernel_rfl) (by simp) ?_
             refine (AllReadyH.cons (o := { dst := some 60, op := Go.Op.call { callee := Go.Callee.builtin Go.Builtin.append, args := #[Go.Operand.tmp 57, Go.Operand.tmp 59], argTypes := #[36, 36] }, type := 36, pos := "ref.go:157", after := #[{ on := 4, ground := Go.Ground.data }, { on := 6, ground := Go.Ground.data }], guard := none }) rfl (fun K hK => ?br10_7) (AllReadyH.cons (o := { dst := some 61, op := Go.Op.buildSlice 37 0 #[], type := 37, pos := "ref.go:157", after := #[], guard := none }) rfl (fun K hK => ?br10_8) AllReadyH.nil))
             case br10_7 =>
              refine wp_append_vals 36 2 (.int .i64 0) 8 Tryz.underlying36 infoN rfl (by decide) (.tmp 57) (.tmp 59) rfl gN (.slice (some ⟨gN, 0, none⟩) 0 0) [] rfl HSN.out A _ ca (nums e.ns) rfl (nums_len _).symm ((HA0.out.below HB.out).ns) (nums_cell _) HA0.out.nA (by have := HO.out.ln; have := lets_few e.v e.k; have := nums_len e.ns; simp only [List.length_nil]; omega) (Nat.le_of_lt (World.ownsRow.lt HSN.out gN rfl).2) ?_
              intro v' V2 hO hg
              rw [List.nil_append] at hO
              obtain ⟨A1, c1, rfl, -, -⟩ := hO.vat
              rw [nums_len] at hO ⊢
              have hb := below_grown HSN.out (Nat.le_refl _) (Nat.le_of_lt (World.ownsRow.lt HSN.out gN rfl).2) hg
              have hg0 := HGN.out
              have HON : Hid (OwnE V2 (w.heap.size + 2) 2 (.slice A1 e.ns.length c1) (nums e.ns)) := Lib.hid (Or.inl (hO.less hg0))
              replace HX := Lib.hid (four_low HX.out hb (by omega))
              replace HP := Lib.hid (four_low HP.out hb (by omega))
              replace HPF := Lib.hid (free_low HPF.out hb (by omega))
              replace HB := Lib.hid (HB.out.trans (hb.mono (by omega)))
              clear hO hg hb hg0 HSN HGN
              refine hK.out _ _ HX.out (fun hHeld => ?_)
              clear hK K
              try simp only [Act.put, List.setIfInBounds_toArray, List.set_cons_zero, List.set_cons_succ]
              refine wpAnyH_ready (rs := [8]) (by kernel_rfl) (by simp) ?_
              refine (AllReadyH.cons (o := { dst := some 61, op := Go.Op.buildSlice 37 0 #[], type := 37, pos := "ref.go:157", after := #[], guard := none }) rfl (fun K hK => ?br11_8) AllReadyH.nil)
              case br11_8 =>
               have hb := (Below.refl V2.heap.size V2).alloc (Nat.le_refl _) (.cells #[] 9)
               have HGS := Lib.hid (show w.heap.size + 2 ≤ V2.heap.size from HPF.out.1)
               replace HX := Lib.hid (HX.out.below hb)
               replace HP := Lib.hid (HP.out.below hb)
               replace HPF := Lib.hid (free_below HPF.out hb)
               replace HB := Lib.hid (below_step HB.out hb)
               replace HON := Lib.hid (HON.out.below hb)
               have HSS := Lib.hid (Own.made V2 V2.heap.size 9 (Nat.le_refl _))
               go_simp
               refine hK.out _ _ HX.out (fun hHeld => ?_)
               clear hK K hb
               generalize V2.heap.size = gS at HSS HGS ⊢
               generalize V2.alloc (.cells #[] 9) = V3 at HX HP HPF HB HON HSS hHeld ⊢
               try simp only [Act.put, List.setIfInBounds_toArray, List.set_cons_zero, List.set_cons_succ]
               refine wpAnyH_ready (rs := [11]) (by kernel_rfl) (by simp) ?_
               refine (AllReadyH.cons (o := { dst := some 64, op := Go.Op.call { callee := Go.Callee.builtin Go.Builtin.append, args := #[Go.Operand.tmp 61, Go.Operand.tmp 63], argTypes := #[37, 37] }, type := 37, pos := "ref.go:157", after := #[{ on := 8, ground := Go.Ground.data }, { on := 10, ground := Go.Ground.data }, { on := 7, ground := Go.Ground.chain }], guard := none }) rfl (fun K hK => ?br12_11) AllReadyH.nil)
               case br12_11 =>
                refine wp_append_vals 37 9 (.string ByteArray.empty) 16 Tryz.underlying37 infoT rfl (by decide) (.tmp 61) (.tmp 63) rfl gS (.slice (some ⟨gS, 0, none⟩) 0 0) [] rfl HSS.out C _ cc (texts e.ts) rfl (texts_len _).symm ((HA0.out.below HB.out).ts) (texts_cell _) HA0.out.nB (by have := HO.out.tx; have := texts_len e.ts; simp only [List.length_nil]; omega) (Nat.le_of_lt (World.ownsRow.lt HSS.out gS rfl).2) ?_
                intro v' V4 hO hg
                rw [List.nil_append] at hO
                obtain ⟨C1, c2, rfl, -, -⟩ := hO.vat
                rw [texts_len] at hO ⊢
                have hb := below_grown HSS.out (Nat.le_refl _) (Nat.le_of_lt (World.ownsRow.lt HSS.out gS rfl).2) hg
                have hg0 := HGS.out
                have HOS : Hid (OwnE V4 (w.heap.size + 2) 9 (.slice C1 e.ts.length c2) (texts e.ts)) := Lib.hid (Or.inl (hO.less hg0))
                replace HX := Lib.hid (four_low HX.out hb (by omega))
                replace HP := Lib.hid (four_low HP.out hb (by omega))
                replace HPF := Lib.hid (free_low HPF.out hb (by omega))
                replace HB := Lib.hid (HB.out.trans (hb.mono (by omega)))
                replace HON := Lib.hid (ownE_apart HON.out HSS.out (by decide) hg)
                clear hO hg hb hg0 HSS HGS
                refine hK.out _ _ HX.out (fun hHeld => ?_)
                clear hK K
                try simp only [Act.put, List.setIfInBounds_toArray, List.set_cons_zero, List.set_cons_succ]
                refine wpAnyH_take (i := 12) (oi := { dst := some 65, op := Go.Op.build 39 #[(0, Go.Operand.tmp 54), (1, Go.Operand.tmp 56), (2, Go.Operand.tmp 60), (3, Go.Operand.tmp 64)], type := 39, pos := "ref.go:157", after := #[{ on := 1, ground := Go.Ground.data }, { on := 3, ground := Go.Ground.data }, { on := 7, ground := Go.Ground.data }, { on := 11, ground := Go.Ground.data }], guard := none }) (v := ?v13) rfl (by kernel_rfl) (by kernel_rfl) (by kernel_rfl) (fun _ _ _ h => h) (Or.inl ⟨by rfl, ?hy13⟩) (by assumption) ?rest13
                case hy13 => (intro w hSw; obtain ⟨s0, s1, s2, s3⟩ := hSw; go_simp; try with_reducible rfl)
                try simp only [Act.put, List.setIfInBounds_toArray, List.set_cons_zero, List.set_cons_succ]
                refine wpAnyH_ready (rs := [13]) (by kernel_rfl) (by simp) ?_
                refine (AllReadyH.cons (o := { dst := none, op := Go.Op.store 39 (Go.Operand.tmp 4) (Go.Operand.tmp 65), type := 0, pos := "ref.go:157", after := #[{ on := 12, ground := Go.Ground.data }, { on := 11, ground := Go.Ground.chain }, { on := 0, ground := Go.Ground.phase }, { on := 1, ground := Go.Ground.phase }, { on := 2, ground := Go.Ground.phase }, { on := 3, ground := Go.Ground.phase }, { on := 4, ground := Go.Ground.phase }, { on := 5, ground := Go.Ground.phase }, { on := 6, ground := Go.Ground.phase }, { on := 7, ground := Go.Ground.phase }, { on := 8, ground := Go.Ground.phase }, { on := 9, ground := Go.Ground.phase }, { on := 10, ground := Go.Ground.phase }, { on := 11, ground := Go.Ground.phase }, { on := 12, ground := Go.Ground.phase }], guard := none }) rfl (fun K hK => ?br14_13) AllReadyH.nil)
                case br14_13 =>
                 obtain ⟨p0, p1, p2, p3⟩ := HP.out
                 have f0 := HPF.out.2 0
                 have f1 := HPF.out.2 1
                 have f2 := HPF.out.2 2
                 have f3 := HPF.out.2 3
                 go_simp
                 clear p0 p1 p2 p3 f0 f1 f2 f3
                 have hx4 := Four.touch HX.out (touch4 V4 (w.heap.size + 1) (.int .u8 e.v) (.int .u8 e.k) (.slice A1 e.ns.length c1) (.slice C1 e.ts.length c2)) (Or.inl (Nat.lt_succ_self _))
                 refine hK.out _ _ hx4 (fun hHeld => ?_)
                 clear hK K hx4
                 try simp only [Act.put, List.setIfInBounds_toArray, List.set_cons_zero, List.set_cons_succ]
                 refine wpAnyH_take (i := 14) (oi := { dst := some 5, op := Go.Op.assign (Go.Operand.const (Go.Value.int Go.IntKind.i64 0)), type := 26, pos := "ref.go:157", after := #[{ on := 13, ground := Go.Ground.chain }, { on := 0, ground := Go.Ground.phase }, { on := 1, ground := Go.Ground.phase }, { on := 2, ground := Go.Ground.phase }, { on := 3, ground := Go.Ground.phase }, { on := 4, ground := Go.Ground.phase }, { on := 5, ground := Go.Ground.phase }, { on := 6, ground := Go.Ground.phase }, { on := 7, ground := Go.Ground.phase }, { on := 8, ground := Go.Ground.phase }, { on := 9, ground := Go.Ground.phase }, { on := 10, ground := Go.Ground.phase }, { on := 11, ground := Go.Ground.phase }, { on := 12, ground := Go.Ground.phase }, { on := 13, ground := Go.Ground.phase }], guard := none }) (v := ?v15) rfl (by kernel_rfl) (by kernel_rfl) (by kernel_rfl) (fun _ _ _ h => h) (Or.inl ⟨by rfl, ?hy15⟩) (by assumption) ?rest15
                 case hy15 => (intro w hSw; obtain ⟨s0, s1, s2, s3⟩ := hSw; go_simp; try with_reducible rfl)
                 try simp only [Act.put, List.setIfInBounds_toArray, List.set_cons_zero, List.set_cons_succ]
                 refine wpAnyH_done (by kernel_rfl) ?_ _
                 go_wp2_with fail
                 obtain ⟨d0, d1, d2, d3⟩ := HP.out.set4 (.int .u8 e.v) (.int .u8 e.k) (.slice A1 e.ns.length c1) (.slice C1 e.ts.length c2)
                 refine bodyPost_ret (v := .tuple #[.agg #[.int .u8 e.v, .int .u8 e.k, .slice A1 e.ns.length c1, .slice C1 e.ts.length c2], .int .i64 0]) (by simp [results, Tryz.results54, go_sem, d0, d1, d2, d3]) rfl ?_
                 rw [HDN.out]
                 exact ⟨A1, c1, C1, c2, rfl, (ownE_set4 HON.out (Nat.lt_succ_self _)).less (by omega), (ownE_set4 HOS.out (Nat.lt_succ_self _)).less (by omega), HB.out.trans ((touch4 V4 (w.heap.size + 1) _ _ _ _).below (Nat.le_succ _) HB.out.size)⟩
             case br10_8 =>
              have hb := (Below.refl V1.heap.size V1).alloc (Nat.le_refl _) (.cells #[] 9)
              have HGS := Lib.hid (show w.heap.size + 2 ≤ V1.heap.size from HPF.out.1)
              replace HX := Lib.hid (HX.out.below hb)
              replace HP := Lib.hid (HP.out.below hb)
              replace HPF := Lib.hid (free_below HPF.out hb)
              replace HB := Lib.hid (below_step HB.out hb)
              replace HSN := Lib.hid (HSN.out.below hb)
              have HSS := Lib.hid (Own.made V1 V1.heap.size 9 (Nat.le_refl _))
              go_simp
              refine hK.out _ _ HX.out (fun hHeld => ?_)
              clear hK K hb
              generalize V1.heap.size = gS at HSS HGS ⊢
              generalize V1.alloc (.cells #[] 9) = V2 at HX HP HPF HB HSN HSS hHeld ⊢
              try simp only [Act.put, List.setIfInBounds_toArray, List.set_cons_zero, List.set_cons_succ]
              refine wpAnyH_ready (rs := [7]) (by kernel_rfl) (by simp) ?_
              refine (AllReadyH.cons (o := { dst := some 60, op := Go.Op.call { callee := Go.Callee.builtin Go.Builtin.append, args := #[Go.Operand.tmp 57, Go.Operand.tmp 59], argTypes := #[36, 36] }, type := 36, pos := "ref.go:157", after := #[{ on := 4, ground := Go.Ground.data }, { on := 6, ground := Go.Ground.data }], guard := none }) rfl (fun K hK => ?br16_7) AllReadyH.nil)
              case br16_7 =>
               refine wp_append_vals 36 2 (.int .i64 0) 8 Tryz.underlying36 infoN rfl (by decide) (.tmp 57) (.tmp 59) rfl gN (.slice (some ⟨gN, 0, none⟩) 0 0) [] rfl HSN.out A _ ca (nums e.ns) rfl (nums_len _).symm ((HA0.out.below HB.out).ns) (nums_cell _) HA0.out.nA (by have := HO.out.ln; have := lets_few e.v e.k; have := nums_len e.ns; simp only [List.length_nil]; omega) (Nat.le_of_lt (World.ownsRow.lt HSN.out gN rfl).2) ?_
               intro v' V3 hO hg
               rw [List.nil_append] at hO
               obtain ⟨A1, c1, rfl, -, -⟩ := hO.vat
               rw [nums_len] at hO ⊢
               have hb := below_grown HSN.out (Nat.le_refl _) (Nat.le_of_lt (World.ownsRow.lt HSN.out gN rfl).2) hg
               have hg0 := HGN.out
               have HON : Hid (OwnE V3 (w.heap.size + 2) 2 (.slice A1 e.ns.length c1) (nums e.ns)) := Lib.hid (Or.inl (hO.less hg0))
               replace HX := Lib.hid (four_low HX.out hb (by omega))
               replace HP := Lib.hid (four_low HP.out hb (by omega))
               replace HPF := Lib.hid (free_low HPF.out hb (by omega))
               replace HB := Lib.hid (HB.out.trans (hb.mono (by omega)))
               replace HSS := Lib.hid (own_apart HSS.out HSN.out (by decide) hg)
               clear hO hg hb hg0 HSN HGN
               refine hK.out _ _ HX.out (fun hHeld => ?_)
               clear hK K
               try simp only [Act.put, List.setIfInBounds_toArray, List.set_cons_zero, List.set_cons_succ]
               refine wpAnyH_ready (rs := [11]) (by kernel_rfl) (by simp) ?_
               refine (AllReadyH.cons (o := { dst := some 64, op := Go.Op.call { callee := Go.Callee.builtin Go.Builtin.append, args := #[Go.Operand.tmp 61, Go.Operand.tmp 63], argTypes := #[37, 37] }, type := 37, pos := "ref.go:157", after := #[{ on := 8, ground := Go.Ground.data }, { on := 10, ground := Go.Ground.data }, { on := 7, ground := Go.Ground.chain }], guard := none }) rfl (fun K hK => ?br17_11) AllReadyH.nil)
               case br17_11 =>
                refine wp_append_vals 37 9 (.string ByteArray.empty) 16 Tryz.underlying37 infoT rfl (by decide) (.tmp 61) (.tmp 63) rfl gS (.slice (some ⟨gS, 0, none⟩) 0 0) [] rfl HSS.out C _ cc (texts e.ts) rfl (texts_len _).symm ((HA0.out.below HB.out).ts) (texts_cell _) HA0.out.nB (by have := HO.out.tx; have := texts_len e.ts; simp only [List.length_nil]; omega) (Nat.le_of_lt (World.ownsRow.lt HSS.out gS rfl).2) ?_
                intro v' V4 hO hg
                rw [List.nil_append] at hO
                obtain ⟨C1, c2, rfl, -, -⟩ := hO.vat
                rw [texts_len] at hO ⊢
                have hb := below_grown HSS.out (Nat.le_refl _) (Nat.le_of_lt (World.ownsRow.lt HSS.out gS rfl).2) hg
                have hg0 := HGS.out
                have HOS : Hid (OwnE V4 (w.heap.size + 2) 9 (.slice C1 e.ts.length c2) (texts e.ts)) := Lib.hid (Or.inl (hO.less hg0))
                replace HX := Lib.hid (four_low HX.out hb (by omega))
                replace HP := Lib.hid (four_low HP.out hb (by omega))
                replace HPF := Lib.hid (free_low HPF.out hb (by omega))
                replace HB := Lib.hid (HB.out.trans (hb.mono (by omega)))
                replace HON := Lib.hid (ownE_apart HON.out HSS.out (by decide) hg)
                clear hO hg hb hg0 HSS HGS
                refine hK.out _ _ HX.out (fun hHeld => ?_)
                clear hK K
                try simp only [Act.put, List.setIfInBounds_toArray, List.set_cons_zero, List.set_cons_succ]
                refine wpAnyH_take (i := 12) (oi := { dst := some 65, op := Go.Op.build 39 #[(0, Go.Operand.tmp 54), (1, Go.Operand.tmp 56), (2, Go.Operand.tmp 60), (3, Go.Operand.tmp 64)], type := 39, pos := "ref.go:157", after := #[{ on := 1, ground := Go.Ground.data }, { on := 3, ground := Go.Ground.data }, { on := 7, ground := Go.Ground.data }, { on := 11, ground := Go.Ground.data }], guard := none }) (v := ?v18) rfl (by kernel_rfl) (by kernel_rfl) (by kernel_rfl) (fun _ _ _ h => h) (Or.inl ⟨by rfl, ?hy18⟩) (by assumption) ?rest18
                case hy18 => (intro w hSw; obtain ⟨s0, s1, s2, s3⟩ := hSw; go_simp; try with_reducible rfl)
                try simp only [Act.put, List.setIfInBounds_toArray, List.set_cons_zero, List.set_cons_succ]
                refine wpAnyH_ready (rs := [13]) (by kernel_rfl) (by simp) ?_
                refine (AllReadyH.cons (o := { dst := none, op := Go.Op.store 39 (Go.Operand.tmp 4) (Go.Operand.tmp 65), type := 0, pos := "ref.go:157", after := #[{ on := 12, ground := Go.Ground.data }, { on := 11, ground := Go.Ground.chain }, { on := 0, ground := Go.Ground.phase }, { on := 1, ground := Go.Ground.phase }, { on := 2, ground := Go.Ground.phase }, { on := 3, ground := Go.Ground.phase }, { on := 4, ground := Go.Ground.phase }, { on := 5, ground := Go.Ground.phase }, { on := 6, ground := Go.Ground.phase }, { on := 7, ground := Go.Ground.phase }, { on := 8, ground := Go.Ground.phase }, { on := 9, ground := Go.Ground.phase }, { on := 10, ground := Go.Ground.phase }, { on := 11, ground := Go.Ground.phase }, { on := 12, ground := Go.Ground.phase }], guard := none }) rfl (fun K hK => ?br19_13) AllReadyH.nil)
                case br19_13 =>
                 obtain ⟨p0, p1, p2, p3⟩ := HP.out
                 have f0 := HPF.out.2 0
                 have f1 := HPF.out.2 1
                 have f2 := HPF.out.2 2
                 have f3 := HPF.out.2 3
                 go_simp
                 clear p0 p1 p2 p3 f0 f1 f2 f3
                 have hx4 := Four.touch HX.out (touch4 V4 (w.heap.size + 1) (.int .u8 e.v) (.int .u8 e.k) (.slice A1 e.ns.length c1) (.slice C1 e.ts.length c2)) (Or.inl (Nat.lt_succ_self _))
                 refine hK.out _ _ hx4 (fun hHeld => ?_)
                 clear hK K hx4
                 try simp only [Act.put, List.setIfInBounds_toArray, List.set_cons_zero, List.set_cons_succ]
                 refine wpAnyH_take (i := 14) (oi := { dst := some 5, op := Go.Op.assign (Go.Operand.const (Go.Value.int Go.IntKind.i64 0)), type := 26, pos := "ref.go:157", after := #[{ on := 13, ground := Go.Ground.chain }, { on := 0, ground := Go.Ground.phase }, { on := 1, ground := Go.Ground.phase }, { on := 2, ground := Go.Ground.phase }, { on := 3, ground := Go.Ground.phase }, { on := 4, ground := Go.Ground.phase }, { on := 5, ground := Go.Ground.phase }, { on := 6, ground := Go.Ground.phase }, { on := 7, ground := Go.Ground.phase }, { on := 8, ground := Go.Ground.phase }, { on := 9, ground := Go.Ground.phase }, { on := 10, ground := Go.Ground.phase }, { on := 11, ground := Go.Ground.phase }, { on := 12, ground := Go.Ground.phase }, { on := 13, ground := Go.Ground.phase }], guard := none }) (v := ?v20) rfl (by kernel_rfl) (by kernel_rfl) (by kernel_rfl) (fun _ _ _ h => h) (Or.inl ⟨by rfl, ?hy20⟩) (by assumption) ?rest20
                 case hy20 => (intro w hSw; obtain ⟨s0, s1, s2, s3⟩ := hSw; go_simp; try with_reducible rfl)
                 try simp only [Act.put, List.setIfInBounds_toArray, List.set_cons_zero, List.set_cons_succ]
                 refine wpAnyH_done (by kernel_rfl) ?_ _
                 go_wp2_with fail
                 obtain ⟨d0, d1, d2, d3⟩ := HP.out.set4 (.int .u8 e.v) (.int .u8 e.k) (.slice A1 e.ns.length c1) (.slice C1 e.ts.length c2)
                 refine bodyPost_ret (v := .tuple #[.agg #[.int .u8 e.v, .int .u8 e.k, .slice A1 e.ns.length c1, .slice C1 e.ts.length c2], .int .i64 0]) (by simp [results, Tryz.results54, go_sem, d0, d1, d2, d3]) rfl ?_
                 rw [HDN.out]
                 exact ⟨A1, c1, C1, c2, rfl, (ownE_set4 HON.out (Nat.lt_succ_self _)).less (by omega), (ownE_set4 HOS.out (Nat.lt_succ_self _)).less (by omega), HB.out.trans ((touch4 V4 (w.heap.size + 1) _ _ _ _).below (Nat.le_succ _) HB.out.size)⟩
            case br9_8 =>
             have hb := (Below.refl D0.heap.size D0).alloc (Nat.le_refl _) (.cells #[] 9)
             have HGS := Lib.hid (show w.heap.size + 2 ≤ D0.heap.size from HPF.out.1)
             replace HX := Lib.hid (HX.out.below hb)
             replace HP := Lib.hid (HP.out.below hb)
             replace HPF := Lib.hid (free_below HPF.out hb)
             replace HB := Lib.hid (below_step HB.out hb)
             have HSS := Lib.hid (Own.made D0 D0.heap.size 9 (Nat.le_refl _))
             go_simp
             refine hK.out _ _ HX.out (fun hHeld => ?_)
             clear hK K hb
             generalize D0.heap.size = gS at HSS HGS ⊢
             generalize D0.alloc (.cells #[] 9) = V1 at HX HP HPF HB HSS hHeld ⊢
             try simp only [Act.put, List.setIfInBounds_toArray, List.set_cons_zero, List.set_cons_succ]
             refine wpAnyH_ready (rs := [4]) (by kernel_rfl) (by simp) ?_
             refine (AllReadyH.cons (o := { dst := some 57, op := Go.Op.buildSlice 36 0 #[], type := 36, pos := "ref.go:157", after := #[], guard := none }) rfl (fun K hK => ?br21_4) AllReadyH.nil)
             case br21_4 =>
              have hb := (Below.refl V1.heap.size V1).alloc (Nat.le_refl _) (.cells #[] 2)
              have HGN := Lib.hid (show w.heap.size + 2 ≤ V1.heap.size from HPF.out.1)
              replace HX := Lib.hid (HX.out.below hb)
              replace HP := Lib.hid (HP.out.below hb)
              replace HPF := Lib.hid (free_below HPF.out hb)
              replace HB := Lib.hid (below_step HB.out hb)
              replace HSS := Lib.hid (HSS.out.below hb)
              have HSN := Lib.hid (Own.made V1 V1.heap.size 2 (Nat.le_refl _))
              go_simp
              refine hK.out _ _ HX.out (fun hHeld => ?_)
              clear hK K hb
              generalize V1.heap.size = gN at HSN HGN ⊢
              generalize V1.alloc (.cells #[] 2) = V2 at HX HP HPF HB HSN HSS hHeld ⊢
              try simp only [Act.put, List.setIfInBounds_toArray, List.set_cons_zero, List.set_cons_succ]
              refine wpAnyH_ready (rs := [7]) (by kernel_rfl) (by simp) ?_
              refine (AllReadyH.cons (o := { dst := some 60, op := Go.Op.call { callee := Go.Callee.builtin Go.Builtin.append, args := #[Go.Operand.tmp 57, Go.Operand.tmp 59], argTypes := #[36, 36] }, type := 36, pos := "ref.go:157", after := #[{ on := 4, ground := Go.Ground.data }, { on := 6, ground := Go.Ground.data }], guard := none }) rfl (fun K hK => ?br22_7) AllReadyH.nil)
              case br22_7 =>
               refine wp_append_vals 36 2 (.int .i64 0) 8 Tryz.underlying36 infoN rfl (by decide) (.tmp 57) (.tmp 59) rfl gN (.slice (some ⟨gN, 0, none⟩) 0 0) [] rfl HSN.out A _ ca (nums e.ns) rfl (nums_len _).symm ((HA0.out.below HB.out).ns) (nums_cell _) HA0.out.nA (by have := HO.out.ln; have := lets_few e.v e.k; have := nums_len e.ns; simp only [List.length_nil]; omega) (Nat.le_of_lt (World.ownsRow.lt HSN.out gN rfl).2) ?_
               intro v' V3 hO hg
               rw [List.nil_append] at hO
               obtain ⟨A1, c1, rfl, -, -⟩ := hO.vat
               rw [nums_len] at hO ⊢
               have hb := below_grown HSN.out (Nat.le_refl _) (Nat.le_of_lt (World.ownsRow.lt HSN.out gN rfl).2) hg
               have hg0 := HGN.out
               have HON : Hid (OwnE V3 (w.heap.size + 2) 2 (.slice A1 e.ns.length c1) (nums e.ns)) := Lib.hid (Or.inl (hO.less hg0))
               replace HX := Lib.hid (four_low HX.out hb (by omega))
               replace HP := Lib.hid (four_low HP.out hb (by omega))
               replace HPF := Lib.hid (free_low HPF.out hb (by omega))
               replace HB := Lib.hid (HB.out.trans (hb.mono (by omega)))
               replace HSS := Lib.hid (own_apart HSS.out HSN.out (by decide) hg)
               clear hO hg hb hg0 HSN HGN
               refine hK.out _ _ HX.out (fun hHeld => ?_)
               clear hK K
               try simp only [Act.put, List.setIfInBounds_toArray, List.set_cons_zero, List.set_cons_succ]
               refine wpAnyH_ready (rs := [11]) (by kernel_rfl) (by simp) ?_
               refine (AllReadyH.cons (o := { dst := some 64, op := Go.Op.call { callee := Go.Callee.builtin Go.Builtin.append, args := #[Go.Operand.tmp 61, Go.Operand.tmp 63], argTypes := #[37, 37] }, type := 37, pos := "ref.go:157", after := #[{ on := 8, ground := Go.Ground.data }, { on := 10, ground := Go.Ground.data }, { on := 7, ground := Go.Ground.chain }], guard := none }) rfl (fun K hK => ?br23_11) AllReadyH.nil)
               case br23_11 =>
                refine wp_append_vals 37 9 (.string ByteArray.empty) 16 Tryz.underlying37 infoT rfl (by decide) (.tmp 61) (.tmp 63) rfl gS (.slice (some ⟨gS, 0, none⟩) 0 0) [] rfl HSS.out C _ cc (texts e.ts) rfl (texts_len _).symm ((HA0.out.below HB.out).ts) (texts_cell _) HA0.out.nB (by have := HO.out.tx; have := texts_len e.ts; simp only [List.length_nil]; omega) (Nat.le_of_lt (World.ownsRow.lt HSS.out gS rfl).2) ?_
                intro v' V4 hO hg
                rw [List.nil_append] at hO
                obtain ⟨C1, c2, rfl, -, -⟩ := hO.vat
                rw [texts_len] at hO ⊢
                have hb := below_grown HSS.out (Nat.le_refl _) (Nat.le_of_lt (World.ownsRow.lt HSS.out gS rfl).2) hg
                have hg0 := HGS.out
                have HOS : Hid (OwnE V4 (w.heap.size + 2) 9 (.slice C1 e.ts.length c2) (texts e.ts)) := Lib.hid (Or.inl (hO.less hg0))
                replace HX := Lib.hid (four_low HX.out hb (by omega))
                replace HP := Lib.hid (four_low HP.out hb (by omega))
                replace HPF := Lib.hid (free_low HPF.out hb (by omega))
                replace HB := Lib.hid (HB.out.trans (hb.mono (by omega)))
                replace HON := Lib.hid (ownE_apart HON.out HSS.out (by decide) hg)
                clear hO hg hb hg0 HSS HGS
                refine hK.out _ _ HX.out (fun hHeld => ?_)
                clear hK K
                try simp only [Act.put, List.setIfInBounds_toArray, List.set_cons_zero, List.set_cons_succ]
                refine wpAnyH_take (i := 12) (oi := { dst := some 65, op := Go.Op.build 39 #[(0, Go.Operand.tmp 54), (1, Go.Operand.tmp 56), (2, Go.Operand.tmp 60), (3, Go.Operand.tmp 64)], type := 39, pos := "ref.go:157", after := #[{ on := 1, ground := Go.Ground.data }, { on := 3, ground := Go.Ground.data }, { on := 7, ground := Go.Ground.data }, { on := 11, ground := Go.Ground.data }], guard := none }) (v := ?v24) rfl (by kernel_rfl) (by kernel_rfl) (by kernel_rfl) (fun _ _ _ h => h) (Or.inl ⟨by rfl, ?hy24⟩) (by assumption) ?rest24
                case hy24 => (intro w hSw; obtain ⟨s0, s1, s2, s3⟩ := hSw; go_simp; try with_reducible rfl)
                try simp only [Act.put, List.setIfInBounds_toArray, List.set_cons_zero, List.set_cons_succ]
                refine wpAnyH_ready (rs := [13]) (by kernel_rfl) (by simp) ?_
                refine (AllReadyH.cons (o := { dst := none, op := Go.Op.store 39 (Go.Operand.tmp 4) (Go.Operand.tmp 65), type := 0, pos := "ref.go:157", after := #[{ on := 12, ground := Go.Ground.data }, { on := 11, ground := Go.Ground.chain }, { on := 0, ground := Go.Ground.phase }, { on := 1, ground := Go.Ground.phase }, { on := 2, ground := Go.Ground.phase }, { on := 3, ground := Go.Ground.phase }, { on := 4, ground := Go.Ground.phase }, { on := 5, ground := Go.Ground.phase }, { on := 6, ground := Go.Ground.phase }, { on := 7, ground := Go.Ground.phase }, { on := 8, ground := Go.Ground.phase }, { on := 9, ground := Go.Ground.phase }, { on := 10, ground := Go.Ground.phase }, { on := 11, ground := Go.Ground.phase }, { on := 12, ground := Go.Ground.phase }], guard := none }) rfl (fun K hK => ?br25_13) AllReadyH.nil)
                case br25_13 =>
                 obtain ⟨p0, p1, p2, p3⟩ := HP.out
                 have f0 := HPF.out.2 0
                 have f1 := HPF.out.2 1
                 have f2 := HPF.out.2 2
                 have f3 := HPF.out.2 3
                 go_simp
                 clear p0 p1 p2 p3 f0 f1 f2 f3
                 have hx4 := Four.touch HX.out (touch4 V4 (w.heap.size + 1) (.int .u8 e.v) (.int .u8 e.k) (.slice A1 e.ns.length c1) (.slice C1 e.ts.length c2)) (Or.inl (Nat.lt_succ_self _))
                 refine hK.out _ _ hx4 (fun hHeld => ?_)
                 clear hK K hx4
                 try simp only [Act.put, List.setIfInBounds_toArray, List.set_cons_zero, List.set_cons_succ]
                 refine wpAnyH_take (i := 14) (oi := { dst := some 5, op := Go.Op.assign (Go.Operand.const (Go.Value.int Go.IntKind.i64 0)), type := 26, pos := "ref.go:157", after := #[{ on := 13, ground := Go.Ground.chain }, { on := 0, ground := Go.Ground.phase }, { on := 1, ground := Go.Ground.phase }, { on := 2, ground := Go.Ground.phase }, { on := 3, ground := Go.Ground.phase }, { on := 4, ground := Go.Ground.phase }, { on := 5, ground := Go.Ground.phase }, { on := 6, ground := Go.Ground.phase }, { on := 7, ground := Go.Ground.phase }, { on := 8, ground := Go.Ground.phase }, { on := 9, ground := Go.Ground.phase }, { on := 10, ground := Go.Ground.phase }, { on := 11, ground := Go.Ground.phase }, { on := 12, ground := Go.Ground.phase }, { on := 13, ground := Go.Ground.phase }], guard := none }) (v := ?v26) rfl (by kernel_rfl) (by kernel_rfl) (by kernel_rfl) (fun _ _ _ h => h) (Or.inl ⟨by rfl, ?hy26⟩) (by assumption) ?rest26
                 case hy26 => (intro w hSw; obtain ⟨s0, s1, s2, s3⟩ := hSw; go_simp; try with_reducible rfl)
                 try simp only [Act.put, List.setIfInBounds_toArray, List.set_cons_zero, List.set_cons_succ]
                 refine wpAnyH_done (by kernel_rfl) ?_ _
                 go_wp2_with fail
                 obtain ⟨d0, d1, d2, d3⟩ := HP.out.set4 (.int .u8 e.v) (.int .u8 e.k) (.slice A1 e.ns.length c1) (.slice C1 e.ts.length c2)
                 refine bodyPost_ret (v := .tuple #[.agg #[.int .u8 e.v, .int .u8 e.k, .slice A1 e.ns.length c1, .slice C1 e.ts.length c2], .int .i64 0]) (by simp [results, Tryz.results54, go_sem, d0, d1, d2, d3]) rfl ?_
                 rw [HDN.out]
                 exact ⟨A1, c1, C1, c2, rfl, (ownE_set4 HON.out (Nat.lt_succ_self _)).less (by omega), (ownE_set4 HOS.out (Nat.lt_succ_self _)).less (by omega), HB.out.trans ((touch4 V4 (w.heap.size + 1) _ _ _ _).below (Nat.le_succ _) HB.out.size)⟩
theorem rTo_any {A : Option Addr} {ca : Nat} {C : Option Addr} {cc : Nat} {e : Ev} {v : Nat} (hv : v < 256) {w : World} (hA : EvAt w A ca C cc e) :
    Calls Tryz.prog 54 #[evV A ca C cc e, .int .u8 (v : Int)] w (ExV (toX e v) w) := rTo_n _ A ca C cc e v rfl hv w hA

end Go.Proofs.YtiibeemjkdipnaaGreatDoor.Upcast
