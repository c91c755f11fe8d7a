import Derived.Test.YtbjpkffhpdcapaaDoorUM
/-
  Down, Up.
-/
namespace Go.Proofs.YtbjpkffhpdcapaaDoor.Upcast
open Go Go.RowKit
open Go.Proofs.YtbjpkffhpdcapaaDoor.Schema

def dnX (e : Ev) : Except Nat Ev := if may e then downX e else .error 4
def upX (e : Ev) : Except Nat Ev := if may e then (if e.v = 3 then .error 43 else .ok (upE e)) else .error 4
theorem down_is {e : Ev} (h : may e = true) : dnX e = downX e := if_pos h
theorem Down_no {e : Ev} (h : may e = false) : dnX e = .error 4 := if_neg (by rw [h]; decide)
theorem up_no {e : Ev} (h : may e = false) : upX e = .error 4 := if_neg (by rw [h]; decide)
theorem up_new {e : Ev} (h : may e = true) (h3 : e.v = 3) : upX e = .error 43 := (if_pos h).trans (if_pos h3)
theorem up_is {e : Ev} (h : may e = true) (h3 : e.v < 3) : upX e = .ok (upE e) := (if_pos h).trans (if_neg (by omega))
theorem free_below {w w' : World} {b : Nat} (h : Free w b) (k : Below w.heap.size w w') : Free w' b := h.below k

set_option maxRecDepth 100000 in
set_option maxHeartbeats 4000000 in
theorem Down_any (A : Option Addr) (ca : Nat) (C : Option Addr) (cc : Nat) (e : Ev) (hl : e.ns.length ≤ 1000000) (w : World) (hA : EvAt w A ca C cc e) (E : Env w) :
    Calls Tryd.prog 20 #[evV A ca C cc e] w (ExV (dnX e) w) := by
  have HA := Lib.hid hA
  have HE := Lib.hid E
  have HL := Lib.hid hl
  clear hA E hl
  unfold evV
  have hb1 := (Below.refl w.heap.size w).alloc (Nat.le_refl _) (.cells #[.int .u8 e.v, .int .u8 e.k, .slice A e.ns.length ca, .slice C e.ts.length cc] 25)
  have hs1 : (w.alloc (.cells #[.int .u8 e.v, .int .u8 e.k, .slice A e.ns.length ca, .slice C e.ts.length cc] 25)).heap.size = w.heap.size + 1 := by simp
  have hb2 := (Below.refl (w.alloc (.cells #[.int .u8 e.v, .int .u8 e.k, .slice A e.ns.length ca, .slice C e.ts.length cc] 25)).heap.size (w.alloc (.cells #[.int .u8 e.v, .int .u8 e.k, .slice A e.ns.length ca, .slice C e.ts.length cc] 25))).alloc (Nat.le_refl _) (.cells #[.int .u8 0, .int .u8 0, .slice none 0 0, .slice none 0 0] 25)
  have hx : Four _ w.heap.size _ _ _ _ := Four.below (box4 w (.int .u8 e.v) (.int .u8 e.k) (.slice A e.ns.length ca) (.slice C e.ts.length cc) 25) hb2
  have hxf := free_below (free_new w #[.int .u8 e.v, .int .u8 e.k, .slice A e.ns.length ca, .slice C e.ts.length cc] 25) hb2
  have HX := Lib.hid hx
  have HXF := Lib.hid hxf
  have hp : Four _ (w.alloc (.cells #[.int .u8 e.v, .int .u8 e.k, .slice A e.ns.length ca, .slice C e.ts.length cc] 25)).heap.size _ _ _ _ := box4 (w.alloc (.cells #[.int .u8 e.v, .int .u8 e.k, .slice A e.ns.length ca, .slice C e.ts.length cc] 25)) (.int .u8 0) (.int .u8 0) (.slice none 0 0) (.slice none 0 0) 25
  have hf := free_new (w.alloc (.cells #[.int .u8 e.v, .int .u8 e.k, .slice A e.ns.length ca, .slice C e.ts.length cc] 25)) #[.int .u8 0, .int .u8 0, .slice none 0 0, .slice none 0 0] 25
  rw [hs1] at hp hf
  have HP := Lib.hid hp
  have HPF := Lib.hid hf
  have HB := Lib.hid (below_step hb1 hb2)
  clear hb1 hb2 hs1 hx hp hf hxf
  go_enter Tryd.func20, Tryd.ntmps20
  go_upto_region 1 with (fail)
  generalize ((w.alloc (.cells #[.int .u8 e.v, .int .u8 e.k, .slice A e.ns.length ca, .slice C e.ts.length cc] 25)).alloc (.cells #[.int .u8 0, .int .u8 0, .slice none 0 0, .slice none 0 0] 25)) = W at HX HXF HP HPF HB ⊢
  replace HA := Lib.hid (HA.out.below HB.out)
  obtain ⟨x0, x1, x2, x3⟩ := HX.out
  go_wp2_with fail
  clear x0 x1 x2 x3
  refine (may_any A ca C cc e HL.out W (HE.out.below HB.out) HA.out).mono ?_
  rintro z W2 ⟨rfl, hb⟩
  replace HX := Lib.hid (HX.out.below hb)
  replace HXF := Lib.hid (free_below HXF.out hb)
  replace HP := Lib.hid (HP.out.below hb)
  replace HPF := Lib.hid (HPF.out.below hb)
  replace HA := Lib.hid (HA.out.below hb)
  have hsz := HB.out.size
  replace HB := Lib.hid (below_step HB.out hb)
  clear hb
  cases hm : may e with
  | false =>
    have HDN := Lib.hid (Down_no hm)
    clear hm
    obtain ⟨p0, p1, p2, p3⟩ := HP.out
    have f0 := HPF.out.2 0
    have f1 := HPF.out.2 1
    have f2 := HPF.out.2 2
    have f3 := HPF.out.2 3
    go_wp2_with fail
    clear p0 p1 p2 p3 f0 f1 f2 f3
    obtain ⟨d0, d1, d2, d3⟩ := HP.out.set4 (.int .u8 0) (.int .u8 0) (.slice none 0 0) (.slice none 0 0)
    refine bodyPost_ret (v := .tuple #[.agg #[.int .u8 0, .int .u8 0, .slice none 0 0, .slice none 0 0], .int .i64 4]) (by simp [results, Tryd.results20, go_sem, d0, d1, d2, d3]) rfl ?_
    rw [HDN.out]
    exact ⟨rfl, HB.out.trans ((touch4 W2 (w.heap.size + 1) _ _ _ _).below (Nat.le_succ _) HB.out.size)⟩
  | true =>
    have HM := Lib.hid hm
    have HO := Lib.hid (may_out hm)
    have HLT := Lib.hid (show e.ts.length ≤ 1000 by have := HO.out.tx; omega)
    clear hm
    have HDN := Lib.hid (down_is HM.out)
    obtain ⟨x0, x1, x2, x3⟩ := HX.out
    have hps := HPF.out.1
    have hbs := hsz
    go_wp2_with fail
    clear x0 x1 x2 x3
    refine (letDown_any A ca C cc e W2 HA.out HO.out.v1 HO.out.ln HO.out.rng HLT.out (HE.out.below HB.out)).mono ?_
    rintro z W3 hz
    have HDX := Lib.hid (Eq.refl (downX e))
    generalize hq : downX e = o at hz HDN
    clear HDX hq
    cases o with
    | error x =>
      obtain ⟨rfl, hb⟩ := hz
      replace HX := Lib.hid (HX.out.below hb)
      replace HXF := Lib.hid (free_below HXF.out hb)
      replace HP := Lib.hid (HP.out.below hb)
      replace HPF := Lib.hid (HPF.out.below hb)
      replace HA := Lib.hid (HA.out.below hb)
      have hsz := HB.out.size
      replace HB := Lib.hid (below_step HB.out hb)
      clear hb
      obtain ⟨p0, p1, p2, p3⟩ := HP.out
      have f0 := HPF.out.2 0
      have f1 := HPF.out.2 1
      have f2 := HPF.out.2 2
      have f3 := HPF.out.2 3
      go_wp2_with fail
      clear p0 p1 p2 p3 f0 f1 f2 f3
      obtain ⟨d0, d1, d2, d3⟩ := HP.out.set4 (.int .u8 0) (.int .u8 0) (.slice none 0 0) (.slice none 0 0)
      refine bodyPost_ret (v := .tuple #[.agg #[.int .u8 0, .int .u8 0, .slice none 0 0, .slice none 0 0], .int .i64 x]) (by simp [results, Tryd.results20, go_sem, d0, d1, d2, d3]) rfl ?_
      rw [HDN.out]
      exact ⟨rfl, HB.out.trans ((touch4 W3 (w.heap.size + 1) _ _ _ _).below (Nat.le_succ _) HB.out.size)⟩
    | ok f =>
      obtain ⟨A1, c1, C1, c2, rfl, ho1, ho2, hb⟩ := hz
      have HO1 := Lib.hid (ho1.less (show w.heap.size + 2 ≤ _ by omega))
      have HO2 := Lib.hid (ho2.less (show w.heap.size + 2 ≤ _ by omega))
      clear ho1 ho2
      replace HX := Lib.hid (HX.out.below hb)
      replace HXF := Lib.hid (free_below HXF.out hb)
      replace HP := Lib.hid (HP.out.below hb)
      replace HPF := Lib.hid (HPF.out.below hb)
      replace HA := Lib.hid (HA.out.below hb)
      have hsz := HB.out.size
      replace HB := Lib.hid (below_step HB.out hb)
      clear hb
      unfold evV
      obtain ⟨p0, p1, p2, p3⟩ := HP.out
      have f0 := HPF.out.2 0
      have f1 := HPF.out.2 1
      have f2 := HPF.out.2 2
      have f3 := HPF.out.2 3
      go_wp2_with fail
      clear p0 p1 p2 p3 f0 f1 f2 f3
      obtain ⟨d0, d1, d2, d3⟩ := HP.out.set4 (.int .u8 f.v) (.int .u8 f.k) (.slice A1 f.ns.length c1) (.slice C1 f.ts.length c2)
      refine bodyPost_ret (v := .tuple #[.agg #[.int .u8 f.v, .int .u8 f.k, .slice A1 f.ns.length c1, .slice C1 f.ts.length c2], .int .i64 0]) (by simp [results, Tryd.results20, go_sem, d0, d1, d2, d3]) rfl ?_
      rw [HDN.out]
      exact ⟨A1, c1, C1, c2, rfl, (ownE_set4 HO1.out (Nat.lt_succ_self _)).less (by omega), (ownE_set4 HO2.out (Nat.lt_succ_self _)).less (by omega), HB.out.trans ((touch4 W3 (w.heap.size + 1) _ _ _ _).below (Nat.le_succ _) HB.out.size)⟩

set_option maxRecDepth 100000 in
set_option maxHeartbeats 4000000 in
theorem Up_any (A : Option Addr) (ca : Nat) (C : Option Addr) (cc : Nat) (e : Ev) (hl : e.ns.length ≤ 1000000) (w : World) (hA : EvAt w A ca C cc e) (E : Env w) :
    Calls Tryd.prog 19 #[evV A ca C cc e] w (ExV (upX e) w) := by
  have HA := Lib.hid hA
  have HE := Lib.hid E
  have HL := Lib.hid hl
  clear hA E hl
  unfold evV
  have hb1 := (Below.refl w.heap.size w).alloc (Nat.le_refl _) (.cells #[.int .u8 e.v, .int .u8 e.k, .slice A e.ns.length ca, .slice C e.ts.length cc] 25)
  have hs1 : (w.alloc (.cells #[.int .u8 e.v, .int .u8 e.k, .slice A e.ns.length ca, .slice C e.ts.length cc] 25)).heap.size = w.heap.size + 1 := by simp
  have hb2 := (Below.refl (w.alloc (.cells #[.int .u8 e.v, .int .u8 e.k, .slice A e.ns.length ca, .slice C e.ts.length cc] 25)).heap.size (w.alloc (.cells #[.int .u8 e.v, .int .u8 e.k, .slice A e.ns.length ca, .slice C e.ts.length cc] 25))).alloc (Nat.le_refl _) (.cells #[.int .u8 0, .int .u8 0, .slice none 0 0, .slice none 0 0] 25)
  have hx : Four _ w.heap.size _ _ _ _ := Four.below (box4 w (.int .u8 e.v) (.int .u8 e.k) (.slice A e.ns.length ca) (.slice C e.ts.length cc) 25) hb2
  have hxf := free_below (free_new w #[.int .u8 e.v, .int .u8 e.k, .slice A e.ns.length ca, .slice C e.ts.length cc] 25) hb2
  have HX := Lib.hid hx
  have HXF := Lib.hid hxf
  have hp : Four _ (w.alloc (.cells #[.int .u8 e.v, .int .u8 e.k, .slice A e.ns.length ca, .slice C e.ts.length cc] 25)).heap.size _ _ _ _ := box4 (w.alloc (.cells #[.int .u8 e.v, .int .u8 e.k, .slice A e.ns.length ca, .slice C e.ts.length cc] 25)) (.int .u8 0) (.int .u8 0) (.slice none 0 0) (.slice none 0 0) 25
  have hf := free_new (w.alloc (.cells #[.int .u8 e.v, .int .u8 e.k, .slice A e.ns.length ca, .slice C e.ts.length cc] 25)) #[.int .u8 0, .int .u8 0, .slice none 0 0, .slice none 0 0] 25
  rw [hs1] at hp hf
  have HP := Lib.hid hp
  have HPF := Lib.hid hf
  have HB := Lib.hid (below_step hb1 hb2)
  clear hb1 hb2 hs1 hx hp hf hxf
  go_enter Tryd.func19, Tryd.ntmps19
  go_upto_region 1 with (fail)
  generalize ((w.alloc (.cells #[.int .u8 e.v, .int .u8 e.k, .slice A e.ns.length ca, .slice C e.ts.length cc] 25)).alloc (.cells #[.int .u8 0, .int .u8 0, .slice none 0 0, .slice none 0 0] 25)) = W at HX HXF HP HPF HB ⊢
  replace HA := Lib.hid (HA.out.below HB.out)
  obtain ⟨x0, x1, x2, x3⟩ := HX.out
  go_wp2_with fail
  clear x0 x1 x2 x3
  refine (may_any A ca C cc e HL.out W (HE.out.below HB.out) HA.out).mono ?_
  rintro z W2 ⟨rfl, hb⟩
  replace HX := Lib.hid (HX.out.below hb)
  replace HXF := Lib.hid (free_below HXF.out hb)
  replace HP := Lib.hid (HP.out.below hb)
  replace HPF := Lib.hid (HPF.out.below hb)
  replace HA := Lib.hid (HA.out.below hb)
  have hsz := HB.out.size
  replace HB := Lib.hid (below_step HB.out hb)
  clear hb
  cases hm : may e with
  | false =>
    have HDN := Lib.hid (up_no hm)
    clear hm
    obtain ⟨p0, p1, p2, p3⟩ := HP.out
    have f0 := HPF.out.2 0
    have f1 := HPF.out.2 1
    have f2 := HPF.out.2 2
    have f3 := HPF.out.2 3
    go_wp2_with fail
    clear p0 p1 p2 p3 f0 f1 f2 f3
    obtain ⟨d0, d1, d2, d3⟩ := HP.out.set4 (.int .u8 0) (.int .u8 0) (.slice none 0 0) (.slice none 0 0)
    refine bodyPost_ret (v := .tuple #[.agg #[.int .u8 0, .int .u8 0, .slice none 0 0, .slice none 0 0], .int .i64 4]) (by simp [results, Tryd.results19, go_sem, d0, d1, d2, d3]) rfl ?_
    rw [HDN.out]
    exact ⟨rfl, HB.out.trans ((touch4 W2 (w.heap.size + 1) _ _ _ _).below (Nat.le_succ _) HB.out.size)⟩
  | true =>
    have HM := Lib.hid hm
    have HO := Lib.hid (may_out hm)
    have HLT := Lib.hid (show e.ts.length ≤ 1000 by have := HO.out.tx; omega)
    clear hm
    have HG := Lib.hid (fun h => goes_of HO.out.tl h)
    have HUN := Lib.hid (fun h => up_new HM.out h)
    have HUY := Lib.hid (fun h => up_is HM.out h)
    have hv3 := HO.out.v3
    by_cases h3 : e.v = 3
    case pos =>
      have q1 : ((e.v : Int) == 3) = true := by rw [beq_iff_eq]; omega
      have HDN := Lib.hid (HUN.out h3)
      obtain ⟨x0, x1, x2, x3⟩ := HX.out
      go_upto_region 4 with (fail)
      clear x0 x1 x2 x3 q1 h3 hv3
      obtain ⟨p0, p1, p2, p3⟩ := HP.out
      have f0 := HPF.out.2 0
      have f1 := HPF.out.2 1
      have f2 := HPF.out.2 2
      have f3 := HPF.out.2 3
      go_wp2_with fail
      clear p0 p1 p2 p3 f0 f1 f2 f3
      obtain ⟨d0, d1, d2, d3⟩ := HP.out.set4 (.int .u8 0) (.int .u8 0) (.slice none 0 0) (.slice none 0 0)
      refine bodyPost_ret (v := .tuple #[.agg #[.int .u8 0, .int .u8 0, .slice none 0 0, .slice none 0 0], .int .i64 43]) (by simp [results, Tryd.results19, go_sem, d0, d1, d2, d3]) rfl ?_
      rw [HDN.out]
      exact ⟨rfl, HB.out.trans ((touch4 W2 (w.heap.size + 1) _ _ _ _).below (Nat.le_succ _) HB.out.size)⟩
    have q1 : ((e.v : Int) == 3) = false := by rw [beq_eq_false_iff_ne]; omega
    have hlt : e.v < 3 := by omega
    have HDN := Lib.hid (HUY.out hlt)
    have HGO := Lib.hid (HG.out hlt)
    obtain ⟨x0, x1, x2, x3⟩ := HX.out
    have hps := HPF.out.1
    go_upto_region 5 with (fail)
    clear x0 x1 x2 x3 q1 h3 hv3 hlt
    obtain ⟨x0, x1, x2, x3⟩ := HX.out
    go_wp2_with fail
    clear x0 x1 x2 x3
    refine (lifted_any A ca C cc e W2 HA.out HGO.out HO.out.ln HO.out.rng HLT.out (HE.out.below HB.out)).mono ?_
    rintro z W3 hz
    generalize hq : upE e = f at hz HDN
    clear hq
    obtain ⟨A1, c1, C1, c2, rfl, ho1, ho2, hb⟩ := hz
    have HO1 := Lib.hid (ho1.less (show w.heap.size + 2 ≤ _ by omega))
    have HO2 := Lib.hid (ho2.less (show w.heap.size + 2 ≤ _ by omega))
    clear ho1 ho2
    replace HX := Lib.hid (HX.out.below hb)
    replace HXF := Lib.hid (free_below HXF.out hb)
    replace HP := Lib.hid (HP.out.below hb)
    replace HPF := Lib.hid (HPF.out.below hb)
    replace HA := Lib.hid (HA.out.below hb)
    have hsz := HB.out.size
    replace HB := Lib.hid (below_step HB.out hb)
    clear hb
    unfold evV
    obtain ⟨p0, p1, p2, p3⟩ := HP.out
    have f0 := HPF.out.2 0
    have f1 := HPF.out.2 1
    have f2 := HPF.out.2 2
    have f3 := HPF.out.2 3
    go_wp2_with fail
    clear p0 p1 p2 p3 f0 f1 f2 f3
    obtain ⟨d0, d1, d2, d3⟩ := HP.out.set4 (.int .u8 f.v) (.int .u8 f.k) (.slice A1 f.ns.length c1) (.slice C1 f.ts.length c2)
    refine bodyPost_ret (v := .tuple #[.agg #[.int .u8 f.v, .int .u8 f.k, .slice A1 f.ns.length c1, .slice C1 f.ts.length c2], .int .i64 0]) (by simp [results, Tryd.results19, go_sem, d0, d1, d2, d3]) rfl ?_
    rw [HDN.out]
    exact ⟨A1, c1, C1, c2, rfl, (ownE_set4 HO1.out (Nat.lt_succ_self _)).less (by omega), (ownE_set4 HO2.out (Nat.lt_succ_self _)).less (by omega), HB.out.trans ((touch4 W3 (w.heap.size + 1) _ _ _ _).below (Nat.le_succ _) HB.out.size)⟩

end Go.Proofs.YtbjpkffhpdcapaaDoor.Upcast
