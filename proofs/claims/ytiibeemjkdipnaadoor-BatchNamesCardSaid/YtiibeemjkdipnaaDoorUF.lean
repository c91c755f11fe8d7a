import Derived.Test.YtiibeemjkdipnaaDoorUE
import Derived.StillTailTactics
import Derived.Deep.RegionLaw
/-
  Newest.
-/
namespace Go.Proofs.YtiibeemjkdipnaaDoor.Upcast
open Go Go.RowKit
open Go.Proofs.YtiibeemjkdipnaaDoor.Schema

def newE (e : Ev) : Ev := if e.v = 1 then upE (upE e) else if e.v = 2 then upE e else e
theorem newE1 {e : Ev} (h : e.v = 1) : newE e = upE (upE e) := if_pos h
theorem newE2 {e : Ev} (h : e.v = 2) : newE e = upE e := (if_neg (by omega)).trans (if_pos h)
theorem newE3 {e : Ev} (h : e.v = 3) : newE e = e := (if_neg (by omega)).trans (if_neg (by omega))
def nwX (e : Ev) : Except Nat Ev := if may e then .ok (newE e) else .error 4
theorem newest_no {e : Ev} (h : may e = false) : nwX e = .error 4 := if_neg (by rw [h]; decide)
theorem newest_is {e : Ev} (h : may e = true) : nwX e = .ok (newE e) := if_pos h
theorem frz_set {w : World} {b o : Nat} {v : Value} (a : Addr) : (w.setCell ⟨b, o, none⟩ v).frozen? a = w.frozen? a := by simp
theorem free_set {w : World} {b b' o : Nat} (h : Free w b) (v : Value) : Free (w.setCell ⟨b', o, none⟩ v) b := ⟨by simpa [World.setCell] using h.1, fun i => by rw [frz_set]; exact h.2 i⟩
theorem free_set4 {w : World} {b b' : Nat} (h : Free w b) (x0 x1 x2 x3 : Value) : Free ((((w.setCell ⟨b', 0, none⟩ x0).setCell ⟨b', 1, none⟩ x1).setCell ⟨b', 2, none⟩ x2).setCell ⟨b', 3, none⟩ x3) b := free_set (free_set (free_set (free_set h x0) x1) x2) x3
theorem free_touch {lo hi : Nat} {w w' : World} {b : Nat} (h : Free w b) (t : Schema.Touch lo hi w w') (ho : b < lo ∨ hi ≤ b) : Free w' b := ⟨Nat.lt_of_lt_of_le h.1 t.size, fun i => (World.frozen?_of_block (t.block b h.1 ho)).trans (h.2 i)⟩
/-- an event that may be, told: it lies there -/
theorem evAt_of {w : World} {base : Nat} {A C : Option Addr} {c d : Nat} {f : Ev} (h : may f = true) (ht : ∀ t ∈ f.ts, t.size ≤ maxLen) (h1 : OwnE w base 2 (.slice A f.ns.length c) (nums f.ns)) (h2 : OwnE w base 9 (.slice C f.ts.length d) (texts f.ts)) : EvAt w A c C d f := by
  have ho := may_out h
  have hk := tall_kind ho.tl
  have hv := ho.v3
  obtain ⟨A1, a1, e1, v1, n1, m1⟩ := h1.vat
  obtain ⟨A2, a2, e2, v2, n2, m2⟩ := h2.vat
  injection e1 with e1 _ e3
  injection e2 with e2 _ e4
  subst e1 e2 e3 e4
  refine ⟨by omega, by omega, fun x hx => ?_, ht, v1, v2, n1, n2, by rw [← nums_len]; exact m1, by rw [← texts_len]; exact m2⟩
  obtain ⟨i, hi⟩ := List.getElem?_of_mem hx
  have := ho.rng i
  rw [List.getD_eq_getElem?_getD, hi] at this
  simp only [Option.getD_some] at this
  omega

set_option maxRecDepth 100000 in
set_option maxHeartbeats 4000000 in
theorem Newest_any (A : Option Addr) (ca : Nat) (C : Option Addr) (cc : Nat) (e : Ev) (hl : e.ns.length ≤ 1000000) (w : World) (hA : EvAt w A ca C cc e) (E : Env w) :
    Calls Tryd.prog 30 #[evV A ca C cc e] w (ExV (nwX e) w) := by
  have HA := Lib.hid hA
  have HE := Lib.hid E
  have HL := Lib.hid hl
  clear hA E hl
  unfold evV
  have hb1 := (Below.refl w.heap.size w).alloc (Nat.le_refl _) (.cells #[.int .u8 e.v, .int .u8 e.k, .slice A e.ns.length ca, .slice C e.ts.length cc] 27)
  have hs1 : (w.alloc (.cells #[.int .u8 e.v, .int .u8 e.k, .slice A e.ns.length ca, .slice C e.ts.length cc] 27)).heap.size = w.heap.size + 1 := by simp
  have hb2 := (Below.refl (w.alloc (.cells #[.int .u8 e.v, .int .u8 e.k, .slice A e.ns.length ca, .slice C e.ts.length cc] 27)).heap.size (w.alloc (.cells #[.int .u8 e.v, .int .u8 e.k, .slice A e.ns.length ca, .slice C e.ts.length cc] 27))).alloc (Nat.le_refl _) (.cells #[.int .u8 0, .int .u8 0, .slice none 0 0, .slice none 0 0] 27)
  have hx : Four _ w.heap.size _ _ _ _ := Four.below (box4 w (.int .u8 e.v) (.int .u8 e.k) (.slice A e.ns.length ca) (.slice C e.ts.length cc) 27) hb2
  have hxf := free_below (free_new w #[.int .u8 e.v, .int .u8 e.k, .slice A e.ns.length ca, .slice C e.ts.length cc] 27) hb2
  have HX := Lib.hid hx
  have HXF := Lib.hid hxf
  have hp : Four _ (w.alloc (.cells #[.int .u8 e.v, .int .u8 e.k, .slice A e.ns.length ca, .slice C e.ts.length cc] 27)).heap.size _ _ _ _ := box4 (w.alloc (.cells #[.int .u8 e.v, .int .u8 e.k, .slice A e.ns.length ca, .slice C e.ts.length cc] 27)) (.int .u8 0) (.int .u8 0) (.slice none 0 0) (.slice none 0 0) 27
  have hf := free_new (w.alloc (.cells #[.int .u8 e.v, .int .u8 e.k, .slice A e.ns.length ca, .slice C e.ts.length cc] 27)) #[.int .u8 0, .int .u8 0, .slice none 0 0, .slice none 0 0] 27
  rw [hs1] at hp hf
  have HP := Lib.hid hp
  have HPF := Lib.hid hf
  have HB := Lib.hid (below_step hb1 hb2)
  clear hb1 hb2 hs1 hx hp hf hxf
  go_enter Tryd.func30, Tryd.ntmps30
  go_upto_region 1 with (fail)
  generalize ((w.alloc (.cells #[.int .u8 e.v, .int .u8 e.k, .slice A e.ns.length ca, .slice C e.ts.length cc] 27)).alloc (.cells #[.int .u8 0, .int .u8 0, .slice none 0 0, .slice none 0 0] 27)) = W at HX HXF HP HPF HB ⊢
  replace HA := Lib.hid (HA.out.below HB.out)
  obtain ⟨x0, x1, x2, x3⟩ := HX.out
  go_wp2_with fail
  clear x0 x1 x2 x3
  refine (may_any A ca C cc e HL.out W (HE.out.below HB.out) HA.out).mono ?_
  rintro z W2 ⟨rfl, hb⟩
  replace HX := Lib.hid (HX.out.below hb)
  replace HXF := Lib.hid (free_below HXF.out hb)
  replace HP := Lib.hid (HP.out.below hb)
  replace HPF := Lib.hid (HPF.out.below hb)
  replace HA := Lib.hid (HA.out.below hb)
  have hsz := HB.out.size
  replace HB := Lib.hid (below_step HB.out hb)
  clear hb
  cases hm : may e with
  | false =>
    have HDN := Lib.hid (newest_no hm)
    clear hm
    obtain ⟨p0, p1, p2, p3⟩ := HP.out
    have f0 := HPF.out.2 0
    have f1 := HPF.out.2 1
    have f2 := HPF.out.2 2
    have f3 := HPF.out.2 3
    go_wp2_with fail
    clear p0 p1 p2 p3 f0 f1 f2 f3
    obtain ⟨d0, d1, d2, d3⟩ := HP.out.set4 (.int .u8 0) (.int .u8 0) (.slice none 0 0) (.slice none 0 0)
    refine bodyPost_ret (v := .tuple #[.agg #[.int .u8 0, .int .u8 0, .slice none 0 0, .slice none 0 0], .int .i64 4]) (by simp [results, Tryd.results30, go_sem, d0, d1, d2, d3]) rfl ?_
    rw [HDN.out]
    exact ⟨rfl, HB.out.trans ((touch4 W2 (w.heap.size + 1) _ _ _ _).below (Nat.le_succ _) HB.out.size)⟩
  | true =>
    have HM := Lib.hid hm
    have HO := Lib.hid (may_out hm)
    have HLT := Lib.hid (show e.ts.length ≤ 1000 by have := HO.out.tx; omega)
    clear hm
    have HYE := Lib.hid (newest_is HM.out)
    have hv1 := HO.out.v1
    have hv3 := HO.out.v3
    clear hsz
    have hvs : e.v = 1 ∨ e.v = 2 ∨ e.v = 3 := by omega
    rcases hvs with h1 | h2 | h3
    case inl =>
      have q1 : ((e.v : Int) == 1) = true := by rw [beq_iff_eq]; omega
      have HGO := Lib.hid (goes_of HO.out.tl (show e.v < 3 by omega))
      have HMU := Lib.hid (up_may HM.out (show e.v < 3 by omega))
      have HEV := Lib.hid HA.out
      have HOO := Lib.hid HO.out
      have HTX := Lib.hid HA.out.txt
      have H1 := Lib.hid h1
      clear hv1 hv3 h1
      obtain ⟨x0, x1, x2, x3⟩ := HX.out
      go_upto_region 6 with (fail)
      clear x0 x1 x2 x3 q1
      obtain ⟨x0, x1, x2, x3⟩ := HX.out
      skip
      have hps := HPF.out.1
      go_wp2_with fail
      clear x0 x1 x2 x3 hps
      refine (lifted_any A ca C cc e W2 HEV.out HGO.out HOO.out.ln HOO.out.rng HLT.out (HE.out.below HB.out)).mono ?_
      rintro z W3 ⟨A1, c1, C1, d1, rfl, ho1, ho2, hb⟩
      have hps := HPF.out.1
      have HO1 := Lib.hid (ho1.less (show w.heap.size + 2 ≤ _ by omega))
      have HO2 := Lib.hid (ho2.less (show w.heap.size + 2 ≤ _ by omega))
      clear ho1 ho2 hps
      replace HX := Lib.hid (HX.out.below hb)
      replace HXF := Lib.hid (free_below HXF.out hb)
      replace HP := Lib.hid (HP.out.below hb)
      replace HPF := Lib.hid (HPF.out.below hb)
      have hsz := HB.out.size
      have hps := HPF.out.1
      replace HB := Lib.hid (below_step HB.out hb)
      clear hb
      generalize hq1 : upE e = f at HO1 HO2 ⊢
      have HQ1 := Lib.hid hq1
      clear hq1 hsz hps
      unfold evV
      obtain ⟨x0, x1, x2, x3⟩ := HX.out
      have f0 := HXF.out.2 0
      have f1 := HXF.out.2 1
      have f2 := HXF.out.2 2
      have f3 := HXF.out.2 3
      go_upto_region 7 with (fail)
      clear x0 x1 x2 x3 f0 f1 f2 f3
      have ht := touch4 W3 w.heap.size (.int .u8 f.v) (.int .u8 f.k) (.slice A1 f.ns.length c1) (.slice C1 f.ts.length d1)
      replace HX := Lib.hid (HX.out.set4 (.int .u8 f.v) (.int .u8 f.k) (.slice A1 f.ns.length c1) (.slice C1 f.ts.length d1))
      replace HP := Lib.hid (Four.touch HP.out ht (Or.inr (Nat.le_refl _)))
      replace HPF := Lib.hid (free_touch HPF.out ht (Or.inr (Nat.le_refl _)))
      replace HXF := Lib.hid (free_set4 (b' := w.heap.size) HXF.out (.int .u8 f.v) (.int .u8 f.k) (.slice A1 f.ns.length c1) (.slice C1 f.ts.length d1))
      replace HB := Lib.hid (HB.out.trans (ht.below (Nat.le_refl _) HB.out.size))
      replace HO1 := Lib.hid (ownE_set4 (b := w.heap.size) (x0 := .int .u8 f.v) (x1 := .int .u8 f.k) (x2 := .slice A1 f.ns.length c1) (x3 := .slice C1 f.ts.length d1) HO1.out (by omega))
      replace HO2 := Lib.hid (ownE_set4 (b := w.heap.size) (x0 := .int .u8 f.v) (x1 := .int .u8 f.k) (x2 := .slice A1 f.ns.length c1) (x3 := .slice C1 f.ts.length d1) HO2.out (by omega))
      clear ht
      generalize ((((W3.setCell ⟨w.heap.size, 0, none⟩ (.int .u8 f.v)).setCell ⟨w.heap.size, 1, none⟩ (.int .u8 f.k)).setCell ⟨w.heap.size, 2, none⟩ (.slice A1 f.ns.length c1)).setCell ⟨w.heap.size, 3, none⟩ (.slice C1 f.ts.length d1)) = W3s at HX HXF HP HPF HB HO1 HO2 ⊢
      have HMF := Lib.hid (show may f = true by rw [← HQ1.out]; exact HMU.out)
      have HEQ := Lib.hid (show newE e = upE f by rw [← HQ1.out]; exact newE1 H1.out)
      have hfv : f.v = 2 := by rw [← HQ1.out]; show e.v + 1 = 2; rw [H1.out]
      have HTF := Lib.hid (show ∀ t ∈ f.ts, t.size ≤ maxLen by rw [← HQ1.out]; exact HTX.out)
      replace HOO := Lib.hid (may_out HMF.out)
      replace HGO := Lib.hid (goes_of (may_out HMF.out).tl (show f.v < 3 by omega))
      obtain ⟨hev⟩ : Nonempty (EvAt W3s A1 c1 C1 d1 f) := ⟨evAt_of HMF.out HTF.out HO1.out HO2.out⟩
      replace HEV := Lib.hid hev
      replace HLT := Lib.hid (show f.ts.length ≤ 1000 by have := HOO.out.tx; omega)
      clear hev hfv HO1 HO2 HMU HQ1
      obtain ⟨x0, x1, x2, x3⟩ := HX.out
      skip
      have hps := HPF.out.1
      go_wp2_with fail
      clear x0 x1 x2 x3 hps
      refine (lifted_any A1 c1 C1 d1 f W3s HEV.out HGO.out HOO.out.ln HOO.out.rng HLT.out (HE.out.below HB.out)).mono ?_
      rintro z W5 ⟨A2, c2, C2, d2, rfl, ho1, ho2, hb⟩
      have hps := HPF.out.1
      have HO1 := Lib.hid (ho1.less (show w.heap.size + 2 ≤ _ by omega))
      have HO2 := Lib.hid (ho2.less (show w.heap.size + 2 ≤ _ by omega))
      clear ho1 ho2 hps
      replace HX := Lib.hid (HX.out.below hb)
      replace HXF := Lib.hid (free_below HXF.out hb)
      replace HP := Lib.hid (HP.out.below hb)
      replace HPF := Lib.hid (HPF.out.below hb)
      have hsz := HB.out.size
      have hps := HPF.out.1
      replace HB := Lib.hid (below_step HB.out hb)
      clear hb
      generalize hq2 : upE f = g at HO1 HO2 ⊢
      have HQ2 := Lib.hid hq2
      clear hq2 hsz hps
      unfold evV
      obtain ⟨x0, x1, x2, x3⟩ := HX.out
      have f0 := HXF.out.2 0
      have f1 := HXF.out.2 1
      have f2 := HXF.out.2 2
      have f3 := HXF.out.2 3
      go_upto_region 9 with (fail)
      clear x0 x1 x2 x3 f0 f1 f2 f3
      have ht := touch4 W5 w.heap.size (.int .u8 g.v) (.int .u8 g.k) (.slice A2 g.ns.length c2) (.slice C2 g.ts.length d2)
      replace HX := Lib.hid (HX.out.set4 (.int .u8 g.v) (.int .u8 g.k) (.slice A2 g.ns.length c2) (.slice C2 g.ts.length d2))
      replace HP := Lib.hid (Four.touch HP.out ht (Or.inr (Nat.le_refl _)))
      replace HPF := Lib.hid (free_touch HPF.out ht (Or.inr (Nat.le_refl _)))
      replace HXF := Lib.hid (free_set4 (b' := w.heap.size) HXF.out (.int .u8 g.v) (.int .u8 g.k) (.slice A2 g.ns.length c2) (.slice C2 g.ts.length d2))
      replace HB := Lib.hid (HB.out.trans (ht.below (Nat.le_refl _) HB.out.size))
      replace HO1 := Lib.hid (ownE_set4 (b := w.heap.size) (x0 := .int .u8 g.v) (x1 := .int .u8 g.k) (x2 := .slice A2 g.ns.length c2) (x3 := .slice C2 g.ts.length d2) HO1.out (by omega))
      replace HO2 := Lib.hid (ownE_set4 (b := w.heap.size) (x0 := .int .u8 g.v) (x1 := .int .u8 g.k) (x2 := .slice A2 g.ns.length c2) (x3 := .slice C2 g.ts.length d2) HO2.out (by omega))
      clear ht
      generalize ((((W5.setCell ⟨w.heap.size, 0, none⟩ (.int .u8 g.v)).setCell ⟨w.heap.size, 1, none⟩ (.int .u8 g.k)).setCell ⟨w.heap.size, 2, none⟩ (.slice A2 g.ns.length c2)).setCell ⟨w.heap.size, 3, none⟩ (.slice C2 g.ts.length d2)) = W5s at HX HXF HP HPF HB HO1 HO2 ⊢
      obtain ⟨x0, x1, x2, x3⟩ := HX.out
      obtain ⟨p0, p1, p2, p3⟩ := HP.out
      have f0 := HPF.out.2 0
      have f1 := HPF.out.2 1
      have f2 := HPF.out.2 2
      have f3 := HPF.out.2 3
      go_wp2_with fail
      clear x0 x1 x2 x3 p0 p1 p2 p3 f0 f1 f2 f3
      obtain ⟨e0, e1, e2, e3⟩ := HP.out.set4 (.int .u8 g.v) (.int .u8 g.k) (.slice A2 g.ns.length c2) (.slice C2 g.ts.length d2)
      refine bodyPost_ret (v := .tuple #[.agg #[.int .u8 g.v, .int .u8 g.k, .slice A2 g.ns.length c2, .slice C2 g.ts.length d2], .int .i64 0]) (by simp [results, Tryd.results30, go_sem, e0, e1, e2, e3]) rfl ?_
      rw [HYE.out, HEQ.out, HQ2.out]
      exact ⟨A2, c2, C2, d2, rfl, (ownE_set4 HO1.out (Nat.lt_succ_self _)).less (by omega), (ownE_set4 HO2.out (Nat.lt_succ_self _)).less (by omega), HB.out.trans ((touch4 W5s (w.heap.size + 1) _ _ _ _).below (Nat.le_succ _) HB.out.size)⟩
    case inr.inl =>
      have q1 : ((e.v : Int) == 1) = false := by rw [beq_eq_false_iff_ne]; omega
      have q2 : ((e.v : Int) == 2) = true := by rw [beq_iff_eq]; omega
      have HGO := Lib.hid (goes_of HO.out.tl (show e.v < 3 by omega))
      have HEV := Lib.hid HA.out
      have HOO := Lib.hid HO.out
      have HEQ := Lib.hid (newE2 h2)
      clear hv1 hv3 h2
      obtain ⟨x0, x1, x2, x3⟩ := HX.out
      go_upto_region 7 with (fail)
      clear x0 x1 x2 x3 q1 q2
      obtain ⟨x0, x1, x2, x3⟩ := HX.out
      skip
      have hps := HPF.out.1
      go_wp2_with fail
      clear x0 x1 x2 x3 hps
      refine (lifted_any A ca C cc e W2 HEV.out HGO.out HOO.out.ln HOO.out.rng HLT.out (HE.out.below HB.out)).mono ?_
      rintro z W3 ⟨A1, c1, C1, d1, rfl, ho1, ho2, hb⟩
      have hps := HPF.out.1
      have HO1 := Lib.hid (ho1.less (show w.heap.size + 2 ≤ _ by omega))
      have HO2 := Lib.hid (ho2.less (show w.heap.size + 2 ≤ _ by omega))
      clear ho1 ho2 hps
      replace HX := Lib.hid (HX.out.below hb)
      replace HXF := Lib.hid (free_below HXF.out hb)
      replace HP := Lib.hid (HP.out.below hb)
      replace HPF := Lib.hid (HPF.out.below hb)
      have hsz := HB.out.size
      have hps := HPF.out.1
      replace HB := Lib.hid (below_step HB.out hb)
      clear hb
      generalize hq1 : upE e = f at HO1 HO2 ⊢
      have HQ1 := Lib.hid hq1
      clear hq1 hsz hps
      unfold evV
      obtain ⟨x0, x1, x2, x3⟩ := HX.out
      have f0 := HXF.out.2 0
      have f1 := HXF.out.2 1
      have f2 := HXF.out.2 2
      have f3 := HXF.out.2 3
      go_upto_region 9 with (fail)
      clear x0 x1 x2 x3 f0 f1 f2 f3
      have ht := touch4 W3 w.heap.size (.int .u8 f.v) (.int .u8 f.k) (.slice A1 f.ns.length c1) (.slice C1 f.ts.length d1)
      replace HX := Lib.hid (HX.out.set4 (.int .u8 f.v) (.int .u8 f.k) (.slice A1 f.ns.length c1) (.slice C1 f.ts.length d1))
      replace HP := Lib.hid (Four.touch HP.out ht (Or.inr (Nat.le_refl _)))
      replace HPF := Lib.hid (free_touch HPF.out ht (Or.inr (Nat.le_refl _)))
      replace HXF := Lib.hid (free_set4 (b' := w.heap.size) HXF.out (.int .u8 f.v) (.int .u8 f.k) (.slice A1 f.ns.length c1) (.slice C1 f.ts.length d1))
      replace HB := Lib.hid (HB.out.trans (ht.below (Nat.le_refl _) HB.out.size))
      replace HO1 := Lib.hid (ownE_set4 (b := w.heap.size) (x0 := .int .u8 f.v) (x1 := .int .u8 f.k) (x2 := .slice A1 f.ns.length c1) (x3 := .slice C1 f.ts.length d1) HO1.out (by omega))
      replace HO2 := Lib.hid (ownE_set4 (b := w.heap.size) (x0 := .int .u8 f.v) (x1 := .int .u8 f.k) (x2 := .slice A1 f.ns.length c1) (x3 := .slice C1 f.ts.length d1) HO2.out (by omega))
      clear ht
      generalize ((((W3.setCell ⟨w.heap.size, 0, none⟩ (.int .u8 f.v)).setCell ⟨w.heap.size, 1, none⟩ (.int .u8 f.k)).setCell ⟨w.heap.size, 2, none⟩ (.slice A1 f.ns.length c1)).setCell ⟨w.heap.size, 3, none⟩ (.slice C1 f.ts.length d1)) = W3s at HX HXF HP HPF HB HO1 HO2 ⊢
      obtain ⟨x0, x1, x2, x3⟩ := HX.out
      obtain ⟨p0, p1, p2, p3⟩ := HP.out
      have f0 := HPF.out.2 0
      have f1 := HPF.out.2 1
      have f2 := HPF.out.2 2
      have f3 := HPF.out.2 3
      go_wp2_with fail
      clear x0 x1 x2 x3 p0 p1 p2 p3 f0 f1 f2 f3
      obtain ⟨e0, e1, e2, e3⟩ := HP.out.set4 (.int .u8 f.v) (.int .u8 f.k) (.slice A1 f.ns.length c1) (.slice C1 f.ts.length d1)
      refine bodyPost_ret (v := .tuple #[.agg #[.int .u8 f.v, .int .u8 f.k, .slice A1 f.ns.length c1, .slice C1 f.ts.length d1], .int .i64 0]) (by simp [results, Tryd.results30, go_sem, e0, e1, e2, e3]) rfl ?_
      rw [HYE.out, HEQ.out, HQ1.out]
      exact ⟨A1, c1, C1, d1, rfl, (ownE_set4 HO1.out (Nat.lt_succ_self _)).less (by omega), (ownE_set4 HO2.out (Nat.lt_succ_self _)).less (by omega), HB.out.trans ((touch4 W3s (w.heap.size + 1) _ _ _ _).below (Nat.le_succ _) HB.out.size)⟩
    case inr.inr =>
      have q1 : ((e.v : Int) == 1) = false := by rw [beq_eq_false_iff_ne]; omega
      have q2 : ((e.v : Int) == 2) = false := by rw [beq_eq_false_iff_ne]; omega
      have HEQ := Lib.hid (newE3 h3)
      have HNL := Lib.hid (show e.ns.length ≤ 10 by rw [HO.out.ln]; exact (lets_ok _ _).1)
      clear hv1 hv3 h3
      obtain ⟨x0, x1, x2, x3⟩ := HX.out
      go_upto_region 8 with (fail)
      clear x0 x1 x2 x3 q1 q2
      have HAD := Lib.hid (HA.out.below (below_drew W2.heap.size W2))
      have HXD := Lib.hid (HX.out.below (below_drew W2.heap.size W2))
      have HXFD := Lib.hid (free_below HXF.out (below_drew W2.heap.size W2))
      have HPD := Lib.hid (HP.out.below (below_drew W2.heap.size W2))
      have HPFD := Lib.hid (HPF.out.below (below_drew W2.heap.size W2))
      have HBD := Lib.hid (below_step HB.out (below_drew W2.heap.size W2))
      skip
      obtain ⟨x0, x1, x2, x3⟩ := HX.out
      go_region_law (first | (refine wp_append_vals 24 2 (.int .i64 0) 8 Tryd.underlying24 infoN rfl (by decide) (.const (.slice none 0 0)) (.tmp 22) rfl W2.drew.heap.size (.slice none 0 0) [] rfl (Own.nil _ _ _) A _ ca (nums e.ns) rfl (nums_len _).symm HAD.out.ns (nums_cell _) HAD.out.nA (by have := HNL.out; have := nums_len e.ns; simp only [List.length_nil]; omega) (Nat.le_refl _) ?_; intro v' V2 hO hg; (try rw [List.nil_append] at hO); obtain ⟨A1, c1, rfl, -, -⟩ := hO.vat; rw [nums_len] at hO ⊢; (have hb : Below W2.drew.heap.size W2.drew V2 := ⟨hg.os, hg.tape, hg.output, hg.size, fun k hk => hg.block k hk (by simp [Value.ownBlock])⟩); (have HO1 := Lib.hid (show OwnE V2 (w.heap.size + 2) _ _ _ from Or.inl (hO.less (show w.heap.size + 2 ≤ W2.drew.heap.size from HPFD.out.1)))); (replace HAD := Lib.hid (HAD.out.below hb)); (replace HXD := Lib.hid (HXD.out.below hb)); (replace HXFD := Lib.hid (free_below HXFD.out hb)); (replace HPD := Lib.hid (HPD.out.below hb)); (replace HPFD := Lib.hid (HPFD.out.below hb)); (replace HBD := Lib.hid (below_step HBD.out hb)); clear hO hg hb x0 x1 x2 x3; obtain ⟨x0, x1, x2, x3⟩ := HXD.out) | (go_simp; go_at_call 50; refine (like_any A ca C cc e e.v A1 e.ns.length c1 V2 HAD.out.ts HAD.out.nB HLT.out).mono ?_; rintro z V3 ⟨C1, d1, rfl, ho2, hb⟩; (have HO2 := Lib.hid (ho2.less (show w.heap.size + 2 ≤ _ from HPFD.out.1))); (replace HO1 := Lib.hid (HO1.out.below hb)); (replace HXD := Lib.hid (HXD.out.below hb)); (replace HXFD := Lib.hid (free_below HXFD.out hb)); (replace HPD := Lib.hid (HPD.out.below hb)); (replace HPFD := Lib.hid (HPFD.out.below hb)); (replace HBD := Lib.hid (below_step HBD.out hb)); clear ho2 hb x0 x1 x2 x3; obtain ⟨x0, x1, x2, x3⟩ := HXD.out; (have f0 := HXFD.out.2 0); (have f1 := HXFD.out.2 1); (have f2 := HXFD.out.2 2); (have f3 := HXFD.out.2 3)))
      all_goals
        clear x0 x1 x2 x3 f0 f1 f2 f3
        have ht := touch4 V3 w.heap.size (.int .u8 e.v) (.int .u8 e.k) (.slice A1 e.ns.length c1) (.slice C1 e.ts.length d1)
        replace HX := Lib.hid (HXD.out.set4 (.int .u8 e.v) (.int .u8 e.k) (.slice A1 e.ns.length c1) (.slice C1 e.ts.length d1))
        replace HP := Lib.hid (Four.touch HPD.out ht (Or.inr (Nat.le_refl _)))
        replace HPF := Lib.hid (free_touch HPFD.out ht (Or.inr (Nat.le_refl _)))
        replace HB := Lib.hid (HBD.out.trans (ht.below (Nat.le_refl _) HBD.out.size))
        replace HO1 := Lib.hid (ownE_set4 (b := w.heap.size) (x0 := .int .u8 e.v) (x1 := .int .u8 e.k) (x2 := .slice A1 e.ns.length c1) (x3 := .slice C1 e.ts.length d1) HO1.out (by omega))
        replace HO2 := Lib.hid (ownE_set4 (b := w.heap.size) (x0 := .int .u8 e.v) (x1 := .int .u8 e.k) (x2 := .slice A1 e.ns.length c1) (x3 := .slice C1 e.ts.length d1) HO2.out (by omega))
        clear ht HXD HXFD HPD HPFD HBD HAD
        generalize ((((V3.setCell ⟨w.heap.size, 0, none⟩ (.int .u8 e.v)).setCell ⟨w.heap.size, 1, none⟩ (.int .u8 e.k)).setCell ⟨w.heap.size, 2, none⟩ (.slice A1 e.ns.length c1)).setCell ⟨w.heap.size, 3, none⟩ (.slice C1 e.ts.length d1)) = V3s at HX HP HPF HB HO1 HO2 ⊢
        obtain ⟨x0, x1, x2, x3⟩ := HX.out
        obtain ⟨p0, p1, p2, p3⟩ := HP.out
        have f0 := HPF.out.2 0
        have f1 := HPF.out.2 1
        have f2 := HPF.out.2 2
        have f3 := HPF.out.2 3
        go_wp2_with fail
        clear x0 x1 x2 x3 p0 p1 p2 p3 f0 f1 f2 f3
        obtain ⟨e0, e1, e2, e3⟩ := HP.out.set4 (.int .u8 e.v) (.int .u8 e.k) (.slice A1 e.ns.length c1) (.slice C1 e.ts.length d1)
        refine bodyPost_ret (v := .tuple #[.agg #[.int .u8 e.v, .int .u8 e.k, .slice A1 e.ns.length c1, .slice C1 e.ts.length d1], .int .i64 0]) (by simp [results, Tryd.results30, go_sem, e0, e1, e2, e3]) rfl ?_
        rw [HYE.out, HEQ.out]
        exact ⟨A1, c1, C1, d1, rfl, (ownE_set4 HO1.out (Nat.lt_succ_self _)).less (by omega), (ownE_set4 HO2.out (Nat.lt_succ_self _)).less (by omega), HB.out.trans ((touch4 V3s (w.heap.size + 1) _ _ _ _).below (Nat.le_succ _) HB.out.size)⟩

end Go.Proofs.YtiibeemjkdipnaaDoor.Upcast
