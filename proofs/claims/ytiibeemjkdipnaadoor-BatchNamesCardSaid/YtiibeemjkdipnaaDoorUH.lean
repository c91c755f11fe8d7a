import Derived.Test.YtiibeemjkdipnaaDoorUG
/-
  To.
-/
namespace Go.Proofs.YtiibeemjkdipnaaDoor.Upcast
open Go Go.RowKit
open Go.Proofs.YtiibeemjkdipnaaDoor.Schema

/-- an event, said in a version -/
def toX (e : Ev) (v : Nat) : Except Nat Ev := if may e then (if isV v then dto (newE e) v else .error 43) else .error 4
theorem to_no {e : Ev} {v : Nat} (h : may e = false) : toX e v = .error 4 := if_neg (by rw [h]; decide)
theorem to_ver {e : Ev} {v : Nat} (h : may e = true) (hv : isV v = false) : toX e v = .error 43 := (if_pos h).trans (if_neg (by rw [hv]; decide))
theorem to_yes {e : Ev} {v : Nat} (h : may e = true) (hv : isV v = true) : toX e v = dto (newE e) v := (if_pos h).trans (if_pos hv)
theorem new_ts (e : Ev) : (newE e).ts = e.ts := by
  unfold newE
  split
  · rfl
  · split <;> rfl
theorem new_may {e : Ev} (h : may e = true) : may (newE e) = true := by
  unfold newE
  split
  · rename_i h1
    exact up_may (up_may h (by omega)) (by show e.v + 1 < 3; omega)
  · split
    · exact up_may h (by omega)
    · exact h
theorem new_v {e : Ev} (h : may e = true) : (newE e).v = 3 := by
  have ho := may_out h
  have h1 := ho.v1
  have h3 := ho.v3
  unfold newE
  split
  · show e.v + 1 + 1 = 3; omega
  · split
    · show e.v + 1 = 3; omega
    · omega

set_option maxRecDepth 100000 in
set_option maxHeartbeats 4000000 in
theorem To_any (A : Option Addr) (ca : Nat) (C : Option Addr) (cc : Nat) (e : Ev) (v : Nat) (hl : e.ns.length ≤ 1000000) (hv : v < 256) (w : World) (hA : EvAt w A ca C cc e) (E : Env w) :
    Calls Tryd.prog 21 #[evV A ca C cc e, .int .u8 (v : Int)] w (ExV (toX e v) w) := by
  have HA := Lib.hid hA
  have HE := Lib.hid E
  have HL := Lib.hid hl
  have HV := Lib.hid hv
  clear hA E hl hv
  unfold evV
  have hb1 := (Below.refl w.heap.size w).alloc (Nat.le_refl _) (.cells #[.int .u8 e.v, .int .u8 e.k, .slice A e.ns.length ca, .slice C e.ts.length cc] 27)
  have hs1 : (w.alloc (.cells #[.int .u8 e.v, .int .u8 e.k, .slice A e.ns.length ca, .slice C e.ts.length cc] 27)).heap.size = w.heap.size + 1 := by simp
  have hb2 := (Below.refl (w.alloc (.cells #[.int .u8 e.v, .int .u8 e.k, .slice A e.ns.length ca, .slice C e.ts.length cc] 27)).heap.size (w.alloc (.cells #[.int .u8 e.v, .int .u8 e.k, .slice A e.ns.length ca, .slice C e.ts.length cc] 27))).alloc (Nat.le_refl _) (.cells #[.int .u8 0, .int .u8 0, .slice none 0 0, .slice none 0 0] 27)
  have hx : Four _ w.heap.size _ _ _ _ := Four.below (box4 w (.int .u8 e.v) (.int .u8 e.k) (.slice A e.ns.length ca) (.slice C e.ts.length cc) 27) hb2
  have hxf := free_below (free_new w #[.int .u8 e.v, .int .u8 e.k, .slice A e.ns.length ca, .slice C e.ts.length cc] 27) hb2
  have HX := Lib.hid hx
  have HXF := Lib.hid hxf
  have hp : Four _ (w.alloc (.cells #[.int .u8 e.v, .int .u8 e.k, .slice A e.ns.length ca, .slice C e.ts.length cc] 27)).heap.size _ _ _ _ := box4 (w.alloc (.cells #[.int .u8 e.v, .int .u8 e.k, .slice A e.ns.length ca, .slice C e.ts.length cc] 27)) (.int .u8 0) (.int .u8 0) (.slice none 0 0) (.slice none 0 0) 27
  have hf := free_new (w.alloc (.cells #[.int .u8 e.v, .int .u8 e.k, .slice A e.ns.length ca, .slice C e.ts.length cc] 27)) #[.int .u8 0, .int .u8 0, .slice none 0 0, .slice none 0 0] 27
  rw [hs1] at hp hf
  have HP := Lib.hid hp
  have HPF := Lib.hid hf
  have HB := Lib.hid (below_step hb1 hb2)
  clear hb1 hb2 hs1 hx hp hf hxf
  replace HA := Lib.hid (HA.out.below HB.out)
  go_enter Tryd.func21, Tryd.ntmps21
  go_upto_region 1 with (fail)
  generalize ((w.alloc (.cells #[.int .u8 e.v, .int .u8 e.k, .slice A e.ns.length ca, .slice C e.ts.length cc] 27)).alloc (.cells #[.int .u8 0, .int .u8 0, .slice none 0 0, .slice none 0 0] 27)) = W at HX HXF HP HPF HB HA ⊢
  obtain ⟨x0, x1, x2, x3⟩ := HX.out
  go_wp2_with fail
  clear x0 x1 x2 x3
  refine (Newest_any A ca C cc e HL.out W HA.out (HE.out.below HB.out)).mono ?_
  rintro z W2 hz
  have HTX := Lib.hid HA.out.txt
  cases hm : may e with
  | false =>
    have HDN := Lib.hid (to_no (v := v) hm)
    rw [newest_no hm] at hz
    obtain ⟨rfl, hb⟩ := hz
    replace HX := Lib.hid (HX.out.below hb)
    replace HXF := Lib.hid (free_below HXF.out hb)
    replace HP := Lib.hid (HP.out.below hb)
    replace HPF := Lib.hid (HPF.out.below hb)
    replace HA := Lib.hid (HA.out.below hb)
    have hsz := HB.out.size
    replace HB := Lib.hid (below_step HB.out hb)
    clear hb
    clear hm hsz
    obtain ⟨x0, x1, x2, x3⟩ := HX.out
    have f0 := HXF.out.2 0
    have f1 := HXF.out.2 1
    have f2 := HXF.out.2 2
    have f3 := HXF.out.2 3
    go_upto_region 3 with (fail)
    clear x0 x1 x2 x3 f0 f1 f2 f3
    have ht := touch4 W2 w.heap.size (.int .u8 0) (.int .u8 0) (.slice none 0 0) (.slice none 0 0)
    replace HX := Lib.hid (HX.out.set4 (.int .u8 0) (.int .u8 0) (.slice none 0 0) (.slice none 0 0))
    replace HP := Lib.hid (Four.touch HP.out ht (Or.inr (Nat.le_refl _)))
    replace HPF := Lib.hid (free_touch HPF.out ht (Or.inr (Nat.le_refl _)))
    replace HXF := Lib.hid (free_set4 (b' := w.heap.size) HXF.out (.int .u8 0) (.int .u8 0) (.slice none 0 0) (.slice none 0 0))
    replace HB := Lib.hid (HB.out.trans (ht.below (Nat.le_refl _) HB.out.size))
    clear ht
    generalize ((((W2.setCell ⟨w.heap.size, 0, none⟩ (.int .u8 0)).setCell ⟨w.heap.size, 1, none⟩ (.int .u8 0)).setCell ⟨w.heap.size, 2, none⟩ (.slice none 0 0)).setCell ⟨w.heap.size, 3, none⟩ (.slice none 0 0)) = W3 at HX HXF HP HPF HB ⊢
    obtain ⟨p0, p1, p2, p3⟩ := HP.out
    have f0 := HPF.out.2 0
    have f1 := HPF.out.2 1
    have f2 := HPF.out.2 2
    have f3 := HPF.out.2 3
    go_wp2_with fail
    clear p0 p1 p2 p3 f0 f1 f2 f3
    obtain ⟨d0, d1, d2, d3⟩ := HP.out.set4 (.int .u8 0) (.int .u8 0) (.slice none 0 0) (.slice none 0 0)
    refine bodyPost_ret (v := .tuple #[.agg #[.int .u8 0, .int .u8 0, .slice none 0 0, .slice none 0 0], .int .i64 4]) (by simp [results, Tryd.results21, go_sem, d0, d1, d2, d3]) rfl ?_
    rw [HDN.out]
    exact ⟨rfl, HB.out.trans ((touch4 W3 (w.heap.size + 1) _ _ _ _).below (Nat.le_succ _) HB.out.size)⟩
  | true =>
    have HMF := Lib.hid (new_may hm)
    have HTF := Lib.hid (show ∀ t ∈ (newE e).ts, t.size ≤ maxLen by rw [new_ts]; exact HTX.out)
    have HNV := Lib.hid (fun h => to_ver (v := v) hm h)
    have HYV := Lib.hid (fun h => to_yes (v := v) hm h)
    rw [newest_is hm] at hz
    generalize newE e = f at HMF HTF HYV hz
    clear hm HTX
    obtain ⟨A1, c1, C1, d1, rfl, ho1, ho2, hb⟩ := hz
    have hps := HPF.out.1
    have HO1 := Lib.hid (ho1.less (show w.heap.size + 2 ≤ _ by omega))
    have HO2 := Lib.hid (ho2.less (show w.heap.size + 2 ≤ _ by omega))
    clear ho1 ho2
    replace HX := Lib.hid (HX.out.below hb)
    replace HXF := Lib.hid (free_below HXF.out hb)
    replace HP := Lib.hid (HP.out.below hb)
    replace HPF := Lib.hid (HPF.out.below hb)
    replace HA := Lib.hid (HA.out.below hb)
    have hsz := HB.out.size
    replace HB := Lib.hid (below_step HB.out hb)
    clear hb
    clear hsz hps
    unfold evV
    obtain ⟨x0, x1, x2, x3⟩ := HX.out
    have f0 := HXF.out.2 0
    have f1 := HXF.out.2 1
    have f2 := HXF.out.2 2
    have f3 := HXF.out.2 3
    go_upto_region 4 with (fail)
    clear x0 x1 x2 x3 f0 f1 f2 f3
    have ht := touch4 W2 w.heap.size (.int .u8 f.v) (.int .u8 f.k) (.slice A1 f.ns.length c1) (.slice C1 f.ts.length d1)
    replace HX := Lib.hid (HX.out.set4 (.int .u8 f.v) (.int .u8 f.k) (.slice A1 f.ns.length c1) (.slice C1 f.ts.length d1))
    replace HP := Lib.hid (Four.touch HP.out ht (Or.inr (Nat.le_refl _)))
    replace HPF := Lib.hid (free_touch HPF.out ht (Or.inr (Nat.le_refl _)))
    replace HXF := Lib.hid (free_set4 (b' := w.heap.size) HXF.out (.int .u8 f.v) (.int .u8 f.k) (.slice A1 f.ns.length c1) (.slice C1 f.ts.length d1))
    replace HB := Lib.hid (HB.out.trans (ht.below (Nat.le_refl _) HB.out.size))
    clear ht
    replace HO1 := Lib.hid (ownE_set4 (b := w.heap.size) (x0 := .int .u8 f.v) (x1 := .int .u8 f.k) (x2 := .slice A1 f.ns.length c1) (x3 := .slice C1 f.ts.length d1) HO1.out (by omega))
    replace HO2 := Lib.hid (ownE_set4 (b := w.heap.size) (x0 := .int .u8 f.v) (x1 := .int .u8 f.k) (x2 := .slice A1 f.ns.length c1) (x3 := .slice C1 f.ts.length d1) HO2.out (by omega))
    generalize ((((W2.setCell ⟨w.heap.size, 0, none⟩ (.int .u8 f.v)).setCell ⟨w.heap.size, 1, none⟩ (.int .u8 f.k)).setCell ⟨w.heap.size, 2, none⟩ (.slice A1 f.ns.length c1)).setCell ⟨w.heap.size, 3, none⟩ (.slice C1 f.ts.length d1)) = W3 at HX HXF HP HPF HB HO1 HO2 ⊢
    clear HA HXF
    go_wp2_with fail
    refine (isVersion_any v HV.out W3).mono ?_
    rintro z W4 ⟨rfl, hb⟩
    replace HX := Lib.hid (HX.out.below hb)
    replace HP := Lib.hid (HP.out.below hb)
    replace HPF := Lib.hid (free_below HPF.out hb)
    replace HB := Lib.hid (below_step HB.out hb)
    replace HO1 := Lib.hid (HO1.out.below hb)
    replace HO2 := Lib.hid (HO2.out.below hb)
    clear hb
    cases hv : isV v with
    | false =>
      have HDN := Lib.hid (HNV.out hv)
      clear hv
      obtain ⟨p0, p1, p2, p3⟩ := HP.out
      have f0 := HPF.out.2 0
      have f1 := HPF.out.2 1
      have f2 := HPF.out.2 2
      have f3 := HPF.out.2 3
      go_wp2_with fail
      clear p0 p1 p2 p3 f0 f1 f2 f3
      obtain ⟨d0, d1, d2, d3⟩ := HP.out.set4 (.int .u8 0) (.int .u8 0) (.slice none 0 0) (.slice none 0 0)
      refine bodyPost_ret (v := .tuple #[.agg #[.int .u8 0, .int .u8 0, .slice none 0 0, .slice none 0 0], .int .i64 43]) (by simp [results, Tryd.results21, go_sem, d0, d1, d2, d3]) rfl ?_
      rw [HDN.out]
      exact ⟨rfl, HB.out.trans ((touch4 W4 (w.heap.size + 1) _ _ _ _).below (Nat.le_succ _) HB.out.size)⟩
    | true =>
      have HDN := Lib.hid (HYV.out hv)
      clear hv
      have HEA := Lib.hid (evAt_of HMF.out HTF.out HO1.out HO2.out)
      obtain ⟨x0, x1, x2, x3⟩ := HX.out
      go_wp2_with fail
      clear x0 x1 x2 x3
      refine (letDownTo_any A1 c1 C1 d1 f v HV.out W4 HMF.out HEA.out (HE.out.below HB.out)).mono ?_
      rintro z W5 hz
      unfold LdV at hz
      cases hq : dto f v with
      | error x =>
        rw [hq] at hz
        obtain ⟨rfl, hb⟩ := hz
        replace HDN := Lib.hid (HDN.out.trans hq)
        replace HP := Lib.hid (HP.out.below hb)
        replace HPF := Lib.hid (free_below HPF.out hb)
        replace HB := Lib.hid (below_step HB.out hb)
        clear hb hq
        obtain ⟨p0, p1, p2, p3⟩ := HP.out
        have f0 := HPF.out.2 0
        have f1 := HPF.out.2 1
        have f2 := HPF.out.2 2
        have f3 := HPF.out.2 3
        go_wp2_with fail
        clear p0 p1 p2 p3 f0 f1 f2 f3
        obtain ⟨d0, d1, d2, d3⟩ := HP.out.set4 (.int .u8 0) (.int .u8 0) (.slice none 0 0) (.slice none 0 0)
        refine bodyPost_ret (v := .tuple #[.agg #[.int .u8 0, .int .u8 0, .slice none 0 0, .slice none 0 0], .int .i64 x]) (by simp [results, Tryd.results21, go_sem, d0, d1, d2, d3]) rfl ?_
        rw [HDN.out]
        exact ⟨rfl, HB.out.trans ((touch4 W5 (w.heap.size + 1) _ _ _ _).below (Nat.le_succ _) HB.out.size)⟩
      | ok g =>
        rw [hq] at hz
        obtain ⟨A2, c2, C2, d2, rfl, ho, hb⟩ := hz
        replace HDN := Lib.hid (HDN.out.trans hq)
        have hps := HPF.out.1
        have HOO := Lib.hid (show OwnE W5 (w.heap.size + 2) 2 (.slice A2 g.ns.length c2) (nums g.ns) ∧ OwnE W5 (w.heap.size + 2) 9 (.slice C2 g.ts.length d2) (texts g.ts) from by
          rcases ho with ⟨h1, h2, h3, h4, h5⟩ | ⟨_, h1, h2⟩
          · subst h1 h2 h3 h4 h5; exact ⟨HO1.out.below hb, HO2.out.below hb⟩
          · exact ⟨h1.less (by omega), h2.less (by omega)⟩)
        clear ho HO1 HO2 hps
        have HO1 := Lib.hid HOO.out.1
        have HO2 := Lib.hid HOO.out.2
        replace HP := Lib.hid (HP.out.below hb)
        replace HPF := Lib.hid (free_below HPF.out hb)
        replace HB := Lib.hid (below_step HB.out hb)
        clear hb hq HOO HX
        unfold evV
        obtain ⟨p0, p1, p2, p3⟩ := HP.out
        have f0 := HPF.out.2 0
        have f1 := HPF.out.2 1
        have f2 := HPF.out.2 2
        have f3 := HPF.out.2 3
        go_wp2_with fail
        clear p0 p1 p2 p3 f0 f1 f2 f3
        obtain ⟨e0, e1, e2, e3⟩ := HP.out.set4 (.int .u8 g.v) (.int .u8 g.k) (.slice A2 g.ns.length c2) (.slice C2 g.ts.length d2)
        refine bodyPost_ret (v := .tuple #[.agg #[.int .u8 g.v, .int .u8 g.k, .slice A2 g.ns.length c2, .slice C2 g.ts.length d2], .int .i64 0]) (by simp [results, Tryd.results21, go_sem, e0, e1, e2, e3]) rfl ?_
        rw [HDN.out]
        exact ⟨A2, c2, C2, d2, rfl, (ownE_set4 HO1.out (Nat.lt_succ_self _)).less (by omega), (ownE_set4 HO2.out (Nat.lt_succ_self _)).less (by omega), HB.out.trans ((touch4 W5 (w.heap.size + 1) _ _ _ _).below (Nat.le_succ _) HB.out.size)⟩

end Go.Proofs.YtiibeemjkdipnaaDoor.Upcast
