import Derived.Test.YtbjpkffhpdcapaaDoorUN
import Derived.Test.YtbjpkffhpdcapaaDoorUO
/-
  The walk of the statement UpcastOne.
-/
namespace Go.Proofs.YtbjpkffhpdcapaaDoor.Upcast
open Go Go.RowKit
open Go.Proofs.YtbjpkffhpdcapaaDoor.Schema

theorem new_newE {e : Ev} (h : may e = true) : newE (newE e) = newE e := newE3 (new_v h)
theorem new_upE {e : Ev} (h : may e = true) (hv : e.v < 3) : newE (upE e) = newE e := by
  have := (may_out h).v1
  have h2 : e.v = 1 ∨ e.v = 2 := by omega
  rcases h2 with h2 | h2
  · rw [newE1 h2, newE2 (show (upE e).v = 2 by show e.v + 1 = 2; omega)]
  · rw [newE2 h2, newE3 (show (upE e).v = 3 by show e.v + 1 = 3; omega)]
theorem new_down {e d : Ev} (h : may e = true) (hd : downX e = .ok d) : newE d = newE e := by
  have ho := down_out (may_out h).v1 hd
  rw [← new_upE (down_may h hd) ho.v3, down_up (may_out h).ln ho]
theorem dtX_new : ∀ (n : Nat) (e d : Ev) (v : Nat), may e = true → dtX n e v = .ok d → newE d = newE e
  | 0, e, d, v, hm, h => by injection h with h; rw [h]
  | n + 1, e, d, v, hm, h => by
    unfold dtX at h
    split at h
    · cases hd : downX e with
      | error x => rw [hd] at h; cases h
      | ok f =>
        rw [hd] at h
        exact (dtX_new n f d v (down_may hm hd) h).trans (new_down hm hd)
    · injection h with h; rw [h]
theorem dto_self {e : Ev} (h : may e = true) : dto (newE e) e.v = .ok e := by
  have ho := may_out h
  have h1 := ho.v1
  have h3 := ho.v3
  have h2 : e.v = 1 ∨ e.v = 2 ∨ e.v = 3 := by omega
  rcases h2 with h2 | h2 | h2
  · have hm := up_may h (by omega)
    have hv : (upE e).v = 2 := by show e.v + 1 = 2; omega
    have hv2 : (upE (upE e)).v = 3 := by show (upE e).v + 1 = 3; omega
    rw [newE1 h2, dto_step (by omega) (by omega) (up_down hm (by omega)), dto_step (by omega) (by omega) (up_down h (by omega)), dto_end (by omega)]
  · have hv : (upE e).v = 3 := by show e.v + 1 = 3; omega
    rw [newE2 h2, dto_step (by omega) (by omega) (up_down h (by omega)), dto_end (by omega)]
  · rw [newE3 h2, dto_end (by omega)]
theorem isV_may {e : Ev} (h : may e = true) : isV e.v = true := by
  have := (may_out h).v1
  have := (may_out h).v3
  unfold isV
  rw [decide_eq_true_iff]; omega
theorem to_new {e g : Ev} {x : Nat} (h : toX e x = .ok g) : may g = true ∧ newE g = newE e ∧ g.v = x := by
  obtain ⟨h1, h2, h3⟩ := to_out h
  have hn := new_may h1
  refine ⟨(to_may h).1, (dtX_new _ _ _ _ hn h3).trans (new_newE h1), ?_⟩
  unfold isV at h2
  rw [decide_eq_true_iff] at h2
  have hv := new_v h1
  by_cases hx : x < 3
  · exact dto_v hn (by omega) h3
  · rw [dto_end (by omega)] at h3
    injection h3 with h3
    rw [← h3, hv]; omega
theorem to_self {e : Ev} (h : may e = true) : toX e e.v = .ok e := by rw [to_yes h (isV_may h)]; exact dto_self h
theorem to_like {e f : Ev} {x : Nat} (h1 : may e = true) (h2 : may f = true) (h : newE e = newE f) : toX e x = toX f x := by
  unfold toX
  rw [if_pos h1, if_pos h2, h]
theorem one_said {e f g i : Ev} {x h j : Nat} (h1 : may e = true) (h2 : may f = true) (hx : x = e.v ∨ x = f.v) (hg : Got (toX e x) g h) (hi : Got (toX f x) i j) : (decide (h = 0) && decide (j = 0) && same g i) = same (newE e) (newE f) := by
  by_cases hn : newE e = newE f
  · rw [hn, same_self]
    have hl := to_like (x := x) h1 h2 hn
    rcases hx with rfl | rfl
    · rw [← hl] at hi
      obtain ⟨rfl, rfl⟩ := hg.of (to_self h1)
      obtain ⟨rfl, rfl⟩ := hi.of (to_self h1)
      rw [same_self]; rfl
    · rw [hl] at hg
      obtain ⟨rfl, rfl⟩ := hg.of (to_self h2)
      obtain ⟨rfl, rfl⟩ := hi.of (to_self h2)
      rw [same_self]; rfl
  · rw [same_no hn]
    by_cases q1 : h = 0
    · by_cases q2 : j = 0
      · have a1 := (to_new (hg.ok q1)).2.1
        have a2 := (to_new (hi.ok q2)).2.1
        rw [same_no (fun he => hn (by rw [← a1, ← a2, he]))]
        simp
      · rw [decide_eq_false q2]; simp
    · rw [decide_eq_false q1]; simp
theorem got_like {o : Except Nat Ev} {u v : Ev} {n m : Nat} (h1 : Got o u n) (h2 : Got o v m) : u = v ∧ n = m := by
  rcases h1 with h1 | h1
  · obtain ⟨rfl, rfl⟩ := h2.of h1.2
    exact ⟨rfl, h1.1⟩
  · obtain ⟨rfl, rfl⟩ := h2.err h1.2.2.1
    exact ⟨h1.2.2.2, rfl⟩
theorem nw_may {e u : Ev} {n : Nat} (h : Got (nwX e) u n) : may e = decide (n = 0) := by
  cases hm : may e with
  | true => obtain ⟨rfl, -⟩ := h.of (newest_is hm); rfl
  | false => obtain ⟨rfl, -⟩ := h.err (newest_no hm); rfl
theorem two_cells (w : World) (a b : Value) (T : TypeId) : (w.alloc (.cells #[a, b] T)).cell? ⟨w.heap.size, 0, none⟩ = some a ∧ (w.alloc (.cells #[a, b] T)).cell? ⟨w.heap.size, 1, none⟩ = some b := by
  have h : ∀ j, (w.alloc (.cells #[a, b] T)).cell? ⟨w.heap.size, j, none⟩ = #[a, b][j]? := fun j => by
    unfold World.cell?
    rw [show (w.alloc _).heap[(⟨w.heap.size, j, none⟩ : Addr).block]? = _ from (MapKept.heap_alloc w _).1]
    rfl
  exact ⟨h 0, h 1⟩
theorem max_min (a b : Nat) : ∃ x y : Nat, (∀ w' : World, (Builtin.max_ #[5, 5] 5 #[.int .u8 (a : Int), .int .u8 (b : Int)]).run Tryd.prog w' = .ok (.int .u8 (x : Int)) w') ∧ (∀ w' : World, (Builtin.min_ #[5, 5] 5 #[.int .u8 (a : Int), .int .u8 (b : Int)]).run Tryd.prog w' = .ok (.int .u8 (y : Int)) w') ∧ (x = a ∨ x = b) ∧ (y = a ∨ y = b) := by
  refine ⟨max a b, min a b, fun w' => ?_, fun w' => ?_, by omega, by omega⟩
  · rw [run_max_int2]
    congr 2
    split <;> omega
  · rw [run_min_int2]
    congr 2
    split <;> omega
/-- while both are said in each of the two versions -/
structure OneI (w : World) (A : Option Addr) (ca : Nat) (B : Option Addr) (cb : Nat) (e : Ev) (C : Option Addr) (cc : Nat) (D : Option Addr) (cd : Nat) (f : Ev) (bs : Nat) (wr : World) : Prop where
  env : Env wr
  bel : Below w.heap.size w wr
  ea : EvAt wr A ca B cb e
  ec : EvAt wr C cc D cd f
  p : Four wr w.heap.size (.int .u8 e.v) (.int .u8 e.k) (.slice A e.ns.length ca) (.slice B e.ts.length cb)
  q : Four wr (w.heap.size + 1) (.int .u8 f.v) (.int .u8 f.k) (.slice C f.ns.length cc) (.slice D f.ts.length cd)
  cc : ∀ k, k < 2 → ∃ x : Nat, (x = e.v ∨ x = f.v) ∧ wr.cell? ⟨bs, k, none⟩ = some (.int .u8 (x : Int))
theorem OneI.below {w : World} {A : Option Addr} {ca : Nat} {B : Option Addr} {cb : Nat} {e : Ev} {C : Option Addr} {cc : Nat} {D : Option Addr} {cd : Nat} {f : Ev} {bs : Nat} {wr w' : World} (h : OneI w A ca B cb e C cc D cd f bs wr) (hb : Below wr.heap.size wr w') : OneI w A ca B cb e C cc D cd f bs w' :=
  ⟨h.env.below hb, below_step h.bel hb, h.ea.below hb, h.ec.below hb, h.p.below hb, h.q.below hb, fun k hk => by obtain ⟨x, h1, h2⟩ := h.cc k hk; exact ⟨x, h1, cell_kept h2 hb⟩⟩

set_option maxRecDepth 100000 in
set_option maxHeartbeats 8000000 in
theorem one_any (A : Option Addr) (ca : Nat) (B : Option Addr) (cb : Nat) (e : Ev) (C : Option Addr) (cc : Nat) (D : Option Addr) (cd : Nat) (f : Ev) (q v : Int) (w : World) (hA : EvAt w A ca B cb e) (lA : e.ns.length ≤ 140737488355328 ∧ e.ts.length ≤ 140737488355328) (hC : EvAt w C cc D cd f) (lC : f.ns.length ≤ 140737488355328 ∧ f.ts.length ≤ 140737488355328) (wq : (Lit.int .u8 q).wf = true) (wv : (Lit.int .u8 v).wf = true) (E : Env w) :
    Calls Tryd.prog 5 #[evV A ca B cb e, evV C cc D cd f, .int .u8 q, .int .u8 v] w fun z w' => z = .returned (.bool true) ∧ Below w.heap.size w w' := by
  have hqb := bounds_u8 wq
  obtain ⟨q, rfl⟩ := Int.eq_ofNat_of_zero_le hqb.1
  have HQB := Lib.hid (show q < 256 by omega)
  have hvb := bounds_u8 wv
  obtain ⟨v, rfl⟩ := Int.eq_ofNat_of_zero_le hvb.1
  have HVB := Lib.hid (show v < 256 by omega)
  clear hqb hvb wq wv
  have HE := Lib.hid E
  have HhA := Lib.hid hA
  have LhA := Lib.hid lA
  have HhC := Lib.hid hC
  have LhC := Lib.hid lC
  clear E hA lA hC lC
  unfold evV
  have hb0 := (Below.refl w.heap.size w).alloc (Nat.le_refl _) (.cells #[.int .u8 e.v, .int .u8 e.k, .slice A e.ns.length ca, .slice B e.ts.length cb] 25)
  have hb1 := (Below.refl (w.alloc (.cells #[.int .u8 e.v, .int .u8 e.k, .slice A e.ns.length ca, .slice B e.ts.length cb] 25)).heap.size (w.alloc (.cells #[.int .u8 e.v, .int .u8 e.k, .slice A e.ns.length ca, .slice B e.ts.length cb] 25))).alloc (Nat.le_refl _) (.cells #[.int .u8 f.v, .int .u8 f.k, .slice C f.ns.length cc, .slice D f.ts.length cd] 25)
  have hp0 := ((show Four _ w.heap.size _ _ _ _ from box4 w (.int .u8 e.v) (.int .u8 e.k) (.slice A e.ns.length ca) (.slice B e.ts.length cb) 25).below hb1)
  have HP := Lib.hid hp0
  clear hp0
  have hp1 := (show Four _ (w.alloc (.cells #[.int .u8 e.v, .int .u8 e.k, .slice A e.ns.length ca, .slice B e.ts.length cb] 25)).heap.size _ _ _ _ from box4 (w.alloc (.cells #[.int .u8 e.v, .int .u8 e.k, .slice A e.ns.length ca, .slice B e.ts.length cb] 25)) (.int .u8 f.v) (.int .u8 f.k) (.slice C f.ns.length cc) (.slice D f.ts.length cd) 25)
  rw [show (w.alloc (.cells #[.int .u8 e.v, .int .u8 e.k, .slice A e.ns.length ca, .slice B e.ts.length cb] 25)).heap.size = w.heap.size + 1 by simp] at hp1
  have HQ := Lib.hid hp1
  clear hp1
  have HB := Lib.hid (below_step hb0 hb1)
  replace HhA := Lib.hid (HhA.out.below HB.out)
  replace HhC := Lib.hid (HhC.out.below HB.out)
  replace HE := Lib.hid (HE.out.below HB.out)
  clear hb0 hb1
  go_enter Tryd.func5, Tryd.ntmps5
  go_upto_region 1 with (fail)
  generalize ((w.alloc (.cells #[.int .u8 e.v, .int .u8 e.k, .slice A e.ns.length ca, .slice B e.ts.length cb] 25)).alloc (.cells #[.int .u8 f.v, .int .u8 f.k, .slice C f.ns.length cc, .slice D f.ts.length cd] 25)) = X1 at HP HQ HB HhA HhC HE ⊢
  obtain ⟨hp_0, hp_1, hp_2, hp_3⟩ := HP.out
  go_wp2_with fail
  clear hp_0 hp_1 hp_2 hp_3
  refine (long_any A ca B cb e LhA.out.1 LhA.out.2 X1 HhA.out).mono ?_
  rintro z X2 ⟨b1, rfl, hl1, hb⟩
  replace HP := Lib.hid (HP.out.below hb)
  replace HQ := Lib.hid (HQ.out.below hb)
  replace HB := Lib.hid (below_step HB.out hb)
  replace HhA := Lib.hid (HhA.out.below hb)
  replace HhC := Lib.hid (HhC.out.below hb)
  replace HE := Lib.hid (HE.out.below hb)
  clear hb
  cases b1 with
  | true =>
    clear hl1
    go_wp2_with fail
    refine (awake_any _ HE.out).mono ?_
    rintro z Xz ⟨rfl, hb⟩
    have HZ := Lib.hid (below_step HB.out hb)
    clear hb
    go_wp2_with fail
    go_ret
    exact ⟨rfl, HZ.out⟩
  | false =>
    have ShA := Lib.hid (hl1 rfl)
    clear hl1
    obtain ⟨hq_0, hq_1, hq_2, hq_3⟩ := HQ.out
    go_wp2_with fail
    clear hq_0 hq_1 hq_2 hq_3
    refine (long_any C cc D cd f LhC.out.1 LhC.out.2 X2 HhC.out).mono ?_
    rintro z X3 ⟨b1, rfl, hl1, hb⟩
    replace HP := Lib.hid (HP.out.below hb)
    replace HQ := Lib.hid (HQ.out.below hb)
    replace HB := Lib.hid (below_step HB.out hb)
    replace HhA := Lib.hid (HhA.out.below hb)
    replace HhC := Lib.hid (HhC.out.below hb)
    replace HE := Lib.hid (HE.out.below hb)
    clear hb
    cases b1 with
    | true =>
      clear hl1
      go_wp2_with fail
      refine (awake_any _ HE.out).mono ?_
      rintro z Xz ⟨rfl, hb⟩
      have HZ := Lib.hid (below_step HB.out hb)
      clear hb
      go_wp2_with fail
      go_ret
      exact ⟨rfl, HZ.out⟩
    | false =>
      have ShC := Lib.hid (hl1 rfl)
      clear hl1
      go_wp2_with fail
      refine (awake_any X3 HE.out).mono ?_
      rintro z X4 ⟨rfl, hb⟩
      replace HP := Lib.hid (HP.out.below hb)
      replace HQ := Lib.hid (HQ.out.below hb)
      replace HB := Lib.hid (below_step HB.out hb)
      replace HhA := Lib.hid (HhA.out.below hb)
      replace HhC := Lib.hid (HhC.out.below hb)
      replace HE := Lib.hid (HE.out.below hb)
      clear hb
      obtain ⟨hp_0, hp_1, hp_2, hp_3⟩ := HP.out
      go_wp2_with fail
      clear hp_0 hp_1 hp_2 hp_3
      refine (Newest_ev (by have := ShA.out; omega) HhA.out HE.out).mono ?_
      rintro z X5 ⟨u1, n1, A1, c1, C1, d1, rfl, hev, hsm, hgot, hb⟩
      replace HP := Lib.hid (HP.out.below hb)
      replace HQ := Lib.hid (HQ.out.below hb)
      replace HB := Lib.hid (below_step HB.out hb)
      replace HhA := Lib.hid (HhA.out.below hb)
      replace HhC := Lib.hid (HhC.out.below hb)
      replace HE := Lib.hid (HE.out.below hb)
      have HY1 := Lib.hid hev
      have HS1 := Lib.hid hsm
      have HG1 := Lib.hid hgot
      clear hev hsm hgot hb
      unfold evV
      go_upto_region 4 with (fail)
      have hb := (Below.refl X5.heap.size X5).alloc (Nat.le_refl _) (.cells #[.int .u8 u1.v, .int .u8 u1.k, .slice A1 u1.ns.length c1, .slice C1 u1.ts.length d1] 25)
      replace HP := Lib.hid (HP.out.below hb)
      replace HQ := Lib.hid (HQ.out.below hb)
      replace HB := Lib.hid (below_step HB.out hb)
      replace HhA := Lib.hid (HhA.out.below hb)
      replace HhC := Lib.hid (HhC.out.below hb)
      replace HE := Lib.hid (HE.out.below hb)
      replace HY1 := Lib.hid (HY1.out.below hb)
      have HP1 := Lib.hid (show Four _ X5.heap.size _ _ _ _ from box4 X5 (.int .u8 u1.v) (.int .u8 u1.k) (.slice A1 u1.ns.length c1) (.slice C1 u1.ts.length d1) 25)
      clear hb
      generalize X5.alloc (.cells #[.int .u8 u1.v, .int .u8 u1.k, .slice A1 u1.ns.length c1, .slice C1 u1.ts.length d1] 25) = X6 at HP HQ HB HhA HhC HE HY1 HP1 ⊢
      generalize hWs : X5.heap.size = b1 at HP1 ⊢
      clear hWs
      obtain ⟨hq_0, hq_1, hq_2, hq_3⟩ := HQ.out
      go_wp2_with fail
      clear hq_0 hq_1 hq_2 hq_3
      refine (Newest_ev (by have := ShC.out; omega) HhC.out HE.out).mono ?_
      rintro z X7 ⟨u2, n2, A2, c2, C2, d2, rfl, hev, hsm, hgot, hb⟩
      replace HP := Lib.hid (HP.out.below hb)
      replace HQ := Lib.hid (HQ.out.below hb)
      replace HB := Lib.hid (below_step HB.out hb)
      replace HhA := Lib.hid (HhA.out.below hb)
      replace HhC := Lib.hid (HhC.out.below hb)
      replace HE := Lib.hid (HE.out.below hb)
      replace HY1 := Lib.hid (HY1.out.below hb)
      replace HP1 := Lib.hid (HP1.out.below hb)
      have HY2 := Lib.hid hev
      have HS2 := Lib.hid hsm
      have HG2 := Lib.hid hgot
      clear hev hsm hgot hb
      unfold evV
      go_upto_region 5 with (fail)
      have hb := (Below.refl X7.heap.size X7).alloc (Nat.le_refl _) (.cells #[.int .u8 u2.v, .int .u8 u2.k, .slice A2 u2.ns.length c2, .slice C2 u2.ts.length d2] 25)
      replace HP := Lib.hid (HP.out.below hb)
      replace HQ := Lib.hid (HQ.out.below hb)
      replace HB := Lib.hid (below_step HB.out hb)
      replace HhA := Lib.hid (HhA.out.below hb)
      replace HhC := Lib.hid (HhC.out.below hb)
      replace HE := Lib.hid (HE.out.below hb)
      replace HY1 := Lib.hid (HY1.out.below hb)
      replace HP1 := Lib.hid (HP1.out.below hb)
      replace HY2 := Lib.hid (HY2.out.below hb)
      have HP2 := Lib.hid (show Four _ X7.heap.size _ _ _ _ from box4 X7 (.int .u8 u2.v) (.int .u8 u2.k) (.slice A2 u2.ns.length c2) (.slice C2 u2.ts.length d2) 25)
      clear hb
      generalize X7.alloc (.cells #[.int .u8 u2.v, .int .u8 u2.k, .slice A2 u2.ns.length c2, .slice C2 u2.ts.length d2] 25) = X8 at HP HQ HB HhA HhC HE HY1 HP1 HY2 HP2 ⊢
      generalize hWs : X7.heap.size = b2 at HP2 ⊢
      clear hWs
      by_cases ha : n1 = 0
      case neg =>
        have z11 : ((n1 : Int) == 0) = false := by (rw [beq_eq_false_iff_ne]; omega)
        have z21 : ¬ (n1 : Int) = 0 := by omega
        have z31 : ((n1 : Int) != 0) = true := by (rw [bne_iff_ne]; omega)
        by_cases hc : n2 = 0
        case pos =>
          subst hc
          have hc := may_any A ca B cb e (by have := ShA.out; omega) X8 HE.out HhA.out
          rw [nw_may HG1.out, decide_eq_false ha] at hc
          have HC1 := Lib.hid hc
          clear hc
          obtain ⟨hp_0, hp_1, hp_2, hp_3⟩ := HP.out
          obtain ⟨hq_0, hq_1, hq_2, hq_3⟩ := HQ.out
          go_wp2_with fail
          refine HC1.out.mono ?_
          rintro z Y1 ⟨rfl, hb⟩
          clear hp_0 hp_1 hp_2 hp_3
          clear hq_0 hq_1 hq_2 hq_3
          replace HP := Lib.hid (HP.out.below hb)
          replace HQ := Lib.hid (HQ.out.below hb)
          replace HB := Lib.hid (below_step HB.out hb)
          replace HhA := Lib.hid (HhA.out.below hb)
          replace HhC := Lib.hid (HhC.out.below hb)
          replace HE := Lib.hid (HE.out.below hb)
          replace HY1 := Lib.hid (HY1.out.below hb)
          replace HP1 := Lib.hid (HP1.out.below hb)
          replace HY2 := Lib.hid (HY2.out.below hb)
          replace HP2 := Lib.hid (HP2.out.below hb)
          clear hb
          have hc := may_any C cc D cd f (by have := ShC.out; omega) Y1 HE.out HhC.out
          rw [nw_may HG2.out, decide_eq_true rfl] at hc
          have HC2 := Lib.hid hc
          clear hc
          obtain ⟨hp_0, hp_1, hp_2, hp_3⟩ := HP.out
          obtain ⟨hq_0, hq_1, hq_2, hq_3⟩ := HQ.out
          go_wp2_with fail
          refine HC2.out.mono ?_
          rintro z Y2 ⟨rfl, hb⟩
          clear hp_0 hp_1 hp_2 hp_3
          clear hq_0 hq_1 hq_2 hq_3
          replace HP := Lib.hid (HP.out.below hb)
          replace HQ := Lib.hid (HQ.out.below hb)
          replace HB := Lib.hid (below_step HB.out hb)
          replace HhA := Lib.hid (HhA.out.below hb)
          replace HhC := Lib.hid (HhC.out.below hb)
          replace HE := Lib.hid (HE.out.below hb)
          replace HY1 := Lib.hid (HY1.out.below hb)
          replace HP1 := Lib.hid (HP1.out.below hb)
          replace HY2 := Lib.hid (HY2.out.below hb)
          replace HP2 := Lib.hid (HP2.out.below hb)
          clear hb
          go_wp2_with fail
          go_ret
          exact ⟨by simp, HB.out⟩
        case neg =>
          have z12 : ((n2 : Int) == 0) = false := by (rw [beq_eq_false_iff_ne]; omega)
          have z22 : ¬ (n2 : Int) = 0 := by omega
          have z32 : ((n2 : Int) != 0) = true := by (rw [bne_iff_ne]; omega)
          have hc' := hc
          have q2 := decide_eq_false hc'
          have hc := may_any A ca B cb e (by have := ShA.out; omega) X8 HE.out HhA.out
          rw [nw_may HG1.out, decide_eq_false ha] at hc
          have HC1 := Lib.hid hc
          clear hc
          obtain ⟨hp_0, hp_1, hp_2, hp_3⟩ := HP.out
          obtain ⟨hq_0, hq_1, hq_2, hq_3⟩ := HQ.out
          go_wp2_with fail
          refine HC1.out.mono ?_
          rintro z Y1 ⟨rfl, hb⟩
          clear hp_0 hp_1 hp_2 hp_3
          clear hq_0 hq_1 hq_2 hq_3
          replace HP := Lib.hid (HP.out.below hb)
          replace HQ := Lib.hid (HQ.out.below hb)
          replace HB := Lib.hid (below_step HB.out hb)
          replace HhA := Lib.hid (HhA.out.below hb)
          replace HhC := Lib.hid (HhC.out.below hb)
          replace HE := Lib.hid (HE.out.below hb)
          replace HY1 := Lib.hid (HY1.out.below hb)
          replace HP1 := Lib.hid (HP1.out.below hb)
          replace HY2 := Lib.hid (HY2.out.below hb)
          replace HP2 := Lib.hid (HP2.out.below hb)
          clear hb
          have hc := may_any C cc D cd f (by have := ShC.out; omega) Y1 HE.out HhC.out
          rw [nw_may HG2.out, q2] at hc
          have HC2 := Lib.hid hc
          clear hc
          obtain ⟨hp_0, hp_1, hp_2, hp_3⟩ := HP.out
          obtain ⟨hq_0, hq_1, hq_2, hq_3⟩ := HQ.out
          go_wp2_with fail
          refine HC2.out.mono ?_
          rintro z Y2 ⟨rfl, hb⟩
          clear hp_0 hp_1 hp_2 hp_3
          clear hq_0 hq_1 hq_2 hq_3
          replace HP := Lib.hid (HP.out.below hb)
          replace HQ := Lib.hid (HQ.out.below hb)
          replace HB := Lib.hid (below_step HB.out hb)
          replace HhA := Lib.hid (HhA.out.below hb)
          replace HhC := Lib.hid (HhC.out.below hb)
          replace HE := Lib.hid (HE.out.below hb)
          replace HY1 := Lib.hid (HY1.out.below hb)
          replace HP1 := Lib.hid (HP1.out.below hb)
          replace HY2 := Lib.hid (HY2.out.below hb)
          replace HP2 := Lib.hid (HP2.out.below hb)
          clear hb
          go_wp2_with fail
          go_ret
          exact ⟨by simp, HB.out⟩
      by_cases hc0 : n2 = 0
      case neg =>
        have z12 : ((n2 : Int) == 0) = false := by (rw [beq_eq_false_iff_ne]; omega)
        have z22 : ¬ (n2 : Int) = 0 := by omega
        have z32 : ((n2 : Int) != 0) = true := by (rw [bne_iff_ne]; omega)
        have q2 := decide_eq_false hc0
        subst ha
        have hc := may_any A ca B cb e (by have := ShA.out; omega) X8 HE.out HhA.out
        rw [nw_may HG1.out, decide_eq_true rfl] at hc
        have HC1 := Lib.hid hc
        clear hc
        obtain ⟨hp_0, hp_1, hp_2, hp_3⟩ := HP.out
        obtain ⟨hq_0, hq_1, hq_2, hq_3⟩ := HQ.out
        go_wp2_with fail
        refine HC1.out.mono ?_
        rintro z Y1 ⟨rfl, hb⟩
        clear hp_0 hp_1 hp_2 hp_3
        clear hq_0 hq_1 hq_2 hq_3
        replace HP := Lib.hid (HP.out.below hb)
        replace HQ := Lib.hid (HQ.out.below hb)
        replace HB := Lib.hid (below_step HB.out hb)
        replace HhA := Lib.hid (HhA.out.below hb)
        replace HhC := Lib.hid (HhC.out.below hb)
        replace HE := Lib.hid (HE.out.below hb)
        replace HY1 := Lib.hid (HY1.out.below hb)
        replace HP1 := Lib.hid (HP1.out.below hb)
        replace HY2 := Lib.hid (HY2.out.below hb)
        replace HP2 := Lib.hid (HP2.out.below hb)
        clear hb
        have hc := may_any C cc D cd f (by have := ShC.out; omega) Y1 HE.out HhC.out
        rw [nw_may HG2.out, q2] at hc
        have HC2 := Lib.hid hc
        clear hc
        obtain ⟨hp_0, hp_1, hp_2, hp_3⟩ := HP.out
        obtain ⟨hq_0, hq_1, hq_2, hq_3⟩ := HQ.out
        go_wp2_with fail
        refine HC2.out.mono ?_
        rintro z Y2 ⟨rfl, hb⟩
        clear hp_0 hp_1 hp_2 hp_3
        clear hq_0 hq_1 hq_2 hq_3
        replace HP := Lib.hid (HP.out.below hb)
        replace HQ := Lib.hid (HQ.out.below hb)
        replace HB := Lib.hid (below_step HB.out hb)
        replace HhA := Lib.hid (HhA.out.below hb)
        replace HhC := Lib.hid (HhC.out.below hb)
        replace HE := Lib.hid (HE.out.below hb)
        replace HY1 := Lib.hid (HY1.out.below hb)
        replace HP1 := Lib.hid (HP1.out.below hb)
        replace HY2 := Lib.hid (HY2.out.below hb)
        replace HP2 := Lib.hid (HP2.out.below hb)
        clear hb
        go_wp2_with fail
        go_ret
        exact ⟨by simp, HB.out⟩
      obtain ⟨hm1, rfl⟩ := new_out (HG1.out.ok ha)
      obtain ⟨hm2, rfl⟩ := new_out (HG2.out.ok hc0)
      subst ha hc0
      have HM1 := Lib.hid hm1
      have HM2 := Lib.hid hm2
      clear hm1 hm2
      obtain ⟨hp1_0, hp1_1, hp1_2, hp1_3⟩ := HP1.out
      obtain ⟨hp2_0, hp2_1, hp2_2, hp2_3⟩ := HP2.out
      go_wp2_with fail
      clear hp1_0 hp1_1 hp1_2 hp1_3
      clear hp2_0 hp2_1 hp2_2 hp2_3
      refine (same_any _ _ _ _ (newE e) _ _ _ _ (newE f) (by have := HS1.out; omega) (by have := HS2.out; omega) (by have := HS1.out; omega) (by have := HS2.out; omega) X8 HY1.out HY2.out).mono ?_
      rintro z X9 ⟨rfl, hb⟩
      replace HP := Lib.hid (HP.out.below hb)
      replace HQ := Lib.hid (HQ.out.below hb)
      replace HB := Lib.hid (below_step HB.out hb)
      replace HhA := Lib.hid (HhA.out.below hb)
      replace HhC := Lib.hid (HhC.out.below hb)
      replace HE := Lib.hid (HE.out.below hb)
      replace HY1 := Lib.hid (HY1.out.below hb)
      replace HP1 := Lib.hid (HP1.out.below hb)
      replace HY2 := Lib.hid (HY2.out.below hb)
      replace HP2 := Lib.hid (HP2.out.below hb)
      clear hb
      clear HP1
      clear HP2
      clear HY1
      clear HY2
      have HSM := Lib.hid (fun x g h i j hx hg hi => one_said (g := g) (h := h) (i := i) (j := j) (x := x) HM1.out HM2.out hx hg hi)
      generalize same (newE e) (newE f) = sm at HSM ⊢
      obtain ⟨x0, x1, hmx, hmn, hx0, hx1⟩ := max_min e.v f.v
      have HX := Lib.hid (And.intro hx0 hx1)
      clear hx0 hx1
      obtain ⟨hp_0, hp_1, hp_2, hp_3⟩ := HP.out
      obtain ⟨hq_0, hq_1, hq_2, hq_3⟩ := HQ.out
      go_upto_region 8 with (fail)
      skip
      go_wp2_with fail
      clear hp_0 hp_1 hp_2 hp_3
      clear hq_0 hq_1 hq_2 hq_3
      have hb := (Below.refl X9.heap.size X9).alloc (Nat.le_refl _) (.cells #[.int .u8 x0, .int .u8 x1] 5)
      replace HP := Lib.hid (HP.out.below hb)
      replace HQ := Lib.hid (HQ.out.below hb)
      replace HB := Lib.hid (below_step HB.out hb)
      replace HhA := Lib.hid (HhA.out.below hb)
      replace HhC := Lib.hid (HhC.out.below hb)
      replace HE := Lib.hid (HE.out.below hb)
      have HC0 := Lib.hid (two_cells X9 (.int .u8 x0) (.int .u8 x1) 5)
      clear hb hmx hmn
      generalize X9.alloc (.cells #[.int .u8 x0, .int .u8 x1] 5) = X10 at HP HQ HB HhA HhC HE HC0 ⊢
      generalize X9.heap.size = bs at HC0 ⊢
      have HCC := Lib.hid (show ∀ k, k < 2 → ∃ x : Nat, (x = e.v ∨ x = f.v) ∧ X10.cell? ⟨bs, k, none⟩ = some (.int .u8 (x : Int)) from fun k hk => by
        rcases (show k = 0 ∨ k = 1 by omega) with rfl | rfl
        · exact ⟨x0, HX.out.1, HC0.out.1⟩
        · exact ⟨x1, HX.out.2, HC0.out.2⟩)
      clear HC0 HX
      have HI : Hid (OneI w A ca B cb e C cc D cd f bs X10) := Lib.hid ⟨HE.out, HB.out, HhA.out, HhC.out, HP.out, HQ.out, HCC.out⟩
      clear HCC
      clear HE HB HhA HhC HP HQ
      go_loopw [80] (fun i wr => ∃ m : Nat, m ≤ 2 ∧ i = .int .i64 m ∧ Hid (OneI w A ca B cb e C cc D cd f bs wr)) (fun i _ => 2 - (intOf i).toNat)
      case atStart => exact ⟨0, by omega, rfl, HI⟩
      case round =>
        clear HI
        obtain ⟨m, hm, rfl, HI⟩ := hrel
        have HE := Lib.hid HI.out.env
        have HB := Lib.hid HI.out.bel
        have HhA := Lib.hid HI.out.ea
        have HhC := Lib.hid HI.out.ec
        have HP := Lib.hid HI.out.p
        have HQ := Lib.hid HI.out.q
        have HCC := Lib.hid HI.out.cc
        by_cases hlt : m < 2
        case pos =>
          have z1 : (m : Int) < 2 := by omega
          obtain ⟨x, hx, c0⟩ := HCC.out m hlt
          have HXM := Lib.hid hx
          have HXB := Lib.hid (show x < 256 by have := HhA.out.v; have := HhC.out.v; omega)
          clear hx
          obtain ⟨hp_0, hp_1, hp_2, hp_3⟩ := HP.out
          go_wp2_with fail
          clear hp_0 hp_1 hp_2 hp_3
          refine (To_ev (by have := ShA.out; omega) HXB.out HhA.out HE.out).mono ?_
          rintro z X11 ⟨ug, ng, Ag, cg, Cg, dg, rfl, hev, hsm, hgot, hb⟩
          replace HP := Lib.hid (HP.out.below hb)
          replace HQ := Lib.hid (HQ.out.below hb)
          replace HB := Lib.hid (below_step HB.out hb)
          replace HhA := Lib.hid (HhA.out.below hb)
          replace HhC := Lib.hid (HhC.out.below hb)
          replace HE := Lib.hid (HE.out.below hb)
          replace HI := Lib.hid (HI.out.below hb)
          have HYg := Lib.hid hev
          have HSg := Lib.hid hsm
          have HGg := Lib.hid hgot
          clear hev hsm hgot hb
          unfold evV
          go_upto_region 12 with (fail)
          have hb := (Below.refl X11.heap.size X11).alloc (Nat.le_refl _) (.cells #[.int .u8 ug.v, .int .u8 ug.k, .slice Ag ug.ns.length cg, .slice Cg ug.ts.length dg] 25)
          replace HP := Lib.hid (HP.out.below hb)
          replace HQ := Lib.hid (HQ.out.below hb)
          replace HB := Lib.hid (below_step HB.out hb)
          replace HhA := Lib.hid (HhA.out.below hb)
          replace HhC := Lib.hid (HhC.out.below hb)
          replace HE := Lib.hid (HE.out.below hb)
          replace HI := Lib.hid (HI.out.below hb)
          replace HYg := Lib.hid (HYg.out.below hb)
          have HPg := Lib.hid (show Four _ X11.heap.size _ _ _ _ from box4 X11 (.int .u8 ug.v) (.int .u8 ug.k) (.slice Ag ug.ns.length cg) (.slice Cg ug.ts.length dg) 25)
          clear hb
          generalize X11.alloc (.cells #[.int .u8 ug.v, .int .u8 ug.k, .slice Ag ug.ns.length cg, .slice Cg ug.ts.length dg] 25) = X12 at HP HQ HB HhA HhC HE HI HYg HPg ⊢
          generalize hWs : X11.heap.size = bg at HPg ⊢
          clear hWs
          obtain ⟨hq_0, hq_1, hq_2, hq_3⟩ := HQ.out
          go_wp2_with fail
          clear hq_0 hq_1 hq_2 hq_3
          refine (To_ev (by have := ShC.out; omega) HXB.out HhC.out HE.out).mono ?_
          rintro z X13 ⟨ui, ni, Ai, ci, Ci, di, rfl, hev, hsm, hgot, hb⟩
          replace HP := Lib.hid (HP.out.below hb)
          replace HQ := Lib.hid (HQ.out.below hb)
          replace HB := Lib.hid (below_step HB.out hb)
          replace HhA := Lib.hid (HhA.out.below hb)
          replace HhC := Lib.hid (HhC.out.below hb)
          replace HE := Lib.hid (HE.out.below hb)
          replace HI := Lib.hid (HI.out.below hb)
          replace HYg := Lib.hid (HYg.out.below hb)
          replace HPg := Lib.hid (HPg.out.below hb)
          have HYi := Lib.hid hev
          have HSi := Lib.hid hsm
          have HGi := Lib.hid hgot
          clear hev hsm hgot hb
          unfold evV
          go_upto_region 13 with (fail)
          have hb := (Below.refl X13.heap.size X13).alloc (Nat.le_refl _) (.cells #[.int .u8 ui.v, .int .u8 ui.k, .slice Ai ui.ns.length ci, .slice Ci ui.ts.length di] 25)
          replace HP := Lib.hid (HP.out.below hb)
          replace HQ := Lib.hid (HQ.out.below hb)
          replace HB := Lib.hid (below_step HB.out hb)
          replace HhA := Lib.hid (HhA.out.below hb)
          replace HhC := Lib.hid (HhC.out.below hb)
          replace HE := Lib.hid (HE.out.below hb)
          replace HI := Lib.hid (HI.out.below hb)
          replace HYg := Lib.hid (HYg.out.below hb)
          replace HPg := Lib.hid (HPg.out.below hb)
          replace HYi := Lib.hid (HYi.out.below hb)
          have HPi := Lib.hid (show Four _ X13.heap.size _ _ _ _ from box4 X13 (.int .u8 ui.v) (.int .u8 ui.k) (.slice Ai ui.ns.length ci) (.slice Ci ui.ts.length di) 25)
          clear hb
          generalize X13.alloc (.cells #[.int .u8 ui.v, .int .u8 ui.k, .slice Ai ui.ns.length ci, .slice Ci ui.ts.length di] 25) = X14 at HP HQ HB HhA HhC HE HI HYg HPg HYi HPi ⊢
          generalize hWs : X13.heap.size = bi at HPi ⊢
          clear hWs
          have HEQ := Lib.hid (HSM.out x ug ng ui ni HXM.out HGg.out HGi.out)
          by_cases hg : ng = 0
          case neg =>
            have z1g : ((ng : Int) == 0) = false := by (rw [beq_eq_false_iff_ne]; omega)
            have z2g : ¬ (ng : Int) = 0 := by omega
            have z3g : ((ng : Int) != 0) = true := by (rw [bne_iff_ne]; omega)
            obtain rfl : false = sm := by (have := HEQ.out; rw [decide_eq_false hg] at this; simpa using this)
            go_wp2_with fail
            go_roundw
            case rel => exact ⟨m + 1, by omega, by go_num, HI⟩
            case measure => simp [intOf] <;> omega
          by_cases hi : ni = 0
          case neg =>
            have z1i : ((ni : Int) == 0) = false := by (rw [beq_eq_false_iff_ne]; omega)
            have z2i : ¬ (ni : Int) = 0 := by omega
            have z3i : ((ni : Int) != 0) = true := by (rw [bne_iff_ne]; omega)
            obtain rfl : false = sm := by (have := HEQ.out; rw [decide_eq_false hi] at this; simpa using this)
            subst hg
            go_wp2_with fail
            go_roundw
            case rel => exact ⟨m + 1, by omega, by go_num, HI⟩
            case measure => simp [intOf] <;> omega
          subst hg hi
          have hsm : same ug ui = sm := by simpa using HEQ.out
          have hxx : (sm != sm) = false := by cases sm <;> rfl
          have hc := same_any _ _ _ _ ug _ _ _ _ ui (by have := HSg.out; omega) (by have := HSi.out; omega) (by have := HSg.out; omega) (by have := HSi.out; omega) X14 HYg.out HYi.out
          rw [hsm] at hc
          obtain ⟨hpg_0, hpg_1, hpg_2, hpg_3⟩ := HPg.out
          obtain ⟨hpi_0, hpi_1, hpi_2, hpi_3⟩ := HPi.out
          go_wp2_with fail
          refine hc.mono ?_
          clear hpg_0 hpg_1 hpg_2 hpg_3
          clear hpi_0 hpi_1 hpi_2 hpi_3
          rintro z Y9 ⟨rfl, hb⟩
          replace HP := Lib.hid (HP.out.below hb)
          replace HQ := Lib.hid (HQ.out.below hb)
          replace HB := Lib.hid (below_step HB.out hb)
          replace HhA := Lib.hid (HhA.out.below hb)
          replace HhC := Lib.hid (HhC.out.below hb)
          replace HE := Lib.hid (HE.out.below hb)
          replace HI := Lib.hid (HI.out.below hb)
          replace HYg := Lib.hid (HYg.out.below hb)
          replace HPg := Lib.hid (HPg.out.below hb)
          replace HYi := Lib.hid (HYi.out.below hb)
          replace HPi := Lib.hid (HPi.out.below hb)
          clear hb hc
          go_wp2_with fail
          go_roundw
          case rel => exact ⟨m + 1, by omega, by go_num, HI⟩
          case measure => simp [intOf] <;> omega
        case neg =>
          have z1 : ¬ (m : Int) < 2 := by omega
          obtain ⟨hp_0, hp_1, hp_2, hp_3⟩ := HP.out
          go_wp2_with fail
          clear hp_0 hp_1 hp_2 hp_3
          refine (To_ev (by have := ShA.out; omega) HQB.out HhA.out HE.out).mono ?_
          rintro z X15 ⟨ug, ng, Ag, cg, Cg, dg, rfl, hev, hsm, hgot, hb⟩
          replace HP := Lib.hid (HP.out.below hb)
          replace HQ := Lib.hid (HQ.out.below hb)
          replace HB := Lib.hid (below_step HB.out hb)
          replace HhA := Lib.hid (HhA.out.below hb)
          replace HhC := Lib.hid (HhC.out.below hb)
          replace HE := Lib.hid (HE.out.below hb)
          have HYg := Lib.hid hev
          have HSg := Lib.hid hsm
          have HGg := Lib.hid hgot
          clear hev hsm hgot hb
          unfold evV
          go_upto_region 17 with (fail)
          have hb := (Below.refl X15.heap.size X15).alloc (Nat.le_refl _) (.cells #[.int .u8 ug.v, .int .u8 ug.k, .slice Ag ug.ns.length cg, .slice Cg ug.ts.length dg] 25)
          replace HP := Lib.hid (HP.out.below hb)
          replace HQ := Lib.hid (HQ.out.below hb)
          replace HB := Lib.hid (below_step HB.out hb)
          replace HhA := Lib.hid (HhA.out.below hb)
          replace HhC := Lib.hid (HhC.out.below hb)
          replace HE := Lib.hid (HE.out.below hb)
          replace HYg := Lib.hid (HYg.out.below hb)
          have HPg := Lib.hid (show Four _ X15.heap.size _ _ _ _ from box4 X15 (.int .u8 ug.v) (.int .u8 ug.k) (.slice Ag ug.ns.length cg) (.slice Cg ug.ts.length dg) 25)
          clear hb
          generalize X15.alloc (.cells #[.int .u8 ug.v, .int .u8 ug.k, .slice Ag ug.ns.length cg, .slice Cg ug.ts.length dg] 25) = X16 at HP HQ HB HhA HhC HE HYg HPg ⊢
          generalize hWs : X15.heap.size = bg at HPg ⊢
          clear hWs
          clear z1
          by_cases hg : ng = 0
          case neg =>
            have z1g : ((ng : Int) == 0) = false := by (rw [beq_eq_false_iff_ne]; omega)
            have z2g : ¬ (ng : Int) = 0 := by omega
            have z3g : ((ng : Int) != 0) = true := by (rw [bne_iff_ne]; omega)
            go_wp2_with fail
            go_ret
            exact ⟨rfl, HB.out⟩
          subst hg
          have HN := Lib.hid (to_new (HGg.out.ok rfl))
          obtain ⟨hpg_0, hpg_1, hpg_2, hpg_3⟩ := HPg.out
          go_wp2_with fail
          clear hpg_0 hpg_1 hpg_2 hpg_3
          refine (To_ev (by have := HSg.out; omega) HVB.out HYg.out HE.out).mono ?_
          rintro z X17 ⟨uj, nj, Aj, cj, Cj, dj, rfl, hev, hsm, hgot, hb⟩
          replace HP := Lib.hid (HP.out.below hb)
          replace HQ := Lib.hid (HQ.out.below hb)
          replace HB := Lib.hid (below_step HB.out hb)
          replace HhA := Lib.hid (HhA.out.below hb)
          replace HhC := Lib.hid (HhC.out.below hb)
          replace HE := Lib.hid (HE.out.below hb)
          replace HYg := Lib.hid (HYg.out.below hb)
          replace HPg := Lib.hid (HPg.out.below hb)
          have HYj := Lib.hid hev
          have HSj := Lib.hid hsm
          have HGj := Lib.hid hgot
          clear hev hsm hgot hb
          unfold evV
          go_upto_region 20 with (fail)
          have hb := (Below.refl X17.heap.size X17).alloc (Nat.le_refl _) (.cells #[.int .u8 uj.v, .int .u8 uj.k, .slice Aj uj.ns.length cj, .slice Cj uj.ts.length dj] 25)
          replace HP := Lib.hid (HP.out.below hb)
          replace HQ := Lib.hid (HQ.out.below hb)
          replace HB := Lib.hid (below_step HB.out hb)
          replace HhA := Lib.hid (HhA.out.below hb)
          replace HhC := Lib.hid (HhC.out.below hb)
          replace HE := Lib.hid (HE.out.below hb)
          replace HYg := Lib.hid (HYg.out.below hb)
          replace HPg := Lib.hid (HPg.out.below hb)
          replace HYj := Lib.hid (HYj.out.below hb)
          have HPj := Lib.hid (show Four _ X17.heap.size _ _ _ _ from box4 X17 (.int .u8 uj.v) (.int .u8 uj.k) (.slice Aj uj.ns.length cj) (.slice Cj uj.ts.length dj) 25)
          clear hb
          generalize X17.alloc (.cells #[.int .u8 uj.v, .int .u8 uj.k, .slice Aj uj.ns.length cj, .slice Cj uj.ts.length dj] 25) = X18 at HP HQ HB HhA HhC HE HYg HPg HYj HPj ⊢
          generalize hWs : X17.heap.size = bj at HPj ⊢
          clear hWs
          obtain ⟨hp_0, hp_1, hp_2, hp_3⟩ := HP.out
          go_wp2_with fail
          clear hp_0 hp_1 hp_2 hp_3
          refine (To_ev (by have := ShA.out; omega) HVB.out HhA.out HE.out).mono ?_
          rintro z X19 ⟨uk, nk, Ak, ck, Ck, dk, rfl, hev, hsm, hgot, hb⟩
          replace HP := Lib.hid (HP.out.below hb)
          replace HQ := Lib.hid (HQ.out.below hb)
          replace HB := Lib.hid (below_step HB.out hb)
          replace HhA := Lib.hid (HhA.out.below hb)
          replace HhC := Lib.hid (HhC.out.below hb)
          replace HE := Lib.hid (HE.out.below hb)
          replace HYg := Lib.hid (HYg.out.below hb)
          replace HPg := Lib.hid (HPg.out.below hb)
          replace HYj := Lib.hid (HYj.out.below hb)
          replace HPj := Lib.hid (HPj.out.below hb)
          have HYk := Lib.hid hev
          have HSk := Lib.hid hsm
          have HGk := Lib.hid hgot
          clear hev hsm hgot hb
          unfold evV
          go_upto_region 21 with (fail)
          have hb := (Below.refl X19.heap.size X19).alloc (Nat.le_refl _) (.cells #[.int .u8 uk.v, .int .u8 uk.k, .slice Ak uk.ns.length ck, .slice Ck uk.ts.length dk] 25)
          replace HP := Lib.hid (HP.out.below hb)
          replace HQ := Lib.hid (HQ.out.below hb)
          replace HB := Lib.hid (below_step HB.out hb)
          replace HhA := Lib.hid (HhA.out.below hb)
          replace HhC := Lib.hid (HhC.out.below hb)
          replace HE := Lib.hid (HE.out.below hb)
          replace HYg := Lib.hid (HYg.out.below hb)
          replace HPg := Lib.hid (HPg.out.below hb)
          replace HYj := Lib.hid (HYj.out.below hb)
          replace HPj := Lib.hid (HPj.out.below hb)
          replace HYk := Lib.hid (HYk.out.below hb)
          have HPk := Lib.hid (show Four _ X19.heap.size _ _ _ _ from box4 X19 (.int .u8 uk.v) (.int .u8 uk.k) (.slice Ak uk.ns.length ck) (.slice Ck uk.ts.length dk) 25)
          clear hb
          generalize X19.alloc (.cells #[.int .u8 uk.v, .int .u8 uk.k, .slice Ak uk.ns.length ck, .slice Ck uk.ts.length dk] 25) = X20 at HP HQ HB HhA HhC HE HYg HPg HYj HPj HYk HPk ⊢
          generalize hWs : X19.heap.size = bk at HPk ⊢
          clear hWs
          have hl := HGj.out
          rw [to_like HN.out.1 HM1.out HN.out.2.1] at hl
          obtain ⟨rfl, rfl⟩ := got_like hl HGk.out
          clear hl
          have hgq : (ug.v : Int) = (q : Int) := by rw [HN.out.2.2]
          have hgr : ((ug.v : Int) == (q : Int)) = true := by rw [hgq]; simp
          have hnn : ((nj : Int) == (nj : Int)) = true := beq_self_eq_true _
          have hc := same_any _ _ _ _ uj _ _ _ _ uj (by have := HSj.out; omega) (by have := HSj.out; omega) (by have := HSj.out; omega) (by have := HSj.out; omega) X20 HYj.out HYk.out
          rw [same_self] at hc
          obtain ⟨hpj_0, hpj_1, hpj_2, hpj_3⟩ := HPj.out
          obtain ⟨hpk_0, hpk_1, hpk_2, hpk_3⟩ := HPk.out
          obtain ⟨hpg_0, hpg_1, hpg_2, hpg_3⟩ := HPg.out
          go_wp2_with fail
          refine hc.mono ?_
          rintro z Y9 ⟨rfl, hb⟩
          have HZ := Lib.hid (below_step HB.out hb)
          have g0 := cell_kept hpg_0 hb
          clear hb hc
          go_wp2_with fail
          go_ret
          exact ⟨by simp, HZ.out⟩

end Go.Proofs.YtbjpkffhpdcapaaDoor.Upcast
