import Derived.Test.YtiibeemjkdipnaaDoorUI
/-
  Lowest's closure, and a list's events said by it.
-/
namespace Go.Proofs.YtiibeemjkdipnaaDoor.Upcast
open Go Go.RowKit
open Go.Proofs.YtiibeemjkdipnaaDoor.Schema

def lowX (v : Nat) (e : Ev) : Except Nat Ev := dto e v
theorem dtX_out : ∀ (n : Nat) (e d : Ev) (v : Nat), may e = true → e.v ≤ n → dtX n e v = .ok d → may d = true ∧ d.ts = e.ts ∧ d.k = e.k ∧ (v < e.v → d.v = v)
  | 0, e, d, v, hm, hn, h => by have := (may_out hm).v1; omega
  | n + 1, e, d, v, hm, hn, h => by
    unfold dtX at h
    split at h
    · rename_i hlt
      cases hd : downX e with
      | error x => rw [hd] at h; cases h
      | ok f =>
        rw [hd] at h
        have ho := down_out (may_out hm).v1 hd
        have hv := ho.ev
        have hr := dtX_out n f d v (down_may hm hd) (by omega) h
        refine ⟨hr.1, by rw [hr.2.1, ho.ts], by rw [hr.2.2.1, ho.ek], fun _ => ?_⟩
        by_cases h1 : v < f.v
        · exact hr.2.2.2 h1
        · have h2 : f.v = v := by omega
          have h3 : dtX n f v = .ok f := by
            cases n with
            | zero => rfl
            | succ m => unfold dtX; rw [if_neg h1]
          have h4 : dtX n f v = .ok d := h
          rw [h3] at h4
          injection h4 with h4
          rw [← h4]; exact h2
    · rename_i hlt
      injection h with h
      subst h
      exact ⟨hm, rfl, rfl, fun h1 => absurd h1 hlt⟩
theorem dtX_err : ∀ (n : Nat) (e : Ev) (v x : Nat), dtX n e v = .error x → x = 43
  | 0, e, v, x, h => by cases h
  | n + 1, e, v, x, h => by
    unfold dtX at h
    split at h
    · cases hd : downX e with
      | error y => rw [hd] at h; injection h with h; rw [← h]; exact down_err hd
      | ok f => rw [hd] at h; exact dtX_err n f v x h
    · cases h
theorem dto_v {e d : Ev} {v : Nat} (hm : may e = true) (hlt : v < e.v) (h : dto e v = .ok d) : d.v = v := (dtX_out _ _ _ _ hm (Nat.le_refl _) h).2.2.2 hlt
theorem low_err {e : Ev} {v n : Nat} (h : lowX v e = .error n) : n = 43 := dtX_err _ _ _ _ h
theorem low_may {e d : Ev} {v : Nat} (hm : may e = true) (h : lowX v e = .ok d) : may d = true := (dtX_out _ _ _ _ hm (Nat.le_refl _) h).1
theorem low_ts {e d : Ev} {v : Nat} (hm : may e = true) (h : lowX v e = .ok d) : d.ts = e.ts := (dtX_out _ _ _ _ hm (Nat.le_refl _) h).2.1

set_option maxRecDepth 100000 in
set_option maxHeartbeats 4000000 in
theorem low_any (A : Option Addr) (ca : Nat) (C : Option Addr) (cc : Nat) (e : Ev) (v q : Nat) (hv : v < 256) (w : World) (hm : may e = true) (hlt : v < e.v) (hA : EvAt w A ca C cc e) (hq : w.cell? ⟨q, 0, none⟩ = some (.int .u8 (v : Int))) (E : Env w) :
    Calls Tryd.prog 46 #[evV A ca C cc e, .pointer (some ⟨q, 0, none⟩)] w (ExV (lowX v e) w) := by
  have HE := Lib.hid E
  have HV := Lib.hid hv
  have HA := Lib.hid hA
  have HM := Lib.hid hm
  have HLT := Lib.hid hlt
  have HQ := Lib.hid hq
  clear E hv hA hm hlt hq
  unfold evV
  have hb1 := (Below.refl w.heap.size w).alloc (Nat.le_refl _) (.cells #[.int .u8 e.v, .int .u8 e.k, .slice A e.ns.length ca, .slice C e.ts.length cc] 27)
  have hs1 : (w.alloc (.cells #[.int .u8 e.v, .int .u8 e.k, .slice A e.ns.length ca, .slice C e.ts.length cc] 27)).heap.size = w.heap.size + 1 := by simp
  have hb2 := (Below.refl (w.alloc (.cells #[.int .u8 e.v, .int .u8 e.k, .slice A e.ns.length ca, .slice C e.ts.length cc] 27)).heap.size (w.alloc (.cells #[.int .u8 e.v, .int .u8 e.k, .slice A e.ns.length ca, .slice C e.ts.length cc] 27))).alloc (Nat.le_refl _) (.cells #[.int .u8 0, .int .u8 0, .slice none 0 0, .slice none 0 0] 27)
  have hx : Four _ w.heap.size _ _ _ _ := Four.below (box4 w (.int .u8 e.v) (.int .u8 e.k) (.slice A e.ns.length ca) (.slice C e.ts.length cc) 27) hb2
  have hxf := free_below (free_new w #[.int .u8 e.v, .int .u8 e.k, .slice A e.ns.length ca, .slice C e.ts.length cc] 27) hb2
  have HX := Lib.hid hx
  have HXF := Lib.hid hxf
  have hp : Four _ (w.alloc (.cells #[.int .u8 e.v, .int .u8 e.k, .slice A e.ns.length ca, .slice C e.ts.length cc] 27)).heap.size _ _ _ _ := box4 (w.alloc (.cells #[.int .u8 e.v, .int .u8 e.k, .slice A e.ns.length ca, .slice C e.ts.length cc] 27)) (.int .u8 0) (.int .u8 0) (.slice none 0 0) (.slice none 0 0) 27
  have hf := free_new (w.alloc (.cells #[.int .u8 e.v, .int .u8 e.k, .slice A e.ns.length ca, .slice C e.ts.length cc] 27)) #[.int .u8 0, .int .u8 0, .slice none 0 0, .slice none 0 0] 27
  rw [hs1] at hp hf
  have HP := Lib.hid hp
  have HPF := Lib.hid hf
  have HB := Lib.hid (below_step hb1 hb2)
  clear hb1 hb2 hs1 hx hp hf hxf
  replace HQ := Lib.hid (cell_kept HQ.out HB.out)
  replace HA := Lib.hid (HA.out.below HB.out)
  go_enter Tryd.func46, Tryd.ntmps46
  go_upto_region 1 with (fail)
  generalize ((w.alloc (.cells #[.int .u8 e.v, .int .u8 e.k, .slice A e.ns.length ca, .slice C e.ts.length cc] 27)).alloc (.cells #[.int .u8 0, .int .u8 0, .slice none 0 0, .slice none 0 0] 27)) = W at HX HXF HP HPF HB HA HQ ⊢
  obtain ⟨x0, x1, x2, x3⟩ := HX.out
  have q0 := HQ.out
  go_wp2_with fail
  clear x0 x1 x2 x3 q0
  refine (letDownTo_any A ca C cc e v HV.out W HM.out HA.out (HE.out.below HB.out)).mono ?_
  rintro z W5 hz
  unfold LdV at hz
  cases hq : dto e v with
  | error x =>
    rw [hq] at hz
    obtain ⟨rfl, hb⟩ := hz
    have HDN := Lib.hid (show lowX v e = .error x from hq)
    replace HP := Lib.hid (HP.out.below hb)
    replace HPF := Lib.hid (free_below HPF.out hb)
    replace HB := Lib.hid (below_step HB.out hb)
    clear hb hq
    obtain ⟨p0, p1, p2, p3⟩ := HP.out
    have f0 := HPF.out.2 0
    have f1 := HPF.out.2 1
    have f2 := HPF.out.2 2
    have f3 := HPF.out.2 3
    go_wp2_with fail
    clear p0 p1 p2 p3 f0 f1 f2 f3
    obtain ⟨d0, d1, d2, d3⟩ := HP.out.set4 (.int .u8 0) (.int .u8 0) (.slice none 0 0) (.slice none 0 0)
    refine bodyPost_ret (v := .tuple #[.agg #[.int .u8 0, .int .u8 0, .slice none 0 0, .slice none 0 0], .int .i64 x]) (by simp [results, Tryd.results46, go_sem, d0, d1, d2, d3]) rfl ?_
    rw [HDN.out]
    exact ⟨rfl, HB.out.trans ((touch4 W5 (w.heap.size + 1) _ _ _ _).below (Nat.le_succ _) HB.out.size)⟩
  | ok g =>
    rw [hq] at hz
    obtain ⟨A2, c2, C2, d2, rfl, ho, hb⟩ := hz
    have HDN := Lib.hid (show lowX v e = .ok g from hq)
    have hps := HPF.out.1
    have HOO := Lib.hid (show OwnE W5 (w.heap.size + 2) 2 (.slice A2 g.ns.length c2) (nums g.ns) ∧ OwnE W5 (w.heap.size + 2) 9 (.slice C2 g.ts.length d2) (texts g.ts) from by
      rcases ho with ⟨h1, h2, h3, h4, h5⟩ | ⟨_, h1, h2⟩
      · exact absurd hq (fun h => by have h6 := dto_v HM.out HLT.out h; have h7 := HLT.out; rw [h1] at h6; omega)
      · exact ⟨h1.less (by omega), h2.less (by omega)⟩)
    clear ho hps
    have HO1 := Lib.hid HOO.out.1
    have HO2 := Lib.hid HOO.out.2
    replace HP := Lib.hid (HP.out.below hb)
    replace HPF := Lib.hid (free_below HPF.out hb)
    replace HB := Lib.hid (below_step HB.out hb)
    clear hb hq HOO HX
    unfold evV
    obtain ⟨p0, p1, p2, p3⟩ := HP.out
    have f0 := HPF.out.2 0
    have f1 := HPF.out.2 1
    have f2 := HPF.out.2 2
    have f3 := HPF.out.2 3
    go_wp2_with fail
    clear p0 p1 p2 p3 f0 f1 f2 f3
    obtain ⟨e0, e1, e2, e3⟩ := HP.out.set4 (.int .u8 g.v) (.int .u8 g.k) (.slice A2 g.ns.length c2) (.slice C2 g.ts.length d2)
    refine bodyPost_ret (v := .tuple #[.agg #[.int .u8 g.v, .int .u8 g.k, .slice A2 g.ns.length c2, .slice C2 g.ts.length d2], .int .i64 0]) (by simp [results, Tryd.results46, go_sem, e0, e1, e2, e3]) rfl ?_
    rw [HDN.out]
    exact ⟨A2, c2, C2, d2, rfl, (ownE_set4 HO1.out (Nat.lt_succ_self _)).less (by omega), (ownE_set4 HO2.out (Nat.lt_succ_self _)).less (by omega), HB.out.trans ((touch4 W5 (w.heap.size + 1) _ _ _ _).below (Nat.le_succ _) HB.out.size)⟩

set_option maxRecDepth 100000 in
set_option maxHeartbeats 4000000 in
theorem said_low (A : Option Addr) (cap : Nat) (xs : List Lx) (v q : Nat) (hv : v < 256) (hn : xs.length ≤ 100000) (hsm : ∀ x ∈ xs, may x.e = true ∧ v < x.e.v) (w : World) (hX : Row w A xs) (hq : w.cell? ⟨q, 0, none⟩ = some (.int .u8 (v : Int))) (E : Env w) :
    Calls Tryd.prog 45 #[.slice A xs.length cap, .func (.func 46) #[] #[.pointer (some ⟨q, 0, none⟩)]] w (SaidV (lowX v) (xs.map (·.e)) w) := by
  have HE := Lib.hid E
  have HX := Lib.hid hX
  have HN := Lib.hid hn
  have HSM := Lib.hid hsm
  clear E hX hsm
  have HV := Lib.hid hv
  have HQ := Lib.hid hq
  clear hv hq
  skip
  go_enter Tryd.func45, Tryd.ntmps45
  go_wp2_with fail
  have HI : Hid (SaidI w (lowX v) (xs.map (·.e)) 0 (.slice none 0 0) [] w) := ⟨Below.refl _ _, OwnR.nil _ _, rfl, rfl, (fun y hy => by cases hy), Apart.nil⟩
  go_loopw [6, 13] (fun vx t wr => ∃ (i : Nat) (ys : List Lx), t = .int .i64 i ∧ i ≤ xs.length ∧ Hid (SaidI w (lowX v) (xs.map (·.e)) i vx ys wr)) (fun _ t _ => xs.length - (intOf t).toNat)
  case atStart => exact ⟨0, [], rfl, Nat.zero_le _, HI⟩
  case round =>
    obtain ⟨i, ys, rfl, hi, HIi⟩ := hrel
    clear HI
    by_cases hlt : i < xs.length
    · have z0 : (0 : Int) ≤ (i : Int) := by omega
      have z1 : (i : Int) < (xs.length : Int) := by omega
      obtain ⟨b, o, rfl, hbl, c0, c1, c2, c3, hat⟩ := (HX.out.below HIi.out.bel).at i hlt
      have HAT := Lib.hid hat
      have HMX := Lib.hid (HSM.out _ (List.getElem_mem hlt))
      have HOK := Lib.hid (fun d h => saidN_ok (f := lowX v) xs i hlt ys HIi.out.eq (d := d) h)
      have HBAD := Lib.hid (fun n h => saidN_err (f := lowX v) xs i hlt ys HIi.out.eq (n := n) h)
      clear hat hbl
      generalize xs[i] = x at HAT HMX HOK HBAD c0 c1 c2 c3
      have hb1 := (Below.refl wr.heap.size wr).alloc (Nat.le_refl _) (.cells #[.int .u8 x.e.v, .int .u8 x.e.k, .slice x.A x.e.ns.length x.ca, .slice x.C x.e.ts.length x.cc] 27)
      have HB1 := Lib.hid hb1
      clear hb1
      go_wp2_with fail
      clear c0 c1 c2 c3 z1 z0
      replace HAT := Lib.hid (HAT.out.below HB1.out)
      have HTX := Lib.hid HAT.out.txt
      generalize wr.alloc (.cells #[.int .u8 x.e.v, .int .u8 x.e.k, .slice x.A x.e.ns.length x.ca, .slice x.C x.e.ts.length x.cc] 27) = W1 at HB1 HAT ⊢
      refine (low_any x.A x.ca x.C x.cc x.e v q HV.out W1 HMX.out.1 HMX.out.2 HAT.out (cell_kept HQ.out (below_step HIi.out.bel HB1.out)) (HE.out.below (below_step HIi.out.bel HB1.out))).mono ?_
      rintro z W2 hz
      cases hq : (lowX v) x.e with
      | error n =>
        have hq' := hq
        have hn4 := low_err hq'
        subst hn4
        rw [show _ = _ from hq] at hz
        obtain ⟨rfl, hb⟩ := hz
        have HB := Lib.hid ((below_step HIi.out.bel (below_step HB1.out hb)).trans ((Below.refl W2.heap.size W2).alloc (Nat.le_refl _) (.cells #[.int .u8 0, .int .u8 0, .slice none 0 0, .slice none 0 0] 27) |>.mono (below_step HIi.out.bel (below_step HB1.out hb)).size))
        have HDN := Lib.hid (HBAD.out _ hq)
        clear hb hq hq'
        go_wp2_with fail
        go_ret2
        unfold SaidV
        rw [HDN.out]
        exact ⟨rfl, HB.out⟩
      | ok d =>
        have HDN := Lib.hid (HOK.out d hq)
        have HMD := Lib.hid (low_may HMX.out.1 hq)
        have HTD := Lib.hid (show ∀ t ∈ d.ts, t.size ≤ maxLen by rw [low_ts HMX.out.1 hq]; exact HTX.out)
        rw [show _ = _ from hq] at hz
        obtain ⟨A3, c3, C3, d3, rfl, ho1, ho2, hb⟩ := hz
        have hws := (below_step HIi.out.bel HB1.out).size
        have HAP := Lib.hid (HIi.out.ap.snoc (y := ⟨A3, c3, C3, d3, d⟩) HIi.out.at_ HB1.out.size ho1 ho2)
        clear hq
        have HO1 := Lib.hid (ho1.less (show w.heap.size ≤ _ from hws))
        have HO2 := Lib.hid (ho2.less (show w.heap.size ≤ _ from hws))
        have HI2 := Lib.hid (HIi.out.below HB1.out |>.below hb)
        clear ho1 ho2 hb hws
        unfold evV
        have hb2 := (Below.refl W2.heap.size W2).alloc (Nat.le_refl _) (.cells #[.int .u8 d.v, .int .u8 d.k, .slice A3 d.ns.length c3, .slice C3 d.ts.length d3] 27)
        replace HO1 := Lib.hid (HO1.out.below hb2)
        replace HO2 := Lib.hid (HO2.out.below hb2)
        replace HI2 := Lib.hid (HI2.out.below hb2)
        clear hb2
        go_upto_region 8 with (fail)
        generalize hW3 : W2.alloc (.cells #[.int .u8 d.v, .int .u8 d.k, .slice A3 d.ns.length c3, .slice C3 d.ts.length d3] 27) = W3 at HO1 HO2 HI2 ⊢
        have HL : Hid (Four W3 W2.heap.size (.int .u8 d.v) (.int .u8 d.k) (.slice A3 d.ns.length c3) (.slice C3 d.ts.length d3)) := by rw [← hW3]; exact box4 W2 (.int .u8 d.v) (.int .u8 d.k) (.slice A3 d.ns.length c3) (.slice C3 d.ts.length d3) 27
        clear hW3
        generalize W2.heap.size = q at HL ⊢
        have hb3 := (Below.refl W3.heap.size W3).alloc (Nat.le_refl _) (.cells #[.int .u8 d.v, .int .u8 d.k, .slice A3 d.ns.length c3, .slice C3 d.ts.length d3] 27)
        replace HO1 := Lib.hid (HO1.out.below hb3)
        replace HO2 := Lib.hid (HO2.out.below hb3)
        replace HI2 := Lib.hid (HI2.out.below hb3)
        clear hb3
        have HNEW := Lib.hid (lx_new W3 ⟨A3, c3, C3, d3, d⟩)
        obtain ⟨l0, l1, l2, l3⟩ := HL.out
        have hyl : ys.length ≤ 1000000 := by have := HI2.out.len; have := HN.out; omega
        have HYL := Lib.hid hyl
        clear hyl
        go_wp2_with (at_builtin; refine wpList_append_ev rfl (.tmp 26) (.tmp 28) rfl w.heap.size _ ys rfl HI2.out.own ⟨W3.heap.size, 0, none⟩ 1 ⟨A3, c3, C3, d3, d⟩ rfl HNEW.out ?c1 ?c2 ?_)
        case c1 => exact HYL.out
        case c2 => first | exact HI2.out.bel.size | exact Nat.le_trans HI2.out.bel.size (by simp)
        intro v' W5 hO hg
        have HI5 : Hid (SaidI w (lowX v) (xs.map (·.e)) (i + 1) v' (ys ++ [⟨A3, c3, C3, d3, d⟩]) W5) := said_snoc HI2.out hO hg HDN.out HMD.out HTD.out HO1.out HO2.out HAP.out
        clear hO hg HI2 HO1 HO2 HNEW l0 l1 l2 l3 HL
        go_wp2_with fail
        go_roundw
        case rel => exact ⟨i + 1, _, by go_num, by omega, HI5⟩
        case measure => simp [intOf] <;> omega
    · have z1 : ¬ (i : Int) < (xs.length : Int) := by omega
      have z2 : decide ((i : Int) < (xs.length : Int)) = false := decide_eq_false z1
      have hii : i = xs.length := by omega
      rw [hii] at HIi
      clear hii hlt
      go_wp2_with fail
      go_ret2
      unfold SaidV
      rw [show saidX (lowX v) (xs.map (·.e)) = .ok (ys.map (·.e)) from (by unfold saidX; rw [List.length_map]; exact HIi.out.eq)]
      exact ⟨ys, _, rfl, rfl, HIi.out.own, HIi.out.at_, HIi.out.ap, HIi.out.bel⟩

end Go.Proofs.YtiibeemjkdipnaaDoor.Upcast
