import Derived.Test.YtiibeemjkdipnaaDoorHN
/-
  The walk of the statement BatchLifted.
-/
namespace Go.Proofs.YtiibeemjkdipnaaDoor.Batch
open Go Go.RowKit
open Go.Proofs.YtiibeemjkdipnaaDoor.Schema
open Go.Proofs.YtiibeemjkdipnaaDoor.Upcast (ev0 lwX lw_out LwO lw_made to_new newE toX isV To_ev getD_map)

theorem S_le {l : List Ev} (h : mayL l = true) : (Wire.S (payB l)).size ≤ 4096 := by rw [Codec.S_size]; exact (payB_le h).2
theorem bne_self (s : ByteArray) : (s.toList != s.toList) = false := by simp
theorem say_err {l : List Ev} {v n : Nat} (hm : mayL l = true) (h : lwX l v = .error n) : n = 43 ∧ ¬ (1 ≤ v ∧ v ≤ 3) := by
  have ho := mayL_out hm
  have hg : ∀ i, i < l.length → may (l.getD i ev0) = true := fun i hi => by
    rw [List.getD_eq_getElem?_getD, List.getElem?_eq_getElem hi, Option.getD_some]
    exact (ho.2.2.1 _ (List.getElem_mem hi)).1
  have hv : ¬ (1 ≤ v ∧ v ≤ 3) := fun hv => by
    obtain ⟨w, out, hl⟩ := lw_made (es := l) (v := v) hg hv.1 hv.2
    rw [hl] at h; cases h
  refine ⟨?_, hv⟩
  have hs : Upcast.saidX Upcast.nwX l = .ok (l.map newE) := Upcast.saidX_is (by simp) (fun i hi => by
    rw [Upcast.newest_is (hg i hi), List.getD_eq_getElem?_getD, List.getD_eq_getElem?_getD, List.getElem?_map, List.getElem?_eq_getElem hi]; rfl)
  unfold lwX at h
  rw [hs] at h
  simp only at h
  rw [if_neg (by unfold isV; rw [decide_eq_true_iff]; exact hv)] at h
  injection h with h
  exact h.symm
/-- what can be said in a lesser version is not all of it -/
theorem low_not {xs : List Lx} {v p u : Nat} {out : List Ev} (h : lwX (xs.map (·.e)) v = .ok (p, out)) (h1 : v ≤ u) (h2 : u < p) (ha : ∀ (i : Nat) (hi : i < xs.length), ∃ d, toX xs[i].e u = .ok d) : False := by
  obtain ⟨i, x, hi, he⟩ := (lw_out h).low u h1 h2
  rw [List.length_map] at hi
  rw [getD_map xs i hi] at he
  obtain ⟨d, hd⟩ := ha i hi
  rw [hd] at he
  cases he
theorem map_get {xs ys : List Lx} {f : Ev → Ev} (h : ys.map (·.e) = (xs.map (·.e)).map f) (i : Nat) (h1 : i < xs.length) (h2 : i < ys.length) : ys[i].e = f xs[i].e := by
  have h3 : (ys.map (·.e))[i]'(by rw [List.length_map]; exact h2) = ((xs.map (·.e)).map f)[i]'(by rw [List.length_map, List.length_map]; exact h1) := by simp only [h]
  simpa using h3
theorem map_len {xs ys : List Lx} {f : Ev → Ev} (h : ys.map (·.e) = (xs.map (·.e)).map f) : ys.length = xs.length := by
  have := congrArg List.length h
  simpa using this
/-- each of what was said, lifted, is what each was, lifted -/
theorem said_new {xs zs : List Lx} {v p : Nat} (h : lwX (xs.map (·.e)) v = .ok (p, zs.map (·.e))) : zs.length = xs.length ∧ (∀ (i : Nat) (h1 : i < xs.length) (h2 : i < zs.length), newE zs[i].e = newE xs[i].e ∧ zs[i].e.v = p ∧ may zs[i].e = true) := by
  have ho := lw_out h
  have hl := ho.len
  rw [List.length_map, List.length_map] at hl
  refine ⟨hl, fun i h1 h2 => ?_⟩
  have h3 := ho.each i (by rw [List.length_map]; exact h1)
  rw [getD_map xs i h1, getD_map zs i h2] at h3
  obtain ⟨q1, q2, q3⟩ := to_new h3
  exact ⟨q2, q3, q1⟩
/-- what stands while lesser versions are tried -/
structure LiI (w : World) (A : Option Addr) (xs : List Lx) (B : Option Addr) (zs : List Lx) (wr : World) : Prop where
  env : Env wr
  bel : Below w.heap.size w wr
  x : Row wr A xs
  z : Row wr B zs
theorem LiI.below {w : World} {A B : Option Addr} {xs zs : List Lx} {wr w' : World} (h : LiI w A xs B zs wr) (hb : Below wr.heap.size wr w') : LiI w A xs B zs w' := ⟨h.env.below hb, below_step h.bel hb, h.x.below hb, h.z.below hb⟩

set_option maxRecDepth 100000 in
set_option maxHeartbeats 4000000 in
theorem lifts_any (A : Option Addr) (ca : Nat) (xs : List Lx) (v : Int) (w : World) (hx : Row w A xs) (lx : xs.length ≤ ca) (mx : ca ≤ maxLen) (nx : A = none → ca = 0) (rx : xs.length ≤ 2513169434917 ∧ ∀ z ∈ xs, Light z) (wv : (Lit.int .u8 v).wf = true) (E : Env w) :
    Calls Tryd.prog 5 #[.slice A xs.length ca, .int .u8 v] w fun z w' => z = .returned (.bool true) ∧ Below w.heap.size w w' := by
  have hvb := bounds_u8 wv
  obtain ⟨v, rfl⟩ := Int.eq_ofNat_of_zero_le hvb.1
  have HVB := Lib.hid (show v < 256 by omega)
  clear hvb wv
  have HE := Lib.hid E
  have HX := Lib.hid hx
  have HR := Lib.hid rx
  clear E hx lx mx nx rx
  go_enter Tryd.func5, Tryd.ntmps5
  have HW := Lib.hid (works_any w HE.out)
  go_wp2_with (go_at_call 7; refine HW.out.mono ?_)
  rintro z W1 ⟨rfl, hb⟩
  replace HE := Lib.hid (HE.out.below hb)
  replace HX := Lib.hid (HX.out.below hb)
  have HB := Lib.hid hb
  clear hb HW
  have HW := Lib.hid (heavy_any A ca xs HR.out.1 HR.out.2 W1 HX.out)
  go_wp2_with (go_at_call 18; refine HW.out.mono ?_)
  rintro z W2 ⟨b1, rfl, hl1, hb⟩
  replace HE := Lib.hid (HE.out.below hb)
  replace HX := Lib.hid (HX.out.below hb)
  replace HB := Lib.hid (below_step HB.out hb)
  clear hb HW
  cases b1 with
  | true =>
    clear hl1
    have HW := Lib.hid (works_any W2 HE.out)
    go_wp2_with (go_at_call 7; refine HW.out.mono ?_)
    rintro z W3 ⟨rfl, hb⟩
    replace HB := Lib.hid (below_step HB.out hb)
    clear hb HW
    go_wp2_with fail
    go_ret
    exact ⟨rfl, HB.out⟩
  | false =>
  have HL := Lib.hid (hl1 rfl)
  clear hl1
  have HBIG := Lib.hid (fun x hx => (HR.out.2 x hx).1 : ∀ x ∈ xs, x.e.ns.length ≤ 140737488355328)
  have HW := Lib.hid (Encode_any A ca xs (by have := HL.out; omega) HBIG.out W2 HX.out HE.out)
  go_wp2_with (go_at_call 9; refine HW.out.mono ?_)
  rintro z W3 ⟨rfl, hb⟩
  replace HE := Lib.hid (HE.out.below hb)
  replace HX := Lib.hid (HX.out.below hb)
  replace HB := Lib.hid (below_step HB.out hb)
  clear hb HW
  by_cases h1 : refN (xs.map (·.e)) = 0
  case neg =>
    obtain ⟨q1, q2, q3, q4, q5⟩ := nat_ne h1
    clear h1
    go_wp2_with fail
    go_ret
    exact ⟨rfl, HB.out⟩
  have hm := refN_zero.1 h1
  rw [h1, encT_yes h1]
  have HM := Lib.hid hm
  have hm3 := map_newE hm
  have hn1 := new_pay hm
  have hn2 := new_pay hm3.1
  rw [hm3.2] at hn2
  have hd3 := dec_pay hm3.1
  have HSZ := Lib.hid (And.intro (S_le hm) (S_le hm3.1))
  have ho := mayL_out hm
  rw [List.length_map] at ho
  have HO := Lib.hid ho.1
  have HFEW := Lib.hid ho.2.1
  have HMX := Lib.hid (fun x (hx : x ∈ xs) => (ho.2.2.1 x.e (List.mem_map_of_mem hx)).1)
  clear h1 hm hm3 ho
  generalize Wire.S (payB (xs.map (·.e))) = s at hn1 HSZ ⊢
  generalize Wire.S (payB ((xs.map (·.e)).map newE)) = t at hn1 hn2 hd3 HSZ ⊢
  have hc := Newest_any s (by have := HSZ.out.1; omega) W3 HE.out
  rw [hn1.1, hn1.2] at hc
  have HC := Lib.hid hc
  clear hc hn1
  go_wp2_with fail
  refine HC.out.mono ?_
  rintro z W4 ⟨rfl, hb⟩
  replace HE := Lib.hid (HE.out.below hb)
  replace HX := Lib.hid (HX.out.below hb)
  replace HB := Lib.hid (below_step HB.out hb)
  clear hb HC
  have hc := Newest_any t (by have := HSZ.out.2; omega) W4 HE.out
  rw [hn2.1, hn2.2] at hc
  have HC := Lib.hid hc
  clear hc hn2
  go_wp2_with fail
  refine HC.out.mono ?_
  rintro z W5 ⟨rfl, hb⟩
  replace HE := Lib.hid (HE.out.below hb)
  replace HX := Lib.hid (HX.out.below hb)
  replace HB := Lib.hid (below_step HB.out hb)
  clear hb HC
  have HC := Lib.hid (Decode_any t (by have := HSZ.out.2; omega) W5 HE.out)
  have HD1 := Lib.hid hd3.1
  have HD2 := Lib.hid hd3.2
  clear hd3
  go_wp2_with fail
  refine HC.out.mono ?_
  rintro z W6 ⟨ys, C, cc, rfl, hy, ho, hl, -, hb⟩
  replace HE := Lib.hid (HE.out.below hb)
  replace HX := Lib.hid (HX.out.below hb)
  replace HB := Lib.hid (below_step HB.out hb)
  have HY := Lib.hid (row_of ho hl)
  have HYX := Lib.hid (hy.trans HD2.out)
  rw [HD1.out]
  have hbs := bne_self t
  clear hb HC ho hl hy HD2
  have HC := Lib.hid (lifted_yes A ca xs C cc ys (by have := HFEW.out; omega) (map_len HYX.out).symm HMX.out (fun i h1 h2 => map_get HYX.out i h1 h2) W6 HX.out HY.out HE.out)
  go_wp2_with fail
  refine HC.out.mono ?_
  rintro z W7 ⟨rfl, hb⟩
  replace HE := Lib.hid (HE.out.below hb)
  replace HX := Lib.hid (HX.out.below hb)
  replace HY := Lib.hid (HY.out.below hb)
  replace HB := Lib.hid (below_step HB.out hb)
  clear hb HC hbs
  have HC := Lib.hid (Say_any A ca xs v HVB.out (by have := HFEW.out; omega) HBIG.out W7 HX.out HE.out)
  have hT : sayT (xs.map (·.e)) v = (match lwX (xs.map (·.e)) v with | .ok p => Wire.S (payB p.2) | .error _ => ⟨#[]⟩) := if_pos (refN_zero.2 HM.out)
  have hN : sayN (xs.map (·.e)) v = (match lwX (xs.map (·.e)) v with | .ok _ => 0 | .error n => n) := if_pos (refN_zero.2 HM.out)
  have HT := Lib.hid hT
  have HN := Lib.hid hN
  clear hT hN
  go_wp2_with fail
  refine HC.out.mono ?_
  rintro z W8 ⟨rfl, hb⟩
  replace HE := Lib.hid (HE.out.below hb)
  replace HX := Lib.hid (HX.out.below hb)
  replace HY := Lib.hid (HY.out.below hb)
  replace HB := Lib.hid (below_step HB.out hb)
  clear hb HC
  cases hlw : lwX (xs.map (·.e)) v with
  | error n =>
    obtain ⟨rfl, hv⟩ := say_err HM.out hlw
    rw [hlw] at HT HN
    have hn : sayN (xs.map (·.e)) v = 43 := HN.out
    rw [hn]
    clear hlw hn
    by_cases h0 : v = 0
    · subst h0
      go_wp2_with fail
      go_ret
      exact ⟨rfl, HB.out⟩
    · have z1 : decide ((v : Int) < 1) = false := decide_eq_false (by omega)
      have z2 : ¬ (v : Int) < 1 := by omega
      have z3 : decide ((v : Int) > 3) = true := decide_eq_true (by omega)
      have z4 : (3 : Int) < (v : Int) := by omega
      have z5 : decide (3 < v) = true := decide_eq_true (by omega)
      have z6 : decide (v < 1) = false := decide_eq_false (by omega)
      clear h0 hv
      go_wp2_with fail
      go_ret
      exact ⟨rfl, HB.out⟩
  | ok po =>
    obtain ⟨p, out⟩ := po
    have hmo := low_mayL HM.out hlw
    have hdo := dec_pay hmo.1
    have hw := lw_out hlw
    rw [hlw] at HT HN
    have ht : sayT (xs.map (·.e)) v = Wire.S (payB out) := HT.out
    have hn : sayN (xs.map (·.e)) v = 0 := HN.out
    rw [ht, hn]
    have HLW := Lib.hid hlw
    have HP := Lib.hid (And.intro hw.v1 (And.intro hw.vw hw.w3))
    have HPS := Lib.hid (S_le hmo.1)
    clear hlw hmo hw HT HN ht hn
    generalize Wire.S (payB out) = q at hdo HPS ⊢
    have HD1 := Lib.hid hdo.1
    have HD2 := Lib.hid hdo.2
    clear hdo
    have HC := Lib.hid (Decode_any q (by have := HPS.out; omega) W8 HE.out)
    go_wp2_with fail
    refine HC.out.mono ?_
    rintro z W9 ⟨zs, D, cd, rfl, hz, ho, hl, -, hb⟩
    replace HE := Lib.hid (HE.out.below hb)
    replace HX := Lib.hid (HX.out.below hb)
    replace HY := Lib.hid (HY.out.below hb)
    replace HB := Lib.hid (below_step HB.out hb)
    have HZ := Lib.hid (row_of ho hl)
    have hzo : zs.map (·.e) = out := hz.trans HD2.out
    rw [← hzo] at HLW
    have hsn := said_new HLW.out
    have HSN := Lib.hid hsn
    rw [HD1.out]
    clear hb HC ho hl hz HD2 hzo hsn
    have hz0 : 0 < zs.length := by rw [HSN.out.1]; exact HO.out
    have hzv : zs[0].e.v = p := (HSN.out.2 0 HO.out hz0).2.1
    obtain ⟨b, o, rfl, hbl, c0, c1, c2, c3, -⟩ := HZ.out.at 0 hz0
    rw [Nat.zero_mul, Nat.add_zero, hzv] at c0
    have HZ0 := Lib.hid hz0
    have HZV := Lib.hid hzv
    have z0 : (0 : Int) < (zs.length : Int) := by omega
    obtain ⟨q1, q2, q3, q4, q5⟩ := nat_ne (show ¬ zs.length = 0 by omega)
    have z1 : decide ((p : Int) < (v : Int)) = false := decide_eq_false (by have := HP.out.2.1; omega)
    have z2 : ¬ (p : Int) < (v : Int) := by have := HP.out.2.1; omega
    have z3 : decide (p < v) = false := decide_eq_false (by have := HP.out.2.1; omega)
    clear c1 c2 c3 hbl hzv
    have hyx := HYX.out
    have HC := Lib.hid (lifted_yes (some ⟨b, o, none⟩) cd zs C cc ys (by have := HFEW.out; have := HSN.out.1; omega) (HSN.out.1.trans (map_len HYX.out).symm) (fun x hx => by
      obtain ⟨j, hj, rfl⟩ := List.getElem_of_mem hx
      exact (HSN.out.2 j (by rw [← HSN.out.1]; exact hj) hj).2.2) (fun i h1 h2 => (map_get hyx i (by rw [← HSN.out.1]; exact h1) h2).trans (HSN.out.2 i (by rw [← HSN.out.1]; exact h1) h1).1.symm) W9 HZ.out HY.out HE.out)
    clear hyx
    go_wp2_with fail
    refine HC.out.mono ?_
    rintro z W10 ⟨rfl, hb⟩
    have HI : Hid (LiI w A xs (some ⟨b, o, none⟩) zs W10) := Lib.hid ⟨HE.out.below hb, below_step HB.out hb, HX.out.below hb, HZ.out.below hb⟩
    clear hb HC HE HX HY HB HZ c0 q1 q2 q3 q4 q5 z0 z1 z2 z3
    go_wp2_with fail
    go_loopw [16] (fun t wr => ∃ u : Nat, t = .int .u8 u ∧ v ≤ u ∧ u ≤ p ∧ Hid (LiI w A xs (some ⟨b, o, none⟩) zs wr)) (fun t _ => p - (intOf t).toNat)
    case atStart => exact ⟨v, rfl, Nat.le_refl _, HP.out.2.1, HI⟩
    case round =>
      clear HI
      obtain ⟨u, rfl, hvu, hup, HI⟩ := hrel
      obtain ⟨b', o', he, hbl, c0, c1, c2, c3, -⟩ := HI.out.z.at 0 HZ0.out
      injection he with he; injection he with e1 e2; subst e1; subst e2
      rw [Nat.zero_mul, Nat.add_zero, HZV.out] at c0
      have z0 : (0 : Int) < (zs.length : Int) := by have := HZ0.out; omega
      clear c1 c2 c3 hbl
      by_cases hlt : u < p
      case neg =>
        have z1 : ¬ (u : Int) < (p : Int) := by omega
        have z2 : decide ((u : Int) < (p : Int)) = false := decide_eq_false (by omega)
        have z3 : decide (u < p) = false := decide_eq_false (by omega)
        go_wp2_with fail
        go_ret
        exact ⟨rfl, HI.out.bel⟩
      have z1 : (u : Int) < (p : Int) := by omega
      have HLT := Lib.hid (And.intro hvu hlt)
      clear hvu hup
      go_wp2_with fail
      clear c0 z0 z1 hlt
      have HI2 : Hid (LiI w A xs (some ⟨b, o, none⟩) zs wr) := HI
      have hcan : Hid (true = true → ∀ (j : Nat) (hj : j < xs.length), j < 0 → ∃ d, toX xs[j].e u = .ok d) := fun _ j _ h => absurd h (Nat.not_lt_zero _)
      go_loopw [17, 18] (fun cn t wx => ∃ (c : Bool) (i : Nat), cn = .bool c ∧ t = .int .i64 i ∧ i ≤ xs.length ∧ Hid (c = true → ∀ (j : Nat) (hj : j < xs.length), j < i → ∃ d, toX xs[j].e u = .ok d) ∧ Hid (LiI w A xs (some ⟨b, o, none⟩) zs wx)) (fun _ t _ => xs.length - (intOf t).toNat)
      case atStart => exact ⟨true, 0, rfl, rfl, Nat.zero_le _, hcan, HI2⟩
      case round =>
        clear HI2 hcan HI
        obtain ⟨c, i, rfl, rfl, hi, HCN, HI⟩ := hrel
        by_cases hlt : i < xs.length
        · have z0 : (0 : Int) ≤ (i : Int) := by omega
          have z1 : (i : Int) < (xs.length : Int) := by omega
          have HNX := Lib.hid (fun (h : ∃ d, toX xs[i].e u = .ok d) (hc : c = true) (j : Nat) (hj : j < xs.length) (hji : j < i + 1) => (show ∃ d, toX xs[j].e u = .ok d from by
            rcases Nat.lt_or_ge j i with h3 | h3
            · exact HCN.out hc j hj h3
            · obtain rfl : j = i := by omega
              exact h))
          have HMI := Lib.hid (HMX.out _ (List.getElem_mem hlt))
          obtain ⟨b2, o2, rfl, hbl, c0, c1, c2, c3, hat⟩ := HI.out.x.at i hlt
          have HAT := Lib.hid hat
          generalize xs[i] = x at HAT HNX HMI c0 c1 c2 c3
          have HC := Lib.hid (To_ev (A := x.A) (ca := x.ca) (C := x.C) (cc := x.cc) (e := x.e) (v := u) (by have := (Codec.may_lens HMI.out).1; omega) (by have := HLT.out; have := HP.out; omega) HAT.out HI.out.env)
          unfold evV at HC
          have zk : IntKind.i64.wrap ((i : Int) + 1) = (i : Int) + 1 := by (rw [IntKind.wrap_i64]; have := HFEW.out; omega)
          have HZK := Lib.hid zk
          clear hbl hat zk
          go_wp2_with fail
          clear c0 c1 c2 c3
          refine HC.out.mono ?_
          rintro z V1 ⟨y, n, A1, c1, C1, d1, rfl, -, -, hgot, hb⟩
          have hb2 := (Below.refl V1.heap.size V1).alloc (Nat.le_refl _) (.cells #[.int .u8 y.v, .int .u8 y.k, .slice A1 y.ns.length c1, .slice C1 y.ts.length d1] 27)
          replace HI := Lib.hid ((HI.out.below hb).below hb2)
          have HGOT := Lib.hid hgot
          clear hb hb2 hgot HC
          unfold evV
          go_upto_region 25 with (fail)
          generalize V1.alloc (.cells #[.int .u8 y.v, .int .u8 y.k, .slice A1 y.ns.length c1, .slice C1 y.ts.length d1] 27) = V2 at HI ⊢
          generalize V1.heap.size = bx
          have zk := HZK.out
          by_cases hn : n = 0
          · subst hn
            have HK := Lib.hid (HNX.out ⟨y, HGOT.out.ok rfl⟩)
            cases c with
            | true =>
              go_wp2_with fail
              go_roundw
              case rel => exact ⟨true, i + 1, rfl, by go_num, by omega, HK, HI⟩
              case measure => simp [intOf] <;> omega
            | false =>
              go_wp2_with fail
              go_roundw
              case rel => exact ⟨false, i + 1, rfl, by go_num, by omega, Lib.hid (fun h => by cases h), HI⟩
              case measure => simp [intOf] <;> omega
          · obtain ⟨q1, q2, q3, q4, q5⟩ := nat_ne hn
            cases c with
            | true =>
              go_wp2_with fail
              go_roundw
              case rel => exact ⟨false, i + 1, rfl, by go_num, by omega, Lib.hid (fun h => by cases h), HI⟩
              case measure => simp [intOf] <;> omega
            | false =>
              go_wp2_with fail
              go_roundw
              case rel => exact ⟨false, i + 1, rfl, by go_num, by omega, Lib.hid (fun h => by cases h), HI⟩
              case measure => simp [intOf] <;> omega
        · have z1 : ¬ (i : Int) < (xs.length : Int) := by omega
          cases c with
          | true => exact (low_not HLW.out HLT.out.1 HLT.out.2 (fun j hj => HCN.out rfl j hj (by omega))).elim
          | false =>
            have zu : IntKind.u8.wrap ((u : Int) + 1) = (u : Int) + 1 := by (rw [IntKind.wrap_u8]; have := HLT.out; have := HP.out; omega)
            clear hlt
            go_wp2_with fail
            go_roundw
            case rel => exact ⟨u + 1, by go_num, by have := HLT.out; omega, by have := HLT.out; omega, HI⟩
            case measure => simp [intOf] <;> (have := HLT.out; omega)
end Go.Proofs.YtiibeemjkdipnaaDoor.Batch
