import Derived.Test.YtbjpkffhpdcapaaDoorVD
/-
  The document's Lowest.
-/
namespace Go.Proofs.YtbjpkffhpdcapaaDoor.Upcast
open Go Go.RowKit
open Go.Proofs.YtbjpkffhpdcapaaDoor.Schema

theorem lw_bad {es : List Ev} {v i : Nat} (hall : ∀ j, j < i → may (es.getD j ev0) = true) (hi : i < es.length) (h : may (es.getD i ev0) = false) : lwX es v = .error 4 := by
  obtain ⟨l, hl⟩ := saidN_of (f := nwX) (es := es) (n := i) (fun j hj => ⟨_, newest_is (hall j hj)⟩)
  have h1 : saidN nwX es (i + 1) = .error 4 := by
    simp only [saidN, hl, newest_no h]
  refine lw_new (n := 4) ?_
  have := saidN_bad h1 (es.length - (i + 1))
  rwa [show i + 1 + (es.length - (i + 1)) = es.length from by omega] at this
theorem lw_off {es : List Ev} {v : Nat} (hall : ∀ j, j < es.length → may (es.getD j ev0) = true) (hv : isV v = false) : lwX es v = .error 43 := by
  obtain ⟨l, hl⟩ := saidN_of (f := nwX) (es := es) (n := es.length) (fun j hj => ⟨_, newest_is (hall j hj)⟩)
  exact lw_ver (top := l) hl hv
theorem lw_hit {es out l : List Ev} {v q u : Nat} (h : lwX es v = .ok (q, out)) (h1 : v ≤ u) (h2 : u ≤ q) (hs : saidX (fun e => toX e u) es = .ok l) : lwX es v = .ok (u, l) := by
  have ho := lw_out h
  obtain ⟨a1, a2⟩ := saidX_at hs
  by_cases hu : u < q
  · obtain ⟨i, x, hi, hx⟩ := ho.low u h1 hu
    have h3 : toX (es.getD i ev0) u = .ok (l.getD i ev0) := a2 i hi
    rw [hx] at h3; cases h3
  have hq : u = q := by omega
  subst hq
  rw [h, ext_ev (a := out) (b := l) (by rw [ho.len, a1]) (fun i hi => ?_)]
  rw [ho.len] at hi
  have h3 : toX (es.getD i ev0) u = .ok (l.getD i ev0) := a2 i hi
  rw [ho.each i hi] at h3
  injection h3
theorem lw_miss {es out : List Ev} {v q u x : Nat} (h : lwX es v = .ok (q, out)) (h2 : u ≤ q) (hs : saidX (fun e => toX e u) es = .error x) : u < q := by
  have ho := lw_out h
  obtain ⟨i, hi, hx⟩ := saidX_no hs
  by_cases hq : u = q
  · subst hq
    have h3 : toX (es.getD i ev0) u = .error x := hx
    rw [ho.each i hi] at h3; cases h3
  · omega
theorem lwN_of {es : List Ev} {v : Nat} {w : World} {z : Ending} {w' : World} (h : LowV es v w z w') : LwN es v w z w' := by
  unfold LowV at h
  cases hq : lwX es v with
  | ok p =>
    rw [hq] at h
    obtain ⟨ys, x, hys, hz, ho, hl, hb⟩ := h
    obtain ⟨A', c', rfl, hv', hn', hle, -⟩ := ho.vat
    refine ⟨p.1, 0, ys, A', c', hz, ⟨hv', fun y hy => (hl y hy).lx⟩, hn', hle, fun y hy => ?_, Or.inl ⟨rfl, by rw [hys]; exact hq⟩, hb⟩
    have hmo := may_out (hl y hy).may
    exact ⟨by rw [hmo.ln]; have := lets_few y.e.v y.e.k; omega, hmo.tx⟩
  | error n =>
    rw [hq] at h
    have hn := lw_err hq
    exact ⟨0, n, [], none, 0, h.1, Row.nil _ _, fun _ => rfl, Nat.le_refl _, fun y hy => (by cases hy), Or.inr ⟨hn.1, hn.2, hq, rfl, rfl⟩, h.2⟩
/-- the inner loop: what has been said so far, and whether each could be -/
structure RlI (w : World) (f : Ev → Except Nat Ev) (es : List Ev) (i : Nat) (v : Value) (b : Bool) (ys : List Lx) (wr : World) : Prop where
  bel : Below w.heap.size w wr
  own : OwnR wr w.heap.size v ys
  len : ys.length = i
  yes : b = true → saidN f es i = .ok (ys.map (·.e)) ∧ ∀ y ∈ ys, LyAt wr w.heap.size y
  no : b = false → ∃ x, saidN f es i = .error x
theorem RlI.below {w : World} {f : Ev → Except Nat Ev} {es : List Ev} {i : Nat} {v : Value} {b : Bool} {ys : List Lx} {wr w' : World} (h : RlI w f es i v b ys wr) (hb : Below wr.heap.size wr w') : RlI w f es i v b ys w' := ⟨below_step h.bel hb, h.own.below hb, h.len, fun q => ⟨(h.yes q).1, fun y hy => ((h.yes q).2 y hy).below hb⟩, h.no⟩
theorem rl_yes {w : World} {f : Ev → Except Nat Ev} {es : List Ev} {i : Nat} {v v' : Value} {ys : List Lx} {W W' : World} {y : Lx} (h : RlI w f es i v true ys W) (hO : OwnR W' w.heap.size v' (ys ++ [y])) (hg : W.grownBy W' v.ownBlock) (hf : f (es.getD i ev0) = .ok y.e) (hm : may y.e = true) (ht : ∀ t ∈ y.e.ts, t.size ≤ maxLen) (h1 : OwnE W w.heap.size 2 (.slice y.A y.e.ns.length y.ca) (nums y.e.ns)) (h2 : OwnE W w.heap.size 9 (.slice y.C y.e.ts.length y.cc) (texts y.e.ts)) : RlI w f es (i + 1) v' true (ys ++ [y]) W' := by
  refine ⟨h.bel.trans (h.own.below_grown (Nat.le_refl _) h.bel.size hg), hO, by rw [List.length_append, h.len]; rfl, fun _ => ⟨?_, fun z hz => ?_⟩, fun q => (by cases q)⟩
  · simp only [saidN, (h.yes rfl).1, hf, List.map_append, List.map_cons, List.map_nil]
  · rcases List.mem_append.1 hz with hz | hz
    · exact ((h.yes rfl).2 z hz).grown h.own hg
    · rw [List.mem_singleton.1 hz]
      exact LyAt.grown ⟨hm, ht, h1, h2⟩ h.own hg
theorem rl_no {w : World} {f : Ev → Except Nat Ev} {es : List Ev} {i : Nat} {v v' : Value} {b : Bool} {ys : List Lx} {W W' : World} {y : Lx} (h : RlI w f es i v b ys W) (hO : OwnR W' w.heap.size v' (ys ++ [y])) (hg : W.grownBy W' v.ownBlock) (hf : b = false ∨ ∃ x, f (es.getD i ev0) = .error x) : RlI w f es (i + 1) v' false (ys ++ [y]) W' := by
  refine ⟨h.bel.trans (h.own.below_grown (Nat.le_refl _) h.bel.size hg), hO, by rw [List.length_append, h.len]; rfl, fun q => (by cases q), fun _ => ?_⟩
  cases b with
  | false =>
    obtain ⟨x, hx⟩ := h.no rfl
    exact ⟨x, by simp only [saidN, hx]⟩
  | true =>
    rcases hf with hf | ⟨x, hx⟩
    · cases hf
    · exact ⟨x, by simp only [saidN, (h.yes rfl).1, hx]⟩

set_option maxRecDepth 100000 in
set_option maxHeartbeats 4000000 in
theorem rLowest_any (A : Option Addr) (cap : Nat) (xs : List Lx) (v : Nat) (hv : v < 256) (hn : xs.length ≤ 100000) (w : World) (hX : Row w A xs) :
    Calls Tryd.prog 13 #[.slice A xs.length cap, .int .u8 (v : Int)] w (LowV (xs.map (·.e)) v w) := by
  have HX := Lib.hid hX
  have HN := Lib.hid hn
  have HVV := Lib.hid hv
  clear hX hn hv
  obtain ⟨es, hes⟩ : ∃ es, es = xs.map (·.e) := ⟨_, rfl⟩
  rw [← hes]
  have HEL := Lib.hid (show es.length = xs.length by rw [hes, List.length_map])
  have HES := Lib.hid hes
  clear hes
  go_enter Tryd.func13, Tryd.ntmps13
  go_wp2_with fail
  go_loopw [7] (fun t wr => ∃ i : Nat, i ≤ xs.length ∧ t = .int .i64 i ∧ Hid (Below w.heap.size w wr) ∧ Hid (∀ j, j < i → may (es.getD j ev0) = true)) (fun t _ => xs.length - (intOf t).toNat)
  case atStart => exact ⟨0, Nat.zero_le _, rfl, Below.refl _ _, fun j hj => absurd hj (by omega)⟩
  case round =>
    obtain ⟨i, hi, rfl, HB, HMS⟩ := hrel
    by_cases hlt : i < xs.length
    case pos =>
      have z0 : (0 : Int) ≤ (i : Int) := by omega
      have z1 : (i : Int) < (xs.length : Int) := by omega
      obtain ⟨b, o, rfl, hbl, c0, c1, c2, c3, hat⟩ := (HX.out.below HB.out).at i hlt
      have HAT := Lib.hid hat
      have HGD := Lib.hid (getD_map xs i hlt)
      clear hat hbl
      generalize xs[i] = x at HAT HGD c0 c1 c2 c3
      rw [← HES.out] at HGD
      have HLT := Lib.hid hlt
      have zk : IntKind.i64.wrap ((i : Int) + 1) = (i : Int) + 1 := by (rw [IntKind.wrap_i64]; have := HN.out; omega)
      go_wp2_with fail
      clear c0 c1 c2 c3
      refine (rMay_any x.A x.ca x.C x.cc x.e wr HAT.out).mono ?_
      rintro z W2 ⟨rfl, hb⟩
      replace HB := Lib.hid (below_step HB.out hb)
      clear hb
      cases hm : may x.e with
      | false =>
        have HDN := Lib.hid (lw_bad (v := v) HMS.out (by rw [HEL.out]; exact hlt) (by rw [HGD.out]; exact hm))
        clear hm
        go_wp2_with fail
        refine bodyPost_ret (v := .tuple #[.int .u8 0, .slice none 0 0, .int .i64 4]) (by simp [results, Tryd.results13, go_sem]) rfl ?_
        unfold LowV
        rw [HDN.out]
        exact ⟨rfl, HB.out⟩
      | true =>
        have HM2 : Hid (∀ j, j < i + 1 → may (es.getD j ev0) = true) := Lib.hid (fun j hj => by
          by_cases hji : j = i
          · rw [hji, HGD.out]; exact hm
          · exact HMS.out j (by omega))
        clear hm
        go_wp2_with fail
        go_roundw
        case rel => exact ⟨i + 1, by have := HLT.out; omega, by go_num, HB, HM2⟩
        case measure => simp [intOf] <;> omega
    case neg =>
      have z1 : ¬ (i : Int) < (xs.length : Int) := by omega
      have hii : i = es.length := by rw [HEL.out]; omega
      rw [hii] at HMS
      clear hii hlt hi
      go_wp2_with fail
      clear z1
      have HLD : Hid ((∀ q out, lwX es v = .ok (q, out) → v ≤ v ∧ v ≤ q) ∧ (isV v = false → v = v)) := Lib.hid ⟨fun q out h => ⟨Nat.le_refl _, (lw_out h).vw⟩, fun _ => rfl⟩
      go_loopw [1] (fun t wr => ∃ u : Nat, t = .int .u8 u ∧ Hid (Below w.heap.size w wr) ∧ Hid ((∀ q out, lwX es v = .ok (q, out) → v ≤ u ∧ u ≤ q) ∧ (isV v = false → u = v))) (fun t _ => 4 - (intOf t).toNat)
      case atStart => exact ⟨v, rfl, HB, HLD⟩
      case round =>
        clear HB HLD
        obtain ⟨u, rfl, HB, HLD⟩ := hrel
        cases hvv : isV v with
        | false =>
          have huv := HLD.out.2 hvv
          subst huv
          have HDN := Lib.hid (lw_off HMS.out hvv)
          have hv2 : ¬ (1 ≤ u ∧ u ≤ 3) := of_decide_eq_false hvv
          clear hvv HLD
          by_cases hu1 : 1 ≤ u
          case pos =>
            have y1 : (1 : Int) ≤ (u : Int) := by omega
            have y2 : decide ((1 : Int) ≤ (u : Int)) = true := decide_eq_true y1
            have y3 : ¬ (u : Int) ≤ 3 := by omega
            have y4 : decide ((u : Int) ≤ 3) = false := decide_eq_false y3
            have y5 : decide ((u : Int) ≥ 1) = true := decide_eq_true y1
            clear hu1 hv2
            go_wp2_with fail
            refine bodyPost_ret (v := .tuple #[.int .u8 0, .slice none 0 0, .int .i64 43]) (by simp [results, Tryd.results13, go_sem]) rfl ?_
            unfold LowV
            rw [HDN.out]
            exact ⟨rfl, HB.out⟩
          case neg =>
            have y1 : ¬ (1 : Int) ≤ (u : Int) := by omega
            have y2 : decide ((1 : Int) ≤ (u : Int)) = false := decide_eq_false y1
            have y5 : decide ((u : Int) ≥ 1) = false := decide_eq_false y1
            clear hu1 hv2
            go_wp2_with fail
            refine bodyPost_ret (v := .tuple #[.int .u8 0, .slice none 0 0, .int .i64 43]) (by simp [results, Tryd.results13, go_sem]) rfl ?_
            unfold LowV
            rw [HDN.out]
            exact ⟨rfl, HB.out⟩
        | true =>
          have hv13 : 1 ≤ v ∧ v ≤ 3 := of_decide_eq_true hvv
          obtain ⟨q, out, hq⟩ := lw_made HMS.out hv13.1 hv13.2
          have hvu := HLD.out.1 q out hq
          have HQ := Lib.hid hq
          have HVU := Lib.hid hvu
          have hq3 := (lw_out hq).w3
          have HU := Lib.hid (show 1 ≤ u ∧ u ≤ 3 by omega)
          clear hvv hq hvu HLD hq3 hv13
          have hu := HU.out
          have y1 : (1 : Int) ≤ (u : Int) := by omega
          have y2 : decide ((1 : Int) ≤ (u : Int)) = true := decide_eq_true y1
          have y3 : (u : Int) ≤ 3 := by omega
          have y4 : decide ((u : Int) ≤ 3) = true := decide_eq_true y3
          have y5 : decide ((u : Int) ≥ 1) = true := decide_eq_true y1
          clear hu
          go_wp2_with fail
          clear y1 y2 y3 y4 y5
          have HI : Hid (RlI w (fun e => toX e u) es 0 (.slice none 0 0) true [] wr) := Lib.hid ⟨HB.out, OwnR.nil _ _, rfl, fun _ => ⟨rfl, fun y hy => by cases hy⟩, fun h => by cases h⟩
          clear HB
          go_loopw [8, 9, 10] (fun vx bx t wr => ∃ (i : Nat) (b : Bool) (ys : List Lx), i ≤ xs.length ∧ t = .int .i64 i ∧ bx = .bool b ∧ Hid (RlI w (fun e => toX e u) es i vx b ys wr)) (fun _ _ t _ => xs.length - (intOf t).toNat)
          case atStart => exact ⟨0, true, [], Nat.zero_le _, rfl, rfl, HI⟩
          case round =>
            clear HI
            obtain ⟨i, b0, ys, hi, rfl, rfl, HI⟩ := hrel
            by_cases hlt : i < xs.length
            case pos =>
              have z0 : (0 : Int) ≤ (i : Int) := by omega
              have z1 : (i : Int) < (xs.length : Int) := by omega
              obtain ⟨b, o, rfl, hbl, c0, c1, c2, c3, hat⟩ := (HX.out.below HI.out.bel).at i hlt
              have HAT := Lib.hid hat
              have HGD := Lib.hid (getD_map xs i hlt)
              clear hat hbl
              generalize xs[i] = x at HAT HGD c0 c1 c2 c3
              rw [← HES.out] at HGD
              have HLT := Lib.hid hlt
              have zk : IntKind.i64.wrap ((i : Int) + 1) = (i : Int) + 1 := by (rw [IntKind.wrap_i64]; have := HN.out; omega)
              go_wp2_with fail
              clear c0 c1 c2 c3 z0 z1
              refine (rTo_any (by have := HU.out; omega) HAT.out).mono ?_
              rintro z W2 hz
              have HWS := Lib.hid HI.out.bel.size
              cases hq2 : toX x.e u with
              | error n =>
                have hne := to_err hq2
                have HDN := Lib.hid hq2
                rw [hq2] at hz
                obtain ⟨rfl, hb⟩ := hz
                replace HI := Lib.hid (HI.out.below hb)
                have y1 : ((n : Int) == 0) = false := by (rw [beq_eq_false_iff_ne]; omega)
                have y2 : ¬ (n : Int) = 0 := by omega
                have y3 : (n == 0) = false := by (rw [beq_eq_false_iff_ne]; omega)
                have y4 : ¬ n = 0 := by omega
                have y5 : decide (n = 0) = false := decide_eq_false y4
                clear hq2 hb hne
                have hb := (Below.refl W2.heap.size W2).alloc (Nat.le_refl _) (.cells #[.int .u8 0, .int .u8 0, .slice none 0 0, .slice none 0 0] 25)
                have HL := Lib.hid (show Four _ W2.heap.size _ _ _ _ from box4 W2 (.int .u8 0) (.int .u8 0) (.slice none 0 0) (.slice none 0 0) 25)
                replace HI := Lib.hid (HI.out.below hb)
                clear hb
                go_upto_region 13 with (fail)
                generalize hWs : W2.heap.size = b8 at HL ⊢
                clear hWs
                generalize W2.alloc (.cells #[.int .u8 0, .int .u8 0, .slice none 0 0, .slice none 0 0] 25) = W3 at HL HI ⊢
                cases b0 with
                | true =>
                  have hb3 := (Below.refl W3.heap.size W3).alloc (Nat.le_refl _) (.cells #[.int .u8 0, .int .u8 0, .slice none 0 0, .slice none 0 0] 25)
                  replace HI := Lib.hid (HI.out.below hb3)
                  clear hb3
                  have HNEW := Lib.hid (lx_new W3 ⟨none, 0, none, 0, ev0⟩)
                  have HYL := Lib.hid (show ys.length ≤ 1000000 by (have := HI.out.len; have := HN.out; omega))
                  obtain ⟨l0, l1, l2, l3⟩ := HL.out
                  go_wp2_with (at_builtin; refine wpList_append_ev rfl (.tmp 51) (.tmp 53) rfl w.heap.size _ ys rfl HI.out.own ⟨W3.heap.size, 0, none⟩ 1 ⟨none, 0, none, 0, ev0⟩ rfl HNEW.out ?c1 ?c2 ?_)
                  case c1 => exact HYL.out
                  case c2 => first | exact HI.out.bel.size | exact Nat.le_trans HI.out.bel.size (by simp)
                  intro v' W5 hO hg
                  have HI5 : Hid (RlI w (fun e => toX e u) es (i + 1) v' false (ys ++ [⟨none, 0, none, 0, ev0⟩]) W5) := Lib.hid (rl_no HI.out hO hg (Or.inr ⟨_, by rw [HGD.out]; exact HDN.out⟩))
                  clear hO hg HI HNEW l0 l1 l2 l3 HL
                  go_wp2_with fail
                  go_roundw
                  case rel => exact ⟨i + 1, false, _, by have := HLT.out; omega, by go_num, rfl, HI5⟩
                  case measure => simp [intOf] <;> omega
                | false =>
                  have hb3 := (Below.refl W3.heap.size W3).alloc (Nat.le_refl _) (.cells #[.int .u8 0, .int .u8 0, .slice none 0 0, .slice none 0 0] 25)
                  replace HI := Lib.hid (HI.out.below hb3)
                  clear hb3
                  have HNEW := Lib.hid (lx_new W3 ⟨none, 0, none, 0, ev0⟩)
                  have HYL := Lib.hid (show ys.length ≤ 1000000 by (have := HI.out.len; have := HN.out; omega))
                  obtain ⟨l0, l1, l2, l3⟩ := HL.out
                  go_wp2_with (at_builtin; refine wpList_append_ev rfl (.tmp 51) (.tmp 53) rfl w.heap.size _ ys rfl HI.out.own ⟨W3.heap.size, 0, none⟩ 1 ⟨none, 0, none, 0, ev0⟩ rfl HNEW.out ?c1 ?c2 ?_)
                  case c1 => exact HYL.out
                  case c2 => first | exact HI.out.bel.size | exact Nat.le_trans HI.out.bel.size (by simp)
                  intro v' W5 hO hg
                  have HI5 : Hid (RlI w (fun e => toX e u) es (i + 1) v' false (ys ++ [⟨none, 0, none, 0, ev0⟩]) W5) := Lib.hid (rl_no HI.out hO hg (Or.inl rfl))
                  clear hO hg HI HNEW l0 l1 l2 l3 HL
                  go_wp2_with fail
                  go_roundw
                  case rel => exact ⟨i + 1, false, _, by have := HLT.out; omega, by go_num, rfl, HI5⟩
                  case measure => simp [intOf] <;> omega
              | ok d =>
                have hmd := to_may hq2
                have HDN := Lib.hid hq2
                have HMD := Lib.hid hmd.1
                have HTD := Lib.hid (show ∀ t ∈ d.ts, t.size ≤ maxLen by rw [hmd.2]; exact HAT.out.txt)
                rw [hq2] at hz
                obtain ⟨A3, c3, C3, d3, rfl, ho1, ho2, hb⟩ := hz
                have HO1 := Lib.hid (ho1.less HWS.out)
                have HO2 := Lib.hid (ho2.less HWS.out)
                replace HI := Lib.hid (HI.out.below hb)
                clear hq2 hb hmd ho1 ho2
                unfold evV
                have hb := (Below.refl W2.heap.size W2).alloc (Nat.le_refl _) (.cells #[.int .u8 d.v, .int .u8 d.k, .slice A3 d.ns.length c3, .slice C3 d.ts.length d3] 25)
                have HL := Lib.hid (show Four _ W2.heap.size _ _ _ _ from box4 W2 (.int .u8 d.v) (.int .u8 d.k) (.slice A3 d.ns.length c3) (.slice C3 d.ts.length d3) 25)
                replace HI := Lib.hid (HI.out.below hb)
                replace HO1 := Lib.hid (HO1.out.below hb)
                replace HO2 := Lib.hid (HO2.out.below hb)
                clear hb
                go_upto_region 13 with (fail)
                generalize hWs : W2.heap.size = b8 at HL ⊢
                clear hWs
                generalize W2.alloc (.cells #[.int .u8 d.v, .int .u8 d.k, .slice A3 d.ns.length c3, .slice C3 d.ts.length d3] 25) = W3 at HL HI HO1 HO2 ⊢
                cases b0 with
                | true =>
                  have hb3 := (Below.refl W3.heap.size W3).alloc (Nat.le_refl _) (.cells #[.int .u8 d.v, .int .u8 d.k, .slice A3 d.ns.length c3, .slice C3 d.ts.length d3] 25)
                  replace HI := Lib.hid (HI.out.below hb3)
                  replace HO1 := Lib.hid (HO1.out.below hb3)
                  replace HO2 := Lib.hid (HO2.out.below hb3)
                  clear hb3
                  have HNEW := Lib.hid (lx_new W3 ⟨A3, c3, C3, d3, d⟩)
                  have HYL := Lib.hid (show ys.length ≤ 1000000 by (have := HI.out.len; have := HN.out; omega))
                  obtain ⟨l0, l1, l2, l3⟩ := HL.out
                  go_wp2_with (at_builtin; refine wpList_append_ev rfl (.tmp 51) (.tmp 53) rfl w.heap.size _ ys rfl HI.out.own ⟨W3.heap.size, 0, none⟩ 1 ⟨A3, c3, C3, d3, d⟩ rfl HNEW.out ?c1 ?c2 ?_)
                  case c1 => exact HYL.out
                  case c2 => first | exact HI.out.bel.size | exact Nat.le_trans HI.out.bel.size (by simp)
                  intro v' W5 hO hg
                  have HI5 : Hid (RlI w (fun e => toX e u) es (i + 1) v' true (ys ++ [⟨A3, c3, C3, d3, d⟩]) W5) := Lib.hid (rl_yes HI.out hO hg (by rw [HGD.out]; exact HDN.out) HMD.out HTD.out HO1.out HO2.out)
                  clear hO hg HI HNEW l0 l1 l2 l3 HL HO1 HO2
                  go_wp2_with fail
                  go_roundw
                  case rel => exact ⟨i + 1, true, _, by have := HLT.out; omega, by go_num, rfl, HI5⟩
                  case measure => simp [intOf] <;> omega
                | false =>
                  have hb3 := (Below.refl W3.heap.size W3).alloc (Nat.le_refl _) (.cells #[.int .u8 d.v, .int .u8 d.k, .slice A3 d.ns.length c3, .slice C3 d.ts.length d3] 25)
                  replace HI := Lib.hid (HI.out.below hb3)
                  replace HO1 := Lib.hid (HO1.out.below hb3)
                  replace HO2 := Lib.hid (HO2.out.below hb3)
                  clear hb3
                  have HNEW := Lib.hid (lx_new W3 ⟨A3, c3, C3, d3, d⟩)
                  have HYL := Lib.hid (show ys.length ≤ 1000000 by (have := HI.out.len; have := HN.out; omega))
                  obtain ⟨l0, l1, l2, l3⟩ := HL.out
                  go_wp2_with (at_builtin; refine wpList_append_ev rfl (.tmp 51) (.tmp 53) rfl w.heap.size _ ys rfl HI.out.own ⟨W3.heap.size, 0, none⟩ 1 ⟨A3, c3, C3, d3, d⟩ rfl HNEW.out ?c1 ?c2 ?_)
                  case c1 => exact HYL.out
                  case c2 => first | exact HI.out.bel.size | exact Nat.le_trans HI.out.bel.size (by simp)
                  intro v' W5 hO hg
                  have HI5 : Hid (RlI w (fun e => toX e u) es (i + 1) v' false (ys ++ [⟨A3, c3, C3, d3, d⟩]) W5) := Lib.hid (rl_no HI.out hO hg (Or.inl rfl))
                  clear hO hg HI HNEW l0 l1 l2 l3 HL HO1 HO2
                  go_wp2_with fail
                  go_roundw
                  case rel => exact ⟨i + 1, false, _, by have := HLT.out; omega, by go_num, rfl, HI5⟩
                  case measure => simp [intOf] <;> omega
            case neg =>
              have z1 : ¬ (i : Int) < (xs.length : Int) := by omega
              have hii : i = es.length := by rw [HEL.out]; omega
              rw [hii] at HI
              clear hii hlt hi
              cases b0 with
              | true =>
                obtain ⟨hs, hat⟩ := HI.out.yes rfl
                have HDN := Lib.hid (lw_hit HQ.out HVU.out.1 HVU.out.2 (show saidX (fun e => toX e u) es = .ok (ys.map (fun x => x.e)) from hs))
                have HAT := Lib.hid hat
                clear hs hat
                go_wp2_with fail
                go_wp2_with fail
                refine bodyPost_ret (by simp [results, Tryd.results13, go_sem]; rfl) rfl ?_
                unfold LowV
                rw [HDN.out]
                exact ⟨ys, _, rfl, rfl, HI.out.own, HAT.out, HI.out.bel⟩
              | false =>
                obtain ⟨x, hx⟩ := HI.out.no rfl
                have hlq := lw_miss HQ.out HVU.out.2 hx
                have HB := Lib.hid HI.out.bel
                have hu := HU.out
                have huw : IntKind.u8.wrap ((u : Int) + 1) = ((u + 1 : Nat) : Int) := by (rw [IntKind.wrap_u8]; omega)
                have HLD : Hid (∀ q out, lwX es v = .ok (q, out) → v ≤ u + 1 ∧ u + 1 ≤ q) := Lib.hid (fun q' out' h => by (have h2 := HQ.out; rw [h] at h2; injection h2 with h2; injection h2 with h3 h4; subst h3; have h5 := HVU.out; omega))
                clear hx hlq HI
                go_wp2_with fail
                go_roundw
                case rel => exact ⟨u + 1, by go_num, HB, Lib.hid ⟨HLD.out, fun h => by cases h⟩⟩
                case measure => simp [intOf] <;> omega
theorem rLowest_ev {A : Option Addr} {cap : Nat} {xs : List Lx} {v : Nat} (hv : v < 256) (hn : xs.length ≤ 100000) {w : World} (hX : Row w A xs) :
    Calls Tryd.prog 13 #[.slice A xs.length cap, .int .u8 (v : Int)] w (LwN (xs.map (·.e)) v w) := (rLowest_any A cap xs v hv hn w hX).mono fun z w' h => lwN_of h

end Go.Proofs.YtbjpkffhpdcapaaDoor.Upcast
