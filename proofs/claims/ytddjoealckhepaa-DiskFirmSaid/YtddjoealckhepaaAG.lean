import Derived.Test.YtddjoealckhepaaAH
import Derived.Test.YtddjoealckhepaaAD
import Derived.Test.YtddjoealckhepaaQ
import Derived.BigQuiet
import Derived.Deep.RegionHeld3
import Derived.Deep.DeepCutAuto
/-
  The law on what stands firm (DiskFirm).
-/
namespace Go.Proofs.Ytddjoealckhepaa.Disk
open Go Go.RowKit Go.Maps Go.Shelf Go.Proofs

theorem firm_fi {d : Dk} {c : Nat} (h : d.live c) (ho : d.ok) (x : OpX) (hk : x.k ≤ 5) (j : Nat) (hj : j < (told d.l).length) :
    (¬ touch x (actD d x).1 (told d.l)[j].n → ∃ z : Fi, fnd (told d.l)[j].n (told (actD d x).2.l) = (z, true) ∧ z.d = (told d.l)[j].d ∧ (x.k ≠ 1 → z = (told d.l)[j])) ∧
    ((actD d x).1 = 0 ∧ x.k = 2 ∧ x.n = (told d.l)[j].n → fnd (told d.l)[j].n (told (actD d x).2.l) = (⟨(told d.l)[j].n, (told d.l)[j].d ++ (told d.l)[j].p, []⟩, true)) := by
  have hj' : j < d.l.length := by rwa [told_len] at hj
  have hx : (told d.l)[j] = tell d.l[j] := by simp [told]
  rw [hx]
  obtain ⟨⟨n, f⟩, hp⟩ : ∃ p, d.l[j] = p := ⟨_, rfl⟩
  rw [hp]
  have hg : get d.l n = some f := (get_some ho.up).2 (hp ▸ List.getElem_mem hj')
  obtain ⟨h1, h2⟩ := firm_act h ho x hk hg
  refine ⟨fun ht => ?_, fun ht => ?_⟩
  · obtain ⟨f', e1, e2, e3⟩ := h1 ht
    refine ⟨tell (n, f'), by show fnd n _ = _; rw [fnd_told, e1], e2, fun hk1 => by rw [e3 hk1]⟩
  · show fnd n _ = _
    rw [fnd_told, h2 ht]
    simp [tell]

theorem add_S (a b : List UInt8) (h : a.length + b.length ≤ 9223372036854775807) (w : World) : (Op.stringOp .add (S a) (S b)).run Try.prog w = .ok (.string (S (a ++ b))) w := by
  have z3 := S_size a
  have z4 := S_size b
  rw [← S_app]
  have : ((S a).size : Int) + ((S b).size : Int) ≤ 9223372036854775807 := by omega
  simp [Op.stringOp, this, go_sem]

set_option maxRecDepth 100000 in
set_option maxHeartbeats 20000000 in
theorem firm_law (A K : Option Addr) (ca ck : Nat) (xs : List OpX) (ks : List Int) (hx : xs.length ≤ maxLen) (hck : ks.length ≤ ck ∧ ck ≤ maxLen) (w : World) (h1 : Ops w A xs) (h2 : Nums w K ks) :
    Calls Try.prog 7 #[.slice A xs.length ca, .slice K ks.length ck] w (Yes w) := by
  have hmx : Try.prog.follows .mixedOrders = true := by kernel_rfl
  have HX := Lib.hid h1
  have HK := Lib.hid h2
  have HLX := Lib.hid hx
  have HCK := Lib.hid hck
  have HA := Lib.hid (long_any A ca xs w h1)
  clear h1 h2 hx hck
  by_cases hbig : 100 < ks.length
  · have zb : (100 : Int) < (ks.length : Int) := by omega
    have zbd : decide ((100 : Int) < (ks.length : Int)) = true := decide_eq_true zb
    clear hbig
    go_enter Try.func7, Try.ntmps7
    go_wp2_with fail
    refine HA.out.mono ?_
    rintro z W1 ⟨b1, rfl, -, hw⟩
    rw [hw]
    clear hw
    cases b1 <;>
    · go_wp2_with fail
      refine (awake_any _).mono ?_
      rintro z W2 ⟨rfl, hb⟩
      have H2 := Lib.hid hb
      clear hb
      go_wp2_with fail
      go_ret
      exact ⟨rfl, H2.out⟩
  have zb : ¬ (100 : Int) < (ks.length : Int) := by omega
  have zbd : decide ((100 : Int) < (ks.length : Int)) = false := decide_eq_false zb
  have HKL := Lib.hid (show ks.length ≤ 100 by omega)
  clear hbig
  go_enter Try.func7, Try.ntmps7
  go_wp2_with fail
  refine HA.out.mono ?_
  rintro z W1 ⟨b1, rfl, -, hw⟩
  rw [hw]
  clear hw
  cases b1 with
  | true =>
    go_wp2_with fail
    refine (awake_any _).mono ?_
    rintro z W2 ⟨rfl, hb⟩
    have H2 := Lib.hid hb
    clear hb
    go_wp2_with fail
    go_ret
    exact ⟨rfl, H2.out⟩
  | false =>
  go_wp2_with fail
  refine (awake_any _).mono ?_
  rintro z W2 ⟨rfl, hb⟩
  have H2 := Lib.hid hb
  clear hb
  go_wp2_with fail
  refine (small_any 1048576 (by decide) (by decide) _).mono ?_
  rintro z W3 ⟨a, b, rfl, hd, ha, hb, hbl⟩
  have HD := Lib.hid hd
  have HL := Lib.hid (show w.heap.size ≤ a ∧ w.heap.size ≤ b from ⟨Nat.le_trans H2.out.size ha, Nat.le_trans H2.out.size hb⟩)
  have H3 := Lib.hid (below_step H2.out hbl)
  clear hd ha hb hbl H2 HA
  go_wp2_with fail
  go_loopw [6] (fun i wr => ∃ k : Nat, k ≤ xs.length ∧ i = .int .i64 (k : Int) ∧ ∃ d : Dk, d.live 1048576 ∧ DkAt wr a b d ∧ Below w.heap.size w wr) (fun i _ => xs.length - (intOf i).toNat)
  case atStart => exact ⟨0, Nat.zero_le _, rfl, _, ⟨rfl, rfl, rfl, rfl⟩, HD.out, H3.out⟩
  case round =>
    obtain ⟨k, hk, rfl, d, hl, hd, hb⟩ := hrel
    have HV := Lib.hid hl
    replace HD := Lib.hid hd
    replace H3 := Lib.hid hb
    clear hl hd hb
    by_cases hlt : k < xs.length
    · obtain ⟨nb, no, rfl, hb1, hop, c0, c1, c2, c3, c4, c5⟩ := (HX.out.below H3.out) k hlt
      have z0 : (0 : Int) ≤ (k : Int) := by omega
      have z1 : (k : Int) < (xs.length : Int) := by omega
      have zk : IntKind.i64.wrap ((k : Int) + 1) = (k : Int) + 1 := by rw [IntKind.wrap_i64]; have := HLX.out; unfold maxLen at this; omega
      have HZK := Lib.hid zk
      have HLT := Lib.hid hlt
      have HOP := Lib.hid hop
      clear hop hb1
      generalize xs[k]'hlt = o at c0 c1 c2 c3 c4 c5 HOP
      clear hlt
      go_upto_region 8 with (fail)
      have HBX := Lib.hid (bx_new wr #[.int .u8 (o.k : Int), .string (S o.n), .string (S o.t), .string (S o.s), .int .i64 o.m, .slice o.K o.ks.length o.c] 54)
      have HOG := Lib.hid (show a < wr.heap.size from HD.out.lt.1)
      replace HD := Lib.hid (HD.out.new (.cells #[.int .u8 (o.k : Int), .string (S o.n), .string (S o.t), .string (S o.s), .int .i64 o.m, .slice o.K o.ks.length o.c] 54))
      replace H3 := Lib.hid (below_new H3.out (.cells #[.int .u8 (o.k : Int), .string (S o.n), .string (S o.t), .string (S o.s), .int .i64 o.m, .slice o.K o.ks.length o.c] 54))
      clear c0 c1 c2 c3 c4 c5
      generalize wr.alloc (.cells #[.int .u8 (o.k : Int), .string (S o.n), .string (S o.t), .string (S o.s), .int .i64 o.m, .slice o.K o.ks.length o.c] 54) = W6 at HBX HD H3 ⊢
      generalize wr.heap.size = og at HBX HOG ⊢
      obtain ⟨e0, e1, e2, e3, e4, e5⟩ := bx6 HBX.out
      by_cases qk : 5 < o.k
      · have q5 : (5 : Int) < (o.k : Int) := by omega
        have q5d : decide ((5 : Int) < (o.k : Int)) = true := decide_eq_true q5
        clear qk
        go_wp2_with fail
        go_roundw
        case rel => exact ⟨k + 1, by clear zk; have := HLT.out; omega, by go_num, d, HV.out, HD.out, H3.out⟩
        case measure => clear zk; have := HLT.out; simp [intOf] <;> omega
      have q5 : ¬ (5 : Int) < (o.k : Int) := by omega
      have q5d : decide ((5 : Int) < (o.k : Int)) = false := decide_eq_false q5
      have HQK := Lib.hid (show o.k ≤ 5 by omega)
      clear zk
      clear qk
      go_wp2_with fail
      refine (files_any a b d _ HD.out).mono ?_
      rintro z W7 ⟨v, rfl, hv, hb⟩
      obtain ⟨A1, c1, rfl, -, -, hr, hq⟩ := hv.row
      have HR := Lib.hid hr
      have HRA := Lib.hid (show ∀ q, A1 = some q → q.block ≠ a ∧ q.block ≠ b from fun q e => by have h1 := hq q e; have h2 := HD.out.lt; omega)
      replace HBX := Lib.hid (HBX.out.below hb)
      replace HD := Lib.hid (HD.out.below hb)
      replace H3 := Lib.hid (below_step H3.out hb)
      clear hv hr hb hq e0 e1 e2 e3 e4 e5
      obtain ⟨e0, e1, e2, e3, e4, e5⟩ := bx6 HBX.out
      rw [told_len]
      have HTL := Lib.hid (told_len d.l)
      have HFS := Lib.hid HD.out.ok.len
      have HDOK := Lib.hid HD.out.ok
      have HFI := Lib.hid (firm_fi HV.out HD.out.ok o HQK.out)
      have HV2 := Lib.hid (HV.out.act o)
      have HACT := Lib.hid (act_any a b d o HOP.out.k ⟨HOP.out.n, HOP.out.t, HOP.out.s⟩ W7 HD.out)
      unfold opV at HACT
      rw [show actD d o = ((actD d o).1, (actD d o).2) from rfl] at HACT
      generalize (actD d o).1 = f at HACT HFI
      generalize (actD d o).2 = d2 at HACT HFI HV2
      go_wp2_with fail
      refine HACT.out.mono ?_
      rintro z W8 ⟨rfl, h1, h2⟩
      replace HBX := Lib.hid (HBX.out.tn HD.out (by have := HOG.out; omega) h2)
      replace HR := Lib.hid (HR.out.tn h2 HRA.out)
      replace H3 := Lib.hid (H3.out.trans (h2.low H3.out.size HL.out.1 HL.out.2))
      replace HD := Lib.hid h1
      clear h1 h2 HACT HRA e0 e1 e2 e3 e4 e5
      obtain ⟨e0, e1, e2, e3, e4, e5⟩ := bx6 HBX.out
      go_wp2_with fail
      refine (files_any a b d2 _ HD.out).mono ?_
      rintro z W9 ⟨v, rfl, hv, hb⟩
      obtain ⟨A2, cc2, rfl, -, -, hr, -⟩ := hv.row
      have HR2 := Lib.hid hr
      replace HBX := Lib.hid (HBX.out.below hb)
      replace HR := Lib.hid (HR.out.below hb)
      replace HD := Lib.hid (HD.out.below hb)
      replace H3 := Lib.hid (below_step H3.out hb)
      have HTL2 := Lib.hid (show (told d2.l).length ≤ 1000000000 by rw [told_len]; have := HD.out.ok.len; omega)
      clear hv hr hb e0 e1 e2 e3 e4 e5
      go_wp2_with fail
      go_loopw [11] (fun i wr => ∃ j : Nat, j ≤ d.l.length ∧ i = .int .i64 (j : Int) ∧ Hid (RowF wr A1 (told d.l)) ∧ Hid (RowF wr A2 (told d2.l)) ∧ Hid (Bx wr og #[.int .u8 (o.k : Int), .string (S o.n), .string (S o.t), .string (S o.s), .int .i64 o.m, .slice o.K o.ks.length o.c]) ∧ DkAt wr a b d2 ∧ Below w.heap.size w wr) (fun i _ => d.l.length - (intOf i).toNat)
      case atStart => exact ⟨0, Nat.zero_le _, rfl, HR, HR2, HBX, HD.out, H3.out⟩
      case round =>
        obtain ⟨j, hj, rfl, hr, hr2, hbx, hd, hb⟩ := hrel
        replace HR := hr
        replace HR2 := hr2
        replace HBX := hbx
        replace HD := Lib.hid hd
        replace H3 := Lib.hid hb
        clear hr hr2 hbx hd hb
        by_cases hjt : j < d.l.length
        · have hjt2 : j < (told d.l).length := by rw [HTL.out]; exact hjt
          obtain ⟨fb, fo, rfl, hfb, c0, c1, c2⟩ := HR.out j hjt2
          have y0 : (0 : Int) ≤ (j : Int) := by omega
          have y1 : (j : Int) < (d.l.length : Int) := by omega
          have HYK : Hid (IntKind.i64.wrap ((j : Int) + 1) = (j : Int) + 1) := Lib.hid <| by rw [IntKind.wrap_i64]; have := HFS.out; omega
          have HJT := Lib.hid hjt
          have HFJ := Lib.hid (HFI.out j hjt2)
          have HFC : Hid (∀ w' : World, Below wr.heap.size wr w' → w'.cell? ⟨fb, fo + j * 3, none⟩ = wr.cell? ⟨fb, fo + j * 3, none⟩ ∧ w'.cell? ⟨fb, fo + j * 3 + 1, none⟩ = wr.cell? ⟨fb, fo + j * 3 + 1, none⟩ ∧ w'.cell? ⟨fb, fo + j * 3 + 2, none⟩ = wr.cell? ⟨fb, fo + j * 3 + 2, none⟩) := fun w' hb => ⟨hb.cell hfb, hb.cell hfb, hb.cell hfb⟩
          rw [c0, c1, c2] at HFC
          have HYB : Hid (((told d.l)[j]'hjt2).d.length + ((told d.l)[j]'hjt2).p.length ≤ 1048576) := by
            have h1 : (d.l[j]'hjt).2.b.length ≤ 1048576 := (HDOK.out.fs _ (List.getElem_mem hjt)).2
            show _ ≤ _
            simp only [told, List.getElem_map, tell, List.length_take, List.length_drop]
            omega
          generalize (told d.l)[j]'hjt2 = y at c0 c1 c2 HFJ HFC HYB
          clear hjt hjt2 hfb
          go_wp2_with fail
          refine (seek_any A2 cc2 (told d2.l) y.n HTL2.out _ HR2.out).mono ?_
          rintro z W10 ⟨rfl, hb⟩
          generalize fnd y.n (told d2.l) = r at HFJ ⊢
          obtain ⟨z, bz⟩ := r
          replace HR := Lib.hid (HR.out.below hb)
          replace HR2 := Lib.hid (HR2.out.below hb)
          replace HBX := Lib.hid (HBX.out.below hb)
          replace HD := Lib.hid (HD.out.below hb)
          replace H3 := Lib.hid (below_step H3.out hb)
          clear c0 c1 c2
          go_upto_region 16 with (fail)
          obtain ⟨c0, c1, c2⟩ := HFC.out (W10.alloc (.cells #[.string (S z.n), .string (S z.d), .string (S z.p)] 59)) (below_new hb _)
          have HALL : Hid (∀ w' : World, Below (W10.alloc (.cells #[.string (S z.n), .string (S z.d), .string (S z.p)] 59)).heap.size (W10.alloc (.cells #[.string (S z.n), .string (S z.d), .string (S z.p)] 59)) w' → Hid (RowF w' (some ⟨fb, fo, none⟩) (told d.l)) ∧ Hid (RowF w' A2 (told d2.l)) ∧ Hid (Bx w' og #[.int .u8 (o.k : Int), .string (S o.n), .string (S o.t), .string (S o.s), .int .i64 o.m, .slice o.K o.ks.length o.c]) ∧ DkAt w' a b d2 ∧ Below w.heap.size w w') := fun w' hb' =>
            have hb2 : Below W10.heap.size W10 w' := ((Below.refl _ _).alloc (Nat.le_refl _) _).trans (hb'.mono (by have := ((Below.refl W10.heap.size W10).alloc (Nat.le_refl _) (.cells #[.string (S z.n), .string (S z.d), .string (S z.p)] 59)).size; exact this))
            ⟨HR.out.below hb2, HR2.out.below hb2, HBX.out.below hb2, HD.out.below hb2, below_step H3.out hb2⟩
          have HBX2 := Lib.hid (HBX.out.new (.cells #[.string (S z.n), .string (S z.d), .string (S z.p)] 59))
          have HBF := Lib.hid (bx_new W10 #[.string (S z.n), .string (S z.d), .string (S z.p)] 59)
          clear hb HFC HR HR2 HBX HD H3
          generalize W10.alloc (.cells #[.string (S z.n), .string (S z.d), .string (S z.p)] 59) = W11 at c0 c1 c2 HALL HBX2 HBF ⊢
          generalize W10.heap.size = fg at HBF ⊢
          obtain ⟨e0, e1, e2, e3, e4, e5⟩ := bx6 HBX2.out
          have g0 : W11.cell? ⟨fg, 0, none⟩ = some (.string (S z.n)) := HBF.out.cell 0
          have g1 : W11.cell? ⟨fg, 1, none⟩ = some (.string (S z.d)) := HBF.out.cell 1
          have g2 : W11.cell? ⟨fg, 2, none⟩ = some (.string (S z.p)) := HBF.out.cell 2
          clear e3 e4 e5 HBX2 HBF
          rcases (show o.k = 0 ∨ o.k = 1 ∨ o.k = 2 ∨ o.k = 3 ∨ o.k = 4 ∨ o.k = 5 by have := HQK.out; omega) with hok | hok | hok | hok | hok | hok
          · as_aux_lemma =>
              rw [show (o.k : Int) = 0 by omega] at e0
              by_cases hf : f = 0
              · have zf : (f : Int) = 0 := by omega
                obtain ⟨z', hz, hzd, hzy⟩ := HFJ.out.1 (fun h => by have := h.2; omega)
                obtain ⟨hz1, rfl⟩ := Prod.mk.inj hz
                subst hz1
                have hzz := hzy (by omega)
                subst hzz
                clear hz hzd hzy
                have he : ∀ W : World, (Op.equalIn 10000 59 (.agg #[.string (S z.n), .string (S z.d), .string (S z.p)]) (.agg #[.string (S z.n), .string (S z.d), .string (S z.p)])).run Try.prog W = .ok true W := fun W => by have h := eqn_fi z z W; rw [decide_eq_true rfl] at h; exact h
                have hgd : ∀ (op : BinOp) (a b : Operand) (W : World), (eqGuard op 59 a b (.agg #[.string (S z.n), .string (S z.d), .string (S z.p)]) (.agg #[.string (S z.n), .string (S z.d), .string (S z.p)])).run Try.prog W = .ok () W := fun op a b W => guard_fi op a b z z W
                clear HFJ
                have yk := HYK.out
                go_wp2_with fail
                go_big_quiet (fail)
                go_wp2_with fail
                go_big_quiet (fail)
                go_wp2_with fail
                go_big_quiet (fail)
                go_wp2_with fail
                go_roundw
                case rel => exact ⟨j + 1, by clear yk; have := HJT.out; omega, by go_num, HALL.out _ (by first | exact below_dn _ _ _ | (simp only [World.drewN_drewN]; exact below_dn _ _ _))⟩
                case measure => clear yk; have := HJT.out; simp [intOf] <;> omega
              · have zf : ¬ (f : Int) = 0 := by omega
                have zfd : decide ((f : Int) = 0) = false := decide_eq_false zf
                have zfe : ((f : Int) == 0) = false := by simpa using zf
                obtain ⟨z', hz, hzd, hzy⟩ := HFJ.out.1 (fun h => hf h.1)
                obtain ⟨hz1, rfl⟩ := Prod.mk.inj hz
                subst hz1
                have hzz := hzy (by omega)
                subst hzz
                clear hz hzd hzy
                have he : ∀ W : World, (Op.equalIn 10000 59 (.agg #[.string (S z.n), .string (S z.d), .string (S z.p)]) (.agg #[.string (S z.n), .string (S z.d), .string (S z.p)])).run Try.prog W = .ok true W := fun W => by have h := eqn_fi z z W; rw [decide_eq_true rfl] at h; exact h
                have hgd : ∀ (op : BinOp) (a b : Operand) (W : World), (eqGuard op 59 a b (.agg #[.string (S z.n), .string (S z.d), .string (S z.p)]) (.agg #[.string (S z.n), .string (S z.d), .string (S z.p)])).run Try.prog W = .ok () W := fun op a b W => guard_fi op a b z z W
                clear HFJ
                have yk := HYK.out
                go_wp2_with fail
                go_big_quiet (fail)
                go_wp2_with fail
                go_big_quiet (fail)
                go_wp2_with fail
                go_big_quiet (fail)
                go_wp2_with fail
                go_roundw
                case rel => exact ⟨j + 1, by clear yk; have := HJT.out; omega, by go_num, HALL.out _ (by first | exact below_dn _ _ _ | (simp only [World.drewN_drewN]; exact below_dn _ _ _))⟩
                case measure => clear yk; have := HJT.out; simp [intOf] <;> omega
          · as_aux_lemma =>
              rw [show (o.k : Int) = 1 by omega] at e0
              by_cases hf : f = 0
              · have zf : (f : Int) = 0 := by omega
                obtain ⟨z', hz, hzd, hzy⟩ := HFJ.out.1 (fun h => by have := h.2; omega)
                obtain ⟨hz1, rfl⟩ := Prod.mk.inj hz
                subst hz1
                rw [hzd] at g1
                clear hz hzd hzy
                clear HFJ
                have yk := HYK.out
                go_wp2_with fail
                go_big_quiet (fail)
                go_wp2_with fail
                go_big_quiet (fail)
                go_wp2_with fail
                go_big_quiet (fail)
                go_wp2_with fail
                go_roundw
                case rel => exact ⟨j + 1, by clear yk; have := HJT.out; omega, by go_num, HALL.out _ (by first | exact below_dn _ _ _ | (simp only [World.drewN_drewN]; exact below_dn _ _ _))⟩
                case measure => clear yk; have := HJT.out; simp [intOf] <;> omega
              · have zf : ¬ (f : Int) = 0 := by omega
                have zfd : decide ((f : Int) = 0) = false := decide_eq_false zf
                have zfe : ((f : Int) == 0) = false := by simpa using zf
                obtain ⟨z', hz, hzd, hzy⟩ := HFJ.out.1 (fun h => hf h.1)
                obtain ⟨hz1, rfl⟩ := Prod.mk.inj hz
                subst hz1
                rw [hzd] at g1
                clear hz hzd hzy
                clear HFJ
                have yk := HYK.out
                go_wp2_with fail
                go_big_quiet (fail)
                go_wp2_with fail
                go_big_quiet (fail)
                go_wp2_with fail
                go_big_quiet (fail)
                go_wp2_with fail
                go_roundw
                case rel => exact ⟨j + 1, by clear yk; have := HJT.out; omega, by go_num, HALL.out _ (by first | exact below_dn _ _ _ | (simp only [World.drewN_drewN]; exact below_dn _ _ _))⟩
                case measure => clear yk; have := HJT.out; simp [intOf] <;> omega
          · as_aux_lemma =>
              rw [show (o.k : Int) = 2 by omega] at e0
              by_cases hf : f = 0
              · have zf : (f : Int) = 0 := by omega
                by_cases hn : o.n = y.n
                · rw [hn] at e1
                  obtain ⟨hz1, rfl⟩ := Prod.mk.inj (HFJ.out.2 ⟨hf, hok, hn⟩)
                  subst hz1
                  clear HFJ
                  replace g2 : W11.cell? ⟨fg, 2, none⟩ = some (.string ⟨#[]⟩) := g2
                  have HCL : Hid (∀ w' : World, Below W11.heap.size W11 w' → Below W11.heap.size W11 w' ∧ w'.cell? ⟨fb, fo + j * 3, none⟩ = some (.string (S y.n)) ∧ w'.cell? ⟨fb, fo + j * 3 + 1, none⟩ = some (.string (S y.d)) ∧ w'.cell? ⟨fb, fo + j * 3 + 2, none⟩ = some (.string (S y.p)) ∧ w'.cell? ⟨og, 0, none⟩ = some (.int .u8 2) ∧ w'.cell? ⟨og, 1, none⟩ = some (.string (S y.n)) ∧ w'.cell? ⟨fg, 1, none⟩ = some (.string (S (y.d ++ y.p))) ∧ w'.cell? ⟨fg, 2, none⟩ = some (.string ⟨#[]⟩)) := fun w' hb => ⟨hb, (hb.cell (cell_lt c0)).trans c0, (hb.cell (cell_lt c1)).trans c1, (hb.cell (cell_lt c2)).trans c2, (hb.cell (cell_lt e0)).trans e0, (hb.cell (cell_lt e1)).trans e1, (hb.cell (cell_lt g1)).trans g1, (hb.cell (cell_lt g2)).trans g2⟩
                  have HBY : Hid (∀ W : World, Calls Try.prog 43 #[.agg #[.string (S y.n), .string (S y.d), .string (S y.p)]] W fun z w' => z = .returned (.string (S (y.d ++ y.p))) ∧ Below W.heap.size W w') := fun W => bytes_any y (by have := HYB.out; omega) W
                  have yk := HYK.out
                  go_wp2_with fail
                  go_big_quiet (fail)
                  have hb12 := below_dn W11.heap.size W11 nq
                  obtain ⟨HB12, a0', a1', a2', a3', a4', a5', a6'⟩ := HCL.out _ hb12
                  generalize W11.drewN nq = W12 at hb12 HB12 a0' a1' a2' a3' a4' a5' a6' ⊢
                  go_wp2_with fail
                  go_big_quiet (fail)
                  have hb13 : Below W11.heap.size W11 (W12.drewN nq) := HB12.trans (below_dn _ _ _)
                  obtain ⟨HB13, b0', b1', b2', b3', b4', b5', b6'⟩ := HCL.out _ hb13
                  generalize W12.drewN nq = W13 at hb13 HB13 b0' b1' b2' b3' b4' b5' b6' ⊢
                  clear a0' a1' a2' a3' a4' a5' a6' hb12 HB12 hb13
                  go_upto_region 19 with (fail)
                  obtain ⟨r0, r1, r2, r3, r4, r5, r6, r7⟩ := HCL.out W13.drew HB13.drew
                  go_region_held3 (fun w' => Below W11.heap.size W11 w' ∧ w'.cell? ⟨fb, fo + j * 3, none⟩ = some (.string (S y.n)) ∧ w'.cell? ⟨fb, fo + j * 3 + 1, none⟩ = some (.string (S y.d)) ∧ w'.cell? ⟨fb, fo + j * 3 + 2, none⟩ = some (.string (S y.p)) ∧ w'.cell? ⟨og, 0, none⟩ = some (.int .u8 2) ∧ w'.cell? ⟨og, 1, none⟩ = some (.string (S y.n)) ∧ w'.cell? ⟨fg, 1, none⟩ = some (.string (S (y.d ++ y.p))) ∧ w'.cell? ⟨fg, 2, none⟩ = some (.string ⟨#[]⟩))
                    (first | assumption | (refine ⟨?_, ?_, ?_, ?_, ?_, ?_, ?_, ?_⟩ <;> assumption))
                    ((first | (go_at_call 43; (with_reducible refine (HBY.out _).mono ?_); rintro z w' ⟨rfl, hb4⟩; obtain ⟨t0, t1, t2, t3, t4, t5, t6, t7⟩ := HCL.out w' (below_step (by assumption) hb4); clear hb4)))
                  all_goals
                    have HZ := Lib.hid (show Below W11.heap.size W11 _ by assumption)
                    go_wp2_with fail
                    have hk2 : (o.k : Int) = 2 := by rw [hok]; rfl
                    rw [zf, hk2, hn]
                    go_roundw
                    case rel => exact ⟨j + 1, by clear yk; have := HJT.out; omega, by go_num, by have h := HALL.out _ HZ.out; rw [hk2, hn] at h; exact h⟩
                    case measure => clear yk; have := HJT.out; simp [intOf] <;> omega
                · have q1 : ((S o.n).toList == (S y.n).toList) = false := by rw [S_list, S_list]; simpa using hn
                  obtain ⟨z', hz, hzd, hzy⟩ := HFJ.out.1 (fun h => h.2.elim (fun h => hn h.2) (fun h => by have := h.1; omega))
                  obtain ⟨hz1, rfl⟩ := Prod.mk.inj hz
                  subst hz1
                  have hzz := hzy (by omega)
                  subst hzz
                  clear hz hzd hzy
                  have he : ∀ W : World, (Op.equalIn 10000 59 (.agg #[.string (S z.n), .string (S z.d), .string (S z.p)]) (.agg #[.string (S z.n), .string (S z.d), .string (S z.p)])).run Try.prog W = .ok true W := fun W => by have h := eqn_fi z z W; rw [decide_eq_true rfl] at h; exact h
                  have hgd : ∀ (op : BinOp) (a b : Operand) (W : World), (eqGuard op 59 a b (.agg #[.string (S z.n), .string (S z.d), .string (S z.p)]) (.agg #[.string (S z.n), .string (S z.d), .string (S z.p)])).run Try.prog W = .ok () W := fun op a b W => guard_fi op a b z z W
                  clear HFJ
                  have yk := HYK.out
                  go_wp2_with fail
                  go_big_quiet (fail)
                  go_wp2_with fail
                  go_big_quiet (fail)
                  go_wp2_with fail
                  go_big_quiet (fail)
                  go_wp2_with fail
                  go_roundw
                  case rel => exact ⟨j + 1, by clear yk; have := HJT.out; omega, by go_num, HALL.out _ (by first | exact below_dn _ _ _ | (simp only [World.drewN_drewN]; exact below_dn _ _ _))⟩
                  case measure => clear yk; have := HJT.out; simp [intOf] <;> omega
              · have zf : ¬ (f : Int) = 0 := by omega
                have zfd : decide ((f : Int) = 0) = false := decide_eq_false zf
                have zfe : ((f : Int) == 0) = false := by simpa using zf
                obtain ⟨z', hz, hzd, hzy⟩ := HFJ.out.1 (fun h => hf h.1)
                obtain ⟨hz1, rfl⟩ := Prod.mk.inj hz
                subst hz1
                have hzz := hzy (by omega)
                subst hzz
                clear hz hzd hzy
                have he : ∀ W : World, (Op.equalIn 10000 59 (.agg #[.string (S z.n), .string (S z.d), .string (S z.p)]) (.agg #[.string (S z.n), .string (S z.d), .string (S z.p)])).run Try.prog W = .ok true W := fun W => by have h := eqn_fi z z W; rw [decide_eq_true rfl] at h; exact h
                have hgd : ∀ (op : BinOp) (a b : Operand) (W : World), (eqGuard op 59 a b (.agg #[.string (S z.n), .string (S z.d), .string (S z.p)]) (.agg #[.string (S z.n), .string (S z.d), .string (S z.p)])).run Try.prog W = .ok () W := fun op a b W => guard_fi op a b z z W
                clear HFJ
                have yk := HYK.out
                go_wp2_with fail
                go_big_quiet (fail)
                go_wp2_with fail
                go_big_quiet (fail)
                go_wp2_with fail
                go_big_quiet (fail)
                go_wp2_with fail
                go_roundw
                case rel => exact ⟨j + 1, by clear yk; have := HJT.out; omega, by go_num, HALL.out _ (by first | exact below_dn _ _ _ | (simp only [World.drewN_drewN]; exact below_dn _ _ _))⟩
                case measure => clear yk; have := HJT.out; simp [intOf] <;> omega
          · as_aux_lemma =>
              rw [show (o.k : Int) = 3 by omega] at e0
              by_cases hf : f = 0
              · have zf : (f : Int) = 0 := by omega
                by_cases hn : o.n = y.n
                · rw [hn] at e1
                  have yk := HYK.out
                  go_wp2_with fail
                  go_big_quiet (fail)
                  go_wp2_with fail
                  go_big_quiet (fail)
                  go_wp2_with fail
                  go_big_quiet (fail)
                  go_wp2_with fail
                  go_roundw
                  case rel => exact ⟨j + 1, by clear yk; have := HJT.out; omega, by go_num, HALL.out _ (by first | exact below_dn _ _ _ | (simp only [World.drewN_drewN]; exact below_dn _ _ _))⟩
                  case measure => clear yk; have := HJT.out; simp [intOf] <;> omega
                · have q1 : ((S o.n).toList == (S y.n).toList) = false := by rw [S_list, S_list]; simpa using hn
                  obtain ⟨z', hz, hzd, hzy⟩ := HFJ.out.1 (fun h => h.2.elim (fun h => hn h.2) (fun h => by have := h.1; omega))
                  obtain ⟨hz1, rfl⟩ := Prod.mk.inj hz
                  subst hz1
                  have hzz := hzy (by omega)
                  subst hzz
                  clear hz hzd hzy
                  have he : ∀ W : World, (Op.equalIn 10000 59 (.agg #[.string (S z.n), .string (S z.d), .string (S z.p)]) (.agg #[.string (S z.n), .string (S z.d), .string (S z.p)])).run Try.prog W = .ok true W := fun W => by have h := eqn_fi z z W; rw [decide_eq_true rfl] at h; exact h
                  have hgd : ∀ (op : BinOp) (a b : Operand) (W : World), (eqGuard op 59 a b (.agg #[.string (S z.n), .string (S z.d), .string (S z.p)]) (.agg #[.string (S z.n), .string (S z.d), .string (S z.p)])).run Try.prog W = .ok () W := fun op a b W => guard_fi op a b z z W
                  clear HFJ
                  have yk := HYK.out
                  go_wp2_with fail
                  go_big_quiet (fail)
                  go_wp2_with fail
                  go_big_quiet (fail)
                  go_wp2_with fail
                  go_big_quiet (fail)
                  go_wp2_with fail
                  go_roundw
                  case rel => exact ⟨j + 1, by clear yk; have := HJT.out; omega, by go_num, HALL.out _ (by first | exact below_dn _ _ _ | (simp only [World.drewN_drewN]; exact below_dn _ _ _))⟩
                  case measure => clear yk; have := HJT.out; simp [intOf] <;> omega
              · have zf : ¬ (f : Int) = 0 := by omega
                have zfd : decide ((f : Int) = 0) = false := decide_eq_false zf
                have zfe : ((f : Int) == 0) = false := by simpa using zf
                obtain ⟨z', hz, hzd, hzy⟩ := HFJ.out.1 (fun h => hf h.1)
                obtain ⟨hz1, rfl⟩ := Prod.mk.inj hz
                subst hz1
                have hzz := hzy (by omega)
                subst hzz
                clear hz hzd hzy
                have he : ∀ W : World, (Op.equalIn 10000 59 (.agg #[.string (S z.n), .string (S z.d), .string (S z.p)]) (.agg #[.string (S z.n), .string (S z.d), .string (S z.p)])).run Try.prog W = .ok true W := fun W => by have h := eqn_fi z z W; rw [decide_eq_true rfl] at h; exact h
                have hgd : ∀ (op : BinOp) (a b : Operand) (W : World), (eqGuard op 59 a b (.agg #[.string (S z.n), .string (S z.d), .string (S z.p)]) (.agg #[.string (S z.n), .string (S z.d), .string (S z.p)])).run Try.prog W = .ok () W := fun op a b W => guard_fi op a b z z W
                clear HFJ
                have yk := HYK.out
                go_wp2_with fail
                go_big_quiet (fail)
                go_wp2_with fail
                go_big_quiet (fail)
                go_wp2_with fail
                go_big_quiet (fail)
                go_wp2_with fail
                go_roundw
                case rel => exact ⟨j + 1, by clear yk; have := HJT.out; omega, by go_num, HALL.out _ (by first | exact below_dn _ _ _ | (simp only [World.drewN_drewN]; exact below_dn _ _ _))⟩
                case measure => clear yk; have := HJT.out; simp [intOf] <;> omega
          · as_aux_lemma =>
              rw [show (o.k : Int) = 4 by omega] at e0
              by_cases hf : f = 0
              · have zf : (f : Int) = 0 := by omega
                by_cases hn : o.n = y.n
                · rw [hn] at e1
                  have yk := HYK.out
                  go_wp2_with fail
                  go_big_quiet (fail)
                  go_wp2_with fail
                  go_big_quiet (fail)
                  go_wp2_with fail
                  go_big_quiet (fail)
                  go_wp2_with fail
                  go_roundw
                  case rel => exact ⟨j + 1, by clear yk; have := HJT.out; omega, by go_num, HALL.out _ (by first | exact below_dn _ _ _ | (simp only [World.drewN_drewN]; exact below_dn _ _ _))⟩
                  case measure => clear yk; have := HJT.out; simp [intOf] <;> omega
                · have q1 : ((S o.n).toList == (S y.n).toList) = false := by rw [S_list, S_list]; simpa using hn
                  by_cases ht : o.t = y.n
                  · rw [ht] at e2
                    have yk := HYK.out
                    go_wp2_with fail
                    go_big_quiet (fail)
                    go_wp2_with fail
                    go_big_quiet (fail)
                    go_wp2_with fail
                    go_big_quiet (fail)
                    go_wp2_with fail
                    go_roundw
                    case rel => exact ⟨j + 1, by clear yk; have := HJT.out; omega, by go_num, HALL.out _ (by first | exact below_dn _ _ _ | (simp only [World.drewN_drewN]; exact below_dn _ _ _))⟩
                    case measure => clear yk; have := HJT.out; simp [intOf] <;> omega
                  · have q2 : ((S o.t).toList == (S y.n).toList) = false := by rw [S_list, S_list]; simpa using ht
                    obtain ⟨z', hz, hzd, hzy⟩ := HFJ.out.1 (fun h => h.2.elim (fun h => hn h.2) (fun h => ht h.2))
                    obtain ⟨hz1, rfl⟩ := Prod.mk.inj hz
                    subst hz1
                    have hzz := hzy (by omega)
                    subst hzz
                    clear hz hzd hzy
                    have he : ∀ W : World, (Op.equalIn 10000 59 (.agg #[.string (S z.n), .string (S z.d), .string (S z.p)]) (.agg #[.string (S z.n), .string (S z.d), .string (S z.p)])).run Try.prog W = .ok true W := fun W => by have h := eqn_fi z z W; rw [decide_eq_true rfl] at h; exact h
                    have hgd : ∀ (op : BinOp) (a b : Operand) (W : World), (eqGuard op 59 a b (.agg #[.string (S z.n), .string (S z.d), .string (S z.p)]) (.agg #[.string (S z.n), .string (S z.d), .string (S z.p)])).run Try.prog W = .ok () W := fun op a b W => guard_fi op a b z z W
                    clear HFJ
                    have yk := HYK.out
                    go_wp2_with fail
                    go_big_quiet (fail)
                    go_wp2_with fail
                    go_big_quiet (fail)
                    go_wp2_with fail
                    go_big_quiet (fail)
                    go_wp2_with fail
                    go_roundw
                    case rel => exact ⟨j + 1, by clear yk; have := HJT.out; omega, by go_num, HALL.out _ (by first | exact below_dn _ _ _ | (simp only [World.drewN_drewN]; exact below_dn _ _ _))⟩
                    case measure => clear yk; have := HJT.out; simp [intOf] <;> omega
              · have zf : ¬ (f : Int) = 0 := by omega
                have zfd : decide ((f : Int) = 0) = false := decide_eq_false zf
                have zfe : ((f : Int) == 0) = false := by simpa using zf
                obtain ⟨z', hz, hzd, hzy⟩ := HFJ.out.1 (fun h => hf h.1)
                obtain ⟨hz1, rfl⟩ := Prod.mk.inj hz
                subst hz1
                have hzz := hzy (by omega)
                subst hzz
                clear hz hzd hzy
                have he : ∀ W : World, (Op.equalIn 10000 59 (.agg #[.string (S z.n), .string (S z.d), .string (S z.p)]) (.agg #[.string (S z.n), .string (S z.d), .string (S z.p)])).run Try.prog W = .ok true W := fun W => by have h := eqn_fi z z W; rw [decide_eq_true rfl] at h; exact h
                have hgd : ∀ (op : BinOp) (a b : Operand) (W : World), (eqGuard op 59 a b (.agg #[.string (S z.n), .string (S z.d), .string (S z.p)]) (.agg #[.string (S z.n), .string (S z.d), .string (S z.p)])).run Try.prog W = .ok () W := fun op a b W => guard_fi op a b z z W
                clear HFJ
                have yk := HYK.out
                go_wp2_with fail
                go_big_quiet (fail)
                go_wp2_with fail
                go_big_quiet (fail)
                go_wp2_with fail
                go_big_quiet (fail)
                go_wp2_with fail
                go_roundw
                case rel => exact ⟨j + 1, by clear yk; have := HJT.out; omega, by go_num, HALL.out _ (by first | exact below_dn _ _ _ | (simp only [World.drewN_drewN]; exact below_dn _ _ _))⟩
                case measure => clear yk; have := HJT.out; simp [intOf] <;> omega
          · as_aux_lemma =>
              rw [show (o.k : Int) = 5 by omega] at e0
              by_cases hf : f = 0
              · have zf : (f : Int) = 0 := by omega
                by_cases hn : o.n = y.n
                · rw [hn] at e1
                  have yk := HYK.out
                  go_wp2_with fail
                  go_big_quiet (fail)
                  go_wp2_with fail
                  go_big_quiet (fail)
                  go_wp2_with fail
                  go_big_quiet (fail)
                  go_wp2_with fail
                  go_roundw
                  case rel => exact ⟨j + 1, by clear yk; have := HJT.out; omega, by go_num, HALL.out _ (by first | exact below_dn _ _ _ | (simp only [World.drewN_drewN]; exact below_dn _ _ _))⟩
                  case measure => clear yk; have := HJT.out; simp [intOf] <;> omega
                · have q1 : ((S o.n).toList == (S y.n).toList) = false := by rw [S_list, S_list]; simpa using hn
                  obtain ⟨z', hz, hzd, hzy⟩ := HFJ.out.1 (fun h => h.2.elim (fun h => hn h.2) (fun h => by have := h.1; omega))
                  obtain ⟨hz1, rfl⟩ := Prod.mk.inj hz
                  subst hz1
                  have hzz := hzy (by omega)
                  subst hzz
                  clear hz hzd hzy
                  have he : ∀ W : World, (Op.equalIn 10000 59 (.agg #[.string (S z.n), .string (S z.d), .string (S z.p)]) (.agg #[.string (S z.n), .string (S z.d), .string (S z.p)])).run Try.prog W = .ok true W := fun W => by have h := eqn_fi z z W; rw [decide_eq_true rfl] at h; exact h
                  have hgd : ∀ (op : BinOp) (a b : Operand) (W : World), (eqGuard op 59 a b (.agg #[.string (S z.n), .string (S z.d), .string (S z.p)]) (.agg #[.string (S z.n), .string (S z.d), .string (S z.p)])).run Try.prog W = .ok () W := fun op a b W => guard_fi op a b z z W
                  clear HFJ
                  have yk := HYK.out
                  go_wp2_with fail
                  go_big_quiet (fail)
                  go_wp2_with fail
                  go_big_quiet (fail)
                  go_wp2_with fail
                  go_big_quiet (fail)
                  go_wp2_with fail
                  go_roundw
                  case rel => exact ⟨j + 1, by clear yk; have := HJT.out; omega, by go_num, HALL.out _ (by first | exact below_dn _ _ _ | (simp only [World.drewN_drewN]; exact below_dn _ _ _))⟩
                  case measure => clear yk; have := HJT.out; simp [intOf] <;> omega
              · have zf : ¬ (f : Int) = 0 := by omega
                have zfd : decide ((f : Int) = 0) = false := decide_eq_false zf
                have zfe : ((f : Int) == 0) = false := by simpa using zf
                obtain ⟨z', hz, hzd, hzy⟩ := HFJ.out.1 (fun h => hf h.1)
                obtain ⟨hz1, rfl⟩ := Prod.mk.inj hz
                subst hz1
                have hzz := hzy (by omega)
                subst hzz
                clear hz hzd hzy
                have he : ∀ W : World, (Op.equalIn 10000 59 (.agg #[.string (S z.n), .string (S z.d), .string (S z.p)]) (.agg #[.string (S z.n), .string (S z.d), .string (S z.p)])).run Try.prog W = .ok true W := fun W => by have h := eqn_fi z z W; rw [decide_eq_true rfl] at h; exact h
                have hgd : ∀ (op : BinOp) (a b : Operand) (W : World), (eqGuard op 59 a b (.agg #[.string (S z.n), .string (S z.d), .string (S z.p)]) (.agg #[.string (S z.n), .string (S z.d), .string (S z.p)])).run Try.prog W = .ok () W := fun op a b W => guard_fi op a b z z W
                clear HFJ
                have yk := HYK.out
                go_wp2_with fail
                go_big_quiet (fail)
                go_wp2_with fail
                go_big_quiet (fail)
                go_wp2_with fail
                go_big_quiet (fail)
                go_wp2_with fail
                go_roundw
                case rel => exact ⟨j + 1, by clear yk; have := HJT.out; omega, by go_num, HALL.out _ (by first | exact below_dn _ _ _ | (simp only [World.drewN_drewN]; exact below_dn _ _ _))⟩
                case measure => clear yk; have := HJT.out; simp [intOf] <;> omega
        · obtain rfl : j = d.l.length := by omega
          have y1 : ¬ ((d.l.length : Nat) : Int) < (d.l.length : Int) := by omega
          have zk := HZK.out
          go_wp2_with fail
          go_roundw
          case rel => exact ⟨k + 1, by clear zk; have := HLT.out; omega, by go_num, d2, HV2.out, HD.out, H3.out⟩
          case measure => clear zk; have := HLT.out; simp [intOf] <;> omega
    · as_aux_lemma =>
        obtain rfl : k = xs.length := by omega
        have z1 : ¬ ((xs.length : Nat) : Int) < (xs.length : Int) := by omega
        clear HX HLX hk
        go_wp2_with fail
        refine (files_any a b d _ HD.out).mono ?_
        rintro z W7 ⟨v, rfl, hv, hb⟩
        obtain ⟨A1, c1, rfl, -, -, hr, hq⟩ := hv.row
        have HR := Lib.hid hr
        have HRA := Lib.hid (show ∀ q, A1 = some q → q.block ≠ a ∧ q.block ≠ b from fun q e => by have h1 := hq q e; have h2 := HD.out.lt; omega)
        replace HD := Lib.hid (HD.out.below hb)
        replace H3 := Lib.hid (below_step H3.out hb)
        clear hv hr hb hq
        rw [told_len]
        go_wp2_with fail
        refine (crash_any a b d K ck ks HCK.out.1 HCK.out.2 _ HD.out (HK.out.kat H3.out HL.out.1)).mono ?_
        rintro z W8 ⟨rfl, h1, h2⟩
        replace HR := Lib.hid (HR.out.tn h2 HRA.out)
        replace H3 := Lib.hid (H3.out.trans (h2.low H3.out.size HL.out.1 HL.out.2))
        have HDO := Lib.hid HD.out.ok
        replace HD := Lib.hid h1
        clear h1 h2 HRA
        go_wp2_with fail
        refine (files_any a b _ _ HD.out).mono ?_
        rintro z W9 ⟨v, rfl, hv, hb⟩
        obtain ⟨A2, cc2, rfl, -, -, hr, -⟩ := hv.row
        have HR2 := Lib.hid hr
        replace HR := Lib.hid (HR.out.below hb)
        replace H3 := Lib.hid (below_step H3.out hb)
        clear hv hr hb HD
        rw [told_len, show (crashD d ks).l.length = d.l.length from crash_len _ _]
        replace HR2 : Hid (RowF W9 A2 (told (crashL d.l ks))) := HR2
        have HFS := Lib.hid HDO.out.len
        go_wp2_with fail
        go_loopw [17, 18] (fun t i wr => ∃ j u : Nat, j ≤ d.l.length ∧ u ≤ j ∧ i = .int .i64 (j : Int) ∧ t = .int .i64 (u : Int) ∧ Hid (crashK (d.l.take j) ks = ks.drop u) ∧ Hid (RowF wr A1 (told d.l)) ∧ Hid (RowF wr A2 (told (crashL d.l ks))) ∧ Below w.heap.size w wr) (fun _ i _ => d.l.length - (intOf i).toNat)
        case atStart => exact ⟨0, 0, Nat.zero_le _, Nat.le_refl _, rfl, rfl, rfl, HR, HR2, H3.out⟩
        case round =>
          obtain ⟨j, u, hj, huj, rfl, rfl, HT, hr, hr2, hb⟩ := hrel
          replace HR := hr
          replace HR2 := hr2
          replace H3 := Lib.hid hb
          clear hr hr2 hb
          by_cases hjt : j < d.l.length
          · have hjt1 : j < (told d.l).length := by rw [told_len]; exact hjt
            have hjt2 : j < (told (crashL d.l ks)).length := by rw [told_len, crash_len]; exact hjt
            obtain ⟨fb, fo, rfl, hfb, c0, c1', c2⟩ := HR.out j hjt1
            obtain ⟨gb, go, rfl, hgb, n0, n1, n2⟩ := HR2.out j hjt2
            have y0 : (0 : Int) ≤ (j : Int) := by omega
            have y1 : (j : Int) < (d.l.length : Int) := by omega
            have HYK : Hid (IntKind.i64.wrap ((j : Int) + 1) = (j : Int) + 1) := Lib.hid <| by rw [IntKind.wrap_i64]; have := HFS.out; omega
            have HYU : Hid (IntKind.i64.wrap ((u : Int) + 1) = (u : Int) + 1) := Lib.hid <| by rw [IntKind.wrap_i64]; have := HFS.out; omega
            have yu0 : (0 : Int) ≤ (u : Int) := by omega
            have HJT := Lib.hid hjt
            have HUJ := Lib.hid huj
            have hcg := crash_get d.l ks j hjt
            rw [HT.out] at hcg
            have hnow : (told (crashL d.l ks))[j] = tell (d.l[j].1, (crashF d.l[j].2 (ks.drop u)).1) := by
              have h1 := told_at j hjt2
              rw [h1]
              congr 1
              rw [List.getElem?_eq_getElem (by rw [crash_len]; exact hjt)] at hcg
              exact Option.some.inj hcg
            have hnext : crashK (d.l.take (j + 1)) ks = (crashF d.l[j].2 (ks.drop u)).2 := by
              rw [List.take_add_one, List.getElem?_eq_getElem hjt]
              show crashK (d.l.take j ++ [d.l[j]]) ks = _
              rw [crashK_snoc, HT.out]
            have hfo : d.l[j].2.ok := HDO.out.fs _ (List.getElem_mem hjt)
            rw [told_at j hjt1] at c0 c1' c2
            rw [hnow] at n0 n1 n2
            generalize d.l[j] = p at c0 c1' c2 n0 n1 n2 hnext hfo
            obtain ⟨pn, f⟩ := p
            simp only at n0 n1 n2 hnext hfo
            have HFO := Lib.hid hfo
            clear hcg hnow hjt1 hjt2 hjt huj hfo hfb hgb
            by_cases hpe : f.b.length = f.g
            · rw [crashF_all _ hpe] at n0 n1 n2 hnext
              have HNX := Lib.hid hnext
              obtain ⟨hp1, -⟩ := tell_all (n := pn) hpe
              rw [hp1] at c2 n2
              have HE1 := Lib.hid (show S [] = ⟨#[]⟩ from rfl)
              rw [HE1.out] at c2 n2
              have hdl : (tell (pn, f)).d.length ≤ 1048576 := by have h2 := HFO.out.2; simp only [tell, List.length_take]; omega
              generalize tell (pn, f) = y at c0 c1' n0 n1 hdl
              have hap : ∀ W : World, (Op.stringOp .add (S y.d) ByteArray.empty).run Try.prog W = .ok (.string (S y.d)) W := fun W => by
                have h := add_S y.d [] (by simp only [List.length_nil]; omega) W
                rw [List.append_nil] at h
                exact h
              clear hdl
              clear hpe hp1 hnext
              have yk := HYK.out
              have yu := HYU.out
              go_wp2_with fail
              go_big_quiet (fail)
              go_wp2_with fail
              go_roundw
              case rel => exact ⟨j + 1, u, by clear yk yu; have := HJT.out; omega, by clear yk yu; have := HUJ.out; omega, by go_num, rfl, HNX, HR.out.below (below_dn _ _ _), HR2.out.below (below_dn _ _ _), below_step H3.out (below_dn _ _ _)⟩
              case measure => clear yk yu; have := HJT.out; simp [intOf] <;> omega
            · have hple : stay f ks u ≤ f.b.length - f.g := stay_le ks u
              rw [crashF_some _ _ hpe, tell_some HFO.out.1 _ hple] at n0 n1 n2
              rw [crashF_some _ _ hpe] at hnext
              have HNX := Lib.hid hnext
              have hyd : (tell (pn, f)).d.length ≤ 1048576 := by have h2 := HFO.out.2; simp only [tell, List.length_take]; omega
              have hyp : (tell (pn, f)).p.length = f.b.length - f.g := by simp only [tell, List.length_drop]
              have hpl : f.b.length ≤ 1048576 := HFO.out.2
              have hgl : f.g ≤ f.b.length := HFO.out.1
              have hyn : (tell (pn, f)).n = pn := rfl
              rw [← hyn] at n0
              have HE1 := Lib.hid (show S [] = ⟨#[]⟩ from rfl)
              simp only at n0 n1 n2
              rw [HE1.out] at n2
              generalize hst : stay f ks u = m at n1 hple
              have hm : m = match ks[u]? with | some k => (k % 18446744073709551616).toNat % ((tell (pn, f)).p.length + 1) | none => 0 := by rw [← hst]; unfold stay; rw [hyp]; cases ks[u]? <;> rfl
              generalize tell (pn, f) = y at c0 c1' c2 n0 n1 n2 hyd hyp hm
              have hne : 0 < y.p.length := by omega
              have hmle : m ≤ y.p.length := by omega
              have q3 : ((S y.p).toList == (⟨#[]⟩ : ByteArray).toList) = false := by
                show ((S y.p).toList == (S []).toList) = false
                rw [S_list, S_list]
                cases hq : y.p with
                | nil => rw [hq] at hne; simp at hne
                | cons x r => rfl
              have q6 : (S y.p).toList.isEmpty = false := by
                rw [S_list]
                cases hq : y.p with
                | nil => rw [hq] at hne; simp at hne
                | cons x r => rfl
              have q4 : ¬ y.p = [] := fun h => by rw [h] at hne; simp at hne
              have hap : ∀ W : World, (Op.stringOp .add (S y.d) (S (y.p.take m))).run Try.prog W = .ok (.string (S (y.d ++ y.p.take m))) W := fun W => add_S y.d (y.p.take m) (by simp only [List.length_take]; omega) W
              have htk := S_take y.p m
              have hsz : (S y.p).size = y.p.length := S_size _
              have HM := Lib.hid hm
              have HPL := Lib.hid (show y.p.length ≤ 1048576 by omega)
              clear hpe hnext hyp hpl hgl hst hm hyn
              by_cases hu : u < ks.length
              · have zun : (u : Int) < (ks.length : Int) := by omega
                have zund : decide ((u : Int) < (ks.length : Int)) = true := decide_eq_true zun
                obtain ⟨kb, ko, rfl, hkb, kc⟩ := HK.out u hu
                replace kc := (H3.out.cell hkb).trans kc
                have hm2 := HM.out
                rw [List.getElem?_eq_getElem hu] at hm2
                simp only at hm2
                generalize ks[u] = kk at kc hm2
                have zm : (kk % 18446744073709551616).tmod ((y.p.length + 1 : Nat) : Int) = (m : Int) := by
                  have h0 := Int.emod_nonneg kk (show (18446744073709551616 : Int) ≠ 0 by decide)
                  obtain ⟨v, hv⟩ : ∃ v : Nat, kk % 18446744073709551616 = (v : Int) := ⟨(kk % 18446744073709551616).toNat, by omega⟩
                  rw [hm2, hv, Int.toNat_natCast]
                  exact (Int.ofNat_tmod v _)
                have zw : IntKind.u64.wrap kk = kk % 18446744073709551616 := by rw [IntKind.wrap_u64]
                have zq : IntKind.i64.wrap ((y.p.length : Int) + 1) = ((y.p.length + 1 : Nat) : Int) := by have := HPL.out; rw [IntKind.wrap_i64]; omega
                have zu : IntKind.u64.wrap ((y.p.length + 1 : Nat) : Int) = ((y.p.length + 1 : Nat) : Int) := by have := HPL.out; rw [IntKind.wrap_u64]; omega
                have zs : IntKind.u64.wrap (m : Int) = (m : Int) := by have := HPL.out; rw [IntKind.wrap_u64]; omega
                have zs2 : IntKind.i64.wrap (m : Int) = (m : Int) := by have := HPL.out; rw [IntKind.wrap_i64]; omega
                have zml : (m : Int) ≤ (y.p.length : Int) := by omega
                have zm0 : (0 : Int) ≤ (m : Int) := by omega
                have zd0 : (((y.p.length + 1 : Nat) : Int) == 0) = false := by simp; omega
                have zd1 : ¬ ((y.p.length + 1 : Nat) : Int) = 0 := by omega
                generalize hzP : ((y.p.length + 1 : Nat) : Int) = zP at zm zd0 zd1 zq zu
                generalize hzM : kk % 18446744073709551616 = zM at zm zw
                clear hu hkb hm2 hzP hzM hne hmle hyd hple
                have yk := HYK.out
                have yu := HYU.out
                go_upto_region 34 with (fail)
                go_big_quiet (fail)
                go_wp2_with fail
                go_big_quiet (fail)
                go_wp2_with fail
                go_roundw
                case rel => exact ⟨j + 1, u + 1, by clear yk yu; (try clear zm zw zq zu zs zs2); have := HJT.out; omega, by clear yk yu; (try clear zm zw zq zu zs zs2); have := HUJ.out; omega, by go_num, by go_num, HNX, HR.out.below (by first | exact below_dn _ _ _ | (simp only [World.drewN_drewN]; exact below_dn _ _ _)), HR2.out.below (by first | exact below_dn _ _ _ | (simp only [World.drewN_drewN]; exact below_dn _ _ _)), below_step H3.out (by first | exact below_dn _ _ _ | (simp only [World.drewN_drewN]; exact below_dn _ _ _))⟩
                case measure => clear yk yu; (try clear zm zw zq zu zs zs2); have := HJT.out; simp [intOf] <;> omega
              · have zun : ¬ (u : Int) < (ks.length : Int) := by omega
                have zund : decide ((u : Int) < (ks.length : Int)) = false := decide_eq_false zun
                have hm2 := HM.out
                rw [List.getElem?_eq_none (by omega)] at hm2
                simp only at hm2
                rw [hm2, List.take_zero, List.append_nil] at n1
                have hap0 : ∀ W : World, (Op.stringOp .add (S y.d) ByteArray.empty).run Try.prog W = .ok (.string (S y.d)) W := fun W => by
                  have h := add_S y.d [] (by simp only [List.length_nil]; omega) W
                  rw [List.append_nil] at h
                  exact h
                have hap1 : ∀ W : World, (Op.stringOp .add (S y.d) (S [])).run Try.prog W = .ok (.string (S y.d)) W := hap0
                have htk0 : (S y.p).extract 0 0 = S [] := by have := S_take y.p 0; rwa [List.take_zero] at this
                clear hu hm2 hne hmle hyd hple hap htk
                have yk := HYK.out
                have yu := HYU.out
                go_wp2_with fail
                go_big_quiet (fail)
                go_wp2_with fail
                go_roundw
                case rel => exact ⟨j + 1, u + 1, by clear yk yu; (try clear zm zw zq zu zs zs2); have := HJT.out; omega, by clear yk yu; (try clear zm zw zq zu zs zs2); have := HUJ.out; omega, by go_num, by go_num, HNX, HR.out.below (by first | exact below_dn _ _ _ | (simp only [World.drewN_drewN]; exact below_dn _ _ _)), HR2.out.below (by first | exact below_dn _ _ _ | (simp only [World.drewN_drewN]; exact below_dn _ _ _)), below_step H3.out (by first | exact below_dn _ _ _ | (simp only [World.drewN_drewN]; exact below_dn _ _ _))⟩
                case measure => clear yk yu; (try clear zm zw zq zu zs zs2); have := HJT.out; simp [intOf] <;> omega
          · obtain rfl : j = d.l.length := by omega
            have y1 : ¬ ((d.l.length : Nat) : Int) < (d.l.length : Int) := by omega
            go_wp2_with fail
            go_ret
            exact ⟨rfl, H3.out⟩
end Go.Proofs.Ytddjoealckhepaa.Disk
