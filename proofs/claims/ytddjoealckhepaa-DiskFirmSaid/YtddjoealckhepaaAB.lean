import Derived.Test.YtddjoealckhepaaAA
/-
  The law on cuts walks.
-/
namespace Go.Proofs.Ytddjoealckhepaa.Disk
open Go Go.RowKit Go.Maps Go.Shelf Go.Proofs

theorem bx6 {w : World} {g : Nat} {v0 v1 v2 v3 v4 v5 : Value} (h : Bx w g #[v0, v1, v2, v3, v4, v5]) :
    w.cell? ⟨g, 0, none⟩ = some v0 ∧ w.cell? ⟨g, 1, none⟩ = some v1 ∧ w.cell? ⟨g, 2, none⟩ = some v2 ∧ w.cell? ⟨g, 3, none⟩ = some v3 ∧ w.cell? ⟨g, 4, none⟩ = some v4 ∧ w.cell? ⟨g, 5, none⟩ = some v5 :=
  ⟨h.cell 0, h.cell 1, h.cell 2, h.cell 3, h.cell 4, h.cell 5⟩

set_option maxRecDepth 100000 in
set_option maxHeartbeats 8000000 in
theorem cut_law (A B : Option Addr) (ca cb : Nat) (xs ys : List OpX) (n : Int) (hn : -9223372036854775808 ≤ n ∧ n ≤ 9223372036854775807) (hx : xs.length ≤ maxLen) (hy : ys.length ≤ maxLen) (w : World) (h1 : Ops w A xs) (h2 : Ops w B ys) :
    Calls Try.prog 8 #[.slice A xs.length ca, .slice B ys.length cb, .int .i64 n] w (Yes w) := by
  have hmx : Try.prog.follows .mixedOrders = true := by kernel_rfl
  have HX := Lib.hid h1
  have HY := Lib.hid h2
  have HLX := Lib.hid hx
  have HLY := Lib.hid hy
  have HN := Lib.hid hn
  have HA := Lib.hid (long_any A ca xs w h1)
  have HB := Lib.hid (long_any B cb ys w h2)
  clear h1 h2 hx hy hn
  go_enter Try.func8, Try.ntmps8
  go_wp2_with fail
  refine HA.out.mono ?_
  rintro z W1 ⟨b1, rfl, hb1, hw⟩
  rw [hw]
  clear hw
  cases b1 with
  | true =>
    clear hb1
    go_wp2_with fail
    refine (awake_any _).mono ?_
    rintro z W2 ⟨rfl, hb⟩
    have H2 := Lib.hid hb
    clear hb
    go_wp2_with fail
    go_ret
    exact ⟨rfl, H2.out⟩
  | false =>
  clear hb1
  go_wp2_with fail
  refine HB.out.mono ?_
  rintro z W2 ⟨b2, rfl, hb2, hw⟩
  rw [hw]
  clear hw
  cases b2 with
  | true =>
    clear hb2
    go_wp2_with fail
    refine (awake_any _).mono ?_
    rintro z W2 ⟨rfl, hb⟩
    have H2 := Lib.hid hb
    clear hb
    go_wp2_with fail
    go_ret
    exact ⟨rfl, H2.out⟩
  | false =>
  clear hb2
  go_wp2_with fail
  refine (awake_any _).mono ?_
  rintro z W2 ⟨rfl, hb⟩
  have H2 := Lib.hid hb
  clear hb
  go_wp2_with fail
  refine (small_any 2000 (by decide) (by decide) _).mono ?_
  rintro z W3 ⟨a0, b0, rfl, hd, ha, hb, hbl⟩
  have HD := Lib.hid hd
  have HL := Lib.hid (show w.heap.size ≤ a0 ∧ w.heap.size ≤ b0 from ⟨Nat.le_trans H2.out.size ha, Nat.le_trans H2.out.size hb⟩)
  have H3 := Lib.hid (below_step H2.out hbl)
  clear hd ha hb hbl H2 HA HB
  go_wp2_with fail
  go_loopw [8] (fun i wr => ∃ k : Nat, k ≤ xs.length ∧ i = .int .i64 (k : Int) ∧ ∃ d : Dk, d.live 2000 ∧ DkAt wr a0 b0 d ∧ Below w.heap.size w wr) (fun i _ => xs.length - (intOf i).toNat)
  case atStart => exact ⟨0, Nat.zero_le _, rfl, _, ⟨rfl, rfl, rfl, rfl⟩, HD.out, H3.out⟩
  case round =>
    obtain ⟨k, hk, rfl, d, hl, hd, hb⟩ := hrel
    have HV := Lib.hid hl
    replace HD := Lib.hid hd
    replace H3 := Lib.hid hb
    clear hl hd hb
    by_cases hlt : k < xs.length
    · obtain ⟨nb, no, rfl, hb1, hop, c0, c1, c2, c3, c4, c5⟩ := (HX.out.below H3.out) k hlt
      have z0 : (0 : Int) ≤ (k : Int) := by omega
      have z1 : (k : Int) < (xs.length : Int) := by omega
      have zk : IntKind.i64.wrap ((k : Int) + 1) = (k : Int) + 1 := by rw [IntKind.wrap_i64]; have := HLX.out; unfold maxLen at this; omega
      have HLT := Lib.hid hlt
      have HOP := Lib.hid hop
      clear hop hb1
      generalize xs[k] = x at c0 c1 c2 c3 c4 c5 HOP
      by_cases q : x.k ≤ 5
      · have q5 : (x.k : Int) ≤ 5 := by omega
        have q5d : decide ((x.k : Int) ≤ 5) = true := decide_eq_true q5
        have HACT := Lib.hid (act_any a0 b0 d x HOP.out.k ⟨HOP.out.n, HOP.out.t, HOP.out.s⟩ wr HD.out)
        unfold opV at HACT
        clear q
        go_wp2_with fail
        refine HACT.out.mono ?_
        rintro z W4 ⟨rfl, h4, h5⟩
        have H4 := Lib.hid h4
        have H5 := Lib.hid (H3.out.trans (h5.low H3.out.size HL.out.1 HL.out.2))
        clear h4 h5
        go_wp2_with fail
        go_roundw
        case rel => exact ⟨k + 1, by have := HLT.out; omega, by go_num, _, HV.out.act x, H4.out, H5.out⟩
        case measure => have := HLT.out; simp [intOf] <;> omega
      · have q5 : ¬ (x.k : Int) ≤ 5 := by omega
        have q5d : decide ((x.k : Int) ≤ 5) = false := decide_eq_false q5
        clear q
        go_wp2_with fail
        go_roundw
        case rel => exact ⟨k + 1, by have := HLT.out; omega, by go_num, _, HV.out, HD.out, H3.out⟩
        case measure => have := HLT.out; simp [intOf] <;> omega
    · obtain rfl : k = xs.length := by omega
      have z1 : ¬ ((xs.length : Nat) : Int) < (xs.length : Int) := by omega
      clear z1 HX HLX hk
      go_wp2_with fail
      refine (copy_any a0 b0 d _ HD.out).mono ?_
      rintro z W4 ⟨p0, q0, rfl, h1, ha3, hb3, hb⟩
      have PR := Lib.hid (show Pr w a0 b0 p0 q0 W4 d d from
        ⟨below_step H3.out hb, ⟨HL.out.1, HL.out.2, Nat.le_trans H3.out.size ha3, Nat.le_trans H3.out.size hb3⟩, ⟨by have := HD.out.lt.1; omega, by have := HD.out.lt.2; omega⟩, HD.out.below hb, h1⟩)
      clear h1 ha3 hb3 hb HD H3 HL
      go_upto_region 11 with (fail)
      go_wp2_with fail
      have hLb : 0 ≤ wrap64 ((IntKind.u64.wrap n).tmod 30) ∧ wrap64 ((IntKind.u64.wrap n).tmod 30) ≤ 29 := by
        have h1 : 0 ≤ IntKind.u64.wrap n := by rw [IntKind.wrap_u64]; omega
        rw [Int.tmod_eq_emod_of_nonneg h1]
        unfold wrap64
        omega
      generalize wrap64 ((IntKind.u64.wrap n).tmod 30) = L0 at hLb ⊢
      have HC := Lib.hid (show cutD d L0 = (0, { d with cut := true, left := L0.toNat }) by
        unfold cutD; rw [HV.out.gone]; simp only [Bool.false_eq_true, if_false]; rw [if_neg (by omega)])
      have HL0 := Lib.hid hLb
      clear hLb
      refine (cut_any a0 b0 d L0 (by have := HL0.out; omega) _ PR.out.d).mono ?_
      rw [HC.out]
      rintro z W5 ⟨rfl, h1, h2⟩
      replace PR := Lib.hid (PR.out.onD h1 h2)
      clear h1 h2 HC
      have HCR := Lib.hid (show CutRel { d with cut := true, left := L0.toNat } d L0 from ⟨HV.out, Or.inl ⟨HL0.out.1, HL0.out.2, rfl⟩⟩)
      generalize ({ d with cut := true, left := L0.toNat } : Dk) = x0 at PR HCR
      go_wp2_with fail
      go_loopw [9, 10, 11] (fun u v i wr => ∃ k : Nat, k ≤ ys.length ∧ i = .int .i64 (k : Int) ∧ ∃ (p q : Nat) (L : Int) (x y : Dk), u = .pointer (some ⟨p, 0, none⟩) ∧ v = .int .i64 L ∧ CutRel x y L ∧ Pr w a0 b0 p q wr x y) (fun _ _ i _ => ys.length - (intOf i).toNat)
      case atStart => exact ⟨0, Nat.zero_le _, rfl, p0, q0, L0, x0, d, rfl, rfl, HCR.out, PR.out⟩
      case round =>
        obtain ⟨k, hk, rfl, p, q, L, x, y, rfl, rfl, hcr, hpr⟩ := hrel
        replace HCR := Lib.hid hcr
        replace PR := Lib.hid hpr
        clear hcr hpr
        by_cases hlt : k < ys.length
        · obtain ⟨nb, no, rfl, hb1, hop, c0, c1, c2, c3, c4, c5⟩ := (HY.out.below PR.out.low) k hlt
          have z0 : (0 : Int) ≤ (k : Int) := by omega
          have z1 : (k : Int) < (ys.length : Int) := by omega
          have zk : IntKind.i64.wrap ((k : Int) + 1) = (k : Int) + 1 := by rw [IntKind.wrap_i64]; have := HLY.out; unfold maxLen at this; omega
          have HLT := Lib.hid hlt
          have HOP := Lib.hid hop
          clear hop hb1
          generalize ys[k]'hlt = o at c0 c1 c2 c3 c4 c5 HOP
          clear hlt
          go_upto_region 17 with (fail)
          have HBX := Lib.hid (bx_new wr #[.int .u8 (o.k : Int), .string (S o.n), .string (S o.t), .string (S o.s), .int .i64 o.m, .slice o.K o.ks.length o.c] 54)
          have HOG := Lib.hid (show (a0 < wr.heap.size ∧ p < wr.heap.size) ∧ wr.heap.size < (wr.alloc (.cells #[.int .u8 (o.k : Int), .string (S o.n), .string (S o.t), .string (S o.s), .int .i64 o.m, .slice o.K o.ks.length o.c] 54)).heap.size from ⟨⟨PR.out.d.lt.1, PR.out.s.lt.1⟩, let ⟨_, ht⟩ := HBX.out; row_lt ht⟩)
          replace PR := Lib.hid (PR.out.below ((Below.refl _ _).alloc (Nat.le_refl _) (.cells #[.int .u8 (o.k : Int), .string (S o.n), .string (S o.t), .string (S o.s), .int .i64 o.m, .slice o.K o.ks.length o.c] 54)))
          clear c0 c1 c2 c3 c4 c5
          generalize wr.alloc (.cells #[.int .u8 (o.k : Int), .string (S o.n), .string (S o.t), .string (S o.s), .int .i64 o.m, .slice o.K o.ks.length o.c] 54) = W6 at HBX HOG PR ⊢
          generalize wr.heap.size = og at HBX HOG ⊢
          obtain ⟨e0, e1, e2, e3, e4, e5⟩ := bx6 HBX.out
          by_cases qk : 5 < o.k
          · have q5 : (5 : Int) < (o.k : Int) := by omega
            have q5d : decide ((5 : Int) < (o.k : Int)) = true := decide_eq_true q5
            clear qk
            go_wp2_with fail
            go_roundw
            case rel => exact ⟨k + 1, by have := HLT.out; omega, by go_num, p, q, L, x, y, rfl, rfl, HCR.out, PR.out⟩
            case measure => have := HLT.out; simp [intOf] <;> omega
          have q5 : ¬ (5 : Int) < (o.k : Int) := by omega
          have q5d : decide ((5 : Int) < (o.k : Int)) = false := decide_eq_false q5
          clear qk
          have HYL := Lib.hid HCR.out.1
          rcases HCR.out.2 with ⟨hL0, hL1, hx⟩ | ⟨hL, hg, hl, hc⟩
          rotate_left
          · subst hL
            have HG := Lib.hid hg
            have HEQ := Lib.hid hl
            have HE := Lib.hid (gone_act hg o)
            clear hg hl hc
            have HACT := Lib.hid (act_any a0 b0 x o HOP.out.k ⟨HOP.out.n, HOP.out.t, HOP.out.s⟩ W6 PR.out.d)
            rw [HE.out] at HACT
            unfold opV at HACT
            go_wp2_with fail
            refine HACT.out.mono ?_
            rintro z W7 ⟨rfl, h1, h2⟩
            replace HBX := Lib.hid (HBX.out.tn PR.out.d (by have := HOG.out.1.1; omega) h2)
            have HSZ := Lib.hid (Nat.lt_of_lt_of_le HOG.out.2 h2.size)
            replace PR := Lib.hid (PR.out.onD h1 h2)
            clear h1 h2 HACT e0 e1 e2 e3 e4 e5
            obtain ⟨e0, e1, e2, e3, e4, e5⟩ := bx6 HBX.out
            go_wp2_with fail
            refine (up_any p q y _ PR.out.s).mono ?_
            rw [HYL.out.gone]
            rintro z W8 ⟨rfl, hb⟩
            rw [hb]
            clear hb
            go_wp2_with fail
            refine (up_any a0 b0 _ _ PR.out.d).mono ?_
            rw [HG.out]
            rintro z W8 ⟨rfl, hb⟩
            rw [hb]
            clear hb
            go_wp2_with fail
            refine (files_any a0 b0 _ _ PR.out.d).mono ?_
            rintro z _ ⟨v, rfl, hv, hb⟩
            obtain ⟨A1, c1, rfl, -, -, hr, -⟩ := hv.row
            have HR1 := Lib.hid hr
            replace PR := Lib.hid (PR.out.below hb)
            clear hv hr hb
            go_wp2_with fail
            refine (files_any p q _ _ PR.out.s).mono ?_
            rintro z _ ⟨v, rfl, hv, hb⟩
            obtain ⟨A2, c2, rfl, -, -, hr, -⟩ := hv.row
            have HR2 := Lib.hid hr
            replace HR1 := Lib.hid (HR1.out.below hb)
            replace PR := Lib.hid (PR.out.below hb)
            clear hv hr hb
            go_wp2_with fail
            refine (rFiles_any A1 A2 c1 c2 _ _ (by rw [told_len]; have := PR.out.d.ok.len; omega) _ HR1.out HR2.out).mono ?_
            rw [decide_eq_true (congrArg told (HEQ.out))]
            rintro z W9 ⟨rfl, nn, hb⟩
            replace PR := Lib.hid (PR.out.below (w' := W9) (by rw [hb]; exact below_dn _ _ _))
            clear hb HR1 HR2
            go_wp2_with fail
            go_roundw
            case rel => exact ⟨k + 1, by have := HLT.out; omega, by go_num, p, q, -1, x, y, rfl, by go_num, HCR.out, PR.out⟩
            case measure => have := HLT.out; simp [intOf] <;> omega
          · have HX := Lib.hid hx
            have HL := Lib.hid (show 0 ≤ L ∧ L ≤ 29 from ⟨hL0, hL1⟩)
            have zL : ¬ L < 0 := by omega
            have zLd : decide (L < 0) = false := decide_eq_false zL
            have zG : (0 : Int) ≤ L := hL0
            have zGd : decide ((0 : Int) ≤ L) = true := decide_eq_true hL0
            have HGX := Lib.hid (show x.gone = false by rw [hx]; exact HYL.out.gone)
            have HTX := Lib.hid (show x.l = y.l by rw [hx])
            have hal := cut_act HYL.out L.toNat o
            rw [← hx] at hal
            have HAL := Lib.hid hal
            clear hx hL0 hL1 hal
            by_cases hf : (actD y o).1 ≠ 0
            · have HN := Lib.hid (show actD y o = ((actD y o).1, y) from Prod.ext rfl (live_refused HYL.out o hf))
              have HE := Lib.hid (show actD x o = ((actD y o).1, x) by rw [HAL.out, if_pos hf])
              have zf : ¬ (((actD y o).1 : Nat) : Int) = 0 := by omega
              have zfd : decide ((((actD y o).1 : Nat) : Int) = 0) = false := decide_eq_false zf
              clear hf
              generalize (actD y o).1 = f at HN HE zf zfd
              have HACT := Lib.hid (act_any a0 b0 x o HOP.out.k ⟨HOP.out.n, HOP.out.t, HOP.out.s⟩ W6 PR.out.d)
              rw [HE.out] at HACT
              unfold opV at HACT
              go_wp2_with fail
              refine HACT.out.mono ?_
              rintro z W7 ⟨rfl, h1, h2⟩
              replace HBX := Lib.hid (HBX.out.tn PR.out.d (by have := HOG.out.1.1; omega) h2)
              have HSZ := Lib.hid (Nat.lt_of_lt_of_le HOG.out.2 h2.size)
              replace PR := Lib.hid (PR.out.onD h1 h2)
              clear h1 h2 HACT e0 e1 e2 e3 e4 e5
              obtain ⟨e0, e1, e2, e3, e4, e5⟩ := bx6 HBX.out
              go_wp2_with fail
              refine (up_any p q y _ PR.out.s).mono ?_
              rw [HYL.out.gone]
              rintro z W8 ⟨rfl, hb⟩
              rw [hb]
              clear hb
              go_wp2_with fail
              refine (copy_any p q y _ PR.out.s).mono ?_
              rintro z W9 ⟨r, s, rfl, h1, hr, hs, hb⟩
              have HNR := Lib.hid (show og < r from Nat.lt_of_lt_of_le HSZ.out hr)
              have TR := Lib.hid (PR.out.copy h1 hr hs hb)
              replace HBX := Lib.hid (HBX.out.below hb)
              clear h1 hr hs hb e0 e1 e2 e3 e4 e5 PR
              obtain ⟨e0, e1, e2, e3, e4, e5⟩ := bx6 HBX.out
              have HACT := Lib.hid (act_any r s y o HOP.out.k ⟨HOP.out.n, HOP.out.t, HOP.out.s⟩ W9 TR.out.n)
              rw [HN.out] at HACT
              unfold opV at HACT
              go_wp2_with fail
              refine HACT.out.mono ?_
              rintro z W10 ⟨rfl, h1, h2⟩
              replace HBX := Lib.hid (HBX.out.tn TR.out.n (by have := HNR.out; omega) h2)
              replace TR := Lib.hid (TR.out.onN h1 h2)
              clear h1 h2 HACT e0 e1 e2 e3 e4 e5
              obtain ⟨e0, e1, e2, e3, e4, e5⟩ := bx6 HBX.out
              go_wp2_with fail
              have PR := Lib.hid TR.out.toS
              refine (up_any a0 b0 _ _ PR.out.d).mono ?_
              rw [HGX.out]
              rintro z W8 ⟨rfl, hb⟩
              rw [hb]
              clear hb
              go_wp2_with fail
              refine (files_any a0 b0 _ _ PR.out.d).mono ?_
              rintro z _ ⟨v, rfl, hv, hb⟩
              obtain ⟨A1, c1, rfl, -, -, hr, -⟩ := hv.row
              have HR1 := Lib.hid hr
              replace PR := Lib.hid (PR.out.below hb)
              clear hv hr hb
              go_wp2_with fail
              refine (files_any p q _ _ PR.out.s).mono ?_
              rintro z _ ⟨v, rfl, hv, hb⟩
              obtain ⟨A2, c2, rfl, -, -, hr, -⟩ := hv.row
              have HR2 := Lib.hid hr
              replace HR1 := Lib.hid (HR1.out.below hb)
              replace PR := Lib.hid (PR.out.below hb)
              clear hv hr hb
              go_wp2_with fail
              refine (rFiles_any A1 A2 c1 c2 _ _ (by rw [told_len]; have := PR.out.d.ok.len; omega) _ HR1.out HR2.out).mono ?_
              rw [decide_eq_true (congrArg told (HTX.out))]
              rintro z W9 ⟨rfl, nn, hb⟩
              replace PR := Lib.hid (PR.out.below (w' := W9) (by rw [hb]; exact below_dn _ _ _))
              clear hb HR1 HR2
              go_wp2_with fail
              go_roundw
              case rel => exact ⟨k + 1, by have := HLT.out; omega, by go_num, p, q, L, x, y, rfl, rfl, HCR.out, PR.out⟩
              case measure => have := HLT.out; simp [intOf] <;> omega
            have hf0 : (actD y o).1 = 0 := by omega
            have HN := Lib.hid (show actD y o = (0, (actD y o).2) from Prod.ext hf0 rfl)
            have HY2 := Lib.hid (HYL.out.act o)
            by_cases hL : 0 < L.toNat
            · have HE := Lib.hid (show actD x o = (0, { (actD y o).2 with cut := true, left := L.toNat - 1 }) by rw [HAL.out, if_neg hf, if_pos hL])
              have zP : (0 : Int) < L := by omega
              have zPd : decide ((0 : Int) < L) = true := decide_eq_true zP
              have zW : IntKind.i64.wrap (L - 1) = L - 1 := by rw [IntKind.wrap_i64]; have := HL.out; omega
              have zG1 : (0 : Int) ≤ L - 1 := by omega
              have zG1d : decide ((0 : Int) ≤ L - 1) = true := decide_eq_true zG1
              have HCR2 := Lib.hid (show CutRel { (actD y o).2 with cut := true, left := L.toNat - 1 } (actD y o).2 (L - 1) from ⟨HY2.out, Or.inl ⟨by have := HL.out; omega, by have := HL.out; omega, by rw [show L.toNat - 1 = (L - 1).toNat by omega]⟩⟩)
              have HGZ := Lib.hid (show ({ (actD y o).2 with cut := true, left := L.toNat - 1 } : Dk).gone = false from HY2.out.gone)
              have HTZ := Lib.hid (show ({ (actD y o).2 with cut := true, left := L.toNat - 1 } : Dk).l = (actD y o).2.l from rfl)
              clear hf hf0 hL zG zGd
              generalize ({ (actD y o).2 with cut := true, left := L.toNat - 1 } : Dk) = x2 at HE HCR2 HGZ HTZ
              generalize (actD y o).2 = y2 at HN HCR2 HTZ
              have HACT := Lib.hid (act_any a0 b0 x o HOP.out.k ⟨HOP.out.n, HOP.out.t, HOP.out.s⟩ W6 PR.out.d)
              rw [HE.out] at HACT
              unfold opV at HACT
              go_wp2_with fail
              refine HACT.out.mono ?_
              rintro z W7 ⟨rfl, h1, h2⟩
              replace HBX := Lib.hid (HBX.out.tn PR.out.d (by have := HOG.out.1.1; omega) h2)
              have HSZ := Lib.hid (Nat.lt_of_lt_of_le HOG.out.2 h2.size)
              replace PR := Lib.hid (PR.out.onD h1 h2)
              clear h1 h2 HACT e0 e1 e2 e3 e4 e5
              obtain ⟨e0, e1, e2, e3, e4, e5⟩ := bx6 HBX.out
              go_wp2_with fail
              refine (up_any p q y _ PR.out.s).mono ?_
              rw [HYL.out.gone]
              rintro z W8 ⟨rfl, hb⟩
              rw [hb]
              clear hb
              go_wp2_with fail
              refine (copy_any p q y _ PR.out.s).mono ?_
              rintro z W9 ⟨r, s, rfl, h1, hr, hs, hb⟩
              have HNR := Lib.hid (show og < r from Nat.lt_of_lt_of_le HSZ.out hr)
              have TR := Lib.hid (PR.out.copy h1 hr hs hb)
              replace HBX := Lib.hid (HBX.out.below hb)
              clear h1 hr hs hb e0 e1 e2 e3 e4 e5 PR
              obtain ⟨e0, e1, e2, e3, e4, e5⟩ := bx6 HBX.out
              have HACT := Lib.hid (act_any r s y o HOP.out.k ⟨HOP.out.n, HOP.out.t, HOP.out.s⟩ W9 TR.out.n)
              rw [HN.out] at HACT
              unfold opV at HACT
              go_wp2_with fail
              refine HACT.out.mono ?_
              rintro z W10 ⟨rfl, h1, h2⟩
              replace HBX := Lib.hid (HBX.out.tn TR.out.n (by have := HNR.out; omega) h2)
              replace TR := Lib.hid (TR.out.onN h1 h2)
              clear h1 h2 HACT e0 e1 e2 e3 e4 e5
              obtain ⟨e0, e1, e2, e3, e4, e5⟩ := bx6 HBX.out
              go_wp2_with fail
              have PR := Lib.hid TR.out.toN
              refine (up_any a0 b0 _ _ PR.out.d).mono ?_
              rw [HGZ.out]
              rintro z W8 ⟨rfl, hb⟩
              rw [hb]
              clear hb
              go_wp2_with fail
              refine (files_any a0 b0 _ _ PR.out.d).mono ?_
              rintro z _ ⟨v, rfl, hv, hb⟩
              obtain ⟨A1, c1, rfl, -, -, hr, -⟩ := hv.row
              have HR1 := Lib.hid hr
              replace PR := Lib.hid (PR.out.below hb)
              clear hv hr hb
              go_wp2_with fail
              refine (files_any r s _ _ PR.out.s).mono ?_
              rintro z _ ⟨v, rfl, hv, hb⟩
              obtain ⟨A2, c2, rfl, -, -, hr, -⟩ := hv.row
              have HR2 := Lib.hid hr
              replace HR1 := Lib.hid (HR1.out.below hb)
              replace PR := Lib.hid (PR.out.below hb)
              clear hv hr hb
              go_wp2_with fail
              refine (rFiles_any A1 A2 c1 c2 _ _ (by rw [told_len]; have := PR.out.d.ok.len; omega) _ HR1.out HR2.out).mono ?_
              rw [decide_eq_true (congrArg told (HTZ.out))]
              rintro z W9 ⟨rfl, nn, hb⟩
              replace PR := Lib.hid (PR.out.below (w' := W9) (by rw [hb]; exact below_dn _ _ _))
              clear hb HR1 HR2
              go_wp2_with fail
              go_roundw
              case rel => exact ⟨k + 1, by have := HLT.out; omega, by go_num, r, s, L - 1, x2, y2, rfl, by go_num, HCR2.out, PR.out⟩
              case measure => have := HLT.out; simp [intOf] <;> omega
            have zP : ¬ (0 : Int) < L := by omega
            have zPd : decide ((0 : Int) < L) = false := decide_eq_false zP
            by_cases hk1 : o.k = 1
            · have HE := Lib.hid (show actD x o = (45, { y with gone := true, cut := true, left := 0, l := (actD y o).2.l }) by rw [HAL.out, if_neg hf, if_neg hL, if_pos hk1])
              have HK1 := Lib.hid (show decide ((o.k : Int) = 1) = true from decide_eq_true (by omega))
              have HCR2 := Lib.hid (show CutRel { y with gone := true, cut := true, left := 0, l := (actD y o).2.l } (actD y o).2 (-1) from ⟨HY2.out, Or.inr ⟨rfl, rfl, rfl, by show y.cap = _; rw [HYL.out.cap, HY2.out.cap]⟩⟩)
              have HGZ := Lib.hid (show ({ y with gone := true, cut := true, left := 0, l := (actD y o).2.l } : Dk).gone = true from rfl)
              have HTZ := Lib.hid (show ({ y with gone := true, cut := true, left := 0, l := (actD y o).2.l } : Dk).l = (actD y o).2.l from rfl)
              clear hf hf0 hL hk1 zG zGd HAL HX HGX HTX
              generalize ({ y with gone := true, cut := true, left := 0, l := (actD y o).2.l } : Dk) = x2 at HE HCR2 HGZ HTZ
              generalize (actD y o).2 = y2 at HN HCR2 HTZ
              have HACT := Lib.hid (act_any a0 b0 x o HOP.out.k ⟨HOP.out.n, HOP.out.t, HOP.out.s⟩ W6 PR.out.d)
              rw [HE.out] at HACT
              unfold opV at HACT
              go_wp2_with fail
              refine HACT.out.mono ?_
              rintro z W7 ⟨rfl, h1, h2⟩
              replace HBX := Lib.hid (HBX.out.tn PR.out.d (by have := HOG.out.1.1; omega) h2)
              have HSZ := Lib.hid (Nat.lt_of_lt_of_le HOG.out.2 h2.size)
              replace PR := Lib.hid (PR.out.onD h1 h2)
              clear h1 h2 HACT e0 e1 e2 e3 e4 e5
              obtain ⟨e0, e1, e2, e3, e4, e5⟩ := bx6 HBX.out
              go_wp2_with fail
              refine (up_any p q y _ PR.out.s).mono ?_
              rw [HYL.out.gone]
              rintro z W8 ⟨rfl, hb⟩
              rw [hb]
              clear hb
              go_wp2_with fail
              refine (copy_any p q y _ PR.out.s).mono ?_
              rintro z W9 ⟨r, s, rfl, h1, hr, hs, hb⟩
              have HNR := Lib.hid (show og < r from Nat.lt_of_lt_of_le HSZ.out hr)
              have TR := Lib.hid (PR.out.copy h1 hr hs hb)
              replace HBX := Lib.hid (HBX.out.below hb)
              clear h1 hr hs hb e0 e1 e2 e3 e4 e5 PR
              obtain ⟨e0, e1, e2, e3, e4, e5⟩ := bx6 HBX.out
              have HACT := Lib.hid (act_any r s y o HOP.out.k ⟨HOP.out.n, HOP.out.t, HOP.out.s⟩ W9 TR.out.n)
              rw [HN.out] at HACT
              unfold opV at HACT
              go_wp2_with fail
              refine HACT.out.mono ?_
              rintro z W10 ⟨rfl, h1, h2⟩
              replace HBX := Lib.hid (HBX.out.tn TR.out.n (by have := HNR.out; omega) h2)
              replace TR := Lib.hid (TR.out.onN h1 h2)
              clear h1 h2 HACT e0 e1 e2 e3 e4 e5
              obtain ⟨e0, e1, e2, e3, e4, e5⟩ := bx6 HBX.out
              have zk1 : (o.k : Int) = 1 := of_decide_eq_true HK1.out
              rw [zk1] at e0
              go_wp2_with fail
              have PR := Lib.hid TR.out.toN
              refine (up_any a0 b0 _ _ PR.out.d).mono ?_
              rw [HGZ.out]
              rintro z W8 ⟨rfl, hb⟩
              rw [hb]
              clear hb
              go_wp2_with fail
              refine (files_any a0 b0 _ _ PR.out.d).mono ?_
              rintro z _ ⟨v, rfl, hv, hb⟩
              obtain ⟨A1, c1, rfl, -, -, hr, -⟩ := hv.row
              have HR1 := Lib.hid hr
              replace PR := Lib.hid (PR.out.below hb)
              clear hv hr hb
              go_wp2_with fail
              refine (files_any r s _ _ PR.out.s).mono ?_
              rintro z _ ⟨v, rfl, hv, hb⟩
              obtain ⟨A2, c2, rfl, -, -, hr, -⟩ := hv.row
              have HR2 := Lib.hid hr
              replace HR1 := Lib.hid (HR1.out.below hb)
              replace PR := Lib.hid (PR.out.below hb)
              clear hv hr hb
              go_wp2_with fail
              refine (rFiles_any A1 A2 c1 c2 _ _ (by rw [told_len]; have := PR.out.d.ok.len; omega) _ HR1.out HR2.out).mono ?_
              rw [decide_eq_true (congrArg told (HTZ.out))]
              rintro z W9 ⟨rfl, nn, hb⟩
              replace PR := Lib.hid (PR.out.below (w' := W9) (by rw [hb]; exact below_dn _ _ _))
              clear hb HR1 HR2
              go_wp2_with fail
              go_roundw
              case rel => exact ⟨k + 1, by have := HLT.out; omega, by go_num, r, s, -1, x2, y2, rfl, by go_num, HCR2.out, PR.out⟩
              case measure => have := HLT.out; simp [intOf] <;> omega
            · have HE := Lib.hid (show actD x o = (45, { y with gone := true, cut := true, left := 0, l := y.l }) by rw [HAL.out, if_neg hf, if_neg hL, if_neg hk1])
              have HK1 := Lib.hid (show decide ((o.k : Int) = 1) = false from decide_eq_false (by omega))
              have HCR2 := Lib.hid (show CutRel { y with gone := true, cut := true, left := 0, l := y.l } y (-1) from ⟨HYL.out, Or.inr ⟨rfl, rfl, rfl, rfl⟩⟩)
              have HGZ := Lib.hid (show ({ y with gone := true, cut := true, left := 0, l := y.l } : Dk).gone = true from rfl)
              have HTZ := Lib.hid (show ({ y with gone := true, cut := true, left := 0, l := y.l } : Dk).l = y.l from rfl)
              clear hf hf0 hL hk1 zG zGd HAL HX HGX HTX
              generalize ({ y with gone := true, cut := true, left := 0, l := y.l } : Dk) = x2 at HE HCR2 HGZ HTZ
              generalize (actD y o).2 = y2 at HN
              have HACT := Lib.hid (act_any a0 b0 x o HOP.out.k ⟨HOP.out.n, HOP.out.t, HOP.out.s⟩ W6 PR.out.d)
              rw [HE.out] at HACT
              unfold opV at HACT
              go_wp2_with fail
              refine HACT.out.mono ?_
              rintro z W7 ⟨rfl, h1, h2⟩
              replace HBX := Lib.hid (HBX.out.tn PR.out.d (by have := HOG.out.1.1; omega) h2)
              have HSZ := Lib.hid (Nat.lt_of_lt_of_le HOG.out.2 h2.size)
              replace PR := Lib.hid (PR.out.onD h1 h2)
              clear h1 h2 HACT e0 e1 e2 e3 e4 e5
              obtain ⟨e0, e1, e2, e3, e4, e5⟩ := bx6 HBX.out
              go_wp2_with fail
              refine (up_any p q y _ PR.out.s).mono ?_
              rw [HYL.out.gone]
              rintro z W8 ⟨rfl, hb⟩
              rw [hb]
              clear hb
              go_wp2_with fail
              refine (copy_any p q y _ PR.out.s).mono ?_
              rintro z W9 ⟨r, s, rfl, h1, hr, hs, hb⟩
              have HNR := Lib.hid (show og < r from Nat.lt_of_lt_of_le HSZ.out hr)
              have TR := Lib.hid (PR.out.copy h1 hr hs hb)
              replace HBX := Lib.hid (HBX.out.below hb)
              clear h1 hr hs hb e0 e1 e2 e3 e4 e5 PR
              obtain ⟨e0, e1, e2, e3, e4, e5⟩ := bx6 HBX.out
              have HACT := Lib.hid (act_any r s y o HOP.out.k ⟨HOP.out.n, HOP.out.t, HOP.out.s⟩ W9 TR.out.n)
              rw [HN.out] at HACT
              unfold opV at HACT
              go_wp2_with fail
              refine HACT.out.mono ?_
              rintro z W10 ⟨rfl, h1, h2⟩
              replace HBX := Lib.hid (HBX.out.tn TR.out.n (by have := HNR.out; omega) h2)
              replace TR := Lib.hid (TR.out.onN h1 h2)
              clear h1 h2 HACT e0 e1 e2 e3 e4 e5
              obtain ⟨e0, e1, e2, e3, e4, e5⟩ := bx6 HBX.out
              have zk1d := HK1.out
              have zk1 : ¬ (o.k : Int) = 1 := of_decide_eq_false zk1d
              go_wp2_with fail
              have PR := Lib.hid TR.out.toS
              refine (up_any a0 b0 _ _ PR.out.d).mono ?_
              rw [HGZ.out]
              rintro z W8 ⟨rfl, hb⟩
              rw [hb]
              clear hb
              go_wp2_with fail
              refine (files_any a0 b0 _ _ PR.out.d).mono ?_
              rintro z _ ⟨v, rfl, hv, hb⟩
              obtain ⟨A1, c1, rfl, -, -, hr, -⟩ := hv.row
              have HR1 := Lib.hid hr
              replace PR := Lib.hid (PR.out.below hb)
              clear hv hr hb
              go_wp2_with fail
              refine (files_any p q _ _ PR.out.s).mono ?_
              rintro z _ ⟨v, rfl, hv, hb⟩
              obtain ⟨A2, c2, rfl, -, -, hr, -⟩ := hv.row
              have HR2 := Lib.hid hr
              replace HR1 := Lib.hid (HR1.out.below hb)
              replace PR := Lib.hid (PR.out.below hb)
              clear hv hr hb
              go_wp2_with fail
              refine (rFiles_any A1 A2 c1 c2 _ _ (by rw [told_len]; have := PR.out.d.ok.len; omega) _ HR1.out HR2.out).mono ?_
              rw [decide_eq_true (congrArg told (HTZ.out))]
              rintro z W9 ⟨rfl, nn, hb⟩
              replace PR := Lib.hid (PR.out.below (w' := W9) (by rw [hb]; exact below_dn _ _ _))
              clear hb HR1 HR2
              go_wp2_with fail
              go_roundw
              case rel => exact ⟨k + 1, by have := HLT.out; omega, by go_num, p, q, -1, x2, y, rfl, by go_num, HCR2.out, PR.out⟩
              case measure => have := HLT.out; simp [intOf] <;> omega
        · obtain rfl : k = ys.length := by omega
          have z1 : ¬ ((ys.length : Nat) : Int) < (ys.length : Int) := by omega
          have HCN := Lib.hid (crash_rel HCR.out)
          go_wp2_with fail
          refine (crash_any a0 b0 x none 0 [] (Nat.le_refl _) (Nat.zero_le _) _ PR.out.d (fun i hi => absurd hi (Nat.not_lt_zero _))).mono ?_
          rintro z _ ⟨rfl, h1, h2⟩
          replace PR := Lib.hid (PR.out.onD h1 h2)
          clear h1 h2
          go_wp2_with fail
          refine (crash_any p q y none 0 [] (Nat.le_refl _) (Nat.zero_le _) _ PR.out.s (fun i hi => absurd hi (Nat.not_lt_zero _))).mono ?_
          rintro z _ ⟨rfl, h1, h2⟩
          replace PR := Lib.hid (PR.out.onS h1 h2)
          clear h1 h2
          go_wp2_with fail
          refine (up_any a0 b0 _ _ PR.out.d).mono ?_
          rw [show (!(crashD x []).gone) = true from rfl]
          rintro z _ ⟨rfl, hb⟩
          rw [hb]
          clear hb
          go_wp2_with fail
          refine (same_any a0 b0 p q _ _ _ PR.out.d PR.out.s).mono ?_
          rw [HCN.out, sameD_self]
          rintro z _ ⟨rfl, hb⟩
          replace PR := Lib.hid (PR.out.below hb)
          clear hb
          go_wp2_with fail
          go_ret
          exact ⟨rfl, PR.out.low⟩
end Go.Proofs.Ytddjoealckhepaa.Disk
