import Derived.Test.YtddjoealckhepaaY
import Derived.Deep.DeepCutAuto
/-
  The law on copies walks.
-/
namespace Go.Proofs.Ytddjoealckhepaa.Disk
open Go Go.RowKit Go.Maps Go.Shelf Go.Proofs

/-- what a law comes to -/
def Yes (w : World) (z : Ending) (w' : World) : Prop := z = .returned (.bool true) ∧ Below w.heap.size w w'

set_option maxRecDepth 100000 in
set_option maxHeartbeats 8000000 in
theorem copies_any (A B : Option Addr) (ca cb : Nat) (xs ys : List OpX) (n : Int) (hn : -9223372036854775808 ≤ n ∧ n ≤ 9223372036854775807) (hx : xs.length ≤ maxLen) (hy : ys.length ≤ maxLen) (w : World) (h1 : Ops w A xs) (h2 : Ops w B ys) :
    Calls Try.prog 10 #[.slice A xs.length ca, .slice B ys.length cb, .int .i64 n] w (Yes w) := by
  have hmx : Try.prog.follows .mixedOrders = true := by kernel_rfl
  have HX := Lib.hid h1
  have HY := Lib.hid h2
  have HLX := Lib.hid hx
  have HLY := Lib.hid hy
  have HN := Lib.hid hn
  have HA := Lib.hid (long_any A ca xs w h1)
  have HB := Lib.hid (long_any B cb ys w h2)
  clear h1 h2 hx hy hn
  go_enter Try.func10, Try.ntmps10
  go_wp2_with fail
  refine HA.out.mono ?_
  rintro z W1 ⟨b1, rfl, hb1, hw⟩
  rw [hw]
  clear hw
  cases b1 with
  | true =>
    clear hb1
    go_wp2_with fail
    refine (awake_any _).mono ?_
    rintro z W2 ⟨rfl, hb⟩
    have H2 := Lib.hid hb
    clear hb
    go_wp2_with fail
    go_ret
    exact ⟨rfl, H2.out⟩
  | false =>
  clear hb1
  go_wp2_with fail
  refine HB.out.mono ?_
  rintro z W2 ⟨b2, rfl, hb2, hw⟩
  rw [hw]
  clear hw
  cases b2 with
  | true =>
    clear hb2
    go_wp2_with fail
    refine (awake_any _).mono ?_
    rintro z W2 ⟨rfl, hb⟩
    have H2 := Lib.hid hb
    clear hb
    go_wp2_with fail
    go_ret
    exact ⟨rfl, H2.out⟩
  | false =>
  clear hb2
  go_wp2_with fail
  refine (awake_any _).mono ?_
  rintro z W2 ⟨rfl, hb⟩
  have H2 := Lib.hid hb
  clear hb
  go_wp2_with fail
  refine (small_any 5000 (by decide) (by decide) _).mono ?_
  rintro z W3 ⟨a0, b0, rfl, hd, ha, hb, hbl⟩
  have HD := Lib.hid hd
  have HL := Lib.hid (show w.heap.size ≤ a0 ∧ w.heap.size ≤ b0 from ⟨Nat.le_trans H2.out.size ha, Nat.le_trans H2.out.size hb⟩)
  have H3 := Lib.hid (below_step H2.out hbl)
  clear hd ha hb hbl H2 HA HB
  go_wp2_with fail
  go_loopw [8] (fun i wr => ∃ k : Nat, k ≤ xs.length ∧ i = .int .i64 (k : Int) ∧ ∃ d : Dk, d.live 5000 ∧ DkAt wr a0 b0 d ∧ Below w.heap.size w wr) (fun i _ => xs.length - (intOf i).toNat)
  case atStart => exact ⟨0, Nat.zero_le _, rfl, _, ⟨rfl, rfl, rfl, rfl⟩, HD.out, H3.out⟩
  case round =>
    obtain ⟨k, hk, rfl, d, hl, hd, hb⟩ := hrel
    have HV := Lib.hid hl
    replace HD := Lib.hid hd
    replace H3 := Lib.hid hb
    clear hl hd hb
    by_cases hlt : k < xs.length
    · obtain ⟨nb, no, rfl, hb1, hop, c0, c1, c2, c3, c4, c5⟩ := (HX.out.below H3.out) k hlt
      have z0 : (0 : Int) ≤ (k : Int) := by omega
      have z1 : (k : Int) < (xs.length : Int) := by omega
      have zk : IntKind.i64.wrap ((k : Int) + 1) = (k : Int) + 1 := by rw [IntKind.wrap_i64]; have := HLX.out; unfold maxLen at this; omega
      have HLT := Lib.hid hlt
      have HOP := Lib.hid hop
      clear hop hb1
      generalize xs[k] = x at c0 c1 c2 c3 c4 c5 HOP
      by_cases q : x.k ≤ 5
      · have q5 : (x.k : Int) ≤ 5 := by omega
        have q5d : decide ((x.k : Int) ≤ 5) = true := decide_eq_true q5
        have HACT := Lib.hid (act_any a0 b0 d x HOP.out.k ⟨HOP.out.n, HOP.out.t, HOP.out.s⟩ wr HD.out)
        unfold opV at HACT
        clear q
        go_wp2_with fail
        refine HACT.out.mono ?_
        rintro z W4 ⟨rfl, h4, h5⟩
        have H4 := Lib.hid h4
        have H5 := Lib.hid (H3.out.trans (h5.low H3.out.size HL.out.1 HL.out.2))
        clear h4 h5
        go_wp2_with fail
        go_roundw
        case rel => exact ⟨k + 1, by have := HLT.out; omega, by go_num, _, HV.out.act x, H4.out, H5.out⟩
        case measure => have := HLT.out; simp [intOf] <;> omega
      · have q5 : ¬ (x.k : Int) ≤ 5 := by omega
        have q5d : decide ((x.k : Int) ≤ 5) = false := decide_eq_false q5
        clear q
        go_wp2_with fail
        go_roundw
        case rel => exact ⟨k + 1, by have := HLT.out; omega, by go_num, _, HV.out, HD.out, H3.out⟩
        case measure => have := HLT.out; simp [intOf] <;> omega
    · obtain rfl : k = xs.length := by omega
      have z1 : ¬ ((xs.length : Nat) : Int) < (xs.length : Int) := by omega
      clear z1 HX HLX hk
      go_wp2_with fail
      refine (files_any a0 b0 d _ HD.out).mono ?_
      rintro z W4 ⟨v, rfl, hv, hb⟩
      obtain ⟨A1, c1, rfl, -, -, hr, -⟩ := hv.row
      have HR := Lib.hid hr
      replace HD := Lib.hid (HD.out.below hb)
      replace H3 := Lib.hid (below_step H3.out hb)
      clear hv hr hb
      go_wp2_with fail
      refine (load_any 5000 (by decide) A1 c1 (told d.l) (by rw [told_len]; have := HD.out.ok.len; omega) (told_short HD.out.ok) _ HR.out).mono ?_
      rintro z W5 ⟨-, h5, hb⟩
      obtain ⟨a1, b1, rfl, hd1, ha1, hb1⟩ := h5 (told_load HD.out.ok (by decide) (by have := HV.out.cap; omega))
      rw [show ((5000 : Int).toNat) = 5000 from rfl, HV.out.load HD.out.ok] at hd1
      have HS := Lib.hid hd1
      have HLS := Lib.hid (show w.heap.size ≤ a1 ∧ w.heap.size ≤ b1 from ⟨Nat.le_trans H3.out.size ha1, Nat.le_trans H3.out.size hb1⟩)
      have HNS := Lib.hid (show a0 < a1 ∧ b0 < b1 from ⟨Nat.lt_of_lt_of_le HD.out.lt.1 ha1, Nat.lt_of_lt_of_le HD.out.lt.2 hb1⟩)
      replace HD := Lib.hid (HD.out.below hb)
      replace H3 := Lib.hid (below_step H3.out hb)
      clear h5 hb hd1 ha1 hb1 HR
      go_wp2_with fail
      refine (same_any a0 b0 a1 b1 d d _ HD.out HS.out).mono ?_
      rw [sameD_self]
      rintro z W6 ⟨rfl, hb⟩
      replace HD := Lib.hid (HD.out.below hb)
      replace HS := Lib.hid (HS.out.below hb)
      replace H3 := Lib.hid (below_step H3.out hb)
      clear hb
      go_wp2_with fail
      refine (same_any a1 b1 a0 b0 d d _ HS.out HD.out).mono ?_
      rw [sameD_self]
      rintro z W7 ⟨rfl, hb⟩
      replace HD := Lib.hid (HD.out.below hb)
      replace HS := Lib.hid (HS.out.below hb)
      replace H3 := Lib.hid (below_step H3.out hb)
      clear hb
      go_wp2_with fail
      refine (files_any a0 b0 d _ HD.out).mono ?_
      rintro z W8 ⟨v, rfl, hv, hb⟩
      obtain ⟨A2, c2, rfl, -, -, hr, -⟩ := hv.row
      have HR := Lib.hid hr
      replace HD := Lib.hid (HD.out.below hb)
      replace HS := Lib.hid (HS.out.below hb)
      replace H3 := Lib.hid (below_step H3.out hb)
      clear hv hr hb
      go_wp2_with fail
      refine (load_any 5001 (by decide) A2 c2 (told d.l) (by rw [told_len]; have := HD.out.ok.len; omega) (told_short HD.out.ok) _ HR.out).mono ?_
      rintro z W9 ⟨-, h5, hb⟩
      obtain ⟨a2, b2, rfl, hd2, -, -⟩ := h5 (told_load HD.out.ok (by decide) (by have := HV.out.cap; omega))
      have HO := Lib.hid hd2
      replace HD := Lib.hid (HD.out.below hb)
      replace HS := Lib.hid (HS.out.below hb)
      replace H3 := Lib.hid (below_step H3.out hb)
      have HNE := Lib.hid (show sameD d ⟨(5001 : Int).toNat, fileL (told d.l), false, false, 0⟩ = false by
        have hc := HV.out.cap
        unfold sameD
        rw [decide_eq_false (show ¬ d.cap = (5001 : Int).toNat by rw [hc]; decide)]; rfl)
      clear h5 hb hd2 HR
      go_wp2_with fail
      refine (same_any a0 b0 a2 b2 d _ _ HD.out HO.out).mono ?_
      rw [HNE.out]
      rintro z W10 ⟨rfl, hb⟩
      replace HD := Lib.hid (HD.out.below hb)
      replace HS := Lib.hid (HS.out.below hb)
      replace H3 := Lib.hid (below_step H3.out hb)
      clear hb HNE HO
      go_upto_region 15 with (fail)
      go_cut [96] (fun t w' => t = .bool false ∧ ∃ e : Dk, Hid (e.gone = false) ∧ Hid (DkAt w' a0 b0 e) ∧ Hid (DkAt w' a1 b1 e) ∧ Hid (Below w.heap.size w w'))
      case first =>
        by_cases hn : 0 ≤ n
        · have hnd : decide (0 ≤ n) = true := decide_eq_true hn
          have HC := Lib.hid (show cutD d n = (0, { d with gone := false, cut := true, left := n.toNat }) by
            unfold cutD; rw [HV.out.gone]; simp only [Bool.false_eq_true, if_false]; rw [if_neg (by omega)])
          have HE := Lib.hid (show sameD { d with gone := false, cut := true, left := n.toNat } d = false by
            unfold sameD powB
            rw [decide_eq_false (show ¬ (false = d.gone ∧ true = d.cut ∧ n.toNat = d.left) from fun h => by rw [HV.out.cut] at h; exact absurd h.2.1 (by decide)), Bool.and_false, Bool.false_and])
          go_wp2_with fail
          refine (cut_any a0 b0 d n HN.out.2 _ HD.out).mono ?_
          rw [HC.out]
          rintro z W11 ⟨rfl, h1, h2⟩
          replace HS := Lib.hid (HS.out.tn HD.out h2 (by have := HNS.out.1; omega) (by have := HNS.out.2; omega))
          replace HD := Lib.hid h1
          replace H3 := Lib.hid (H3.out.trans (h2.low H3.out.size HL.out.1 HL.out.2))
          clear h1 h2
          go_wp2_with fail
          refine (same_any a0 b0 a1 b1 _ _ _ HD.out HS.out).mono ?_
          rw [HE.out]
          rintro z W12 ⟨rfl, hb⟩
          replace HD := Lib.hid (HD.out.below hb)
          replace HS := Lib.hid (HS.out.below hb)
          replace H3 := Lib.hid (below_step H3.out hb)
          clear hb
          go_wp2_with fail
          refine (cut_any a1 b1 d n HN.out.2 _ HS.out).mono ?_
          rw [HC.out]
          rintro z W11 ⟨rfl, h1, h2⟩
          replace HD := Lib.hid (HD.out.tn HS.out h2 (by have := HNS.out.1; omega) (by have := HNS.out.2; omega))
          replace HS := Lib.hid h1
          replace H3 := Lib.hid (H3.out.trans (h2.low H3.out.size HLS.out.1 HLS.out.2))
          clear h1 h2
          go_wp2_with fail
          go_meet
          exact ⟨rfl, _, Lib.hid rfl, HD, HS, H3⟩
        · have hnd : decide (0 ≤ n) = false := decide_eq_false hn
          go_wp2_with fail
          go_meet
          exact ⟨rfl, d, Lib.hid HV.out.gone, HD, HS, H3⟩
      case rest =>
        obtain ⟨rfl, e, HG, HD, HS, H3⟩ := hcut
        go_wp2_with fail
        refine (copy_any a0 b0 e _ HD.out).mono ?_
        rintro z W13 ⟨a3, b3, rfl, h1, ha3, hb3, hb⟩
        have HC := Lib.hid h1
        have HN3 := Lib.hid (show (a0 < a3 ∧ b0 < b3 ∧ a1 < a3 ∧ b1 < b3) ∧ w.heap.size ≤ a3 ∧ w.heap.size ≤ b3 from ⟨⟨Nat.lt_of_lt_of_le HD.out.lt.1 ha3, Nat.lt_of_lt_of_le HD.out.lt.2 hb3, Nat.lt_of_lt_of_le HS.out.lt.1 ha3, Nat.lt_of_lt_of_le HS.out.lt.2 hb3⟩, Nat.le_trans H3.out.size ha3, Nat.le_trans H3.out.size hb3⟩)
        replace HD := Lib.hid (HD.out.below hb)
        replace HS := Lib.hid (HS.out.below hb)
        replace H3 := Lib.hid (below_step H3.out hb)
        clear h1 ha3 hb3 hb
        go_wp2_with fail
        refine (files_any a0 b0 e _ HD.out).mono ?_
        rintro z W14 ⟨v, rfl, hv, hb⟩
        obtain ⟨A3, c3, rfl, -, -, hr, hq⟩ := hv.row
        have HNB := Lib.hid (show Nb w.heap.size a0 b0 a1 b1 a3 b3 A3 from
          ⟨⟨HL.out.1, HL.out.2, HLS.out.1, HLS.out.2, HN3.out.2.1, HN3.out.2.2⟩,
           ⟨by have := HNS.out.1; omega, by have := HNS.out.2; omega, by have := HN3.out.1.1; omega, by have := HN3.out.1.2.1; omega, by have := HN3.out.1.2.2.1; omega, by have := HN3.out.1.2.2.2; omega⟩,
           fun q e => by
            have k := hq q e
            have k1 := HS.out.lt
            have k2 := HC.out.lt
            exact ⟨⟨by omega, by omega⟩, by omega, by omega⟩⟩)
        have HF := Lib.hid (show Fx w a0 b0 a1 b1 a3 b3 A3 e W14 e e from ⟨below_step H3.out hb, HD.out.below hb, HC.out.below hb, HS.out.below hb, hr⟩)
        have HTL := Lib.hid (show (told e.l).length ≤ 1000000000 by rw [told_len]; have := HD.out.ok.len; omega)
        clear hv hr hb hq HD HC HS H3
        go_wp2_with fail
        go_loopw [14] (fun i wr => ∃ k : Nat, k ≤ ys.length ∧ i = .int .i64 (k : Int) ∧ ∃ x : Dk, Fx w a0 b0 a1 b1 a3 b3 A3 e wr x x) (fun i _ => ys.length - (intOf i).toNat)
        case atStart => exact ⟨0, Nat.zero_le _, rfl, e, HF.out⟩
        case round =>
          obtain ⟨k, hk, rfl, x, hf⟩ := hrel
          replace HF := Lib.hid hf
          clear hf
          by_cases hlt : k < ys.length
          · have z0 : (0 : Int) ≤ (k : Int) := by omega
            have z1 : (k : Int) < (ys.length : Int) := by omega
            have zk : IntKind.i64.wrap ((k : Int) + 1) = (k : Int) + 1 := by rw [IntKind.wrap_i64]; have := HLY.out; unfold maxLen at this; omega
            have HLT := Lib.hid hlt
            clear hlt
            go_wp2_with fail
            refine (same_any a3 b3 a1 b1 _ _ _ HF.out.c HF.out.s).mono ?_
            rw [sameD_self]
            rintro z W15 ⟨rfl, hb⟩
            replace HF := Lib.hid (HF.out.below hb)
            clear hb
            obtain ⟨nb, no, rfl, hb1, hop, d0, d1, d2, d3, d4, d5⟩ := HY.out k HLT.out
            have HOP := Lib.hid hop
            clear hop
            generalize ys[k]'HLT.out = u at d0 d1 d2 d3 d4 d5 HOP
            have HCE : Hid (∀ w' : World, Below w.heap.size w w' → w'.cell? ⟨nb, no + k * 6, none⟩ = some (.int .u8 (u.k : Int)) ∧ w'.cell? ⟨nb, no + k * 6 + 1, none⟩ = some (.string (S u.n)) ∧ w'.cell? ⟨nb, no + k * 6 + 2, none⟩ = some (.string (S u.t)) ∧ w'.cell? ⟨nb, no + k * 6 + 3, none⟩ = some (.string (S u.s)) ∧ w'.cell? ⟨nb, no + k * 6 + 4, none⟩ = some (.int .i64 u.m) ∧ w'.cell? ⟨nb, no + k * 6 + 5, none⟩ = some (.slice u.K u.ks.length u.c)) := fun w' hb => ⟨(hb.cell hb1).trans d0, (hb.cell hb1).trans d1, (hb.cell hb1).trans d2, (hb.cell hb1).trans d3, (hb.cell hb1).trans d4, (hb.cell hb1).trans d5⟩
            clear d0 d1 d2 d3 d4 d5 hb1
            obtain ⟨c0, c1, c2, c3, c4, c5⟩ := HCE.out _ HF.out.low
            by_cases q : 5 < u.k
            · have q5 : (5 : Int) < (u.k : Int) := by omega
              have q5d : decide ((5 : Int) < (u.k : Int)) = true := decide_eq_true q5
              clear q
              go_wp2_with fail
              go_roundw
              case rel => exact ⟨k + 1, by have := HLT.out; omega, by go_num, x, HF.out⟩
              case measure => have := HLT.out; simp [intOf] <;> omega
            · have q5 : ¬ (5 : Int) < (u.k : Int) := by omega
              have q5d : decide ((5 : Int) < (u.k : Int)) = false := decide_eq_false q5
              clear q
              have HAC : Hid (∀ (W : World) (p r : Dk), Fx w a0 b0 a1 b1 a3 b3 A3 e W p r → Calls Try.prog 41 #[.agg #[.int .u8 (u.k : Int), .string (S u.n), .string (S u.t), .string (S u.s), .int .i64 u.m, .slice u.K u.ks.length u.c], .pointer (some ⟨a3, 0, none⟩)] W fun z w' => z = .returned (.int .i64 ((actD p u).1 : Int)) ∧ Fx w a0 b0 a1 b1 a3 b3 A3 e w' (actD p u).2 r) := fun W p r hf =>
                (act_any a3 b3 p u HOP.out.k ⟨HOP.out.n, HOP.out.t, HOP.out.s⟩ W hf.c).mono fun z w' h => ⟨h.1, hf.onC HNB.out h.2.1 h.2.2⟩
              have HAS : Hid (∀ (W : World) (p r : Dk), Fx w a0 b0 a1 b1 a3 b3 A3 e W p r → Calls Try.prog 41 #[.agg #[.int .u8 (u.k : Int), .string (S u.n), .string (S u.t), .string (S u.s), .int .i64 u.m, .slice u.K u.ks.length u.c], .pointer (some ⟨a1, 0, none⟩)] W fun z w' => z = .returned (.int .i64 ((actD r u).1 : Int)) ∧ Fx w a0 b0 a1 b1 a3 b3 A3 e w' p (actD r u).2) := fun W p r hf =>
                (act_any a1 b1 r u HOP.out.k ⟨HOP.out.n, HOP.out.t, HOP.out.s⟩ W hf.s).mono fun z w' h => ⟨h.1, hf.onS HNB.out h.2.1 h.2.2⟩
              go_upto_region 23 with (fail)
              have g0 := HF.out.same 1 (w' := W15.drew) rfl
              obtain ⟨p0, p1, p2, p3, p4, p5⟩ := HCE.out _ g0.low
              go_cut [131] (fun t w' => t = .bool false ∧ Hid (Fx w a0 b0 a1 b1 a3 b3 A3 e w' (actD x u).2 (actD x u).2))
              case first =>
                go_region_held3 (fun w' => w'.cell? ⟨nb, no + k * 6, none⟩ = some (.int .u8 (u.k : Int)) ∧ w'.cell? ⟨nb, no + k * 6 + 1, none⟩ = some (.string (S u.n)) ∧ w'.cell? ⟨nb, no + k * 6 + 2, none⟩ = some (.string (S u.t)) ∧ w'.cell? ⟨nb, no + k * 6 + 3, none⟩ = some (.string (S u.s)) ∧ w'.cell? ⟨nb, no + k * 6 + 4, none⟩ = some (.int .i64 u.m) ∧ w'.cell? ⟨nb, no + k * 6 + 5, none⟩ = some (.slice u.K u.ks.length u.c))
                  (first | assumption | (refine ⟨?_, ?_, ?_, ?_, ?_, ?_⟩ <;> assumption))
                  ((first
                    | (go_at_call 41; (with_reducible refine (HAC.out _ _ _ (by assumption)).mono ?_); rintro z w' ⟨rfl, hf⟩; obtain ⟨k0, k1, k2, k3, k4, k5⟩ := HCE.out w' hf.low)
                    | (go_at_call 41; (with_reducible refine (HAS.out _ _ _ (by assumption)).mono ?_); rintro z w' ⟨rfl, hf⟩; obtain ⟨k0, k1, k2, k3, k4, k5⟩ := HCE.out w' hf.low)))
                all_goals
                  have HZ := Lib.hid (show Fx w a0 b0 a1 b1 a3 b3 A3 e _ (actD x u).2 (actD x u).2 by assumption)
                  clear g0 p0 p1 p2 p3 p4 p5 c0 c1 c2 c3 c4 c5
                  go_wp2_with fail
                  go_meet
                  exact ⟨by simp, HZ⟩
              case rest =>
                obtain ⟨rfl, HZ⟩ := hcut
                clear g0 p0 p1 p2 p3 p4 p5 c0 c1 c2 c3 c4 c5
                go_wp2_with fail
                go_roundw
                case rel => exact ⟨k + 1, by have := HLT.out; omega, by go_num, _, HZ.out⟩
                case measure => have := HLT.out; simp [intOf] <;> omega
          · obtain rfl : k = ys.length := by omega
            have z1 : ¬ ((ys.length : Nat) : Int) < (ys.length : Int) := by omega
            go_wp2_with fail
            refine (same_any a3 b3 a1 b1 _ _ _ HF.out.c HF.out.s).mono ?_
            rw [sameD_self]
            rintro z W15 ⟨rfl, hb⟩
            replace HF := Lib.hid (HF.out.below hb)
            clear hb
            go_wp2_with fail
            refine (files_any a0 b0 e _ HF.out.d).mono ?_
            rintro z W16 ⟨v, rfl, hv, hb⟩
            obtain ⟨A4, c4, rfl, -, -, hr, -⟩ := hv.row
            have HR := Lib.hid hr
            replace HF := Lib.hid (HF.out.below hb)
            clear hb hr hv
            go_wp2_with fail
            refine (rFiles_any A4 A3 c4 c3 _ _ HTL.out _ HR.out HF.out.f).mono ?_
            rw [decide_eq_true rfl]
            rintro z W17 ⟨rfl, nn, hb⟩
            replace HF := Lib.hid (HF.out.same nn hb)
            clear hb
            go_wp2_with fail
            refine (up_any a0 b0 e _ HF.out.d).mono ?_
            rw [HG.out]
            rintro z W18 ⟨rfl, hb⟩
            rw [hb]
            clear hb
            go_wp2_with fail
            go_ret
            exact ⟨rfl, HF.out.low⟩
end Go.Proofs.Ytddjoealckhepaa.Disk
