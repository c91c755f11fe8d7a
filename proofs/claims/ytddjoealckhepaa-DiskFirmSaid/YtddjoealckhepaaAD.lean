import Derived.Test.YtddjoealckhepaaAC
import Derived.Test.YtddjoealckhepaaAB
import Derived.Laws.MakeOwn
import Derived.Deep.DeepCutAuto
/-
  The law on room (DiskRoom).
-/
namespace Go.Proofs.Ytddjoealckhepaa.Disk
open Go Go.RowKit Go.Maps Go.Shelf Go.Proofs

def mk8 (n : Nat) : Array Value := madeCells #[.int .u8 0] n
theorem info8 : (Try.prog.info? 5).map (fun i => (i.zero, i.size, i.bytes)) = some (some (.int .u8 0), 1, 1) := by kernel_rfl
theorem run_mk8 (n : Nat) (hn : n ≤ 1000000) (W : World) : (Instr.makeSlice 23 (.int .i64 (n : Int)) (.int .i64 (n : Int))).run Try.prog W = .ok (.slice (some ⟨W.heap.size, 0, none⟩) n n) (W.alloc (.cells (mk8 n) 5)) := by
  obtain ⟨i0, hi, hz0, hz1, hz2⟩ := info_parts info8
  have h := run_make (P := Try.prog) W 23 5 i0 (.int .u8 0) Try.underlying23 hi hz0 .i64 .i64 (n : Int) (n : Int) (by omega) (by omega) (by rw [hz2]; omega) (by omega)
  rw [hz1, Int.toNat_natCast, Nat.mul_one] at h
  exact h
theorem conv_mk8 (n : Nat) (W : World) : (convert 23 9 (.slice (some ⟨W.heap.size, 0, none⟩) n n)).run Try.prog (W.alloc (.cells (mk8 n) 5)) = .ok (.string (S (List.replicate n 0))) (W.alloc (.cells (mk8 n) 5)) := by
  have h := run_convert_bytes_back (P := Try.prog) (W.alloc (.cells (mk8 n) 5)) 23 9 5 ⟨W.heap.size, 0, none⟩ n (List.replicate n 0) Try.underlying23 Try.underlying5 Try.underlying9 (fun j hj => by
    rw [List.length_replicate] at hj
    have hb := (bx_new W (mk8 n) 5).cell j
    rw [addr_add0, hb]
    have hs : j < (mk8 n).size := by unfold mk8; rw [size_madeCells]; exact hj
    rw [Array.getElem?_eq_getElem hs]
    simp [mk8, madeCells, Nat.mod_one])
  rw [List.length_replicate] at h
  exact h
theorem told_at {l : List (Nm × F)} (j : Nat) (hj : j < (told l).length) : (told l)[j] = tell (l[j]'(by rwa [told_len] at hj)) := by simp [told]

set_option maxRecDepth 100000 in
set_option maxHeartbeats 8000000 in
theorem room_law (A : Option Addr) (ca : Nat) (xs : List OpX) (n : Int) (hn : -9223372036854775808 ≤ n ∧ n ≤ 9223372036854775807) (hx : xs.length ≤ maxLen) (w : World) (h1 : Ops w A xs) :
    Calls Try.prog 9 #[.int .i64 n, .slice A xs.length ca] w (Yes w) := by
  have hmx : Try.prog.follows .mixedOrders = true := by kernel_rfl
  have HX := Lib.hid h1
  have HLX := Lib.hid hx
  have HN := Lib.hid hn
  have HA := Lib.hid (long_any A ca xs w h1)
  clear h1 hx hn
  go_enter Try.func9, Try.ntmps9
  go_wp2_with fail
  refine HA.out.mono ?_
  rintro z W1 ⟨b1, rfl, hb1, hw⟩
  rw [hw]
  clear hw
  cases b1 with
  | true =>
    clear hb1
    go_wp2_with fail
    refine (awake_any _).mono ?_
    rintro z W2 ⟨rfl, hb⟩
    have H2 := Lib.hid hb
    clear hb
    go_wp2_with fail
    go_ret
    exact ⟨rfl, H2.out⟩
  | false =>
  clear hb1
  go_wp2_with fail
  refine (awake_any _).mono ?_
  rintro z W2 ⟨rfl, hb⟩
  have H2 := Lib.hid hb
  clear hb
  go_wp2_with fail
  have hLb : 0 ≤ wrap64 ((IntKind.u64.wrap n).tmod 3000) ∧ wrap64 ((IntKind.u64.wrap n).tmod 3000) ≤ 2999 := by
    have h1 : 0 ≤ IntKind.u64.wrap n := by rw [IntKind.wrap_u64]; omega
    rw [Int.tmod_eq_emod_of_nonneg h1]
    unfold wrap64
    omega
  generalize wrap64 ((IntKind.u64.wrap n).tmod 3000) = L0 at hLb ⊢
  obtain ⟨c, rfl⟩ : ∃ c : Nat, L0 = (c : Int) := ⟨L0.toNat, by omega⟩
  have HCB := Lib.hid (show c ≤ 2999 by omega)
  clear hLb
  refine (small_any (c : Int) (by omega) (by have := HCB.out; omega) _).mono ?_
  rintro z W3 ⟨a, b, rfl, hd, ha, hb, hbl⟩
  rw [Int.toNat_natCast] at hd
  have HD := Lib.hid hd
  have HL := Lib.hid (show w.heap.size ≤ a ∧ w.heap.size ≤ b from ⟨Nat.le_trans H2.out.size ha, Nat.le_trans H2.out.size hb⟩)
  have H3 := Lib.hid (below_step H2.out hbl)
  clear hd ha hb hbl H2 HA
  go_wp2_with fail
  go_loopw [7] (fun i wr => ∃ k : Nat, k ≤ xs.length ∧ i = .int .i64 (k : Int) ∧ ∃ d : Dk, d.live c ∧ DkAt wr a b d ∧ Below w.heap.size w wr) (fun i _ => xs.length - (intOf i).toNat)
  case atStart => exact ⟨0, Nat.zero_le _, rfl, _, ⟨rfl, rfl, rfl, rfl⟩, HD.out, H3.out⟩
  case round =>
    obtain ⟨k, hk, rfl, d, hl, hd, hb⟩ := hrel
    have HV := Lib.hid hl
    replace HD := Lib.hid hd
    replace H3 := Lib.hid hb
    clear hl hd hb
    by_cases hlt : k < xs.length
    · obtain ⟨nb, no, rfl, hb1, hop, d0, d1, d2, d3, d4, d5⟩ := HX.out k hlt
      have z0 : (0 : Int) ≤ (k : Int) := by omega
      have z1 : (k : Int) < (xs.length : Int) := by omega
      have zk : IntKind.i64.wrap ((k : Int) + 1) = (k : Int) + 1 := by rw [IntKind.wrap_i64]; have := HLX.out; unfold maxLen at this; omega
      have HLT := Lib.hid hlt
      have HOP := Lib.hid hop
      clear hop
      generalize xs[k]'hlt = o at d0 d1 d2 d3 d4 d5 HOP
      clear hlt
      have HCE : Hid (∀ w' : World, Below w.heap.size w w' → w'.cell? ⟨nb, no + k * 6, none⟩ = some (.int .u8 (o.k : Int)) ∧ w'.cell? ⟨nb, no + k * 6 + 1, none⟩ = some (.string (S o.n)) ∧ w'.cell? ⟨nb, no + k * 6 + 2, none⟩ = some (.string (S o.t)) ∧ w'.cell? ⟨nb, no + k * 6 + 3, none⟩ = some (.string (S o.s)) ∧ w'.cell? ⟨nb, no + k * 6 + 4, none⟩ = some (.int .i64 o.m) ∧ w'.cell? ⟨nb, no + k * 6 + 5, none⟩ = some (.slice o.K o.ks.length o.c)) := fun w' hb => ⟨(hb.cell hb1).trans d0, (hb.cell hb1).trans d1, (hb.cell hb1).trans d2, (hb.cell hb1).trans d3, (hb.cell hb1).trans d4, (hb.cell hb1).trans d5⟩
      clear d0 d1 d2 d3 d4 d5 hb1
      obtain ⟨c0, c1, c2, c3, c4, c5⟩ := HCE.out _ H3.out
      by_cases qk : 5 < o.k
      · have q5 : (5 : Int) < (o.k : Int) := by omega
        have q5d : decide ((5 : Int) < (o.k : Int)) = true := decide_eq_true q5
        clear qk
        go_wp2_with fail
        go_roundw
        case rel => exact ⟨k + 1, by have := HLT.out; omega, by go_num, d, HV.out, HD.out, H3.out⟩
        case measure => have := HLT.out; simp [intOf] <;> omega
      have q5 : ¬ (5 : Int) < (o.k : Int) := by omega
      have q5d : decide ((5 : Int) < (o.k : Int)) = false := decide_eq_false q5
      clear qk
      go_wp2_with fail
      refine (copy_any a b d _ HD.out).mono ?_
      rintro z W4 ⟨p, q, rfl, h1, ha3, hb3, hb⟩
      have PR := Lib.hid (show Pr w a b p q W4 d d from
        ⟨below_step H3.out hb, ⟨HL.out.1, HL.out.2, Nat.le_trans H3.out.size ha3, Nat.le_trans H3.out.size hb3⟩, ⟨by have := HD.out.lt.1; omega, by have := HD.out.lt.2; omega⟩, HD.out.below hb, h1⟩)
      clear h1 ha3 hb3 hb HD H3 c0 c1 c2 c3 c4 c5
      obtain ⟨c0, c1, c2, c3, c4, c5⟩ := HCE.out _ PR.out.low
      go_upto_region 10 with (fail)
      go_cut [56] (fun t w' => t = .bool false ∧ ∃ d2 : Dk, Hid (d2.live c) ∧ Hid (DkAt w' a b d2) ∧ Hid (Below w.heap.size w w'))
      case first =>
        have HACT := Lib.hid (act_any a b d o HOP.out.k ⟨HOP.out.n, HOP.out.t, HOP.out.s⟩ W4 PR.out.d)
        unfold opV at HACT
        have HV2 := Lib.hid (HV.out.act o)
        by_cases hf : (actD d o).1 = 0
        · rw [show actD d o = (0, (actD d o).2) from Prod.ext hf rfl] at HACT
          clear hf
          go_wp2_with fail
          refine HACT.out.mono ?_
          rintro z W5 ⟨rfl, h1, h2⟩
          replace PR := Lib.hid (PR.out.onD h1 h2)
          clear h1 h2 HACT c0 c1 c2 c3 c4 c5
          go_wp2_with fail
          go_meet
          exact ⟨rfl, _, HV2, Lib.hid PR.out.d, Lib.hid PR.out.low⟩
        · rw [show actD d o = ((actD d o).1, d) from Prod.ext rfl (live_refused HV.out o hf)] at HACT
          have zf : ¬ (((actD d o).1 : Nat) : Int) = 0 := by omega
          have zfd : decide ((((actD d o).1 : Nat) : Int) = 0) = false := decide_eq_false zf
          clear hf
          generalize (actD d o).1 = f at HACT zf zfd
          go_wp2_with fail
          refine HACT.out.mono ?_
          rintro z W5 ⟨rfl, h1, h2⟩
          replace PR := Lib.hid (PR.out.onD h1 h2)
          clear h1 h2 HACT c0 c1 c2 c3 c4 c5
          go_wp2_with fail
          refine (same_any a b p q _ _ _ PR.out.d PR.out.s).mono ?_
          rw [sameD_self]
          rintro z W6 ⟨rfl, hb⟩
          replace PR := Lib.hid (PR.out.below hb)
          clear hb
          go_wp2_with fail
          go_meet
          exact ⟨rfl, _, HV, Lib.hid PR.out.d, Lib.hid PR.out.low⟩
      case rest =>
        obtain ⟨rfl, d2, HV2, HD, H3⟩ := hcut
        clear PR HV HCE c0 c1 c2 c3 c4 c5
        go_wp2_with fail
        refine (files_any a b d2 _ HD.out).mono ?_
        rintro z W7 ⟨v, rfl, hv, hb⟩
        obtain ⟨A1, c1, rfl, -, -, hr, -⟩ := hv.row
        have HR := Lib.hid hr
        replace HD := Lib.hid (HD.out.below hb)
        replace H3 := Lib.hid (below_step H3.out hb)
        clear hv hr hb
        rw [told_len]
        have HTL := Lib.hid (told_len d2.l)
        have HFS := Lib.hid HD.out.ok.len
        have HUS := Lib.hid HD.out.ok.used
        have HCP := Lib.hid HV2.out.cap
        have HBT := Lib.hid (bulk_told HD.out.ok.fs)
        go_wp2_with fail
        go_loopw [10, 11] (fun u i wr => ∃ j : Nat, j ≤ d2.l.length ∧ i = .int .i64 (j : Int) ∧ u = .int .i64 (bulk ((told d2.l).take j) : Int) ∧ Hid (RowF wr A1 (told d2.l)) ∧ DkAt wr a b d2 ∧ Below w.heap.size w wr) (fun _ i _ => d2.l.length - (intOf i).toNat)
        case atStart => exact ⟨0, Nat.zero_le _, rfl, rfl, HR, HD.out, H3.out⟩
        case round =>
          obtain ⟨j, hj, rfl, rfl, hr, hd, hb⟩ := hrel
          replace HR := hr
          replace HD := Lib.hid hd
          replace H3 := Lib.hid hb
          clear hr hd hb
          by_cases hjt : j < d2.l.length
          · have hjt2 : j < (told d2.l).length := by rw [HTL.out]; exact hjt
            obtain ⟨fb, fo, rfl, -, c0, c1, c2⟩ := HR.out j hjt2
            have y0 : (0 : Int) ≤ (j : Int) := by omega
            have y1 : (j : Int) < (d2.l.length : Int) := by omega
            have yk : IntKind.i64.wrap ((j : Int) + 1) = (j : Int) + 1 := by rw [IntKind.wrap_i64]; have := HFS.out; omega
            have HJT := Lib.hid hjt
            have HBS := Lib.hid (bulk_take (told d2.l) j hjt2)
            have HBL := Lib.hid (show bulk ((told d2.l).take (j + 1)) ≤ c by
              have h1 := bulk_le (told d2.l) (j + 1)
              rw [HBT.out] at h1
              have h2 := HUS.out
              have h3 := HCP.out
              omega)
            generalize (told d2.l)[j]'hjt2 = x at c0 c1 c2 HBS
            clear hjt hjt2
            have yw : IntKind.i64.wrap ((bulk ((told d2.l).take j) : Int) + ((x.d.length + x.p.length : Nat) : Int)) = (bulk ((told d2.l).take (j + 1)) : Int) := by
              have h1 := HBS.out
              have h2 := HBL.out
              have h3 := HCB.out
              rw [IntKind.wrap_i64]; omega
            have ys : (S (x.d ++ x.p)).size = x.d.length + x.p.length := by rw [S_size, List.length_append]
            have HBY : Hid (∀ W : World, Calls Try.prog 43 #[.agg #[.string (S x.n), .string (S x.d), .string (S x.p)]] W fun z w' => z = .returned (.string (S (x.d ++ x.p))) ∧ Below W.heap.size W w') := fun W => bytes_any x (by
              have h1 := HBS.out
              have h2 := HBL.out
              have h3 := HCB.out
              omega) W
            go_wp2_with fail
            refine (HBY.out _).mono ?_
            rintro z W8 ⟨rfl, hb⟩
            replace HR := Lib.hid (HR.out.below hb)
            replace HD := Lib.hid (HD.out.below hb)
            replace H3 := Lib.hid (below_step H3.out hb)
            clear hb c0 c1 c2
            go_wp2_with fail
            go_roundw
            case rel => exact ⟨j + 1, by have := HJT.out; omega, by go_num, by (refine congrArg (Value.int .i64) ?_; have h1 := HBL.out; have h2 := HCB.out; have h3 := HBS.out; first | omega | (unfold wrap64; omega)), HR, HD.out, H3.out⟩
            case measure => have := HJT.out; simp [intOf] <;> omega
          · obtain rfl : j = d2.l.length := by omega
            have y1 : ¬ ((d2.l.length : Nat) : Int) < (d2.l.length : Int) := by omega
            rw [show bulk ((told d2.l).take d2.l.length) = used d2.l by rw [← HTL.out, List.take_length, HBT.out]]
            clear hjt hj y1
            obtain ⟨m, hm⟩ : ∃ m, used d2.l + m = c := ⟨c - used d2.l, by have h1 := HUS.out; have h2 := HCP.out; omega⟩
            obtain ⟨r, hr⟩ : ∃ r, d2.l.length + r = 64 := ⟨64 - d2.l.length, by have := HFS.out; omega⟩
            have HM := Lib.hid hm
            have zgt : ¬ (c : Int) < (used d2.l : Int) := by omega
            have zgtd : decide ((c : Int) < (used d2.l : Int)) = false := decide_eq_false zgt
            have zsm : IntKind.i64.wrap ((c : Int) - (used d2.l : Int)) = (m : Int) := by have := HCB.out; rw [IntKind.wrap_i64]; omega
            have zsr : IntKind.i64.wrap (64 - (d2.l.length : Int)) = (r : Int) := by rw [IntKind.wrap_i64]; omega
            have zr0 : ¬ (r : Int) < 0 := by omega
            have zr0d : decide ((r : Int) < 0) = false := decide_eq_false zr0
            have HRO := room_any a b d2 HV2.out.gone _ HD.out
            rw [show (d2.cap : Int) - (used d2.l : Int) = (m : Int) by have := HCP.out; omega, show 64 - (d2.l.length : Int) = (r : Int) by omega] at HRO
            replace HRO := Lib.hid HRO
            clear hm hr
            go_wp2_with fail
            refine HRO.out.mono ?_
            rintro z W9 ⟨rfl, hb⟩
            replace HR := Lib.hid (HR.out.below hb)
            replace HD := Lib.hid (HD.out.below hb)
            replace H3 := Lib.hid (below_step H3.out hb)
            clear hb HRO
            go_wp2_with fail
            refine (used_any a b d2 _ HD.out).mono ?_
            rintro z W10 ⟨rfl, hb⟩
            replace HR := Lib.hid (HR.out.below hb)
            replace HD := Lib.hid (HD.out.below hb)
            replace H3 := Lib.hid (below_step H3.out hb)
            clear hb
            go_wp2_with fail
            refine (capacity_any a b d2 _ HD.out).mono ?_
            rw [HCP.out]
            rintro z W11 ⟨rfl, hb⟩
            rw [hb]
            clear hb
            by_cases hpos : 0 < d2.l.length
            · have zpos : (0 : Int) < (d2.l.length : Int) := by omega
              have zposd : decide ((0 : Int) < (d2.l.length : Int)) = true := decide_eq_true zpos
              have zne : ¬ (d2.l.length : Int) = 0 := by omega
              obtain ⟨t, ht, zq⟩ : ∃ t : Nat, t < d2.l.length ∧ (k : Int).tmod (d2.l.length : Int) = (t : Int) := ⟨k % d2.l.length, Nat.mod_lt _ hpos, rfl⟩
              have zt0 : (0 : Int) ≤ (t : Int) := by omega
              have zt1 : (t : Int) < (d2.l.length : Int) := by omega
              have ht2 : t < (told d2.l).length := by rw [HTL.out]; exact ht
              obtain ⟨fb, fo, rfl, -, c0, c1, c2⟩ := HR.out t ht2
              have HG : Hid (∃ f, get d2.l ((told d2.l)[t]).n = some f) := ⟨(d2.l[t]).2, by rw [told_at t ht2]; exact (get_some HD.out.ok.up).2 (List.getElem_mem ht)⟩
              have HNL : Hid (((told d2.l)[t]).n.length ≤ maxLen) := by
                have h1 := HD.out.ok.nm _ (List.getElem_mem ht)
                rw [told_at t ht2]
                unfold mayN at h1
                simp only [Bool.and_eq_true, decide_eq_true_eq] at h1
                show (d2.l[t]).1.length ≤ maxLen
                unfold maxLen
                omega
              generalize (told d2.l)[t]'ht2 = x at c0 c1 c2 HG HNL
              have zwt : IntKind.i64.wrap (t : Int) = (t : Int) := by rw [IntKind.wrap_i64]; have := HFS.out; omega
              have zm1 : IntKind.i64.wrap ((m : Int) + 1) = (m : Int) + 1 := by have h1 := HM.out; have h2 := HCB.out; rw [IntKind.wrap_i64]; omega
              have hmk1 : ∀ W : World, (Instr.makeSlice 23 (.int .i64 ((m : Int) + 1)) (.int .i64 ((m : Int) + 1))).run Try.prog W = .ok (.slice (some ⟨W.heap.size, 0, none⟩) (m + 1) (m + 1)) (W.alloc (.cells (mk8 (m + 1)) 5)) := fun W => run_mk8 (m + 1) (by have h1 := HM.out; have h2 := HCB.out; omega) W
              have hmk0 := fun W => run_mk8 m (by have h1 := HM.out; have h2 := HCB.out; omega) W
              have hcv1 := fun W => conv_mk8 (m + 1) W
              have hcv0 := fun W => conv_mk8 m W
              clear ht ht2 hpos
              go_wp2_with fail
              refine (copy_any a b d2 _ HD.out).mono ?_
              rintro z W12 ⟨r2, s2, rfl, h1, ha3, hb3, hb⟩
              have PR2 := Lib.hid (show Pr w a b r2 s2 W12 d2 d2 from
                ⟨below_step H3.out hb, ⟨HL.out.1, HL.out.2, Nat.le_trans H3.out.size ha3, Nat.le_trans H3.out.size hb3⟩, ⟨by have := HD.out.lt.1; omega, by have := HD.out.lt.2; omega⟩, HD.out.below hb, h1⟩)
              clear h1 ha3 hb3 hb HD H3 c0 c1 c2 HR
              go_wp2_with fail
              obtain ⟨d3, hd3, hu3⟩ := append_fits HV2.out PR2.out.d.ok (by have := HCB.out; omega) HG.out.choose_spec (s := List.replicate m 0) (by rw [List.length_replicate, HCP.out]; exact HM.out)
              have HD3 := Lib.hid hd3
              have HU3 := Lib.hid (hu3.trans HCP.out)
              have HO3 := Lib.hid (append_over HV2.out HG.out.choose_spec (s := List.replicate (m + 1) 0) (by rw [List.length_replicate, HCP.out]; have := HM.out; omega))
              clear hd3 hu3
              replace PR2 := Lib.hid (PR2.out.below ((Below.refl _ _).alloc (Nat.le_refl _) (.cells (mk8 (m + 1)) 5)))
              refine (at_append HO3.out HNL.out (by rw [List.length_replicate]; have h1 := HM.out; have h2 := HCB.out; unfold maxLen; omega) _ PR2.out.s).mono ?_
              rintro z W13 ⟨rfl, h1, h2⟩
              replace PR2 := Lib.hid (PR2.out.onS h1 h2)
              clear h1 h2
              go_wp2_with fail
              replace PR2 := Lib.hid (PR2.out.below ((Below.refl _ _).alloc (Nat.le_refl _) (.cells (mk8 m) 5)))
              refine (at_append HD3.out HNL.out (by rw [List.length_replicate]; have h1 := HM.out; have h2 := HCB.out; unfold maxLen; omega) _ PR2.out.s).mono ?_
              rintro z W14 ⟨rfl, h1, h2⟩
              replace PR2 := Lib.hid (PR2.out.onS h1 h2)
              clear h1 h2
              go_wp2_with fail
              refine (used_any r2 s2 d3 _ PR2.out.s).mono ?_
              rw [HU3.out]
              rintro z W15 ⟨rfl, hb⟩
              replace PR2 := Lib.hid (PR2.out.below hb)
              clear hb
              go_wp2_with fail
              go_roundw
              case rel => exact ⟨k + 1, by have := HLT.out; omega, by go_num, d2, HV2.out, PR2.out.d, PR2.out.low⟩
              case measure => have := HLT.out; simp [intOf] <;> omega
            · have zpos : ¬ (0 : Int) < (d2.l.length : Int) := by omega
              have zposd : decide ((0 : Int) < (d2.l.length : Int)) = false := decide_eq_false zpos
              go_wp2_with fail
              go_roundw
              case rel => exact ⟨k + 1, by have := HLT.out; omega, by go_num, d2, HV2.out, HD.out, H3.out⟩
              case measure => have := HLT.out; simp [intOf] <;> omega
    · obtain rfl : k = xs.length := by omega
      have z1 : ¬ ((xs.length : Nat) : Int) < (xs.length : Int) := by omega
      go_wp2_with fail
      go_ret
      exact ⟨rfl, H3.out⟩
end Go.Proofs.Ytddjoealckhepaa.Disk
