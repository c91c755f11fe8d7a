import Derived.Test.YtiibeemjkdipnaaGreatDoorVM
/-
  The document's own lifting: Up.
-/
namespace Go.Proofs.YtiibeemjkdipnaaGreatDoor.Upcast
open Go Go.RowKit
open Go.Proofs.YtiibeemjkdipnaaGreatDoor.Schema

set_option maxRecDepth 100000 in
set_option maxHeartbeats 4000000 in
theorem rUp_any (A : Option Addr) (ca : Nat) (C : Option Addr) (cc : Nat) (e : Ev) (w : World) (hA : EvAt w A ca C cc e) :
    Calls Tryz.prog 78 #[evV A ca C cc e] w (ExV (upX e) w) := by
  have HA0 := Lib.hid hA
  clear hA
  unfold evV
  have hb1 := (Below.refl w.heap.size w).alloc (Nat.le_refl _) (.cells #[.int .u8 e.v, .int .u8 e.k, .slice A e.ns.length ca, .slice C e.ts.length cc] 39)
  have hs1 : (w.alloc (.cells #[.int .u8 e.v, .int .u8 e.k, .slice A e.ns.length ca, .slice C e.ts.length cc] 39)).heap.size = w.heap.size + 1 := by simp
  have hb2 := (Below.refl (w.alloc (.cells #[.int .u8 e.v, .int .u8 e.k, .slice A e.ns.length ca, .slice C e.ts.length cc] 39)).heap.size (w.alloc (.cells #[.int .u8 e.v, .int .u8 e.k, .slice A e.ns.length ca, .slice C e.ts.length cc] 39))).alloc (Nat.le_refl _) (.cells #[.int .u8 0, .int .u8 0, .slice none 0 0, .slice none 0 0] 39)
  have hx : Four _ w.heap.size _ _ _ _ := Four.below (box4 w (.int .u8 e.v) (.int .u8 e.k) (.slice A e.ns.length ca) (.slice C e.ts.length cc) 39) hb2
  have hxf := free_below (free_new w #[.int .u8 e.v, .int .u8 e.k, .slice A e.ns.length ca, .slice C e.ts.length cc] 39) hb2
  have HX := Lib.hid hx
  have HXF := Lib.hid hxf
  have hp : Four _ (w.alloc (.cells #[.int .u8 e.v, .int .u8 e.k, .slice A e.ns.length ca, .slice C e.ts.length cc] 39)).heap.size _ _ _ _ := box4 (w.alloc (.cells #[.int .u8 e.v, .int .u8 e.k, .slice A e.ns.length ca, .slice C e.ts.length cc] 39)) (.int .u8 0) (.int .u8 0) (.slice none 0 0) (.slice none 0 0) 39
  have hf := free_new (w.alloc (.cells #[.int .u8 e.v, .int .u8 e.k, .slice A e.ns.length ca, .slice C e.ts.length cc] 39)) #[.int .u8 0, .int .u8 0, .slice none 0 0, .slice none 0 0] 39
  rw [hs1] at hp hf
  have HP := Lib.hid hp
  have HPF := Lib.hid hf
  have HB := Lib.hid (below_step hb1 hb2)
  clear hb1 hb2 hs1 hx hp hf hxf
  have HA := Lib.hid (HA0.out.below HB.out)
  go_enter Tryz.func78, Tryz.ntmps78
  go_upto_region 1 with (fail)
  generalize ((w.alloc (.cells #[.int .u8 e.v, .int .u8 e.k, .slice A e.ns.length ca, .slice C e.ts.length cc] 39)).alloc (.cells #[.int .u8 0, .int .u8 0, .slice none 0 0, .slice none 0 0] 39)) = W at HX HXF HP HPF HB HA ⊢
  obtain ⟨x0, x1, x2, x3⟩ := HX.out
  go_wp2_with fail
  clear x0 x1 x2 x3
  refine (rMay_any A ca C cc e W HA.out).mono ?_
  rintro z W2 ⟨rfl, hb⟩
  replace HX := Lib.hid (HX.out.below hb)
  replace HXF := Lib.hid (free_below HXF.out hb)
  replace HP := Lib.hid (HP.out.below hb)
  replace HPF := Lib.hid (free_below HPF.out hb)
  replace HA := Lib.hid (HA.out.below hb)
  replace HB := Lib.hid (below_step HB.out hb)
  clear hb
  cases hm : may e with
  | false =>
    have HDN := Lib.hid (up_no hm)
    clear hm
    obtain ⟨p0, p1, p2, p3⟩ := HP.out
    have f0 := HPF.out.2 0
    have f1 := HPF.out.2 1
    have f2 := HPF.out.2 2
    have f3 := HPF.out.2 3
    go_wp2_with fail
    clear p0 p1 p2 p3 f0 f1 f2 f3
    obtain ⟨d0, d1, d2, d3⟩ := HP.out.set4 (.int .u8 0) (.int .u8 0) (.slice none 0 0) (.slice none 0 0)
    refine bodyPost_ret (v := .tuple #[.agg #[.int .u8 0, .int .u8 0, .slice none 0 0, .slice none 0 0], .int .i64 4]) (by simp [results, Tryz.results78, go_sem, d0, d1, d2, d3]) rfl ?_
    rw [HDN.out]
    exact ⟨rfl, HB.out.trans ((touch4 W2 (w.heap.size + 1) _ _ _ _).below (Nat.le_succ _) HB.out.size)⟩
  | true =>
    have HM := Lib.hid hm
    have HO := Lib.hid (may_out hm)
    clear hm
    have hv3 := HO.out.v3
    by_cases h3 : e.v = 3
    case pos =>
      have z3 : ((e.v : Int) == 3) = true := by rw [h3]; rfl
      have z3b : (e.v : Int) = 3 := by omega
      have HDN := Lib.hid (up_new HM.out h3)
      clear hv3 h3
      obtain ⟨x0, x1, x2, x3⟩ := HX.out
      obtain ⟨p0, p1, p2, p3⟩ := HP.out
      have f0 := HPF.out.2 0
      have f1 := HPF.out.2 1
      have f2 := HPF.out.2 2
      have f3 := HPF.out.2 3
      go_wp2_with fail
      clear p0 p1 p2 p3 f0 f1 f2 f3
      obtain ⟨d0, d1, d2, d3⟩ := HP.out.set4 (.int .u8 0) (.int .u8 0) (.slice none 0 0) (.slice none 0 0)
      refine bodyPost_ret (v := .tuple #[.agg #[.int .u8 0, .int .u8 0, .slice none 0 0, .slice none 0 0], .int .i64 43]) (by simp [results, Tryz.results78, go_sem, d0, d1, d2, d3]) rfl ?_
      rw [HDN.out]
      exact ⟨rfl, HB.out.trans ((touch4 W2 (w.heap.size + 1) _ _ _ _).below (Nat.le_succ _) HB.out.size)⟩
    case neg =>
      have z3 : ((e.v : Int) == 3) = false := by rw [beq_eq_false_iff_ne]; omega
      have z3b : ¬ (e.v : Int) = 3 := by omega
      have HV := Lib.hid (show 1 ≤ e.v ∧ e.v < 3 from ⟨HO.out.v1, by omega⟩)
      have HDN := Lib.hid (up_is HM.out (show e.v < 3 by omega))
      have HUN := Lib.hid (rUp_is HM.out (show e.v < 3 by omega))
      have HLN := Lib.hid HO.out.ln
      clear h3 hv3
      obtain ⟨x0, x1, x2, x3⟩ := HX.out
      go_wp2_with fail
      clear x0 x1 x2 x3
      refine (rFields_any e.v e.k HA0.out.v HA0.out.k W2).mono ?_
      rintro z W3 ⟨rfl, rfl⟩
      clear z3 z3b
      have HI : Hid (RuI w A ca C cc e (.slice none 0 0) (rN e.v e.k e.ns 0) W2) := Lib.hid ⟨HB.out, HX.out, HP.out, HPF.out, Own.nil _ _ _⟩
      have hfew := lets_few e.v e.k
      have HFEW := Lib.hid hfew
      clear hfew HX HXF HP HPF HB HA
      generalize hs : lets e.v e.k = s at HUN HLN HFEW ⊢
      have HSS := Lib.hid hs
      clear hs
      go_wp2_with fail
      go_loopw [7, 8] (fun n i wr => ∃ (k : Nat) (v : Value), k ≤ s.size ∧ i = .int .i64 k ∧ n = v ∧ Hid (RuI w A ca C cc e v (rN e.v e.k e.ns k) wr)) (fun _ i _ => s.size - (intOf i).toNat)
      case atStart => exact ⟨0, _, Nat.zero_le _, rfl, rfl, HI⟩
      case round =>
        clear HI
        obtain ⟨k, v, hk, rfl, rfl, HI⟩ := hrel
        by_cases hlt : k < s.size
        case pos =>
          have hfew := HFEW.out
          have zk : IntKind.i64.wrap ((k : Int) + 1) = (k : Int) + 1 := by (rw [IntKind.wrap_i64]; omega)
          have zk2 : RowKit.wrap64 ((k : Int) + 1) = (k : Int) + 1 := by (unfold RowKit.wrap64; omega)
          have z0 : (0 : Int) ≤ (k : Int) := by omega
          have z1 : (k : Int) < (s.size : Int) := by omega
          have z1b : k < e.ns.length := by (rw [HLN.out]; exact hlt)
          have z1c : (k : Int) < (e.ns.length : Int) := by omega
          obtain ⟨b, o, rfl, c0⟩ := ((HA0.out.below HI.out.bel).ns) k _ (nums_at e.ns k z1b)
          have HLE := Lib.hid (show (rN e.v e.k e.ns k).length ≤ 10 by rw [rN_len]; omega)
          have HRG := Lib.hid (HO.out.rng k)
          have hsc : (s[k]'hlt).toNat = byteAt s k := byteAt_eq s k hlt
          have HST := Lib.hid (rN_succ e.v e.k e.ns k)
          rw [HSS.out] at HST
          have hc8 := byteAt_lt s k
          have HLT := Lib.hid hlt
          generalize e.ns.getD k 0 = x at c0 HRG HST
          generalize rN e.v e.k e.ns k = l at HI HLE HST
          have z9 : ((s[k]'hlt).toNat : Int) = (byteAt s k : Int) := by rw [hsc]
          generalize byteAt s k = c at HST hsc hc8 z9
          obtain ⟨x0, x1, x2, x3⟩ := HI.out.x
          go_upto_region 12 with (fail)
          skip
          rcases (show e.v = 1 ∨ e.v = 2 by have := HV.out; omega) with hv | hv
          · have zv1 : ((e.v : Int) == 1) = true := by (rw [hv]; rfl)
            have zw1 : (e.v == 1) = true := by (rw [hv]; rfl)
            have zd1 : decide (e.v = 1) = true := decide_eq_true (by omega)
            have zv2 : ((e.v : Int) == 2) = false := by (rw [beq_eq_false_iff_ne]; omega)
            have zw2 : (e.v == 2) = false := by (rw [beq_eq_false_iff_ne]; omega)
            have zd2 : decide (e.v = 2) = false := decide_eq_false (by omega)
            have zn2 : ¬ (e.v : Int) = 2 := by omega
            have HV1 := Lib.hid hv
            clear hv
            by_cases n109 : c = 109
            case pos =>
              subst n109
              have hr := HRG.out
              have zy : IntKind.i64.wrap (x * 100) = x * 100 := by (rw [IntKind.wrap_i64]; omega)
              have zy2 : RowKit.wrap64 (x * 100) = x * 100 := by (unfold RowKit.wrap64; omega)
              have HY := Lib.hid (show mulK e.v 109 x = x * 100 by (unfold mulK plK tiK; rw [HV1.out]; simp))
              clear hr
              have HI1 := Lib.hid (HI.out.low (((Below.refl wr.heap.size wr).alloc (Nat.le_refl _) (.cells #[.int .i64 (x * 100)] 2)).mono HI.out.sz) (HI.out.own.below ((Below.refl wr.heap.size wr).alloc (Nat.le_refl _) (.cells #[.int .i64 (x * 100)] 2))))
              go_wp2_with (at_builtin; refine wpList_append_vals 36 2 (.int .i64 0) 8 Tryz.underlying36 infoN rfl (by decide) rfl (.tmp 79) (.tmp 81) rfl (w.heap.size + 2) _ (nums l) rfl HI1.out.own (some ⟨wr.heap.size, 0, none⟩) 1 1 [.int .i64 (x * 100)] rfl rfl (vat_new wr _ _) (by simp; rfl) (by simp) (by rw [nums_len]; have := HLE.out; simp; omega) HI1.out.sz ?_)
              intro v' W5 hO hg
              have HI2 := Lib.hid (HI1.out.low (l' := l ++ [x * 100]) (below_grown HI1.out.own (Nat.le_refl _) HI1.out.sz hg) (by rw [nums_snoc]; exact hO))
              clear hO hg HI1
              clear x0 x1 x2 x3 c0
              go_wp2_with fail
              go_roundw
              case rel => exact ⟨k + 1, _, by have := HLT.out; omega, by go_num, rfl, by rw [HST.out, HY.out]; exact HI2⟩
              case measure => simp [intOf] <;> (have := HLT.out; omega)
            case neg =>
              by_cases n112 : c = 112
              case pos =>
                subst n112
                have hr := HRG.out
                have zy : IntKind.i64.wrap (x * 100) = x * 100 := by (rw [IntKind.wrap_i64]; omega)
                have zy2 : RowKit.wrap64 (x * 100) = x * 100 := by (unfold RowKit.wrap64; omega)
                have HY := Lib.hid (show mulK e.v 112 x = x * 100 by (unfold mulK plK tiK; rw [HV1.out]; simp))
                clear hr
                have HI1 := Lib.hid (HI.out.low (((Below.refl wr.heap.size wr).alloc (Nat.le_refl _) (.cells #[.int .i64 (x * 100)] 2)).mono HI.out.sz) (HI.out.own.below ((Below.refl wr.heap.size wr).alloc (Nat.le_refl _) (.cells #[.int .i64 (x * 100)] 2))))
                go_wp2_with (at_builtin; refine wpList_append_vals 36 2 (.int .i64 0) 8 Tryz.underlying36 infoN rfl (by decide) rfl (.tmp 79) (.tmp 81) rfl (w.heap.size + 2) _ (nums l) rfl HI1.out.own (some ⟨wr.heap.size, 0, none⟩) 1 1 [.int .i64 (x * 100)] rfl rfl (vat_new wr _ _) (by simp; rfl) (by simp) (by rw [nums_len]; have := HLE.out; simp; omega) HI1.out.sz ?_)
                intro v' W5 hO hg
                have HI2 := Lib.hid (HI1.out.low (l' := l ++ [x * 100]) (below_grown HI1.out.own (Nat.le_refl _) HI1.out.sz hg) (by rw [nums_snoc]; exact hO))
                clear hO hg HI1
                clear x0 x1 x2 x3 c0
                go_wp2_with fail
                go_roundw
                case rel => exact ⟨k + 1, _, by have := HLT.out; omega, by go_num, rfl, by rw [HST.out, HY.out]; exact HI2⟩
                case measure => simp [intOf] <;> (have := HLT.out; omega)
              case neg =>
                by_cases n98 : c = 98
                case pos =>
                  subst n98
                  have hr := HRG.out
                  have zy : IntKind.i64.wrap (x * 100) = x * 100 := by (rw [IntKind.wrap_i64]; omega)
                  have zy2 : RowKit.wrap64 (x * 100) = x * 100 := by (unfold RowKit.wrap64; omega)
                  have HY := Lib.hid (show mulK e.v 98 x = x * 100 by (unfold mulK plK tiK; rw [HV1.out]; simp))
                  clear hr
                  have HI1 := Lib.hid (HI.out.low (((Below.refl wr.heap.size wr).alloc (Nat.le_refl _) (.cells #[.int .i64 (x * 100)] 2)).mono HI.out.sz) (HI.out.own.below ((Below.refl wr.heap.size wr).alloc (Nat.le_refl _) (.cells #[.int .i64 (x * 100)] 2))))
                  go_wp2_with (at_builtin; refine wpList_append_vals 36 2 (.int .i64 0) 8 Tryz.underlying36 infoN rfl (by decide) rfl (.tmp 79) (.tmp 81) rfl (w.heap.size + 2) _ (nums l) rfl HI1.out.own (some ⟨wr.heap.size, 0, none⟩) 1 1 [.int .i64 (x * 100)] rfl rfl (vat_new wr _ _) (by simp; rfl) (by simp) (by rw [nums_len]; have := HLE.out; simp; omega) HI1.out.sz ?_)
                  intro v' W5 hO hg
                  have HI2 := Lib.hid (HI1.out.low (l' := l ++ [x * 100]) (below_grown HI1.out.own (Nat.le_refl _) HI1.out.sz hg) (by rw [nums_snoc]; exact hO))
                  clear hO hg HI1
                  clear x0 x1 x2 x3 c0
                  go_wp2_with fail
                  go_roundw
                  case rel => exact ⟨k + 1, _, by have := HLT.out; omega, by go_num, rfl, by rw [HST.out, HY.out]; exact HI2⟩
                  case measure => simp [intOf] <;> (have := HLT.out; omega)
                case neg =>
                  have m109 : ((c : Int) == 109) = false := by (rw [beq_eq_false_iff_ne]; omega)
                  have p109 : ¬ (c : Int) = 109 := by omega
                  have m112 : ((c : Int) == 112) = false := by (rw [beq_eq_false_iff_ne]; omega)
                  have p112 : ¬ (c : Int) = 112 := by omega
                  have m98 : ((c : Int) == 98) = false := by (rw [beq_eq_false_iff_ne]; omega)
                  have p98 : ¬ (c : Int) = 98 := by omega
                  have hr := HRG.out
                  have zy : IntKind.i64.wrap (x) = x := by (rw [IntKind.wrap_i64]; omega)
                  have zy2 : RowKit.wrap64 (x) = x := by (unfold RowKit.wrap64; omega)
                  have HY := Lib.hid (show mulK e.v c x = x by (unfold mulK plK tiK; rw [HV1.out]; simp [n109, n112, n98]))
                  clear hr
                  have HI1 := Lib.hid (HI.out.low (((Below.refl wr.heap.size wr).alloc (Nat.le_refl _) (.cells #[.int .i64 (x)] 2)).mono HI.out.sz) (HI.out.own.below ((Below.refl wr.heap.size wr).alloc (Nat.le_refl _) (.cells #[.int .i64 (x)] 2))))
                  go_wp2_with (at_builtin; refine wpList_append_vals 36 2 (.int .i64 0) 8 Tryz.underlying36 infoN rfl (by decide) rfl (.tmp 79) (.tmp 81) rfl (w.heap.size + 2) _ (nums l) rfl HI1.out.own (some ⟨wr.heap.size, 0, none⟩) 1 1 [.int .i64 (x)] rfl rfl (vat_new wr _ _) (by simp; rfl) (by simp) (by rw [nums_len]; have := HLE.out; simp; omega) HI1.out.sz ?_)
                  intro v' W5 hO hg
                  have HI2 := Lib.hid (HI1.out.low (l' := l ++ [x]) (below_grown HI1.out.own (Nat.le_refl _) HI1.out.sz hg) (by rw [nums_snoc]; exact hO))
                  clear hO hg HI1
                  clear x0 x1 x2 x3 c0
                  go_wp2_with fail
                  go_roundw
                  case rel => exact ⟨k + 1, _, by have := HLT.out; omega, by go_num, rfl, by rw [HST.out, HY.out]; exact HI2⟩
                  case measure => simp [intOf] <;> (have := HLT.out; omega)
          · have zv1 : ((e.v : Int) == 1) = false := by (rw [beq_eq_false_iff_ne]; omega)
            have zw1 : (e.v == 1) = false := by (rw [beq_eq_false_iff_ne]; omega)
            have zd1 : decide (e.v = 1) = false := decide_eq_false (by omega)
            have zn1 : ¬ (e.v : Int) = 1 := by omega
            have zv2 : ((e.v : Int) == 2) = true := by (rw [hv]; rfl)
            have zw2 : (e.v == 2) = true := by (rw [hv]; rfl)
            have zd2 : decide (e.v = 2) = true := decide_eq_true (by omega)
            have HV1 := Lib.hid hv
            clear hv
            by_cases n116 : c = 116
            case pos =>
              subst n116
              have hr := HRG.out
              have zy : IntKind.i64.wrap (x * 10) = x * 10 := by (rw [IntKind.wrap_i64]; omega)
              have zy2 : RowKit.wrap64 (x * 10) = x * 10 := by (unfold RowKit.wrap64; omega)
              have HY := Lib.hid (show mulK e.v 116 x = x * 10 by (unfold mulK plK tiK; rw [HV1.out]; simp))
              clear hr
              have HI1 := Lib.hid (HI.out.low (((Below.refl wr.heap.size wr).alloc (Nat.le_refl _) (.cells #[.int .i64 (x * 10)] 2)).mono HI.out.sz) (HI.out.own.below ((Below.refl wr.heap.size wr).alloc (Nat.le_refl _) (.cells #[.int .i64 (x * 10)] 2))))
              go_wp2_with (at_builtin; refine wpList_append_vals 36 2 (.int .i64 0) 8 Tryz.underlying36 infoN rfl (by decide) rfl (.tmp 79) (.tmp 81) rfl (w.heap.size + 2) _ (nums l) rfl HI1.out.own (some ⟨wr.heap.size, 0, none⟩) 1 1 [.int .i64 (x * 10)] rfl rfl (vat_new wr _ _) (by simp; rfl) (by simp) (by rw [nums_len]; have := HLE.out; simp; omega) HI1.out.sz ?_)
              intro v' W5 hO hg
              have HI2 := Lib.hid (HI1.out.low (l' := l ++ [x * 10]) (below_grown HI1.out.own (Nat.le_refl _) HI1.out.sz hg) (by rw [nums_snoc]; exact hO))
              clear hO hg HI1
              clear x0 x1 x2 x3 c0
              go_wp2_with fail
              go_roundw
              case rel => exact ⟨k + 1, _, by have := HLT.out; omega, by go_num, rfl, by rw [HST.out, HY.out]; exact HI2⟩
              case measure => simp [intOf] <;> (have := HLT.out; omega)
            case neg =>
              by_cases n115 : c = 115
              case pos =>
                subst n115
                have hr := HRG.out
                have zy : IntKind.i64.wrap (x + 1) = x + 1 := by (rw [IntKind.wrap_i64]; omega)
                have zy2 : RowKit.wrap64 (x + 1) = x + 1 := by (unfold RowKit.wrap64; omega)
                have HY := Lib.hid (show mulK e.v 115 x = x + 1 by (unfold mulK plK tiK; rw [HV1.out]; simp <;> omega))
                clear hr
                have HI1 := Lib.hid (HI.out.low (((Below.refl wr.heap.size wr).alloc (Nat.le_refl _) (.cells #[.int .i64 (x + 1)] 2)).mono HI.out.sz) (HI.out.own.below ((Below.refl wr.heap.size wr).alloc (Nat.le_refl _) (.cells #[.int .i64 (x + 1)] 2))))
                go_wp2_with (at_builtin; refine wpList_append_vals 36 2 (.int .i64 0) 8 Tryz.underlying36 infoN rfl (by decide) rfl (.tmp 79) (.tmp 81) rfl (w.heap.size + 2) _ (nums l) rfl HI1.out.own (some ⟨wr.heap.size, 0, none⟩) 1 1 [.int .i64 (x + 1)] rfl rfl (vat_new wr _ _) (by simp; rfl) (by simp) (by rw [nums_len]; have := HLE.out; simp; omega) HI1.out.sz ?_)
                intro v' W5 hO hg
                have HI2 := Lib.hid (HI1.out.low (l' := l ++ [x + 1]) (below_grown HI1.out.own (Nat.le_refl _) HI1.out.sz hg) (by rw [nums_snoc]; exact hO))
                clear hO hg HI1
                clear x0 x1 x2 x3 c0
                go_wp2_with fail
                go_roundw
                case rel => exact ⟨k + 1, _, by have := HLT.out; omega, by go_num, rfl, by rw [HST.out, HY.out]; exact HI2⟩
                case measure => simp [intOf] <;> (have := HLT.out; omega)
              case neg =>
                have m116 : ((c : Int) == 116) = false := by (rw [beq_eq_false_iff_ne]; omega)
                have p116 : ¬ (c : Int) = 116 := by omega
                have m115 : ((c : Int) == 115) = false := by (rw [beq_eq_false_iff_ne]; omega)
                have p115 : ¬ (c : Int) = 115 := by omega
                have hr := HRG.out
                have zy : IntKind.i64.wrap (x) = x := by (rw [IntKind.wrap_i64]; omega)
                have zy2 : RowKit.wrap64 (x) = x := by (unfold RowKit.wrap64; omega)
                have HY := Lib.hid (show mulK e.v c x = x by (unfold mulK plK tiK; rw [HV1.out]; simp [n116, n115]))
                clear hr
                have HI1 := Lib.hid (HI.out.low (((Below.refl wr.heap.size wr).alloc (Nat.le_refl _) (.cells #[.int .i64 (x)] 2)).mono HI.out.sz) (HI.out.own.below ((Below.refl wr.heap.size wr).alloc (Nat.le_refl _) (.cells #[.int .i64 (x)] 2))))
                go_wp2_with (at_builtin; refine wpList_append_vals 36 2 (.int .i64 0) 8 Tryz.underlying36 infoN rfl (by decide) rfl (.tmp 79) (.tmp 81) rfl (w.heap.size + 2) _ (nums l) rfl HI1.out.own (some ⟨wr.heap.size, 0, none⟩) 1 1 [.int .i64 (x)] rfl rfl (vat_new wr _ _) (by simp; rfl) (by simp) (by rw [nums_len]; have := HLE.out; simp; omega) HI1.out.sz ?_)
                intro v' W5 hO hg
                have HI2 := Lib.hid (HI1.out.low (l' := l ++ [x]) (below_grown HI1.out.own (Nat.le_refl _) HI1.out.sz hg) (by rw [nums_snoc]; exact hO))
                clear hO hg HI1
                clear x0 x1 x2 x3 c0
                go_wp2_with fail
                go_roundw
                case rel => exact ⟨k + 1, _, by have := HLT.out; omega, by go_num, rfl, by rw [HST.out, HY.out]; exact HI2⟩
                case measure => simp [intOf] <;> (have := HLT.out; omega)
        case neg =>
          have z1 : ¬ (k : Int) < (s.size : Int) := by omega
          have hks : k = s.size := by omega
          rw [hks] at HI
          clear hlt hk hks
          obtain ⟨x0, x1, x2, x3⟩ := HI.out.x
          go_wp2_with fail
          clear x0 x1 x2 x3 z1
          refine (rMore_any e.k wr).mono ?_
          rintro z W4 ⟨rfl, hw⟩
          subst hw
          generalize hl : rN e.v e.k e.ns s.size = l at HI HUN
          have HLL := Lib.hid (show l.length = s.size by rw [← hl, rN_len])
          clear hl
          obtain ⟨An, cn, rfl, hvn, hnn, hln, -⟩ := HI.out.own.vat
          rw [nums_len] at hln ⊢
          have HVN := Lib.hid hvn
          have HNN := Lib.hid hnn
          have HLN2 := Lib.hid hln
          clear hvn hnn hln
          have HX := Lib.hid HI.out.x
          have HP := Lib.hid HI.out.p
          have HPF := Lib.hid HI.out.pf
          have HB := Lib.hid HI.out.bel
          have hon := HI.out.own
          rw [nums_len] at hon
          have HON := Lib.hid hon
          clear HI hon
          have HCK := Lib.hid (chkK_at HO.out.tl (by have := HV.out; omega)).2
          rw [HSS.out] at HCK
          by_cases hq : e.v = 1 ∧ 0 ≤ plcK e.k
          case neg =>
            have HUN2 : Hid ((upE e).ns = l) := Lib.hid (HUN.out.trans (if_neg hq))
            clear HUN
            have HUN := HUN2
            clear HUN2
            have HLU := Lib.hid (show (upE e).ns.length = l.length by rw [HUN.out])
            rcases (show e.v = 1 ∨ e.v = 2 by have := HV.out; omega) with hv | hv
            · skip
              have zv1 : ((e.v : Int) == 1) = true := by (rw [hv]; rfl)
              have zw1 : (e.v == 1) = true := by (rw [hv]; rfl)
              have zd1 : decide (e.v = 1) = true := decide_eq_true (by omega)
              have hpl : ¬ 0 ≤ plcK e.k := fun h => hq ⟨hv, h⟩
              have zp : decide (plcK e.k ≥ 0) = false := decide_eq_false hpl
              have zp2 : decide (0 ≤ plcK e.k) = false := decide_eq_false hpl
              clear hv hq
              obtain ⟨x0, x1, x2, x3⟩ := HX.out
              go_upto_region 22 with (fail)
              clear x0 x1 x2 x3
              clear zv1 zw1 zd1 hpl zp zp2
              have HO1 : Hid (OwnE W4 (w.heap.size + 2) 2 (.slice An l.length cn) (nums l)) := Lib.hid (Or.inl HON.out)
              generalize hA1 : An = A1 at HO1 ⊢
              generalize hc1 : cn = c1 at HO1 ⊢
              clear hA1 hc1 HON HVN HNN HLN2
              have hvv := HV.out
              have zz : IntKind.u8.wrap ((e.v : Int) + 1) = (e.v : Int) + 1 := by (rw [IntKind.wrap_u8]; omega)
              have zz2 : ((e.v : Int) + 1) % 256 = (e.v : Int) + 1 := by omega
              clear hvv
              have gd := below_drew W4.heap.size W4
              replace HX := Lib.hid (HX.out.below gd)
              replace HP := Lib.hid (HP.out.below gd)
              replace HPF := Lib.hid (free_below HPF.out gd)
              replace HB := Lib.hid (below_step HB.out gd)
              replace HO1 := Lib.hid (HO1.out.below gd)
              clear gd
              refine wp_region_held_drew (S := (fun w' => w'.cell? ⟨w.heap.size, 0, none⟩ = some (.int .u8 e.v) ∧ w'.cell? ⟨w.heap.size, 1, none⟩ = some (.int .u8 e.k) ∧ w'.cell? ⟨w.heap.size, 2, none⟩ = some (.slice A e.ns.length ca) ∧ w'.cell? ⟨w.heap.size, 3, none⟩ = some (.slice C e.ts.length cc))) (by kernel_rfl) HX.out (fun hHeld => ?_)
              have HG0 := Lib.hid (show w.heap.size + 2 ≤ W4.drew.heap.size from HPF.out.1)
              generalize W4.drew = D0 at HX HP HPF HB HO1 HG0 hHeld ⊢
              refine wpAnyH_take (i := 0) (oi := { dst := some 108, op := Go.Op.fieldAddr 39 (Go.Operand.tmp 1) 0, type := 0, pos := "ref.go:93", after := #[], guard := none }) (v := ?v1) rfl (by kernel_rfl) (by kernel_rfl) (by kernel_rfl) (fun _ _ _ h => h) (Or.inl ⟨by rfl, ?hy1⟩) (by assumption) ?rest1
              case hy1 => (intro w hSw; obtain ⟨s0, s1, s2, s3⟩ := hSw; go_simp; try with_reducible rfl)
              try simp only [Act.put, List.setIfInBounds_toArray, List.set_cons_zero, List.set_cons_succ]
              refine wpAnyH_take (i := 1) (oi := { dst := some 109, op := Go.Op.load 5 (Go.Operand.tmp 108), type := 5, pos := "ref.go:93", after := #[{ on := 0, ground := Go.Ground.data }], guard := none }) (v := ?v2) rfl (by kernel_rfl) (by kernel_rfl) (by kernel_rfl) (fun _ _ _ h => h) (Or.inl ⟨by rfl, ?hy2⟩) (by assumption) ?rest2
              case hy2 => (intro w hSw; obtain ⟨s0, s1, s2, s3⟩ := hSw; go_simp; try with_reducible rfl)
              try simp only [Act.put, List.setIfInBounds_toArray, List.set_cons_zero, List.set_cons_succ]
              refine wpAnyH_take (i := 2) (oi := { dst := some 110, op := Go.Op.binOp Go.BinOp.add 5 (Go.Operand.tmp 109) (Go.Operand.const (Go.Value.int Go.IntKind.u8 1)) 5, type := 5, pos := "ref.go:93", after := #[{ on := 1, ground := Go.Ground.data }], guard := none }) (v := ?v3) rfl (by kernel_rfl) (by kernel_rfl) (by kernel_rfl) (fun _ _ _ h => h) (Or.inl ⟨by rfl, ?hy3⟩) (by assumption) ?rest3
              case hy3 => (intro w hSw; obtain ⟨s0, s1, s2, s3⟩ := hSw; go_simp; try with_reducible rfl)
              try simp only [Act.put, List.setIfInBounds_toArray, List.set_cons_zero, List.set_cons_succ]
              refine wpAnyH_take (i := 3) (oi := { dst := some 111, op := Go.Op.fieldAddr 39 (Go.Operand.tmp 1) 1, type := 0, pos := "ref.go:93", after := #[], guard := none }) (v := ?v4) rfl (by kernel_rfl) (by kernel_rfl) (by kernel_rfl) (fun _ _ _ h => h) (Or.inl ⟨by rfl, ?hy4⟩) (by assumption) ?rest4
              case hy4 => (intro w hSw; obtain ⟨s0, s1, s2, s3⟩ := hSw; go_simp; try with_reducible rfl)
              try simp only [Act.put, List.setIfInBounds_toArray, List.set_cons_zero, List.set_cons_succ]
              refine wpAnyH_take (i := 4) (oi := { dst := some 112, op := Go.Op.load 5 (Go.Operand.tmp 111), type := 5, pos := "ref.go:93", after := #[{ on := 3, ground := Go.Ground.data }], guard := none }) (v := ?v5) rfl (by kernel_rfl) (by kernel_rfl) (by kernel_rfl) (fun _ _ _ h => h) (Or.inl ⟨by rfl, ?hy5⟩) (by assumption) ?rest5
              case hy5 => (intro w hSw; obtain ⟨s0, s1, s2, s3⟩ := hSw; go_simp; try with_reducible rfl)
              try simp only [Act.put, List.setIfInBounds_toArray, List.set_cons_zero, List.set_cons_succ]
              refine wpAnyH_take (i := 5) (oi := { dst := some 113, op := Go.Op.move (Go.Operand.tmp 7), type := 36, pos := "ref.go:93", after := #[], guard := none }) (v := ?v6) rfl (by kernel_rfl) (by kernel_rfl) (by kernel_rfl) (fun _ _ _ h => h) (Or.inl ⟨by rfl, ?hy6⟩) (by assumption) ?rest6
              case hy6 => (intro w hSw; obtain ⟨s0, s1, s2, s3⟩ := hSw; go_simp; try with_reducible rfl)
              try simp only [Act.put, List.setIfInBounds_toArray, List.set_cons_zero, List.set_cons_succ]
              refine wpAnyH_take (i := 7) (oi := { dst := some 115, op := Go.Op.fieldAddr 39 (Go.Operand.tmp 1) 3, type := 0, pos := "ref.go:93", after := #[], guard := none }) (v := ?v7) rfl (by kernel_rfl) (by kernel_rfl) (by kernel_rfl) (fun _ _ _ h => h) (Or.inl ⟨by rfl, ?hy7⟩) (by assumption) ?rest7
              case hy7 => (intro w hSw; obtain ⟨s0, s1, s2, s3⟩ := hSw; go_simp; try with_reducible rfl)
              try simp only [Act.put, List.setIfInBounds_toArray, List.set_cons_zero, List.set_cons_succ]
              refine wpAnyH_take (i := 8) (oi := { dst := some 116, op := Go.Op.load 37 (Go.Operand.tmp 115), type := 37, pos := "ref.go:93", after := #[{ on := 7, ground := Go.Ground.data }], guard := none }) (v := ?v8) rfl (by kernel_rfl) (by kernel_rfl) (by kernel_rfl) (fun _ _ _ h => h) (Or.inl ⟨by rfl, ?hy8⟩) (by assumption) ?rest8
              case hy8 => (intro w hSw; obtain ⟨s0, s1, s2, s3⟩ := hSw; go_simp; try with_reducible rfl)
              try simp only [Act.put, List.setIfInBounds_toArray, List.set_cons_zero, List.set_cons_succ]
              refine wpAnyH_ready (rs := [6]) (by kernel_rfl) (by simp) ?_
              refine AllReadyH.cons (o := { dst := some 114, op := Go.Op.buildSlice 37 0 #[], type := 37, pos := "ref.go:93", after := #[], guard := none }) rfl (fun K hK => ?_) AllReadyH.nil
              have hb := (Below.refl D0.heap.size D0).alloc (Nat.le_refl _) (.cells #[] 9)
              have HS0 := Lib.hid (Own.made D0 D0.heap.size 9 (Nat.le_refl _))
              replace HX := Lib.hid (HX.out.below hb)
              replace HP := Lib.hid (HP.out.below hb)
              replace HPF := Lib.hid (free_below HPF.out hb)
              replace HB := Lib.hid (below_step HB.out hb)
              replace HO1 := Lib.hid (HO1.out.below hb)
              have HZ := Lib.hid hb.size
              clear hb
              go_simp
              refine hK.out _ _ HX.out (fun hHeld2 => ?_)
              clear hK K
              generalize D0.alloc (.cells #[] 9) = D1 at HX HP HPF HB HO1 HS0 HZ hHeld2 ⊢
              generalize D0.heap.size = g at HS0 HZ HG0 ⊢
              try simp only [Act.put, List.setIfInBounds_toArray, List.set_cons_zero, List.set_cons_succ]
              refine wpAnyH_ready (rs := [9]) (by kernel_rfl) (by simp) ?_
              refine AllReadyH.cons (o := { dst := some 117, op := Go.Op.call { callee := Go.Callee.builtin Go.Builtin.append, args := #[Go.Operand.tmp 114, Go.Operand.tmp 116], argTypes := #[37, 37] }, type := 37, pos := "ref.go:93", after := #[{ on := 6, ground := Go.Ground.data }, { on := 8, ground := Go.Ground.data }], guard := none }) rfl (fun K hK => ?_) AllReadyH.nil
              refine wp_append_vals 37 9 (.string ByteArray.empty) 16 Tryz.underlying37 infoT rfl (by decide) (.tmp 114) (.tmp 116) rfl g (.slice (some ⟨g, 0, none⟩) 0 0) [] rfl HS0.out C _ cc (texts e.ts) rfl (texts_len _).symm ((HA0.out.below HB.out).ts) (texts_cell _) HA0.out.nB (by have := HO.out.tx; have := texts_len e.ts; simp only [List.length_nil]; omega) HZ.out ?_
              intro v' V2 hO hg
              rw [List.nil_append] at hO
              obtain ⟨C2, c2, rfl, -, -⟩ := hO.vat
              rw [texts_len] at hO ⊢
              have hlow : w.heap.size + 2 ≤ g := HG0.out
              have hb := below_grown HS0.out (Nat.le_refl _) HZ.out hg
              have HO2 := Lib.hid (hO.less hlow)
              have hsz := HPF.out.1
              replace HX := Lib.hid (four_low HX.out hb (by omega))
              replace HP := Lib.hid (four_low HP.out hb (by omega))
              replace HPF := Lib.hid (free_low HPF.out hb (by omega))
              replace HB := Lib.hid (HB.out.trans (hb.mono (by omega)))
              replace HO1 := Lib.hid (ownE_apart HO1.out HS0.out (by decide) hg)
              clear hO hg hb hlow hsz HS0 HZ
              refine hK.out _ _ HX.out (fun hHeld3 => ?_)
              clear hK K
              try simp only [Act.put, List.setIfInBounds_toArray, List.set_cons_zero, List.set_cons_succ]
              refine wpAnyH_take (i := 10) (oi := { dst := some 118, op := Go.Op.build 39 #[(0, Go.Operand.tmp 110), (1, Go.Operand.tmp 112), (2, Go.Operand.tmp 113), (3, Go.Operand.tmp 117)], type := 39, pos := "ref.go:93", after := #[{ on := 2, ground := Go.Ground.data }, { on := 4, ground := Go.Ground.data }, { on := 5, ground := Go.Ground.data }, { on := 9, ground := Go.Ground.data }], guard := none }) (v := ?v9) rfl (by kernel_rfl) (by kernel_rfl) (by kernel_rfl) (fun _ _ _ h => h) (Or.inl ⟨by rfl, ?hy9⟩) (by assumption) ?rest9
              case hy9 => (intro w hSw; obtain ⟨s0, s1, s2, s3⟩ := hSw; go_simp; try with_reducible rfl)
              try simp only [Act.put, List.setIfInBounds_toArray, List.set_cons_zero, List.set_cons_succ]
              refine wpAnyH_ready (rs := [11]) (by kernel_rfl) (by simp) ?_
              refine AllReadyH.cons (o := { dst := none, op := Go.Op.store 39 (Go.Operand.tmp 2) (Go.Operand.tmp 118), type := 0, pos := "ref.go:93", after := #[{ on := 10, ground := Go.Ground.data }, { on := 9, ground := Go.Ground.chain }, { on := 0, ground := Go.Ground.phase }, { on := 1, ground := Go.Ground.phase }, { on := 2, ground := Go.Ground.phase }, { on := 3, ground := Go.Ground.phase }, { on := 4, ground := Go.Ground.phase }, { on := 5, ground := Go.Ground.phase }, { on := 6, ground := Go.Ground.phase }, { on := 7, ground := Go.Ground.phase }, { on := 8, ground := Go.Ground.phase }, { on := 9, ground := Go.Ground.phase }, { on := 10, ground := Go.Ground.phase }], guard := none }) rfl (fun K hK => ?_) AllReadyH.nil
              obtain ⟨p0, p1, p2, p3⟩ := HP.out
              have f0 := HPF.out.2 0
              have f1 := HPF.out.2 1
              have f2 := HPF.out.2 2
              have f3 := HPF.out.2 3
              go_simp
              clear p0 p1 p2 p3 f0 f1 f2 f3
              obtain ⟨d0, d1, d2, d3⟩ := HP.out.set4 (.int .u8 ((e.v : Int) + 1)) (.int .u8 e.k) (.slice A1 l.length c1) (.slice C2 e.ts.length c2)
              have hx4 := Four.touch HX.out (touch4 V2 (w.heap.size + 1) (.int .u8 ((e.v : Int) + 1)) (.int .u8 e.k) (.slice A1 l.length c1) (.slice C2 e.ts.length c2)) (Or.inl (Nat.lt_succ_self _))
              refine hK.out _ _ hx4 (fun hHeld4 => ?_)
              clear hK K hx4
              try simp only [Act.put, List.setIfInBounds_toArray, List.set_cons_zero, List.set_cons_succ]
              refine wpAnyH_take (i := 12) (oi := { dst := some 3, op := Go.Op.assign (Go.Operand.const (Go.Value.int Go.IntKind.i64 0)), type := 26, pos := "ref.go:93", after := #[{ on := 11, ground := Go.Ground.chain }, { on := 0, ground := Go.Ground.phase }, { on := 1, ground := Go.Ground.phase }, { on := 2, ground := Go.Ground.phase }, { on := 3, ground := Go.Ground.phase }, { on := 4, ground := Go.Ground.phase }, { on := 5, ground := Go.Ground.phase }, { on := 6, ground := Go.Ground.phase }, { on := 7, ground := Go.Ground.phase }, { on := 8, ground := Go.Ground.phase }, { on := 9, ground := Go.Ground.phase }, { on := 10, ground := Go.Ground.phase }, { on := 11, ground := Go.Ground.phase }], guard := none }) (v := ?v10) rfl (by kernel_rfl) (by kernel_rfl) (by kernel_rfl) (fun _ _ _ h => h) (Or.inl ⟨by rfl, ?hy10⟩) (by assumption) ?rest10
              case hy10 => (intro w hSw; obtain ⟨s0, s1, s2, s3⟩ := hSw; go_simp; try with_reducible rfl)
              try simp only [Act.put, List.setIfInBounds_toArray, List.set_cons_zero, List.set_cons_succ]
              refine wpAnyH_done (by kernel_rfl) ?_ _
              go_wp2_with fail
              refine bodyPost_ret (v := .tuple #[.agg #[.int .u8 ((e.v : Int) + 1), .int .u8 e.k, .slice A1 l.length c1, .slice C2 e.ts.length c2], .int .i64 0]) (by simp [results, Tryz.results78, go_sem, d0, d1, d2, d3]) rfl ?_
              rw [HDN.out]
              refine ⟨A1, c1, C2, c2, ?_, ?_, ?_, HB.out.trans ((touch4 V2 (w.heap.size + 1) _ _ _ _).below (Nat.le_succ _) HB.out.size)⟩
              · show _ = Ending.returned (.tuple #[.agg #[.int .u8 ((e.v + 1 : Nat) : Int), .int .u8 e.k, .slice A1 (upE e).ns.length c1, .slice C2 e.ts.length c2], .int .i64 0]); rw [HLU.out]; rfl
              · rw [HUN.out]; exact (ownE_set4 HO1.out (Nat.lt_succ_self _)).less (by omega)
              · exact (ownE_set4 (Or.inl HO2.out) (Nat.lt_succ_self _)).less (by omega)
            · skip
              have zv1 : ((e.v : Int) == 1) = false := by (rw [beq_eq_false_iff_ne]; omega)
              have zw1 : (e.v == 1) = false := by (rw [beq_eq_false_iff_ne]; omega)
              have zd1 : decide (e.v = 1) = false := decide_eq_false (by omega)
              clear hv hq
              obtain ⟨x0, x1, x2, x3⟩ := HX.out
              go_upto_region 22 with (fail)
              clear x0 x1 x2 x3
              clear zv1 zw1 zd1
              have HO1 : Hid (OwnE W4 (w.heap.size + 2) 2 (.slice An l.length cn) (nums l)) := Lib.hid (Or.inl HON.out)
              generalize hA1 : An = A1 at HO1 ⊢
              generalize hc1 : cn = c1 at HO1 ⊢
              clear hA1 hc1 HON HVN HNN HLN2
              have hvv := HV.out
              have zz : IntKind.u8.wrap ((e.v : Int) + 1) = (e.v : Int) + 1 := by (rw [IntKind.wrap_u8]; omega)
              have zz2 : ((e.v : Int) + 1) % 256 = (e.v : Int) + 1 := by omega
              clear hvv
              have gd := below_drew W4.heap.size W4
              replace HX := Lib.hid (HX.out.below gd)
              replace HP := Lib.hid (HP.out.below gd)
              replace HPF := Lib.hid (free_below HPF.out gd)
              replace HB := Lib.hid (below_step HB.out gd)
              replace HO1 := Lib.hid (HO1.out.below gd)
              clear gd
              refine wp_region_held_drew (S := (fun w' => w'.cell? ⟨w.heap.size, 0, none⟩ = some (.int .u8 e.v) ∧ w'.cell? ⟨w.heap.size, 1, none⟩ = some (.int .u8 e.k) ∧ w'.cell? ⟨w.heap.size, 2, none⟩ = some (.slice A e.ns.length ca) ∧ w'.cell? ⟨w.heap.size, 3, none⟩ = some (.slice C e.ts.length cc))) (by kernel_rfl) HX.out (fun hHeld => ?_)
              have HG0 := Lib.hid (show w.heap.size + 2 ≤ W4.drew.heap.size from HPF.out.1)
              generalize W4.drew = D0 at HX HP HPF HB HO1 HG0 hHeld ⊢
              refine wpAnyH_take (i := 0) (oi := { dst := some 108, op := Go.Op.fieldAddr 39 (Go.Operand.tmp 1) 0, type := 0, pos := "ref.go:93", after := #[], guard := none }) (v := ?v11) rfl (by kernel_rfl) (by kernel_rfl) (by kernel_rfl) (fun _ _ _ h => h) (Or.inl ⟨by rfl, ?hy11⟩) (by assumption) ?rest11
              case hy11 => (intro w hSw; obtain ⟨s0, s1, s2, s3⟩ := hSw; go_simp; try with_reducible rfl)
              try simp only [Act.put, List.setIfInBounds_toArray, List.set_cons_zero, List.set_cons_succ]
              refine wpAnyH_take (i := 1) (oi := { dst := some 109, op := Go.Op.load 5 (Go.Operand.tmp 108), type := 5, pos := "ref.go:93", after := #[{ on := 0, ground := Go.Ground.data }], guard := none }) (v := ?v12) rfl (by kernel_rfl) (by kernel_rfl) (by kernel_rfl) (fun _ _ _ h => h) (Or.inl ⟨by rfl, ?hy12⟩) (by assumption) ?rest12
              case hy12 => (intro w hSw; obtain ⟨s0, s1, s2, s3⟩ := hSw; go_simp; try with_reducible rfl)
              try simp only [Act.put, List.setIfInBounds_toArray, List.set_cons_zero, List.set_cons_succ]
              refine wpAnyH_take (i := 2) (oi := { dst := some 110, op := Go.Op.binOp Go.BinOp.add 5 (Go.Operand.tmp 109) (Go.Operand.const (Go.Value.int Go.IntKind.u8 1)) 5, type := 5, pos := "ref.go:93", after := #[{ on := 1, ground := Go.Ground.data }], guard := none }) (v := ?v13) rfl (by kernel_rfl) (by kernel_rfl) (by kernel_rfl) (fun _ _ _ h => h) (Or.inl ⟨by rfl, ?hy13⟩) (by assumption) ?rest13
              case hy13 => (intro w hSw; obtain ⟨s0, s1, s2, s3⟩ := hSw; go_simp; try with_reducible rfl)
              try simp only [Act.put, List.setIfInBounds_toArray, List.set_cons_zero, List.set_cons_succ]
              refine wpAnyH_take (i := 3) (oi := { dst := some 111, op := Go.Op.fieldAddr 39 (Go.Operand.tmp 1) 1, type := 0, pos := "ref.go:93", after := #[], guard := none }) (v := ?v14) rfl (by kernel_rfl) (by kernel_rfl) (by kernel_rfl) (fun _ _ _ h => h) (Or.inl ⟨by rfl, ?hy14⟩) (by assumption) ?rest14
              case hy14 => (intro w hSw; obtain ⟨s0, s1, s2, s3⟩ := hSw; go_simp; try with_reducible rfl)
              try simp only [Act.put, List.setIfInBounds_toArray, List.set_cons_zero, List.set_cons_succ]
              refine wpAnyH_take (i := 4) (oi := { dst := some 112, op := Go.Op.load 5 (Go.Operand.tmp 111), type := 5, pos := "ref.go:93", after := #[{ on := 3, ground := Go.Ground.data }], guard := none }) (v := ?v15) rfl (by kernel_rfl) (by kernel_rfl) (by kernel_rfl) (fun _ _ _ h => h) (Or.inl ⟨by rfl, ?hy15⟩) (by assumption) ?rest15
              case hy15 => (intro w hSw; obtain ⟨s0, s1, s2, s3⟩ := hSw; go_simp; try with_reducible rfl)
              try simp only [Act.put, List.setIfInBounds_toArray, List.set_cons_zero, List.set_cons_succ]
              refine wpAnyH_take (i := 5) (oi := { dst := some 113, op := Go.Op.move (Go.Operand.tmp 7), type := 36, pos := "ref.go:93", after := #[], guard := none }) (v := ?v16) rfl (by kernel_rfl) (by kernel_rfl) (by kernel_rfl) (fun _ _ _ h => h) (Or.inl ⟨by rfl, ?hy16⟩) (by assumption) ?rest16
              case hy16 => (intro w hSw; obtain ⟨s0, s1, s2, s3⟩ := hSw; go_simp; try with_reducible rfl)
              try simp only [Act.put, List.setIfInBounds_toArray, List.set_cons_zero, List.set_cons_succ]
              refine wpAnyH_take (i := 7) (oi := { dst := some 115, op := Go.Op.fieldAddr 39 (Go.Operand.tmp 1) 3, type := 0, pos := "ref.go:93", after := #[], guard := none }) (v := ?v17) rfl (by kernel_rfl) (by kernel_rfl) (by kernel_rfl) (fun _ _ _ h => h) (Or.inl ⟨by rfl, ?hy17⟩) (by assumption) ?rest17
              case hy17 => (intro w hSw; obtain ⟨s0, s1, s2, s3⟩ := hSw; go_simp; try with_reducible rfl)
              try simp only [Act.put, List.setIfInBounds_toArray, List.set_cons_zero, List.set_cons_succ]
              refine wpAnyH_take (i := 8) (oi := { dst := some 116, op := Go.Op.load 37 (Go.Operand.tmp 115), type := 37, pos := "ref.go:93", after := #[{ on := 7, ground := Go.Ground.data }], guard := none }) (v := ?v18) rfl (by kernel_rfl) (by kernel_rfl) (by kernel_rfl) (fun _ _ _ h => h) (Or.inl ⟨by rfl, ?hy18⟩) (by assumption) ?rest18
              case hy18 => (intro w hSw; obtain ⟨s0, s1, s2, s3⟩ := hSw; go_simp; try with_reducible rfl)
              try simp only [Act.put, List.setIfInBounds_toArray, List.set_cons_zero, List.set_cons_succ]
              refine wpAnyH_ready (rs := [6]) (by kernel_rfl) (by simp) ?_
              refine AllReadyH.cons (o := { dst := some 114, op := Go.Op.buildSlice 37 0 #[], type := 37, pos := "ref.go:93", after := #[], guard := none }) rfl (fun K hK => ?_) AllReadyH.nil
              have hb := (Below.refl D0.heap.size D0).alloc (Nat.le_refl _) (.cells #[] 9)
              have HS0 := Lib.hid (Own.made D0 D0.heap.size 9 (Nat.le_refl _))
              replace HX := Lib.hid (HX.out.below hb)
              replace HP := Lib.hid (HP.out.below hb)
              replace HPF := Lib.hid (free_below HPF.out hb)
              replace HB := Lib.hid (below_step HB.out hb)
              replace HO1 := Lib.hid (HO1.out.below hb)
              have HZ := Lib.hid hb.size
              clear hb
              go_simp
              refine hK.out _ _ HX.out (fun hHeld2 => ?_)
              clear hK K
              generalize D0.alloc (.cells #[] 9) = D1 at HX HP HPF HB HO1 HS0 HZ hHeld2 ⊢
              generalize D0.heap.size = g at HS0 HZ HG0 ⊢
              try simp only [Act.put, List.setIfInBounds_toArray, List.set_cons_zero, List.set_cons_succ]
              refine wpAnyH_ready (rs := [9]) (by kernel_rfl) (by simp) ?_
              refine AllReadyH.cons (o := { dst := some 117, op := Go.Op.call { callee := Go.Callee.builtin Go.Builtin.append, args := #[Go.Operand.tmp 114, Go.Operand.tmp 116], argTypes := #[37, 37] }, type := 37, pos := "ref.go:93", after := #[{ on := 6, ground := Go.Ground.data }, { on := 8, ground := Go.Ground.data }], guard := none }) rfl (fun K hK => ?_) AllReadyH.nil
              refine wp_append_vals 37 9 (.string ByteArray.empty) 16 Tryz.underlying37 infoT rfl (by decide) (.tmp 114) (.tmp 116) rfl g (.slice (some ⟨g, 0, none⟩) 0 0) [] rfl HS0.out C _ cc (texts e.ts) rfl (texts_len _).symm ((HA0.out.below HB.out).ts) (texts_cell _) HA0.out.nB (by have := HO.out.tx; have := texts_len e.ts; simp only [List.length_nil]; omega) HZ.out ?_
              intro v' V2 hO hg
              rw [List.nil_append] at hO
              obtain ⟨C2, c2, rfl, -, -⟩ := hO.vat
              rw [texts_len] at hO ⊢
              have hlow : w.heap.size + 2 ≤ g := HG0.out
              have hb := below_grown HS0.out (Nat.le_refl _) HZ.out hg
              have HO2 := Lib.hid (hO.less hlow)
              have hsz := HPF.out.1
              replace HX := Lib.hid (four_low HX.out hb (by omega))
              replace HP := Lib.hid (four_low HP.out hb (by omega))
              replace HPF := Lib.hid (free_low HPF.out hb (by omega))
              replace HB := Lib.hid (HB.out.trans (hb.mono (by omega)))
              replace HO1 := Lib.hid (ownE_apart HO1.out HS0.out (by decide) hg)
              clear hO hg hb hlow hsz HS0 HZ
              refine hK.out _ _ HX.out (fun hHeld3 => ?_)
              clear hK K
              try simp only [Act.put, List.setIfInBounds_toArray, List.set_cons_zero, List.set_cons_succ]
              refine wpAnyH_take (i := 10) (oi := { dst := some 118, op := Go.Op.build 39 #[(0, Go.Operand.tmp 110), (1, Go.Operand.tmp 112), (2, Go.Operand.tmp 113), (3, Go.Operand.tmp 117)], type := 39, pos := "ref.go:93", after := #[{ on := 2, ground := Go.Ground.data }, { on := 4, ground := Go.Ground.data }, { on := 5, ground := Go.Ground.data }, { on := 9, ground := Go.Ground.data }], guard := none }) (v := ?v19) rfl (by kernel_rfl) (by kernel_rfl) (by kernel_rfl) (fun _ _ _ h => h) (Or.inl ⟨by rfl, ?hy19⟩) (by assumption) ?rest19
              case hy19 => (intro w hSw; obtain ⟨s0, s1, s2, s3⟩ := hSw; go_simp; try with_reducible rfl)
              try simp only [Act.put, List.setIfInBounds_toArray, List.set_cons_zero, List.set_cons_succ]
              refine wpAnyH_ready (rs := [11]) (by kernel_rfl) (by simp) ?_
              refine AllReadyH.cons (o := { dst := none, op := Go.Op.store 39 (Go.Operand.tmp 2) (Go.Operand.tmp 118), type := 0, pos := "ref.go:93", after := #[{ on := 10, ground := Go.Ground.data }, { on := 9, ground := Go.Ground.chain }, { on := 0, ground := Go.Ground.phase }, { on := 1, ground := Go.Ground.phase }, { on := 2, ground := Go.Ground.phase }, { on := 3, ground := Go.Ground.phase }, { on := 4, ground := Go.Ground.phase }, { on := 5, ground := Go.Ground.phase }, { on := 6, ground := Go.Ground.phase }, { on := 7, ground := Go.Ground.phase }, { on := 8, ground := Go.Ground.phase }, { on := 9, ground := Go.Ground.phase }, { on := 10, ground := Go.Ground.phase }], guard := none }) rfl (fun K hK => ?_) AllReadyH.nil
              obtain ⟨p0, p1, p2, p3⟩ := HP.out
              have f0 := HPF.out.2 0
              have f1 := HPF.out.2 1
              have f2 := HPF.out.2 2
              have f3 := HPF.out.2 3
              go_simp
              clear p0 p1 p2 p3 f0 f1 f2 f3
              obtain ⟨d0, d1, d2, d3⟩ := HP.out.set4 (.int .u8 ((e.v : Int) + 1)) (.int .u8 e.k) (.slice A1 l.length c1) (.slice C2 e.ts.length c2)
              have hx4 := Four.touch HX.out (touch4 V2 (w.heap.size + 1) (.int .u8 ((e.v : Int) + 1)) (.int .u8 e.k) (.slice A1 l.length c1) (.slice C2 e.ts.length c2)) (Or.inl (Nat.lt_succ_self _))
              refine hK.out _ _ hx4 (fun hHeld4 => ?_)
              clear hK K hx4
              try simp only [Act.put, List.setIfInBounds_toArray, List.set_cons_zero, List.set_cons_succ]
              refine wpAnyH_take (i := 12) (oi := { dst := some 3, op := Go.Op.assign (Go.Operand.const (Go.Value.int Go.IntKind.i64 0)), type := 26, pos := "ref.go:93", after := #[{ on := 11, ground := Go.Ground.chain }, { on := 0, ground := Go.Ground.phase }, { on := 1, ground := Go.Ground.phase }, { on := 2, ground := Go.Ground.phase }, { on := 3, ground := Go.Ground.phase }, { on := 4, ground := Go.Ground.phase }, { on := 5, ground := Go.Ground.phase }, { on := 6, ground := Go.Ground.phase }, { on := 7, ground := Go.Ground.phase }, { on := 8, ground := Go.Ground.phase }, { on := 9, ground := Go.Ground.phase }, { on := 10, ground := Go.Ground.phase }, { on := 11, ground := Go.Ground.phase }], guard := none }) (v := ?v20) rfl (by kernel_rfl) (by kernel_rfl) (by kernel_rfl) (fun _ _ _ h => h) (Or.inl ⟨by rfl, ?hy20⟩) (by assumption) ?rest20
              case hy20 => (intro w hSw; obtain ⟨s0, s1, s2, s3⟩ := hSw; go_simp; try with_reducible rfl)
              try simp only [Act.put, List.setIfInBounds_toArray, List.set_cons_zero, List.set_cons_succ]
              refine wpAnyH_done (by kernel_rfl) ?_ _
              go_wp2_with fail
              refine bodyPost_ret (v := .tuple #[.agg #[.int .u8 ((e.v : Int) + 1), .int .u8 e.k, .slice A1 l.length c1, .slice C2 e.ts.length c2], .int .i64 0]) (by simp [results, Tryz.results78, go_sem, d0, d1, d2, d3]) rfl ?_
              rw [HDN.out]
              refine ⟨A1, c1, C2, c2, ?_, ?_, ?_, HB.out.trans ((touch4 V2 (w.heap.size + 1) _ _ _ _).below (Nat.le_succ _) HB.out.size)⟩
              · show _ = Ending.returned (.tuple #[.agg #[.int .u8 ((e.v + 1 : Nat) : Int), .int .u8 e.k, .slice A1 (upE e).ns.length c1, .slice C2 e.ts.length c2], .int .i64 0]); rw [HLU.out]; rfl
              · rw [HUN.out]; exact (ownE_set4 HO1.out (Nat.lt_succ_self _)).less (by omega)
              · exact (ownE_set4 (Or.inl HO2.out) (Nat.lt_succ_self _)).less (by omega)
          case pos =>
            obtain ⟨p, hp⟩ := Int.eq_ofNat_of_zero_le hq.2
            have hpl : p ≤ l.length := by (have := HCK.out; rw [if_pos hq, hp] at this; have h2 := HLL.out; omega)
            have hun := HUN.out
            unfold insK at hun
            rw [if_pos hq, hp, Int.toNat_natCast] at hun
            have HUN2 := Lib.hid hun
            have hv := hq.1
            have zv1 : ((e.v : Int) == 1) = true := by (rw [hv]; rfl)
            have zw1 : (e.v == 1) = true := by (rw [hv]; rfl)
            have zd1 : decide (e.v = 1) = true := decide_eq_true (by omega)
            rw [hp]
            clear HUN hun hp hv hq HCK
            generalize plsK e.k = y at HUN2 ⊢
            have HUN := HUN2
            clear HUN2
            have HPL := Lib.hid hpl
            clear hpl
            have zp : decide ((p : Int) ≥ 0) = true := decide_eq_true (by omega)
            have zp3 : (0 : Int) ≤ (p : Int) := by omega
            obtain ⟨x0, x1, x2, x3⟩ := HX.out
            go_upto_region 21 with (fail)
            clear x0 x1 x2 x3 zv1 zw1 zd1 zp zp3
            have T1 := fun W => run_head An l.length cn p HPL.out HLN2.out W
            have T2 := fun W => run_tail An l.length cn p HPL.out HLN2.out W
            refine wp_region_held_drew (S := fun _ => True) (by kernel_rfl) trivial (fun hHeld => ?_)
            have gd := below_drew W4.heap.size W4
            replace HX := Lib.hid (HX.out.below gd)
            replace HP := Lib.hid (HP.out.below gd)
            replace HPF := Lib.hid (free_below HPF.out gd)
            replace HB := Lib.hid (below_step HB.out gd)
            replace HVN := Lib.hid (HVN.out.below gd)
            clear gd HON
            generalize W4.drew = D at HX HP HPF HB HVN hHeld ⊢
            obtain ⟨dz, hdz⟩ : ∃ dz, dz = D.heap.size := ⟨_, rfl⟩
            have HDZ := Lib.hid hdz
            have HSZ := Lib.hid (show w.heap.size + 2 ≤ dz by (rw [hdz]; exact HPF.out.1))
            have HG := Lib.hid (Below.refl dz D)
            clear hdz
            refine wpAnyH_take (i := 1) (oi := { dst := some 97, op := Go.Op.move (Go.Operand.tmp 7), type := 36, pos := "ref.go:91", after := #[], guard := none }) (v := ?v21) rfl (by kernel_rfl) (by kernel_rfl) (by kernel_rfl) (fun _ _ _ h => h) (Or.inl ⟨by rfl, ?hy21⟩) (by assumption) ?rest21
            case hy21 => (intro w hSw; obtain - := hSw; go_simp; try with_reducible rfl)
            try simp only [Act.put, List.setIfInBounds_toArray, List.set_cons_zero, List.set_cons_succ]
            refine wpAnyH_take (i := 2) (oi := { dst := some 98, op := Go.Op.move (Go.Operand.tmp 11), type := 3, pos := "ref.go:91", after := #[], guard := none }) (v := ?v22) rfl (by kernel_rfl) (by kernel_rfl) (by kernel_rfl) (fun _ _ _ h => h) (Or.inl ⟨by rfl, ?hy22⟩) (by assumption) ?rest22
            case hy22 => (intro w hSw; obtain - := hSw; go_simp; try with_reducible rfl)
            try simp only [Act.put, List.setIfInBounds_toArray, List.set_cons_zero, List.set_cons_succ]
            refine wpAnyH_take (i := 3) (oi := { dst := some 99, op := Go.Op.slice 36 (Go.Operand.tmp 97) none (some (Go.Operand.tmp 98)) none, type := 36, pos := "ref.go:91", after := #[{ on := 1, ground := Go.Ground.data }, { on := 2, ground := Go.Ground.data }], guard := none }) (v := ?v23) rfl (by kernel_rfl) (by kernel_rfl) (by kernel_rfl) (fun _ _ _ h => h) (Or.inl ⟨by rfl, ?hy23⟩) (by assumption) ?rest23
            case hy23 => (intro w hSw; obtain - := hSw; go_simp; try with_reducible rfl)
            try simp only [Act.put, List.setIfInBounds_toArray, List.set_cons_zero, List.set_cons_succ]
            refine wpAnyH_take (i := 5) (oi := { dst := some 101, op := Go.Op.move (Go.Operand.tmp 12), type := 2, pos := "ref.go:91", after := #[], guard := none }) (v := ?v24) rfl (by kernel_rfl) (by kernel_rfl) (by kernel_rfl) (fun _ _ _ h => h) (Or.inl ⟨by rfl, ?hy24⟩) (by assumption) ?rest24
            case hy24 => (intro w hSw; obtain - := hSw; go_simp; try with_reducible rfl)
            try simp only [Act.put, List.setIfInBounds_toArray, List.set_cons_zero, List.set_cons_succ]
            refine wpAnyH_take (i := 8) (oi := { dst := some 104, op := Go.Op.move (Go.Operand.tmp 7), type := 36, pos := "ref.go:91", after := #[], guard := none }) (v := ?v25) rfl (by kernel_rfl) (by kernel_rfl) (by kernel_rfl) (fun _ _ _ h => h) (Or.inl ⟨by rfl, ?hy25⟩) (by assumption) ?rest25
            case hy25 => (intro w hSw; obtain - := hSw; go_simp; try with_reducible rfl)
            try simp only [Act.put, List.setIfInBounds_toArray, List.set_cons_zero, List.set_cons_succ]
            refine wpAnyH_take (i := 9) (oi := { dst := some 105, op := Go.Op.move (Go.Operand.tmp 11), type := 3, pos := "ref.go:91", after := #[], guard := none }) (v := ?v26) rfl (by kernel_rfl) (by kernel_rfl) (by kernel_rfl) (fun _ _ _ h => h) (Or.inl ⟨by rfl, ?hy26⟩) (by assumption) ?rest26
            case hy26 => (intro w hSw; obtain - := hSw; go_simp; try with_reducible rfl)
            try simp only [Act.put, List.setIfInBounds_toArray, List.set_cons_zero, List.set_cons_succ]
            refine wpAnyH_take (i := 10) (oi := { dst := some 106, op := Go.Op.slice 36 (Go.Operand.tmp 104) (some (Go.Operand.tmp 105)) none none, type := 36, pos := "ref.go:91", after := #[{ on := 8, ground := Go.Ground.data }, { on := 9, ground := Go.Ground.data }], guard := none }) (v := ?v27) rfl (by kernel_rfl) (by kernel_rfl) (by kernel_rfl) (fun _ _ _ h => h) (Or.inl ⟨by rfl, ?hy27⟩) (by assumption) ?rest27
            case hy27 => (intro w hSw; obtain - := hSw; go_simp; try with_reducible rfl)
            try simp only [Act.put, List.setIfInBounds_toArray, List.set_cons_zero, List.set_cons_succ]
            refine wpAnyH_ready (rs := [0, 6]) (by kernel_rfl) (by simp) ?_
            refine (AllReadyH.cons (o := { dst := some 96, op := Go.Op.buildSlice 36 0 #[], type := 36, pos := "ref.go:91", after := #[], guard := none }) rfl (fun K hK => ?br28_0) (AllReadyH.cons (o := { dst := some 102, op := Go.Op.buildSlice 36 1 #[(0, Go.Operand.tmp 101)], type := 36, pos := "ref.go:91", after := #[{ on := 5, ground := Go.Ground.data }], guard := none }) rfl (fun K hK => ?br28_6) AllReadyH.nil))
            case br28_0 =>
             have HM := Lib.hid (Own.made D dz 2 (Nat.le_trans (Nat.le_of_eq HDZ.out) HG.out.size))
             have hb := ((Below.refl D.heap.size D).alloc (Nat.le_refl _) (.cells #[] 2))
             replace HG := Lib.hid (HG.out.trans (hb.mono (Nat.le_trans (Nat.le_of_eq HDZ.out) HG.out.size)))
             clear hb
             go_simp
             refine hK.out _ _ trivial (fun hHeld => ?_)
             clear hK K
             generalize D.heap.size = g0 at HM ⊢
             have HG0 := Lib.hid (show g0 < (D.alloc (.cells #[] 2)).heap.size from World.ownsRow.lt HM.out g0 rfl |>.2)
             generalize D.alloc (.cells #[] 2) = V1 at HM HG hHeld HG0 ⊢
             try simp only [Act.put, List.setIfInBounds_toArray, List.set_cons_zero, List.set_cons_succ]
             refine wpAnyH_ready (rs := [4, 6]) (by kernel_rfl) (by simp) ?_
             refine (AllReadyH.cons (o := { dst := some 100, op := Go.Op.call { callee := Go.Callee.builtin Go.Builtin.append, args := #[Go.Operand.tmp 96, Go.Operand.tmp 99], argTypes := #[36, 36] }, type := 36, pos := "ref.go:91", after := #[{ on := 0, ground := Go.Ground.data }, { on := 3, ground := Go.Ground.data }], guard := none }) rfl (fun K hK => ?br29_4) (AllReadyH.cons (o := { dst := some 102, op := Go.Op.buildSlice 36 1 #[(0, Go.Operand.tmp 101)], type := 36, pos := "ref.go:91", after := #[{ on := 5, ground := Go.Ground.data }], guard := none }) rfl (fun K hK => ?br29_6) AllReadyH.nil))
             case br29_4 =>
              refine wp_append_vals 36 2 (.int .i64 0) 8 Tryz.underlying36 infoN rfl (by decide) (.tmp 96) (.tmp 99) rfl dz (.slice (some ⟨g0, 0, none⟩) 0 0) [] rfl HM.out (cutA An cn 0) p cn ((nums l).take p) rfl (by rw [List.length_take, nums_len]; have := HPL.out; omega) ((vat_dz HVN.out HDZ.out HG.out).head cn p (by rw [nums_len]; exact HLN2.out)) (fun u hu => nums_cell l u (List.mem_of_mem_take hu)) (fun h => by have := cutA_none (k := 0) HNN.out h; omega) (by have := HFEW.out; have := HLL.out; simp [nums_len, List.length_take, List.length_drop]; omega) (Nat.le_trans (Nat.le_of_eq HDZ.out) HG.out.size) ?_
              intro v4 V2 hO hg
              have HM4 := Lib.hid hO
              have hb := below_grown HM.out (Nat.le_refl _) (Nat.le_trans (Nat.le_of_eq HDZ.out) HG.out.size) hg
              replace HG := Lib.hid (HG.out.trans hb)
              clear hO hg hb HM
              refine hK.out _ _ trivial (fun hHeld => ?_)
              clear hK K
              try simp only [Act.put, List.setIfInBounds_toArray, List.set_cons_zero, List.set_cons_succ]
              refine wpAnyH_ready (rs := [6]) (by kernel_rfl) (by simp) ?_
              refine (AllReadyH.cons (o := { dst := some 102, op := Go.Op.buildSlice 36 1 #[(0, Go.Operand.tmp 101)], type := 36, pos := "ref.go:91", after := #[{ on := 5, ground := Go.Ground.data }], guard := none }) rfl (fun K hK => ?br30_6) AllReadyH.nil)
              case br30_6 =>
               have HM6 := Lib.hid (vat_new V2 (.int .i64 y) 2)
               have hb := ((Below.refl V2.heap.size V2).alloc (Nat.le_refl _) (.cells #[.int .i64 y] 2))
               replace HM4 := Lib.hid (HM4.out.below hb)
               replace HG := Lib.hid (HG.out.trans (hb.mono (Nat.le_trans (Nat.le_of_eq HDZ.out) HG.out.size)))
               have HB6 := Lib.hid (show V2.heap.size < (V2.alloc (.cells #[.int .i64 y] 2)).heap.size by simp)
               clear hb
               go_simp
               refine hK.out _ _ trivial (fun hHeld => ?_)
               clear hK K
               generalize V2.heap.size = b6 at HM6 HB6 ⊢
               generalize V2.alloc (.cells #[.int .i64 y] 2) = V3 at HM6 HG HB6 hHeld HM4 ⊢
               try simp only [Act.put, List.setIfInBounds_toArray, List.set_cons_zero, List.set_cons_succ]
               refine wpAnyH_ready (rs := [7]) (by kernel_rfl) (by simp) ?_
               refine (AllReadyH.cons (o := { dst := some 103, op := Go.Op.call { callee := Go.Callee.builtin Go.Builtin.append, args := #[Go.Operand.tmp 100, Go.Operand.tmp 102], argTypes := #[36, 36] }, type := 36, pos := "ref.go:91", after := #[{ on := 4, ground := Go.Ground.data }, { on := 6, ground := Go.Ground.data }, { on := 4, ground := Go.Ground.chain }], guard := none }) rfl (fun K hK => ?br31_7) AllReadyH.nil)
               case br31_7 =>
                refine wp_append_vals 36 2 (.int .i64 0) 8 Tryz.underlying36 infoN rfl (by decide) (.tmp 100) (.tmp 102) rfl dz v4 _ rfl HM4.out (some ⟨b6, 0, none⟩) 1 1 [.int .i64 y] rfl rfl HM6.out (by simp; rfl) (fun h => by cases h) (by have := HFEW.out; have := HLL.out; simp [nums_len, List.length_take, List.length_drop]; omega) (Nat.le_trans (Nat.le_of_eq HDZ.out) HG.out.size) ?_
                intro v7 V4 hO hg
                have HM7 := Lib.hid hO
                have hb := below_grown HM4.out (Nat.le_refl _) (Nat.le_trans (Nat.le_of_eq HDZ.out) HG.out.size) hg
                replace HG := Lib.hid (HG.out.trans hb)
                clear hO hg hb HM4 HM6
                refine hK.out _ _ trivial (fun hHeld => ?_)
                clear hK K
                try simp only [Act.put, List.setIfInBounds_toArray, List.set_cons_zero, List.set_cons_succ]
                refine wpAnyH_ready (rs := [11]) (by kernel_rfl) (by simp) ?_
                refine (AllReadyH.cons (o := { dst := some 107, op := Go.Op.call { callee := Go.Callee.builtin Go.Builtin.append, args := #[Go.Operand.tmp 103, Go.Operand.tmp 106], argTypes := #[36, 36] }, type := 36, pos := "ref.go:91", after := #[{ on := 7, ground := Go.Ground.data }, { on := 10, ground := Go.Ground.data }, { on := 7, ground := Go.Ground.chain }], guard := none }) rfl (fun K hK => ?br32_11) AllReadyH.nil)
                case br32_11 =>
                 refine wp_append_vals 36 2 (.int .i64 0) 8 Tryz.underlying36 infoN rfl (by decide) (.tmp 103) (.tmp 106) rfl dz v7 _ rfl HM7.out (cutA An cn p) (l.length - p) (cn - p) ((nums l).drop p) rfl (by rw [List.length_drop, nums_len]) ((vat_dz HVN.out HDZ.out HG.out).cut cn p (by rw [nums_len]; exact HLN2.out)) (fun u hu => nums_cell l u (List.mem_of_mem_drop hu)) (fun h => cutA_none HNN.out h) (by have := HFEW.out; have := HLL.out; simp [nums_len, List.length_take, List.length_drop]; omega) (Nat.le_trans (Nat.le_of_eq HDZ.out) HG.out.size) ?_
                 intro v11 V5 hO hg
                 have HMF := Lib.hid hO
                 have hb := below_grown HM7.out (Nat.le_refl _) (Nat.le_trans (Nat.le_of_eq HDZ.out) HG.out.size) hg
                 replace HG := Lib.hid (HG.out.trans hb)
                 clear hO hg hb HM7
                 refine hK.out _ _ trivial (fun hHeld => ?_)
                 clear hK K
                 try simp only [Act.put, List.setIfInBounds_toArray, List.set_cons_zero, List.set_cons_succ]
                 refine wpAnyH_take (i := 12) (oi := { dst := some 7, op := Go.Op.assign (Go.Operand.tmp 107), type := 36, pos := "ref.go:91", after := #[{ on := 11, ground := Go.Ground.data }, { on := 11, ground := Go.Ground.chain }, { on := 0, ground := Go.Ground.phase }, { on := 1, ground := Go.Ground.phase }, { on := 2, ground := Go.Ground.phase }, { on := 3, ground := Go.Ground.phase }, { on := 4, ground := Go.Ground.phase }, { on := 5, ground := Go.Ground.phase }, { on := 6, ground := Go.Ground.phase }, { on := 7, ground := Go.Ground.phase }, { on := 8, ground := Go.Ground.phase }, { on := 9, ground := Go.Ground.phase }, { on := 10, ground := Go.Ground.phase }, { on := 11, ground := Go.Ground.phase }], guard := none }) (v := ?v33) rfl (by kernel_rfl) (by kernel_rfl) (by kernel_rfl) (fun _ _ _ h => h) (Or.inl ⟨by rfl, ?hy33⟩) (by assumption) ?rest33
                 case hy33 => (intro w hSw; obtain - := hSw; go_simp; try with_reducible rfl)
                 try simp only [Act.put, List.setIfInBounds_toArray, List.set_cons_zero, List.set_cons_succ]
                 refine wpAnyH_done (by kernel_rfl) ?_ _
                 have hmf := HMF.out
                 rw [List.nil_append, show (nums l).take p ++ [Value.int .i64 y] ++ (nums l).drop p = nums (l.take p ++ [y] ++ l.drop p) by simp [nums, List.map_take, List.map_drop]] at hmf
                 obtain ⟨A1, c1, rfl, -, -, -, -⟩ := hmf.vat
                 rw [nums_len] at hmf ⊢
                 have hsz := HSZ.out
                 have HO1 : Hid (OwnE V5 (w.heap.size + 2) 2 (.slice A1 (l.take p ++ [y] ++ l.drop p).length c1) (nums (l.take p ++ [y] ++ l.drop p))) := Lib.hid (Or.inl (hmf.less hsz))
                 replace HX := Lib.hid (four_low HX.out HG.out (by omega))
                 replace HP := Lib.hid (four_low HP.out HG.out (by omega))
                 replace HPF := Lib.hid (free_low HPF.out HG.out (by omega))
                 replace HB := Lib.hid (HB.out.trans (HG.out.mono (by omega)))
                 clear hsz hmf HMF HG HVN T1 T2 hHeld
                 generalize l.take p ++ [y] ++ l.drop p = l2 at HO1 HUN ⊢
                 have HLU := Lib.hid (show (upE e).ns.length = l2.length by rw [HUN.out])
                 obtain ⟨x0, x1, x2, x3⟩ := HX.out
                 go_upto_region 22 with (fail)
                 clear x0 x1 x2 x3
                 have hvv := HV.out
                 have zz : IntKind.u8.wrap ((e.v : Int) + 1) = (e.v : Int) + 1 := by (rw [IntKind.wrap_u8]; omega)
                 have zz2 : ((e.v : Int) + 1) % 256 = (e.v : Int) + 1 := by omega
                 clear hvv
                 have gd := below_drew V5.heap.size V5
                 replace HX := Lib.hid (HX.out.below gd)
                 replace HP := Lib.hid (HP.out.below gd)
                 replace HPF := Lib.hid (free_below HPF.out gd)
                 replace HB := Lib.hid (below_step HB.out gd)
                 replace HO1 := Lib.hid (HO1.out.below gd)
                 clear gd
                 refine wp_region_held_drew (S := (fun w' => w'.cell? ⟨w.heap.size, 0, none⟩ = some (.int .u8 e.v) ∧ w'.cell? ⟨w.heap.size, 1, none⟩ = some (.int .u8 e.k) ∧ w'.cell? ⟨w.heap.size, 2, none⟩ = some (.slice A e.ns.length ca) ∧ w'.cell? ⟨w.heap.size, 3, none⟩ = some (.slice C e.ts.length cc))) (by kernel_rfl) HX.out (fun hHeld => ?_)
                 have HG0 := Lib.hid (show w.heap.size + 2 ≤ V5.drew.heap.size from HPF.out.1)
                 generalize V5.drew = D0 at HX HP HPF HB HO1 HG0 hHeld ⊢
                 refine wpAnyH_take (i := 0) (oi := { dst := some 108, op := Go.Op.fieldAddr 39 (Go.Operand.tmp 1) 0, type := 0, pos := "ref.go:93", after := #[], guard := none }) (v := ?v34) rfl (by kernel_rfl) (by kernel_rfl) (by kernel_rfl) (fun _ _ _ h => h) (Or.inl ⟨by rfl, ?hy34⟩) (by assumption) ?rest34
                 case hy34 => (intro w hSw; obtain ⟨s0, s1, s2, s3⟩ := hSw; go_simp; try with_reducible rfl)
                 try simp only [Act.put, List.setIfInBounds_toArray, List.set_cons_zero, List.set_cons_succ]
                 refine wpAnyH_take (i := 1) (oi := { dst := some 109, op := Go.Op.load 5 (Go.Operand.tmp 108), type := 5, pos := "ref.go:93", after := #[{ on := 0, ground := Go.Ground.data }], guard := none }) (v := ?v35) rfl (by kernel_rfl) (by kernel_rfl) (by kernel_rfl) (fun _ _ _ h => h) (Or.inl ⟨by rfl, ?hy35⟩) (by assumption) ?rest35
                 case hy35 => (intro w hSw; obtain ⟨s0, s1, s2, s3⟩ := hSw; go_simp; try with_reducible rfl)
                 try simp only [Act.put, List.setIfInBounds_toArray, List.set_cons_zero, List.set_cons_succ]
                 refine wpAnyH_take (i := 2) (oi := { dst := some 110, op := Go.Op.binOp Go.BinOp.add 5 (Go.Operand.tmp 109) (Go.Operand.const (Go.Value.int Go.IntKind.u8 1)) 5, type := 5, pos := "ref.go:93", after := #[{ on := 1, ground := Go.Ground.data }], guard := none }) (v := ?v36) rfl (by kernel_rfl) (by kernel_rfl) (by kernel_rfl) (fun _ _ _ h => h) (Or.inl ⟨by rfl, ?hy36⟩) (by assumption) ?rest36
                 case hy36 => (intro w hSw; obtain ⟨s0, s1, s2, s3⟩ := hSw; go_simp; try with_reducible rfl)
                 try simp only [Act.put, List.setIfInBounds_toArray, List.set_cons_zero, List.set_cons_succ]
                 refine wpAnyH_take (i := 3) (oi := { dst := some 111, op := Go.Op.fieldAddr 39 (Go.Operand.tmp 1) 1, type := 0, pos := "ref.go:93", after := #[], guard := none }) (v := ?v37) rfl (by kernel_rfl) (by kernel_rfl) (by kernel_rfl) (fun _ _ _ h => h) (Or.inl ⟨by rfl, ?hy37⟩) (by assumption) ?rest37
                 case hy37 => (intro w hSw; obtain ⟨s0, s1, s2, s3⟩ := hSw; go_simp; try with_reducible rfl)
                 try simp only [Act.put, List.setIfInBounds_toArray, List.set_cons_zero, List.set_cons_succ]
                 refine wpAnyH_take (i := 4) (oi := { dst := some 112, op := Go.Op.load 5 (Go.Operand.tmp 111), type := 5, pos := "ref.go:93", after := #[{ on := 3, ground := Go.Ground.data }], guard := none }) (v := ?v38) rfl (by kernel_rfl) (by kernel_rfl) (by kernel_rfl) (fun _ _ _ h => h) (Or.inl ⟨by rfl, ?hy38⟩) (by assumption) ?rest38
                 case hy38 => (intro w hSw; obtain ⟨s0, s1, s2, s3⟩ := hSw; go_simp; try with_reducible rfl)
                 try simp only [Act.put, List.setIfInBounds_toArray, List.set_cons_zero, List.set_cons_succ]
                 refine wpAnyH_take (i := 5) (oi := { dst := some 113, op := Go.Op.move (Go.Operand.tmp 7), type := 36, pos := "ref.go:93", after := #[], guard := none }) (v := ?v39) rfl (by kernel_rfl) (by kernel_rfl) (by kernel_rfl) (fun _ _ _ h => h) (Or.inl ⟨by rfl, ?hy39⟩) (by assumption) ?rest39
                 case hy39 => (intro w hSw; obtain ⟨s0, s1, s2, s3⟩ := hSw; go_simp; try with_reducible rfl)
                 try simp only [Act.put, List.setIfInBounds_toArray, List.set_cons_zero, List.set_cons_succ]
                 refine wpAnyH_take (i := 7) (oi := { dst := some 115, op := Go.Op.fieldAddr 39 (Go.Operand.tmp 1) 3, type := 0, pos := "ref.go:93", after := #[], guard := none }) (v := ?v40) rfl (by kernel_rfl) (by kernel_rfl) (by kernel_rfl) (fun _ _ _ h => h) (Or.inl ⟨by rfl, ?hy40⟩) (by assumption) ?rest40
                 case hy40 => (intro w hSw; obtain ⟨s0, s1, s2, s3⟩ := hSw; go_simp; try with_reducible rfl)
                 try simp only [Act.put, List.setIfInBounds_toArray, List.set_cons_zero, List.set_cons_succ]
                 refine wpAnyH_take (i := 8) (oi := { dst := some 116, op := Go.Op.load 37 (Go.Operand.tmp 115), type := 37, pos := "ref.go:93", after := #[{ on := 7, ground := Go.Ground.data }], guard := none }) (v := ?v41) rfl (by kernel_rfl) (by kernel_rfl) (by kernel_rfl) (fun _ _ _ h => h) (Or.inl ⟨by rfl, ?hy41⟩) (by assumption) ?rest41
                 case hy41 => (intro w hSw; obtain ⟨s0, s1, s2, s3⟩ := hSw; go_simp; try with_reducible rfl)
                 try simp only [Act.put, List.setIfInBounds_toArray, List.set_cons_zero, List.set_cons_succ]
                 refine wpAnyH_ready (rs := [6]) (by kernel_rfl) (by simp) ?_
                 refine AllReadyH.cons (o := { dst := some 114, op := Go.Op.buildSlice 37 0 #[], type := 37, pos := "ref.go:93", after := #[], guard := none }) rfl (fun K hK => ?_) AllReadyH.nil
                 have hb := (Below.refl D0.heap.size D0).alloc (Nat.le_refl _) (.cells #[] 9)
                 have HS0 := Lib.hid (Own.made D0 D0.heap.size 9 (Nat.le_refl _))
                 replace HX := Lib.hid (HX.out.below hb)
                 replace HP := Lib.hid (HP.out.below hb)
                 replace HPF := Lib.hid (free_below HPF.out hb)
                 replace HB := Lib.hid (below_step HB.out hb)
                 replace HO1 := Lib.hid (HO1.out.below hb)
                 have HZ := Lib.hid hb.size
                 clear hb
                 go_simp
                 refine hK.out _ _ HX.out (fun hHeld2 => ?_)
                 clear hK K
                 generalize D0.alloc (.cells #[] 9) = D1 at HX HP HPF HB HO1 HS0 HZ hHeld2 ⊢
                 generalize D0.heap.size = g at HS0 HZ HG0 ⊢
                 try simp only [Act.put, List.setIfInBounds_toArray, List.set_cons_zero, List.set_cons_succ]
                 refine wpAnyH_ready (rs := [9]) (by kernel_rfl) (by simp) ?_
                 refine AllReadyH.cons (o := { dst := some 117, op := Go.Op.call { callee := Go.Callee.builtin Go.Builtin.append, args := #[Go.Operand.tmp 114, Go.Operand.tmp 116], argTypes := #[37, 37] }, type := 37, pos := "ref.go:93", after := #[{ on := 6, ground := Go.Ground.data }, { on := 8, ground := Go.Ground.data }], guard := none }) rfl (fun K hK => ?_) AllReadyH.nil
                 refine wp_append_vals 37 9 (.string ByteArray.empty) 16 Tryz.underlying37 infoT rfl (by decide) (.tmp 114) (.tmp 116) rfl g (.slice (some ⟨g, 0, none⟩) 0 0) [] rfl HS0.out C _ cc (texts e.ts) rfl (texts_len _).symm ((HA0.out.below HB.out).ts) (texts_cell _) HA0.out.nB (by have := HO.out.tx; have := texts_len e.ts; simp only [List.length_nil]; omega) HZ.out ?_
                 intro v' V2 hO hg
                 rw [List.nil_append] at hO
                 obtain ⟨C2, c2, rfl, -, -⟩ := hO.vat
                 rw [texts_len] at hO ⊢
                 have hlow : w.heap.size + 2 ≤ g := HG0.out
                 have hb := below_grown HS0.out (Nat.le_refl _) HZ.out hg
                 have HO2 := Lib.hid (hO.less hlow)
                 have hsz := HPF.out.1
                 replace HX := Lib.hid (four_low HX.out hb (by omega))
                 replace HP := Lib.hid (four_low HP.out hb (by omega))
                 replace HPF := Lib.hid (free_low HPF.out hb (by omega))
                 replace HB := Lib.hid (HB.out.trans (hb.mono (by omega)))
                 replace HO1 := Lib.hid (ownE_apart HO1.out HS0.out (by decide) hg)
                 clear hO hg hb hlow hsz HS0 HZ
                 refine hK.out _ _ HX.out (fun hHeld3 => ?_)
                 clear hK K
                 try simp only [Act.put, List.setIfInBounds_toArray, List.set_cons_zero, List.set_cons_succ]
                 refine wpAnyH_take (i := 10) (oi := { dst := some 118, op := Go.Op.build 39 #[(0, Go.Operand.tmp 110), (1, Go.Operand.tmp 112), (2, Go.Operand.tmp 113), (3, Go.Operand.tmp 117)], type := 39, pos := "ref.go:93", after := #[{ on := 2, ground := Go.Ground.data }, { on := 4, ground := Go.Ground.data }, { on := 5, ground := Go.Ground.data }, { on := 9, ground := Go.Ground.data }], guard := none }) (v := ?v42) rfl (by kernel_rfl) (by kernel_rfl) (by kernel_rfl) (fun _ _ _ h => h) (Or.inl ⟨by rfl, ?hy42⟩) (by assumption) ?rest42
                 case hy42 => (intro w hSw; obtain ⟨s0, s1, s2, s3⟩ := hSw; go_simp; try with_reducible rfl)
                 try simp only [Act.put, List.setIfInBounds_toArray, List.set_cons_zero, List.set_cons_succ]
                 refine wpAnyH_ready (rs := [11]) (by kernel_rfl) (by simp) ?_
                 refine AllReadyH.cons (o := { dst := none, op := Go.Op.store 39 (Go.Operand.tmp 2) (Go.Operand.tmp 118), type := 0, pos := "ref.go:93", after := #[{ on := 10, ground := Go.Ground.data }, { on := 9, ground := Go.Ground.chain }, { on := 0, ground := Go.Ground.phase }, { on := 1, ground := Go.Ground.phase }, { on := 2, ground := Go.Ground.phase }, { on := 3, ground := Go.Ground.phase }, { on := 4, ground := Go.Ground.phase }, { on := 5, ground := Go.Ground.phase }, { on := 6, ground := Go.Ground.phase }, { on := 7, ground := Go.Ground.phase }, { on := 8, ground := Go.Ground.phase }, { on := 9, ground := Go.Ground.phase }, { on := 10, ground := Go.Ground.phase }], guard := none }) rfl (fun K hK => ?_) AllReadyH.nil
                 obtain ⟨p0, p1, p2, p3⟩ := HP.out
                 have f0 := HPF.out.2 0
                 have f1 := HPF.out.2 1
                 have f2 := HPF.out.2 2
                 have f3 := HPF.out.2 3
                 go_simp
                 clear p0 p1 p2 p3 f0 f1 f2 f3
                 obtain ⟨d0, d1, d2, d3⟩ := HP.out.set4 (.int .u8 ((e.v : Int) + 1)) (.int .u8 e.k) (.slice A1 l2.length c1) (.slice C2 e.ts.length c2)
                 have hx4 := Four.touch HX.out (touch4 V2 (w.heap.size + 1) (.int .u8 ((e.v : Int) + 1)) (.int .u8 e.k) (.slice A1 l2.length c1) (.slice C2 e.ts.length c2)) (Or.inl (Nat.lt_succ_self _))
                 refine hK.out _ _ hx4 (fun hHeld4 => ?_)
                 clear hK K hx4
                 try simp only [Act.put, List.setIfInBounds_toArray, List.set_cons_zero, List.set_cons_succ]
                 refine wpAnyH_take (i := 12) (oi := { dst := some 3, op := Go.Op.assign (Go.Operand.const (Go.Value.int Go.IntKind.i64 0)), type := 26, pos := "ref.go:93", after := #[{ on := 11, ground := Go.Ground.chain }, { on := 0, ground := Go.Ground.phase }, { on := 1, ground := Go.Ground.phase }, { on := 2, ground := Go.Ground.phase }, { on := 3, ground := Go.Ground.phase }, { on := 4, ground := Go.Ground.phase }, { on := 5, ground := Go.Ground.phase }, { on := 6, ground := Go.Ground.phase }, { on := 7, ground := Go.Ground.phase }, { on := 8, ground := Go.Ground.phase }, { on := 9, ground := Go.Ground.phase }, { on := 10, ground := Go.Ground.phase }, { on := 11, ground := Go.Ground.phase }], guard := none }) (v := ?v43) rfl (by kernel_rfl) (by kernel_rfl) (by kernel_rfl) (fun _ _ _ h => h) (Or.inl ⟨by rfl, ?hy43⟩) (by assumption) ?rest43
                 case hy43 => (intro w hSw; obtain ⟨s0, s1, s2, s3⟩ := hSw; go_simp; try with_reducible rfl)
                 try simp only [Act.put, List.setIfInBounds_toArray, List.set_cons_zero, List.set_cons_succ]
                 refine wpAnyH_done (by kernel_rfl) ?_ _
                 go_wp2_with fail
                 refine bodyPost_ret (v := .tuple #[.agg #[.int .u8 ((e.v : Int) + 1), .int .u8 e.k, .slice A1 l2.length c1, .slice C2 e.ts.length c2], .int .i64 0]) (by simp [results, Tryz.results78, go_sem, d0, d1, d2, d3]) rfl ?_
                 rw [HDN.out]
                 refine ⟨A1, c1, C2, c2, ?_, ?_, ?_, HB.out.trans ((touch4 V2 (w.heap.size + 1) _ _ _ _).below (Nat.le_succ _) HB.out.size)⟩
                 · show _ = Ending.returned (.tuple #[.agg #[.int .u8 ((e.v + 1 : Nat) : Int), .int .u8 e.k, .slice A1 (upE e).ns.length c1, .slice C2 e.ts.length c2], .int .i64 0]); rw [HLU.out]; rfl
                 · rw [HUN.out]; exact (ownE_set4 HO1.out (Nat.lt_succ_self _)).less (by omega)
                 · exact (ownE_set4 (Or.inl HO2.out) (Nat.lt_succ_self _)).less (by omega)
             case br29_6 =>
              have HM6 := Lib.hid (vat_new V1 (.int .i64 y) 2)
              have hb := ((Below.refl V1.heap.size V1).alloc (Nat.le_refl _) (.cells #[.int .i64 y] 2))
              replace HM := Lib.hid (HM.out.below hb)
              have hne : V1.heap.size ≠ g0 := by have := HG0.out; omega
              have HNE := Lib.hid hne
              clear hne
              replace HG := Lib.hid (HG.out.trans (hb.mono (Nat.le_trans (Nat.le_of_eq HDZ.out) HG.out.size)))
              have HB6 := Lib.hid (show V1.heap.size < (V1.alloc (.cells #[.int .i64 y] 2)).heap.size by simp)
              clear hb
              go_simp
              refine hK.out _ _ trivial (fun hHeld => ?_)
              clear hK K
              generalize V1.heap.size = b6 at HM6 HB6 HNE ⊢
              generalize V1.alloc (.cells #[.int .i64 y] 2) = V2 at HM6 HG HB6 hHeld HM ⊢
              try simp only [Act.put, List.setIfInBounds_toArray, List.set_cons_zero, List.set_cons_succ]
              refine wpAnyH_ready (rs := [4]) (by kernel_rfl) (by simp) ?_
              refine (AllReadyH.cons (o := { dst := some 100, op := Go.Op.call { callee := Go.Callee.builtin Go.Builtin.append, args := #[Go.Operand.tmp 96, Go.Operand.tmp 99], argTypes := #[36, 36] }, type := 36, pos := "ref.go:91", after := #[{ on := 0, ground := Go.Ground.data }, { on := 3, ground := Go.Ground.data }], guard := none }) rfl (fun K hK => ?br44_4) AllReadyH.nil)
              case br44_4 =>
               refine wp_append_vals 36 2 (.int .i64 0) 8 Tryz.underlying36 infoN rfl (by decide) (.tmp 96) (.tmp 99) rfl dz (.slice (some ⟨g0, 0, none⟩) 0 0) [] rfl HM.out (cutA An cn 0) p cn ((nums l).take p) rfl (by rw [List.length_take, nums_len]; have := HPL.out; omega) ((vat_dz HVN.out HDZ.out HG.out).head cn p (by rw [nums_len]; exact HLN2.out)) (fun u hu => nums_cell l u (List.mem_of_mem_take hu)) (fun h => by have := cutA_none (k := 0) HNN.out h; omega) (by have := HFEW.out; have := HLL.out; simp [nums_len, List.length_take, List.length_drop]; omega) (Nat.le_trans (Nat.le_of_eq HDZ.out) HG.out.size) ?_
               intro v4 V3 hO hg
               have HM4 := Lib.hid hO
               have hb := below_grown HM.out (Nat.le_refl _) (Nat.le_trans (Nat.le_of_eq HDZ.out) HG.out.size) hg
               replace HM6 := Lib.hid (vat_gr HM6.out hg HNE.out)
               replace HG := Lib.hid (HG.out.trans hb)
               clear hO hg hb HM HNE
               refine hK.out _ _ trivial (fun hHeld => ?_)
               clear hK K
               try simp only [Act.put, List.setIfInBounds_toArray, List.set_cons_zero, List.set_cons_succ]
               refine wpAnyH_ready (rs := [7]) (by kernel_rfl) (by simp) ?_
               refine (AllReadyH.cons (o := { dst := some 103, op := Go.Op.call { callee := Go.Callee.builtin Go.Builtin.append, args := #[Go.Operand.tmp 100, Go.Operand.tmp 102], argTypes := #[36, 36] }, type := 36, pos := "ref.go:91", after := #[{ on := 4, ground := Go.Ground.data }, { on := 6, ground := Go.Ground.data }, { on := 4, ground := Go.Ground.chain }], guard := none }) rfl (fun K hK => ?br45_7) AllReadyH.nil)
               case br45_7 =>
                refine wp_append_vals 36 2 (.int .i64 0) 8 Tryz.underlying36 infoN rfl (by decide) (.tmp 100) (.tmp 102) rfl dz v4 _ rfl HM4.out (some ⟨b6, 0, none⟩) 1 1 [.int .i64 y] rfl rfl HM6.out (by simp; rfl) (fun h => by cases h) (by have := HFEW.out; have := HLL.out; simp [nums_len, List.length_take, List.length_drop]; omega) (Nat.le_trans (Nat.le_of_eq HDZ.out) HG.out.size) ?_
                intro v7 V4 hO hg
                have HM7 := Lib.hid hO
                have hb := below_grown HM4.out (Nat.le_refl _) (Nat.le_trans (Nat.le_of_eq HDZ.out) HG.out.size) hg
                replace HG := Lib.hid (HG.out.trans hb)
                clear hO hg hb HM4 HM6
                refine hK.out _ _ trivial (fun hHeld => ?_)
                clear hK K
                try simp only [Act.put, List.setIfInBounds_toArray, List.set_cons_zero, List.set_cons_succ]
                refine wpAnyH_ready (rs := [11]) (by kernel_rfl) (by simp) ?_
                refine (AllReadyH.cons (o := { dst := some 107, op := Go.Op.call { callee := Go.Callee.builtin Go.Builtin.append, args := #[Go.Operand.tmp 103, Go.Operand.tmp 106], argTypes := #[36, 36] }, type := 36, pos := "ref.go:91", after := #[{ on := 7, ground := Go.Ground.data }, { on := 10, ground := Go.Ground.data }, { on := 7, ground := Go.Ground.chain }], guard := none }) rfl (fun K hK => ?br46_11) AllReadyH.nil)
                case br46_11 =>
                 refine wp_append_vals 36 2 (.int .i64 0) 8 Tryz.underlying36 infoN rfl (by decide) (.tmp 103) (.tmp 106) rfl dz v7 _ rfl HM7.out (cutA An cn p) (l.length - p) (cn - p) ((nums l).drop p) rfl (by rw [List.length_drop, nums_len]) ((vat_dz HVN.out HDZ.out HG.out).cut cn p (by rw [nums_len]; exact HLN2.out)) (fun u hu => nums_cell l u (List.mem_of_mem_drop hu)) (fun h => cutA_none HNN.out h) (by have := HFEW.out; have := HLL.out; simp [nums_len, List.length_take, List.length_drop]; omega) (Nat.le_trans (Nat.le_of_eq HDZ.out) HG.out.size) ?_
                 intro v11 V5 hO hg
                 have HMF := Lib.hid hO
                 have hb := below_grown HM7.out (Nat.le_refl _) (Nat.le_trans (Nat.le_of_eq HDZ.out) HG.out.size) hg
                 replace HG := Lib.hid (HG.out.trans hb)
                 clear hO hg hb HM7
                 refine hK.out _ _ trivial (fun hHeld => ?_)
                 clear hK K
                 try simp only [Act.put, List.setIfInBounds_toArray, List.set_cons_zero, List.set_cons_succ]
                 refine wpAnyH_take (i := 12) (oi := { dst := some 7, op := Go.Op.assign (Go.Operand.tmp 107), type := 36, pos := "ref.go:91", after := #[{ on := 11, ground := Go.Ground.data }, { on := 11, ground := Go.Ground.chain }, { on := 0, ground := Go.Ground.phase }, { on := 1, ground := Go.Ground.phase }, { on := 2, ground := Go.Ground.phase }, { on := 3, ground := Go.Ground.phase }, { on := 4, ground := Go.Ground.phase }, { on := 5, ground := Go.Ground.phase }, { on := 6, ground := Go.Ground.phase }, { on := 7, ground := Go.Ground.phase }, { on := 8, ground := Go.Ground.phase }, { on := 9, ground := Go.Ground.phase }, { on := 10, ground := Go.Ground.phase }, { on := 11, ground := Go.Ground.phase }], guard := none }) (v := ?v47) rfl (by kernel_rfl) (by kernel_rfl) (by kernel_rfl) (fun _ _ _ h => h) (Or.inl ⟨by rfl, ?hy47⟩) (by assumption) ?rest47
                 case hy47 => (intro w hSw; obtain - := hSw; go_simp; try with_reducible rfl)
                 try simp only [Act.put, List.setIfInBounds_toArray, List.set_cons_zero, List.set_cons_succ]
                 refine wpAnyH_done (by kernel_rfl) ?_ _
                 have hmf := HMF.out
                 rw [List.nil_append, show (nums l).take p ++ [Value.int .i64 y] ++ (nums l).drop p = nums (l.take p ++ [y] ++ l.drop p) by simp [nums, List.map_take, List.map_drop]] at hmf
                 obtain ⟨A1, c1, rfl, -, -, -, -⟩ := hmf.vat
                 rw [nums_len] at hmf ⊢
                 have hsz := HSZ.out
                 have HO1 : Hid (OwnE V5 (w.heap.size + 2) 2 (.slice A1 (l.take p ++ [y] ++ l.drop p).length c1) (nums (l.take p ++ [y] ++ l.drop p))) := Lib.hid (Or.inl (hmf.less hsz))
                 replace HX := Lib.hid (four_low HX.out HG.out (by omega))
                 replace HP := Lib.hid (four_low HP.out HG.out (by omega))
                 replace HPF := Lib.hid (free_low HPF.out HG.out (by omega))
                 replace HB := Lib.hid (HB.out.trans (HG.out.mono (by omega)))
                 clear hsz hmf HMF HG HVN T1 T2 hHeld
                 generalize l.take p ++ [y] ++ l.drop p = l2 at HO1 HUN ⊢
                 have HLU := Lib.hid (show (upE e).ns.length = l2.length by rw [HUN.out])
                 obtain ⟨x0, x1, x2, x3⟩ := HX.out
                 go_upto_region 22 with (fail)
                 clear x0 x1 x2 x3
                 have hvv := HV.out
                 have zz : IntKind.u8.wrap ((e.v : Int) + 1) = (e.v : Int) + 1 := by (rw [IntKind.wrap_u8]; omega)
                 have zz2 : ((e.v : Int) + 1) % 256 = (e.v : Int) + 1 := by omega
                 clear hvv
                 have gd := below_drew V5.heap.size V5
                 replace HX := Lib.hid (HX.out.below gd)
                 replace HP := Lib.hid (HP.out.below gd)
                 replace HPF := Lib.hid (free_below HPF.out gd)
                 replace HB := Lib.hid (below_step HB.out gd)
                 replace HO1 := Lib.hid (HO1.out.below gd)
                 clear gd
                 refine wp_region_held_drew (S := (fun w' => w'.cell? ⟨w.heap.size, 0, none⟩ = some (.int .u8 e.v) ∧ w'.cell? ⟨w.heap.size, 1, none⟩ = some (.int .u8 e.k) ∧ w'.cell? ⟨w.heap.size, 2, none⟩ = some (.slice A e.ns.length ca) ∧ w'.cell? ⟨w.heap.size, 3, none⟩ = some (.slice C e.ts.length cc))) (by kernel_rfl) HX.out (fun hHeld => ?_)
                 have HG0 := Lib.hid (show w.heap.size + 2 ≤ V5.drew.heap.size from HPF.out.1)
                 generalize V5.drew = D0 at HX HP HPF HB HO1 HG0 hHeld ⊢
                 refine wpAnyH_take (i := 0) (oi := { dst := some 108, op := Go.Op.fieldAddr 39 (Go.Operand.tmp 1) 0, type := 0, pos := "ref.go:93", after := #[], guard := none }) (v := ?v48) rfl (by kernel_rfl) (by kernel_rfl) (by kernel_rfl) (fun _ _ _ h => h) (Or.inl ⟨by rfl, ?hy48⟩) (by assumption) ?rest48
                 case hy48 => (intro w hSw; obtain ⟨s0, s1, s2, s3⟩ := hSw; go_simp; try with_reducible rfl)
                 try simp only [Act.put, List.setIfInBounds_toArray, List.set_cons_zero, List.set_cons_succ]
                 refine wpAnyH_take (i := 1) (oi := { dst := some 109, op := Go.Op.load 5 (Go.Operand.tmp 108), type := 5, pos := "ref.go:93", after := #[{ on := 0, ground := Go.Ground.data }], guard := none }) (v := ?v49) rfl (by kernel_rfl) (by kernel_rfl) (by kernel_rfl) (fun _ _ _ h => h) (Or.inl ⟨by rfl, ?hy49⟩) (by assumption) ?rest49
                 case hy49 => (intro w hSw; obtain ⟨s0, s1, s2, s3⟩ := hSw; go_simp; try with_reducible rfl)
                 try simp only [Act.put, List.setIfInBounds_toArray, List.set_cons_zero, List.set_cons_succ]
                 refine wpAnyH_take (i := 2) (oi := { dst := some 110, op := Go.Op.binOp Go.BinOp.add 5 (Go.Operand.tmp 109) (Go.Operand.const (Go.Value.int Go.IntKind.u8 1)) 5, type := 5, pos := "ref.go:93", after := #[{ on := 1, ground := Go.Ground.data }], guard := none }) (v := ?v50) rfl (by kernel_rfl) (by kernel_rfl) (by kernel_rfl) (fun _ _ _ h => h) (Or.inl ⟨by rfl, ?hy50⟩) (by assumption) ?rest50
                 case hy50 => (intro w hSw; obtain ⟨s0, s1, s2, s3⟩ := hSw; go_simp; try with_reducible rfl)
                 try simp only [Act.put, List.setIfInBounds_toArray, List.set_cons_zero, List.set_cons_succ]
                 refine wpAnyH_take (i := 3) (oi := { dst := some 111, op := Go.Op.fieldAddr 39 (Go.Operand.tmp 1) 1, type := 0, pos := "ref.go:93", after := #[], guard := none }) (v := ?v51) rfl (by kernel_rfl) (by kernel_rfl) (by kernel_rfl) (fun _ _ _ h => h) (Or.inl ⟨by rfl, ?hy51⟩) (by assumption) ?rest51
                 case hy51 => (intro w hSw; obtain ⟨s0, s1, s2, s3⟩ := hSw; go_simp; try with_reducible rfl)
                 try simp only [Act.put, List.setIfInBounds_toArray, List.set_cons_zero, List.set_cons_succ]
                 refine wpAnyH_take (i := 4) (oi := { dst := some 112, op := Go.Op.load 5 (Go.Operand.tmp 111), type := 5, pos := "ref.go:93", after := #[{ on := 3, ground := Go.Ground.data }], guard := none }) (v := ?v52) rfl (by kernel_rfl) (by kernel_rfl) (by kernel_rfl) (fun _ _ _ h => h) (Or.inl ⟨by rfl, ?hy52⟩) (by assumption) ?rest52
                 case hy52 => (intro w hSw; obtain ⟨s0, s1, s2, s3⟩ := hSw; go_simp; try with_reducible rfl)
                 try simp only [Act.put, List.setIfInBounds_toArray, List.set_cons_zero, List.set_cons_succ]
                 refine wpAnyH_take (i := 5) (oi := { dst := some 113, op := Go.Op.move (Go.Operand.tmp 7), type := 36, pos := "ref.go:93", after := #[], guard := none }) (v := ?v53) rfl (by kernel_rfl) (by kernel_rfl) (by kernel_rfl) (fun _ _ _ h => h) (Or.inl ⟨by rfl, ?hy53⟩) (by assumption) ?rest53
                 case hy53 => (intro w hSw; obtain ⟨s0, s1, s2, s3⟩ := hSw; go_simp; try with_reducible rfl)
                 try simp only [Act.put, List.setIfInBounds_toArray, List.set_cons_zero, List.set_cons_succ]
                 refine wpAnyH_take (i := 7) (oi := { dst := some 115, op := Go.Op.fieldAddr 39 (Go.Operand.tmp 1) 3, type := 0, pos := "ref.go:93", after := #[], guard := none }) (v := ?v54) rfl (by kernel_rfl) (by kernel_rfl) (by kernel_rfl) (fun _ _ _ h => h) (Or.inl ⟨by rfl, ?hy54⟩) (by assumption) ?rest54
                 case hy54 => (intro w hSw; obtain ⟨s0, s1, s2, s3⟩ := hSw; go_simp; try with_reducible rfl)
                 try simp only [Act.put, List.setIfInBounds_toArray, List.set_cons_zero, List.set_cons_succ]
                 refine wpAnyH_take (i := 8) (oi := { dst := some 116, op := Go.Op.load 37 (Go.Operand.tmp 115), type := 37, pos := "ref.go:93", after := #[{ on := 7, ground := Go.Ground.data }], guard := none }) (v := ?v55) rfl (by kernel_rfl) (by kernel_rfl) (by kernel_rfl) (fun _ _ _ h => h) (Or.inl ⟨by rfl, ?hy55⟩) (by assumption) ?rest55
                 case hy55 => (intro w hSw; obtain ⟨s0, s1, s2, s3⟩ := hSw; go_simp; try with_reducible rfl)
                 try simp only [Act.put, List.setIfInBounds_toArray, List.set_cons_zero, List.set_cons_succ]
                 refine wpAnyH_ready (rs := [6]) (by kernel_rfl) (by simp) ?_
                 refine AllReadyH.cons (o := { dst := some 114, op := Go.Op.buildSlice 37 0 #[], type := 37, pos := "ref.go:93", after := #[], guard := none }) rfl (fun K hK => ?_) AllReadyH.nil
                 have hb := (Below.refl D0.heap.size D0).alloc (Nat.le_refl _) (.cells #[] 9)
                 have HS0 := Lib.hid (Own.made D0 D0.heap.size 9 (Nat.le_refl _))
                 replace HX := Lib.hid (HX.out.below hb)
                 replace HP := Lib.hid (HP.out.below hb)
                 replace HPF := Lib.hid (free_below HPF.out hb)
                 replace HB := Lib.hid (below_step HB.out hb)
                 replace HO1 := Lib.hid (HO1.out.below hb)
                 have HZ := Lib.hid hb.size
                 clear hb
                 go_simp
                 refine hK.out _ _ HX.out (fun hHeld2 => ?_)
                 clear hK K
                 generalize D0.alloc (.cells #[] 9) = D1 at HX HP HPF HB HO1 HS0 HZ hHeld2 ⊢
                 generalize D0.heap.size = g at HS0 HZ HG0 ⊢
                 try simp only [Act.put, List.setIfInBounds_toArray, List.set_cons_zero, List.set_cons_succ]
                 refine wpAnyH_ready (rs := [9]) (by kernel_rfl) (by simp) ?_
                 refine AllReadyH.cons (o := { dst := some 117, op := Go.Op.call { callee := Go.Callee.builtin Go.Builtin.append, args := #[Go.Operand.tmp 114, Go.Operand.tmp 116], argTypes := #[37, 37] }, type := 37, pos := "ref.go:93", after := #[{ on := 6, ground := Go.Ground.data }, { on := 8, ground := Go.Ground.data }], guard := none }) rfl (fun K hK => ?_) AllReadyH.nil
                 refine wp_append_vals 37 9 (.string ByteArray.empty) 16 Tryz.underlying37 infoT rfl (by decide) (.tmp 114) (.tmp 116) rfl g (.slice (some ⟨g, 0, none⟩) 0 0) [] rfl HS0.out C _ cc (texts e.ts) rfl (texts_len _).symm ((HA0.out.below HB.out).ts) (texts_cell _) HA0.out.nB (by have := HO.out.tx; have := texts_len e.ts; simp only [List.length_nil]; omega) HZ.out ?_
                 intro v' V2 hO hg
                 rw [List.nil_append] at hO
                 obtain ⟨C2, c2, rfl, -, -⟩ := hO.vat
                 rw [texts_len] at hO ⊢
                 have hlow : w.heap.size + 2 ≤ g := HG0.out
                 have hb := below_grown HS0.out (Nat.le_refl _) HZ.out hg
                 have HO2 := Lib.hid (hO.less hlow)
                 have hsz := HPF.out.1
                 replace HX := Lib.hid (four_low HX.out hb (by omega))
                 replace HP := Lib.hid (four_low HP.out hb (by omega))
                 replace HPF := Lib.hid (free_low HPF.out hb (by omega))
                 replace HB := Lib.hid (HB.out.trans (hb.mono (by omega)))
                 replace HO1 := Lib.hid (ownE_apart HO1.out HS0.out (by decide) hg)
                 clear hO hg hb hlow hsz HS0 HZ
                 refine hK.out _ _ HX.out (fun hHeld3 => ?_)
                 clear hK K
                 try simp only [Act.put, List.setIfInBounds_toArray, List.set_cons_zero, List.set_cons_succ]
                 refine wpAnyH_take (i := 10) (oi := { dst := some 118, op := Go.Op.build 39 #[(0, Go.Operand.tmp 110), (1, Go.Operand.tmp 112), (2, Go.Operand.tmp 113), (3, Go.Operand.tmp 117)], type := 39, pos := "ref.go:93", after := #[{ on := 2, ground := Go.Ground.data }, { on := 4, ground := Go.Ground.data }, { on := 5, ground := Go.Ground.data }, { on := 9, ground := Go.Ground.data }], guard := none }) (v := ?v56) rfl (by kernel_rfl) (by kernel_rfl) (by kernel_rfl) (fun _ _ _ h => h) (Or.inl ⟨by rfl, ?hy56⟩) (by assumption) ?rest56
                 case hy56 => (intro w hSw; obtain ⟨s0, s1, s2, s3⟩ := hSw; go_simp; try with_reducible rfl)
                 try simp only [Act.put, List.setIfInBounds_toArray, List.set_cons_zero, List.set_cons_succ]
                 refine wpAnyH_ready (rs := [11]) (by kernel_rfl) (by simp) ?_
                 refine AllReadyH.cons (o := { dst := none, op := Go.Op.store 39 (Go.Operand.tmp 2) (Go.Operand.tmp 118), type := 0, pos := "ref.go:93", after := #[{ on := 10, ground := Go.Ground.data }, { on := 9, ground := Go.Ground.chain }, { on := 0, ground := Go.Ground.phase }, { on := 1, ground := Go.Ground.phase }, { on := 2, ground := Go.Ground.phase }, { on := 3, ground := Go.Ground.phase }, { on := 4, ground := Go.Ground.phase }, { on := 5, ground := Go.Ground.phase }, { on := 6, ground := Go.Ground.phase }, { on := 7, ground := Go.Ground.phase }, { on := 8, ground := Go.Ground.phase }, { on := 9, ground := Go.Ground.phase }, { on := 10, ground := Go.Ground.phase }], guard := none }) rfl (fun K hK => ?_) AllReadyH.nil
                 obtain ⟨p0, p1, p2, p3⟩ := HP.out
                 have f0 := HPF.out.2 0
                 have f1 := HPF.out.2 1
                 have f2 := HPF.out.2 2
                 have f3 := HPF.out.2 3
                 go_simp
                 clear p0 p1 p2 p3 f0 f1 f2 f3
                 obtain ⟨d0, d1, d2, d3⟩ := HP.out.set4 (.int .u8 ((e.v : Int) + 1)) (.int .u8 e.k) (.slice A1 l2.length c1) (.slice C2 e.ts.length c2)
                 have hx4 := Four.touch HX.out (touch4 V2 (w.heap.size + 1) (.int .u8 ((e.v : Int) + 1)) (.int .u8 e.k) (.slice A1 l2.length c1) (.slice C2 e.ts.length c2)) (Or.inl (Nat.lt_succ_self _))
                 refine hK.out _ _ hx4 (fun hHeld4 => ?_)
                 clear hK K hx4
                 try simp only [Act.put, List.setIfInBounds_toArray, List.set_cons_zero, List.set_cons_succ]
                 refine wpAnyH_take (i := 12) (oi := { dst := some 3, op := Go.Op.assign (Go.Operand.const (Go.Value.int Go.IntKind.i64 0)), type := 26, pos := "ref.go:93", after := #[{ on := 11, ground := Go.Ground.chain }, { on := 0, ground := Go.Ground.phase }, { on := 1, ground := Go.Ground.phase }, { on := 2, ground := Go.Ground.phase }, { on := 3, ground := Go.Ground.phase }, { on := 4, ground := Go.Ground.phase }, { on := 5, ground := Go.Ground.phase }, { on := 6, ground := Go.Ground.phase }, { on := 7, ground := Go.Ground.phase }, { on := 8, ground := Go.Ground.phase }, { on := 9, ground := Go.Ground.phase }, { on := 10, ground := Go.Ground.phase }, { on := 11, ground := Go.Ground.phase }], guard := none }) (v := ?v57) rfl (by kernel_rfl) (by kernel_rfl) (by kernel_rfl) (fun _ _ _ h => h) (Or.inl ⟨by rfl, ?hy57⟩) (by assumption) ?rest57
                 case hy57 => (intro w hSw; obtain ⟨s0, s1, s2, s3⟩ := hSw; go_simp; try with_reducible rfl)
                 try simp only [Act.put, List.setIfInBounds_toArray, List.set_cons_zero, List.set_cons_succ]
                 refine wpAnyH_done (by kernel_rfl) ?_ _
                 go_wp2_with fail
                 refine bodyPost_ret (v := .tuple #[.agg #[.int .u8 ((e.v : Int) + 1), .int .u8 e.k, .slice A1 l2.length c1, .slice C2 e.ts.length c2], .int .i64 0]) (by simp [results, Tryz.results78, go_sem, d0, d1, d2, d3]) rfl ?_
                 rw [HDN.out]
                 refine ⟨A1, c1, C2, c2, ?_, ?_, ?_, HB.out.trans ((touch4 V2 (w.heap.size + 1) _ _ _ _).below (Nat.le_succ _) HB.out.size)⟩
                 · show _ = Ending.returned (.tuple #[.agg #[.int .u8 ((e.v + 1 : Nat) : Int), .int .u8 e.k, .slice A1 (upE e).ns.length c1, .slice C2 e.ts.length c2], .int .i64 0]); rw [HLU.out]; rfl
                 · rw [HUN.out]; exact (ownE_set4 HO1.out (Nat.lt_succ_self _)).less (by omega)
                 · exact (ownE_set4 (Or.inl HO2.out) (Nat.lt_succ_self _)).less (by omega)
            case br28_6 =>
             have HM6 := Lib.hid (vat_new D (.int .i64 y) 2)
             have hb := ((Below.refl D.heap.size D).alloc (Nat.le_refl _) (.cells #[.int .i64 y] 2))
             replace HG := Lib.hid (HG.out.trans (hb.mono (Nat.le_trans (Nat.le_of_eq HDZ.out) HG.out.size)))
             have HB6 := Lib.hid (show D.heap.size < (D.alloc (.cells #[.int .i64 y] 2)).heap.size by simp)
             clear hb
             go_simp
             refine hK.out _ _ trivial (fun hHeld => ?_)
             clear hK K
             generalize D.heap.size = b6 at HM6 HB6 ⊢
             generalize D.alloc (.cells #[.int .i64 y] 2) = V1 at HM6 HG HB6 hHeld ⊢
             try simp only [Act.put, List.setIfInBounds_toArray, List.set_cons_zero, List.set_cons_succ]
             refine wpAnyH_ready (rs := [0]) (by kernel_rfl) (by simp) ?_
             refine (AllReadyH.cons (o := { dst := some 96, op := Go.Op.buildSlice 36 0 #[], type := 36, pos := "ref.go:91", after := #[], guard := none }) rfl (fun K hK => ?br58_0) AllReadyH.nil)
             case br58_0 =>
              have HM := Lib.hid (Own.made V1 dz 2 (Nat.le_trans (Nat.le_of_eq HDZ.out) HG.out.size))
              have hb := ((Below.refl V1.heap.size V1).alloc (Nat.le_refl _) (.cells #[] 2))
              replace HM6 := Lib.hid (HM6.out.below hb)
              replace HG := Lib.hid (HG.out.trans (hb.mono (Nat.le_trans (Nat.le_of_eq HDZ.out) HG.out.size)))
              clear hb
              go_simp
              refine hK.out _ _ trivial (fun hHeld => ?_)
              clear hK K
              have hne : b6 ≠ V1.heap.size := by have := HB6.out; omega
              have HNE := Lib.hid hne
              clear hne
              generalize V1.heap.size = g0 at HM HNE ⊢
              generalize V1.alloc (.cells #[] 2) = V2 at HM HG hHeld HM6 ⊢
              try simp only [Act.put, List.setIfInBounds_toArray, List.set_cons_zero, List.set_cons_succ]
              refine wpAnyH_ready (rs := [4]) (by kernel_rfl) (by simp) ?_
              refine (AllReadyH.cons (o := { dst := some 100, op := Go.Op.call { callee := Go.Callee.builtin Go.Builtin.append, args := #[Go.Operand.tmp 96, Go.Operand.tmp 99], argTypes := #[36, 36] }, type := 36, pos := "ref.go:91", after := #[{ on := 0, ground := Go.Ground.data }, { on := 3, ground := Go.Ground.data }], guard := none }) rfl (fun K hK => ?br59_4) AllReadyH.nil)
              case br59_4 =>
               refine wp_append_vals 36 2 (.int .i64 0) 8 Tryz.underlying36 infoN rfl (by decide) (.tmp 96) (.tmp 99) rfl dz (.slice (some ⟨g0, 0, none⟩) 0 0) [] rfl HM.out (cutA An cn 0) p cn ((nums l).take p) rfl (by rw [List.length_take, nums_len]; have := HPL.out; omega) ((vat_dz HVN.out HDZ.out HG.out).head cn p (by rw [nums_len]; exact HLN2.out)) (fun u hu => nums_cell l u (List.mem_of_mem_take hu)) (fun h => by have := cutA_none (k := 0) HNN.out h; omega) (by have := HFEW.out; have := HLL.out; simp [nums_len, List.length_take, List.length_drop]; omega) (Nat.le_trans (Nat.le_of_eq HDZ.out) HG.out.size) ?_
               intro v4 V3 hO hg
               have HM4 := Lib.hid hO
               have hb := below_grown HM.out (Nat.le_refl _) (Nat.le_trans (Nat.le_of_eq HDZ.out) HG.out.size) hg
               replace HM6 := Lib.hid (vat_gr HM6.out hg HNE.out)
               replace HG := Lib.hid (HG.out.trans hb)
               clear hO hg hb HM HNE
               refine hK.out _ _ trivial (fun hHeld => ?_)
               clear hK K
               try simp only [Act.put, List.setIfInBounds_toArray, List.set_cons_zero, List.set_cons_succ]
               refine wpAnyH_ready (rs := [7]) (by kernel_rfl) (by simp) ?_
               refine (AllReadyH.cons (o := { dst := some 103, op := Go.Op.call { callee := Go.Callee.builtin Go.Builtin.append, args := #[Go.Operand.tmp 100, Go.Operand.tmp 102], argTypes := #[36, 36] }, type := 36, pos := "ref.go:91", after := #[{ on := 4, ground := Go.Ground.data }, { on := 6, ground := Go.Ground.data }, { on := 4, ground := Go.Ground.chain }], guard := none }) rfl (fun K hK => ?br60_7) AllReadyH.nil)
               case br60_7 =>
                refine wp_append_vals 36 2 (.int .i64 0) 8 Tryz.underlying36 infoN rfl (by decide) (.tmp 100) (.tmp 102) rfl dz v4 _ rfl HM4.out (some ⟨b6, 0, none⟩) 1 1 [.int .i64 y] rfl rfl HM6.out (by simp; rfl) (fun h => by cases h) (by have := HFEW.out; have := HLL.out; simp [nums_len, List.length_take, List.length_drop]; omega) (Nat.le_trans (Nat.le_of_eq HDZ.out) HG.out.size) ?_
                intro v7 V4 hO hg
                have HM7 := Lib.hid hO
                have hb := below_grown HM4.out (Nat.le_refl _) (Nat.le_trans (Nat.le_of_eq HDZ.out) HG.out.size) hg
                replace HG := Lib.hid (HG.out.trans hb)
                clear hO hg hb HM4 HM6
                refine hK.out _ _ trivial (fun hHeld => ?_)
                clear hK K
                try simp only [Act.put, List.setIfInBounds_toArray, List.set_cons_zero, List.set_cons_succ]
                refine wpAnyH_ready (rs := [11]) (by kernel_rfl) (by simp) ?_
                refine (AllReadyH.cons (o := { dst := some 107, op := Go.Op.call { callee := Go.Callee.builtin Go.Builtin.append, args := #[Go.Operand.tmp 103, Go.Operand.tmp 106], argTypes := #[36, 36] }, type := 36, pos := "ref.go:91", after := #[{ on := 7, ground := Go.Ground.data }, { on := 10, ground := Go.Ground.data }, { on := 7, ground := Go.Ground.chain }], guard := none }) rfl (fun K hK => ?br61_11) AllReadyH.nil)
                case br61_11 =>
                 refine wp_append_vals 36 2 (.int .i64 0) 8 Tryz.underlying36 infoN rfl (by decide) (.tmp 103) (.tmp 106) rfl dz v7 _ rfl HM7.out (cutA An cn p) (l.length - p) (cn - p) ((nums l).drop p) rfl (by rw [List.length_drop, nums_len]) ((vat_dz HVN.out HDZ.out HG.out).cut cn p (by rw [nums_len]; exact HLN2.out)) (fun u hu => nums_cell l u (List.mem_of_mem_drop hu)) (fun h => cutA_none HNN.out h) (by have := HFEW.out; have := HLL.out; simp [nums_len, List.length_take, List.length_drop]; omega) (Nat.le_trans (Nat.le_of_eq HDZ.out) HG.out.size) ?_
                 intro v11 V5 hO hg
                 have HMF := Lib.hid hO
                 have hb := below_grown HM7.out (Nat.le_refl _) (Nat.le_trans (Nat.le_of_eq HDZ.out) HG.out.size) hg
                 replace HG := Lib.hid (HG.out.trans hb)
                 clear hO hg hb HM7
                 refine hK.out _ _ trivial (fun hHeld => ?_)
                 clear hK K
                 try simp only [Act.put, List.setIfInBounds_toArray, List.set_cons_zero, List.set_cons_succ]
                 refine wpAnyH_take (i := 12) (oi := { dst := some 7, op := Go.Op.assign (Go.Operand.tmp 107), type := 36, pos := "ref.go:91", after := #[{ on := 11, ground := Go.Ground.data }, { on := 11, ground := Go.Ground.chain }, { on := 0, ground := Go.Ground.phase }, { on := 1, ground := Go.Ground.phase }, { on := 2, ground := Go.Ground.phase }, { on := 3, ground := Go.Ground.phase }, { on := 4, ground := Go.Ground.phase }, { on := 5, ground := Go.Ground.phase }, { on := 6, ground := Go.Ground.phase }, { on := 7, ground := Go.Ground.phase }, { on := 8, ground := Go.Ground.phase }, { on := 9, ground := Go.Ground.phase }, { on := 10, ground := Go.Ground.phase }, { on := 11, ground := Go.Ground.phase }], guard := none }) (v := ?v62) rfl (by kernel_rfl) (by kernel_rfl) (by kernel_rfl) (fun _ _ _ h => h) (Or.inl ⟨by rfl, ?hy62⟩) (by assumption) ?rest62
                 case hy62 => (intro w hSw; obtain - := hSw; go_simp; try with_reducible rfl)
                 try simp only [Act.put, List.setIfInBounds_toArray, List.set_cons_zero, List.set_cons_succ]
                 refine wpAnyH_done (by kernel_rfl) ?_ _
                 have hmf := HMF.out
                 rw [List.nil_append, show (nums l).take p ++ [Value.int .i64 y] ++ (nums l).drop p = nums (l.take p ++ [y] ++ l.drop p) by simp [nums, List.map_take, List.map_drop]] at hmf
                 obtain ⟨A1, c1, rfl, -, -, -, -⟩ := hmf.vat
                 rw [nums_len] at hmf ⊢
                 have hsz := HSZ.out
                 have HO1 : Hid (OwnE V5 (w.heap.size + 2) 2 (.slice A1 (l.take p ++ [y] ++ l.drop p).length c1) (nums (l.take p ++ [y] ++ l.drop p))) := Lib.hid (Or.inl (hmf.less hsz))
                 replace HX := Lib.hid (four_low HX.out HG.out (by omega))
                 replace HP := Lib.hid (four_low HP.out HG.out (by omega))
                 replace HPF := Lib.hid (free_low HPF.out HG.out (by omega))
                 replace HB := Lib.hid (HB.out.trans (HG.out.mono (by omega)))
                 clear hsz hmf HMF HG HVN T1 T2 hHeld
                 generalize l.take p ++ [y] ++ l.drop p = l2 at HO1 HUN ⊢
                 have HLU := Lib.hid (show (upE e).ns.length = l2.length by rw [HUN.out])
                 obtain ⟨x0, x1, x2, x3⟩ := HX.out
                 go_upto_region 22 with (fail)
                 clear x0 x1 x2 x3
                 have hvv := HV.out
                 have zz : IntKind.u8.wrap ((e.v : Int) + 1) = (e.v : Int) + 1 := by (rw [IntKind.wrap_u8]; omega)
                 have zz2 : ((e.v : Int) + 1) % 256 = (e.v : Int) + 1 := by omega
                 clear hvv
                 have gd := below_drew V5.heap.size V5
                 replace HX := Lib.hid (HX.out.below gd)
                 replace HP := Lib.hid (HP.out.below gd)
                 replace HPF := Lib.hid (free_below HPF.out gd)
                 replace HB := Lib.hid (below_step HB.out gd)
                 replace HO1 := Lib.hid (HO1.out.below gd)
                 clear gd
                 refine wp_region_held_drew (S := (fun w' => w'.cell? ⟨w.heap.size, 0, none⟩ = some (.int .u8 e.v) ∧ w'.cell? ⟨w.heap.size, 1, none⟩ = some (.int .u8 e.k) ∧ w'.cell? ⟨w.heap.size, 2, none⟩ = some (.slice A e.ns.length ca) ∧ w'.cell? ⟨w.heap.size, 3, none⟩ = some (.slice C e.ts.length cc))) (by kernel_rfl) HX.out (fun hHeld => ?_)
                 have HG0 := Lib.hid (show w.heap.size + 2 ≤ V5.drew.heap.size from HPF.out.1)
                 generalize V5.drew = D0 at HX HP HPF HB HO1 HG0 hHeld ⊢
                 refine wpAnyH_take (i := 0) (oi := { dst := some 108, op := Go.Op.fieldAddr 39 (Go.Operand.tmp 1) 0, type := 0, pos := "ref.go:93", after := #[], guard := none }) (v := ?v63) rfl (by kernel_rfl) (by kernel_rfl) (by kernel_rfl) (fun _ _ _ h => h) (Or.inl ⟨by rfl, ?hy63⟩) (by assumption) ?rest63
                 case hy63 => (intro w hSw; obtain ⟨s0, s1, s2, s3⟩ := hSw; go_simp; try with_reducible rfl)
                 try simp only [Act.put, List.setIfInBounds_toArray, List.set_cons_zero, List.set_cons_succ]
                 refine wpAnyH_take (i := 1) (oi := { dst := some 109, op := Go.Op.load 5 (Go.Operand.tmp 108), type := 5, pos := "ref.go:93", after := #[{ on := 0, ground := Go.Ground.data }], guard := none }) (v := ?v64) rfl (by kernel_rfl) (by kernel_rfl) (by kernel_rfl) (fun _ _ _ h => h) (Or.inl ⟨by rfl, ?hy64⟩) (by assumption) ?rest64
                 case hy64 => (intro w hSw; obtain ⟨s0, s1, s2, s3⟩ := hSw; go_simp; try with_reducible rfl)
                 try simp only [Act.put, List.setIfInBounds_toArray, List.set_cons_zero, List.set_cons_succ]
                 refine wpAnyH_take (i := 2) (oi := { dst := some 110, op := Go.Op.binOp Go.BinOp.add 5 (Go.Operand.tmp 109) (Go.Operand.const (Go.Value.int Go.IntKind.u8 1)) 5, type := 5, pos := "ref.go:93", after := #[{ on := 1, ground := Go.Ground.data }], guard := none }) (v := ?v65) rfl (by kernel_rfl) (by kernel_rfl) (by kernel_rfl) (fun _ _ _ h => h) (Or.inl ⟨by rfl, ?hy65⟩) (by assumption) ?rest65
                 case hy65 => (intro w hSw; obtain ⟨s0, s1, s2, s3⟩ := hSw; go_simp; try with_reducible rfl)
                 try simp only [Act.put, List.setIfInBounds_toArray, List.set_cons_zero, List.set_cons_succ]
                 refine wpAnyH_take (i := 3) (oi := { dst := some 111, op := Go.Op.fieldAddr 39 (Go.Operand.tmp 1) 1, type := 0, pos := "ref.go:93", after := #[], guard := none }) (v := ?v66) rfl (by kernel_rfl) (by kernel_rfl) (by kernel_rfl) (fun _ _ _ h => h) (Or.inl ⟨by rfl, ?hy66⟩) (by assumption) ?rest66
                 case hy66 => (intro w hSw; obtain ⟨s0, s1, s2, s3⟩ := hSw; go_simp; try with_reducible rfl)
                 try simp only [Act.put, List.setIfInBounds_toArray, List.set_cons_zero, List.set_cons_succ]
                 refine wpAnyH_take (i := 4) (oi := { dst := some 112, op := Go.Op.load 5 (Go.Operand.tmp 111), type := 5, pos := "ref.go:93", after := #[{ on := 3, ground := Go.Ground.data }], guard := none }) (v := ?v67) rfl (by kernel_rfl) (by kernel_rfl) (by kernel_rfl) (fun _ _ _ h => h) (Or.inl ⟨by rfl, ?hy67⟩) (by assumption) ?rest67
                 case hy67 => (intro w hSw; obtain ⟨s0, s1, s2, s3⟩ := hSw; go_simp; try with_reducible rfl)
                 try simp only [Act.put, List.setIfInBounds_toArray, List.set_cons_zero, List.set_cons_succ]
                 refine wpAnyH_take (i := 5) (oi := { dst := some 113, op := Go.Op.move (Go.Operand.tmp 7), type := 36, pos := "ref.go:93", after := #[], guard := none }) (v := ?v68) rfl (by kernel_rfl) (by kernel_rfl) (by kernel_rfl) (fun _ _ _ h => h) (Or.inl ⟨by rfl, ?hy68⟩) (by assumption) ?rest68
                 case hy68 => (intro w hSw; obtain ⟨s0, s1, s2, s3⟩ := hSw; go_simp; try with_reducible rfl)
                 try simp only [Act.put, List.setIfInBounds_toArray, List.set_cons_zero, List.set_cons_succ]
                 refine wpAnyH_take (i := 7) (oi := { dst := some 115, op := Go.Op.fieldAddr 39 (Go.Operand.tmp 1) 3, type := 0, pos := "ref.go:93", after := #[], guard := none }) (v := ?v69) rfl (by kernel_rfl) (by kernel_rfl) (by kernel_rfl) (fun _ _ _ h => h) (Or.inl ⟨by rfl, ?hy69⟩) (by assumption) ?rest69
                 case hy69 => (intro w hSw; obtain ⟨s0, s1, s2, s3⟩ := hSw; go_simp; try with_reducible rfl)
                 try simp only [Act.put, List.setIfInBounds_toArray, List.set_cons_zero, List.set_cons_succ]
                 refine wpAnyH_take (i := 8) (oi := { dst := some 116, op := Go.Op.load 37 (Go.Operand.tmp 115), type := 37, pos := "ref.go:93", after := #[{ on := 7, ground := Go.Ground.data }], guard := none }) (v := ?v70) rfl (by kernel_rfl) (by kernel_rfl) (by kernel_rfl) (fun _ _ _ h => h) (Or.inl ⟨by rfl, ?hy70⟩) (by assumption) ?rest70
                 case hy70 => (intro w hSw; obtain ⟨s0, s1, s2, s3⟩ := hSw; go_simp; try with_reducible rfl)
                 try simp only [Act.put, List.setIfInBounds_toArray, List.set_cons_zero, List.set_cons_succ]
                 refine wpAnyH_ready (rs := [6]) (by kernel_rfl) (by simp) ?_
                 refine AllReadyH.cons (o := { dst := some 114, op := Go.Op.buildSlice 37 0 #[], type := 37, pos := "ref.go:93", after := #[], guard := none }) rfl (fun K hK => ?_) AllReadyH.nil
                 have hb := (Below.refl D0.heap.size D0).alloc (Nat.le_refl _) (.cells #[] 9)
                 have HS0 := Lib.hid (Own.made D0 D0.heap.size 9 (Nat.le_refl _))
                 replace HX := Lib.hid (HX.out.below hb)
                 replace HP := Lib.hid (HP.out.below hb)
                 replace HPF := Lib.hid (free_below HPF.out hb)
                 replace HB := Lib.hid (below_step HB.out hb)
                 replace HO1 := Lib.hid (HO1.out.below hb)
                 have HZ := Lib.hid hb.size
                 clear hb
                 go_simp
                 refine hK.out _ _ HX.out (fun hHeld2 => ?_)
                 clear hK K
                 generalize D0.alloc (.cells #[] 9) = D1 at HX HP HPF HB HO1 HS0 HZ hHeld2 ⊢
                 generalize D0.heap.size = g at HS0 HZ HG0 ⊢
                 try simp only [Act.put, List.setIfInBounds_toArray, List.set_cons_zero, List.set_cons_succ]
                 refine wpAnyH_ready (rs := [9]) (by kernel_rfl) (by simp) ?_
                 refine AllReadyH.cons (o := { dst := some 117, op := Go.Op.call { callee := Go.Callee.builtin Go.Builtin.append, args := #[Go.Operand.tmp 114, Go.Operand.tmp 116], argTypes := #[37, 37] }, type := 37, pos := "ref.go:93", after := #[{ on := 6, ground := Go.Ground.data }, { on := 8, ground := Go.Ground.data }], guard := none }) rfl (fun K hK => ?_) AllReadyH.nil
                 refine wp_append_vals 37 9 (.string ByteArray.empty) 16 Tryz.underlying37 infoT rfl (by decide) (.tmp 114) (.tmp 116) rfl g (.slice (some ⟨g, 0, none⟩) 0 0) [] rfl HS0.out C _ cc (texts e.ts) rfl (texts_len _).symm ((HA0.out.below HB.out).ts) (texts_cell _) HA0.out.nB (by have := HO.out.tx; have := texts_len e.ts; simp only [List.length_nil]; omega) HZ.out ?_
                 intro v' V2 hO hg
                 rw [List.nil_append] at hO
                 obtain ⟨C2, c2, rfl, -, -⟩ := hO.vat
                 rw [texts_len] at hO ⊢
                 have hlow : w.heap.size + 2 ≤ g := HG0.out
                 have hb := below_grown HS0.out (Nat.le_refl _) HZ.out hg
                 have HO2 := Lib.hid (hO.less hlow)
                 have hsz := HPF.out.1
                 replace HX := Lib.hid (four_low HX.out hb (by omega))
                 replace HP := Lib.hid (four_low HP.out hb (by omega))
                 replace HPF := Lib.hid (free_low HPF.out hb (by omega))
                 replace HB := Lib.hid (HB.out.trans (hb.mono (by omega)))
                 replace HO1 := Lib.hid (ownE_apart HO1.out HS0.out (by decide) hg)
                 clear hO hg hb hlow hsz HS0 HZ
                 refine hK.out _ _ HX.out (fun hHeld3 => ?_)
                 clear hK K
                 try simp only [Act.put, List.setIfInBounds_toArray, List.set_cons_zero, List.set_cons_succ]
                 refine wpAnyH_take (i := 10) (oi := { dst := some 118, op := Go.Op.build 39 #[(0, Go.Operand.tmp 110), (1, Go.Operand.tmp 112), (2, Go.Operand.tmp 113), (3, Go.Operand.tmp 117)], type := 39, pos := "ref.go:93", after := #[{ on := 2, ground := Go.Ground.data }, { on := 4, ground := Go.Ground.data }, { on := 5, ground := Go.Ground.data }, { on := 9, ground := Go.Ground.data }], guard := none }) (v := ?v71) rfl (by kernel_rfl) (by kernel_rfl) (by kernel_rfl) (fun _ _ _ h => h) (Or.inl ⟨by rfl, ?hy71⟩) (by assumption) ?rest71
                 case hy71 => (intro w hSw; obtain ⟨s0, s1, s2, s3⟩ := hSw; go_simp; try with_reducible rfl)
                 try simp only [Act.put, List.setIfInBounds_toArray, List.set_cons_zero, List.set_cons_succ]
                 refine wpAnyH_ready (rs := [11]) (by kernel_rfl) (by simp) ?_
                 refine AllReadyH.cons (o := { dst := none, op := Go.Op.store 39 (Go.Operand.tmp 2) (Go.Operand.tmp 118), type := 0, pos := "ref.go:93", after := #[{ on := 10, ground := Go.Ground.data }, { on := 9, ground := Go.Ground.chain }, { on := 0, ground := Go.Ground.phase }, { on := 1, ground := Go.Ground.phase }, { on := 2, ground := Go.Ground.phase }, { on := 3, ground := Go.Ground.phase }, { on := 4, ground := Go.Ground.phase }, { on := 5, ground := Go.Ground.phase }, { on := 6, ground := Go.Ground.phase }, { on := 7, ground := Go.Ground.phase }, { on := 8, ground := Go.Ground.phase }, { on := 9, ground := Go.Ground.phase }, { on := 10, ground := Go.Ground.phase }], guard := none }) rfl (fun K hK => ?_) AllReadyH.nil
                 obtain ⟨p0, p1, p2, p3⟩ := HP.out
                 have f0 := HPF.out.2 0
                 have f1 := HPF.out.2 1
                 have f2 := HPF.out.2 2
                 have f3 := HPF.out.2 3
                 go_simp
                 clear p0 p1 p2 p3 f0 f1 f2 f3
                 obtain ⟨d0, d1, d2, d3⟩ := HP.out.set4 (.int .u8 ((e.v : Int) + 1)) (.int .u8 e.k) (.slice A1 l2.length c1) (.slice C2 e.ts.length c2)
                 have hx4 := Four.touch HX.out (touch4 V2 (w.heap.size + 1) (.int .u8 ((e.v : Int) + 1)) (.int .u8 e.k) (.slice A1 l2.length c1) (.slice C2 e.ts.length c2)) (Or.inl (Nat.lt_succ_self _))
                 refine hK.out _ _ hx4 (fun hHeld4 => ?_)
                 clear hK K hx4
                 try simp only [Act.put, List.setIfInBounds_toArray, List.set_cons_zero, List.set_cons_succ]
                 refine wpAnyH_take (i := 12) (oi := { dst := some 3, op := Go.Op.assign (Go.Operand.const (Go.Value.int Go.IntKind.i64 0)), type := 26, pos := "ref.go:93", after := #[{ on := 11, ground := Go.Ground.chain }, { on := 0, ground := Go.Ground.phase }, { on := 1, ground := Go.Ground.phase }, { on := 2, ground := Go.Ground.phase }, { on := 3, ground := Go.Ground.phase }, { on := 4, ground := Go.Ground.phase }, { on := 5, ground := Go.Ground.phase }, { on := 6, ground := Go.Ground.phase }, { on := 7, ground := Go.Ground.phase }, { on := 8, ground := Go.Ground.phase }, { on := 9, ground := Go.Ground.phase }, { on := 10, ground := Go.Ground.phase }, { on := 11, ground := Go.Ground.phase }], guard := none }) (v := ?v72) rfl (by kernel_rfl) (by kernel_rfl) (by kernel_rfl) (fun _ _ _ h => h) (Or.inl ⟨by rfl, ?hy72⟩) (by assumption) ?rest72
                 case hy72 => (intro w hSw; obtain ⟨s0, s1, s2, s3⟩ := hSw; go_simp; try with_reducible rfl)
                 try simp only [Act.put, List.setIfInBounds_toArray, List.set_cons_zero, List.set_cons_succ]
                 refine wpAnyH_done (by kernel_rfl) ?_ _
                 go_wp2_with fail
                 refine bodyPost_ret (v := .tuple #[.agg #[.int .u8 ((e.v : Int) + 1), .int .u8 e.k, .slice A1 l2.length c1, .slice C2 e.ts.length c2], .int .i64 0]) (by simp [results, Tryz.results78, go_sem, d0, d1, d2, d3]) rfl ?_
                 rw [HDN.out]
                 refine ⟨A1, c1, C2, c2, ?_, ?_, ?_, HB.out.trans ((touch4 V2 (w.heap.size + 1) _ _ _ _).below (Nat.le_succ _) HB.out.size)⟩
                 · show _ = Ending.returned (.tuple #[.agg #[.int .u8 ((e.v + 1 : Nat) : Int), .int .u8 e.k, .slice A1 (upE e).ns.length c1, .slice C2 e.ts.length c2], .int .i64 0]); rw [HLU.out]; rfl
                 · rw [HUN.out]; exact (ownE_set4 HO1.out (Nat.lt_succ_self _)).less (by omega)
                 · exact (ownE_set4 (Or.inl HO2.out) (Nat.lt_succ_self _)).less (by omega)

end Go.Proofs.YtiibeemjkdipnaaGreatDoor.Upcast
