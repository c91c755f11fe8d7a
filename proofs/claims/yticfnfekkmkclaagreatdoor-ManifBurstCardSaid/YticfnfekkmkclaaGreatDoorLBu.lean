import Derived.Test.YticfnfekkmkclaaGreatDoorBU
import Derived.Test.YticfnfekkmkclaaGreatDoorAX
import Derived.Test.YticfnfekkmkclaaGreatDoorGV
/-
  A manifest's bytes with a burst of at most 32 bits are none's.
-/
namespace Go.Proofs.YticfnfekkmkclaaGreatDoor.Manif
open Go Go.RowKit
open Go.Proofs.YticfnfekkmkclaaGreatDoor.Crc (W ofW fourL tog tog_length anyB anyB_iff burst_of bit8 turn V word_bit raw_fourL raw_append addW raw it Row8)
open Go.Proofs.YticfnfekkmkclaaGreatDoor.Wire (S S_list S_size cell_row frozen_row row_lt heap_set heap_far)
open Go.Proofs.YticfnfekkmkclaaGreatDoor.Seg (EnvP)

set_option maxRecDepth 100000 in
set_option maxHeartbeats 4000000 in
theorem burst_few (w : World) (g : Int) (A : Option Addr) (cap : Nat) (l : List (Int × Int)) (a : Int) (p : W) (hx : RowE w A l) (hl : ¬ 100 < l.length) (hm : mayM g l = true) (E : EnvP w) :
    Calls Tryz.prog 9 #[.agg #[.int .i64 g, .slice A l.length cap], .int .i64 a, .int .u32 (V p)] w fun e w' => e = .returned (.bool true) ∧ Below w.heap.size w w' := by
  obtain ⟨w0, hw0⟩ : ∃ w0, w.alloc (.cells #[.int .i64 g, .slice A l.length cap] 47) = w0 := ⟨_, rfl⟩
  have hb0 : Below w.heap.size w w0 := by rw [← hw0]; exact (Below.refl _ _).alloc (Nat.le_refl _) _
  have hm0 : w0.heap[w.heap.size]? = some (.cells #[.int .i64 g, .slice A l.length cap] 47 (0, 0)) := by rw [← hw0]; exact heap_alloc_new w _
  have HAW := Lib.hid (awake_any w0 (E.over hb0))
  have k1 : decide (100 < (l.length : Int)) = false := decide_eq_false (by omega)
  have k3 : decide (100 < l.length) = false := decide_eq_false hl
  have c1 : w0.cell? ⟨w.heap.size, 1, none⟩ = some (.slice A l.length cap) := cell_row hm0 1
  have HX := Lib.hid hx
  have HL := Lib.hid hl
  have HLL := Lib.hid (show l.length ≤ 64 from (mayM_parts hm).2.2.2.1)
  have HMA := Lib.hid hm
  have HB0 := Lib.hid hb0
  have HM0 := Lib.hid hm0
  clear hb0 hm0 hx hl hm E
  go_enter Tryz.func9, Tryz.ntmps9
  go_wp2_with fail
  refine HAW.out.mono ?_
  rintro e w1 ⟨rfl, hb⟩
  have HB1 := Lib.hid (HB0.out.trans (hb.mono HB0.out.size))
  have hm1 := (hb.block _ (row_lt HM0.out)).trans HM0.out
  have HM1 := Lib.hid hm1
  have c0 : w1.cell? ⟨w.heap.size, 0, none⟩ = some (.int .i64 g) := cell_row hm1 0
  clear c1
  have c1 : w1.cell? ⟨w.heap.size, 1, none⟩ = some (.slice A l.length cap) := cell_row hm1 1
  clear hb hm1 k1 k3
  go_wp2_with fail
  refine (given_any w1 g A cap l (by have := HL.out; omega) (HX.out.below HB1.out)).mono ?_
  rintro e w2 ⟨v2, rfl, ho, hb⟩
  have HB2 := Lib.hid (HB1.out.trans (hb.mono HB1.out.size))
  have HM2 := Lib.hid ((hb.block _ (row_lt HM1.out)).trans HM1.out)
  obtain ⟨A2, c2, rfl, -, -, hr2, -⟩ := ho.row
  have HLM := Lib.hid (show l.length ≤ maxLen by have := HL.out; unfold maxLen; omega)
  have HMK : Hid (Calls Tryz.prog 12 #[.agg #[.int .i64 g, .slice A2 l.length c2]] w2 fun e w' => e = .returned (.tuple #[.string (S (manB g l)), .int .i64 0]) ∧ Below w2.heap.size w2 w') := Lib.hid (by
    have := Make_any w2 g A2 c2 l HLM.out hr2
    rw [mkS_list HMA.out, show mkX g l = 0 from if_pos HMA.out] at this
    exact this)
  clear hb ho c0 c1 hr2
  go_wp2_with fail
  refine HMK.out.mono ?_
  rintro e w3 ⟨rfl, hb⟩
  have HB3 := Lib.hid (HB2.out.trans (hb.mono HB2.out.size))
  have HM3 := Lib.hid ((hb.block _ (row_lt HM2.out)).trans HM2.out)
  have HBU := Lib.hid (fun f k hk hf => man_burst g l f p k hk hf)
  have hLl := manB_length g l
  have hSL := S_list (manB g l)
  have hSz := S_size (manB g l)
  have HRD : Hid (∀ T W, T.length = (manB g l).length → Calls Tryz.prog 17 #[.string (S T)] W (ReadRes W (rdM T))) := Lib.hid (fun T W hT => Read_any T (by rw [hT, manB_length]; have := HLL.out; omega) W)
  have HR0 := Lib.hid (rdM_manB HMA.out)
  generalize hL : manB g l = L at *
  obtain ⟨zq, hzq⟩ : ∃ z, L.length = z := ⟨_, rfl⟩
  rw [hzq] at HBU HRD hSz hLl
  have HZ := Lib.hid hzq
  have hzb : 18 ≤ zq ∧ zq ≤ 2000 := by have := HLL.out; omega
  obtain ⟨hz18, hz2⟩ := hzb
  generalize hX : S L = X at *
  have hne0 : (X.toList == []) = false := by
    rw [ByteArray.toList_eq, hSL]; refine beq_eq_false_iff_ne.2 (fun e => ?_); rw [e] at hzq; simp at hzq; omega
  have hne1 : X.toList.isEmpty = false := by
    rw [ByteArray.toList_eq, hSL]; cases hq : L with
    | nil => rw [hq] at hzq; simp at hzq; omega
    | cons c r => rfl
  obtain ⟨W, cap3, hrun, hbuf, hbelW, hcap, hWs⟩ := conv_string w3 X
  rw [hSL] at hbuf
  rw [hSz] at hrun
  have HBF := Lib.hid hbuf
  have HBL := Lib.hid (HB3.out.trans (hbelW.mono HB3.out.size))
  have HMW := Lib.hid ((hbelW.block _ (row_lt HM3.out)).trans HM3.out)
  have HWB := Lib.hid HB3.out.size
  obtain ⟨f, hf, hw⟩ := rem_ok a (8 * zq) (by omega) (by omega)
  rw [show ((8 * zq : Nat) : Int) = 8 * (zq : Int) by omega] at hw
  have HW := Lib.hid hw
  clear hb hbuf hbelW hcap hWs hw hLl hzq hL hSL
  have k1 : wrap64 (8 * (zq : Int)) = 8 * (zq : Int) := IntWalk.wrap64_in _ ⟨by omega, by omega⟩
  have k2 : IntKind.u64.wrap (8 * (zq : Int)) = 8 * (zq : Int) := by rw [IntKind.wrap_u64]; omega
  have hw := HW.out
  go_wp2_with fail
  clear k1 k2 hw hrun hne0 hne1
  try rw [HW.out]
  go_loopw [11] (fun y wr => ∃ i : Nat, i ≤ 32 ∧ f + i ≤ 8 * zq ∧ y = .int .i64 (i : Int) ∧ Hid (Buf wr w3.heap.size (tog L f p i)) ∧ Hid (Below w.heap.size w wr) ∧ Hid (wr.heap[w.heap.size]? = some (.cells #[.int .i64 g, .slice A l.length cap] 47 (0, 0)))) (fun y _ => 32 - (intOf y).toNat)
  case atStart => exact ⟨0, by omega, by omega, rfl, HBF, HBL, HMW⟩
  case round =>
    clear HBF HBL HMW
    obtain ⟨i, hi, hfi, rfl, HBF, HBL, HMW⟩ := hrel
    by_cases hlt : i < 32 ∧ f + i < 8 * zq
    · obtain ⟨h32, h128⟩ := hlt
      have hq8 : (f + i) / 8 < zq := by omega
      have hcell := (HBF.out.2 ((f + i) / 8) (by rw [tog_length, HZ.out]; exact hq8)).1
      have hfroz := (HBF.out.2 ((f + i) / 8) (by rw [tog_length, HZ.out]; exact hq8)).2
      have hpb := word_bit p i
      have c1 : (i : Int) < 32 := by omega
      have c2 : (f : Int) + (i : Int) < 8 * (zq : Int) := by omega
      cases hp : p.getLsbD i
      · rw [hp] at hpb
        have hpb0 : bits .and .u32 (V p / 2 ^ i) 1 = 0 := hpb
        clear hpb hcell hfroz
        have HP := Lib.hid hp; clear hp
        go_wp2_with fail
        go_roundw
        case rel => exact ⟨i + 1, by omega, by omega, by go_num, (by show Hid (Buf _ _ (tog _ _ _ (i + 1))); simp only [tog]; rw [HP.out]; exact HBF), HBL, HMW⟩
        case measure => simp [intOf]; omega
      · rw [hp] at hpb
        have hpb1 : bits .and .u32 (V p / 2 ^ i) 1 = 1 := hpb
        clear hpb
        have HP := Lib.hid hp; clear hp
        go_wp2_with fail
        go_roundw
        case rel =>
          have hww : w.heap.size < w3.heap.size := Nat.lt_of_lt_of_le (row_lt HM3.out) (Nat.le_refl _)
          refine ⟨i + 1, by omega, by omega, by go_num, Lib.hid ?_, Lib.hid ?_, Lib.hid ?_⟩
          · show Buf _ _ (tog _ _ _ (i + 1))
            simp only [tog]; rw [HP.out, if_pos rfl, turn_val _ _ (by rw [tog_length, HZ.out]; exact hq8)]
            exact HBF.out.store _ _ (by rw [tog_length, HZ.out]; exact hq8)
          · exact HBL.out.setCell (p := ⟨w3.heap.size, (f + i) / 8, none⟩) HWB.out _
          · exact (heap_far (w := wr) (b := w3.heap.size) ((f + i) / 8) _ (show w.heap.size ≠ w3.heap.size by omega)).trans HMW.out
        case measure => simp [intOf]; omega
    · have hlen : (tog L f p i).length = zq := by rw [tog_length, HZ.out]
      have hcv := conv_bytes wr w3.heap.size 0 zq cap3 (tog L f p i) hlen.symm HBF.out.row.2
      have hbu := HBU.out f i hi hfi
      have hex : ¬ ((i : Int) < 32 ∧ (f : Int) + (i : Int) < 8 * (zq : Int)) := fun h => hlt ⟨by omega, by omega⟩
      have HRT := Lib.hid (fun W => HRD.out (tog L f p i) W hlen)
      have HTL := Lib.hid hlen
      have hne : ¬ tog L f p i = L → ((S (tog L f p i)).toList == X.toList) = false := fun h => by
        rw [← hX]; exact bytes_ne h
      have heq : tog L f p i = L → S (tog L f p i) = X := fun h => by rw [h, hX]
      have hHB : Below w3.heap.size w3 w3 := Below.refl _ _
      clear hlt hlen hHB
      generalize hT : tog L f p i = T at *
      by_cases he : T = L
      · have hY := heq he
        rw [he, HR0.out] at HRT
        change Hid (∀ W, Calls Tryz.prog 17 #[.string (S L)] W (ReadRes W (0, g, l))) at HRT
        rw [hX] at HRT
        rw [hY] at hcv
        have HY := Lib.hid hY
        have HBF2 := HBF
        clear hne heq hbu hT he hY
        by_cases h32 : (i : Int) < 32
        · have h128 : ¬ (f : Int) + (i : Int) < 8 * (zq : Int) := fun h => hex ⟨h32, h⟩
          clear hex
          go_wp2_with fail
          refine (HRT.out _).mono ?_
          rintro e w12 ⟨v12, rfl, ho, hb⟩
          simp only at ho
          have HB12 := Lib.hid (HBL.out.trans (hb.mono HBL.out.size))
          have HM12 := Lib.hid ((hb.block _ (row_lt HMW.out)).trans HMW.out)
          have HF12 := Lib.hid (HBF.out.below hb)
          obtain ⟨A12, c12, rfl, -, -, hr12, -⟩ := ho.row
          have HR12 := Lib.hid hr12
          clear hb ho hr12 hcv
          obtain ⟨hb13, hm13⟩ := mnew w12 (.int .i64 g) (.slice A12 l.length c12)
          obtain ⟨V13, hV13⟩ : ∃ W, w12.alloc (.cells #[.int .i64 0, .slice none 0 0] 25) = W := ⟨_, rfl⟩
          have ha13 : V13.heap[w12.heap.size]? = some (.cells #[.int .i64 0, .slice none 0 0] 25 (0, 0)) := by rw [← hV13]; exact heap_alloc_new w12 _
          rw [hV13] at hb13 hm13
          obtain ⟨qa13, qb13, qc13, qd13, d013, d113, -⟩ := mset ha13 (.int .i64 g) (.slice A12 l.length c12)
          obtain ⟨U13, hU13⟩ : ∃ W, (V13.setCell ⟨w12.heap.size, 0, none⟩ (.int .i64 g)).setCell ⟨w12.heap.size, 1, none⟩ (.slice A12 l.length c12) = W := ⟨_, rfl⟩
          rw [hU13] at hb13 hm13 d013 d113
          clear ha13
          have HB13 := Lib.hid (HB12.out.trans (hb13.mono HB12.out.size))
          have HR13 := Lib.hid (HR12.out.below hb13)
          have hm14 := (hb13.block _ (row_lt HM12.out)).trans HM12.out
          have hcw := conv_bytes U13 w3.heap.size 0 zq cap3 T HTL.out.symm (HF12.out.below hb13).row.2
          rw [HY.out] at hcw
          obtain ⟨M13, hM13⟩ : ∃ m, w12.heap.size = m := ⟨_, rfl⟩
          rw [hM13] at qa13 qb13 qc13 qd13 d013 d113 hm13 hU13
          have HK : Hid (∀ W, Below U13.heap.size U13 W → W.cell? ⟨M13, 0, none⟩ = some (.int .i64 g) ∧ W.cell? ⟨M13, 1, none⟩ = some (.slice A12 l.length c12) ∧ W.cell? ⟨w.heap.size, 0, none⟩ = some (.int .i64 g) ∧ W.cell? ⟨w.heap.size, 1, none⟩ = some (.slice A l.length cap) ∧ Below U13.heap.size U13 W) := Lib.hid (fun W hb => by
            have z1 := (hb.block _ (row_lt hm13)).trans hm13
            have z2 := (hb.block _ (row_lt hm14)).trans hm14
            exact ⟨cell_row z1 0, cell_row z1 1, cell_row z2 0, cell_row z2 1, hb⟩)
          have HD : Hid (∀ W, (W.cell? ⟨M13, 0, none⟩ = some (.int .i64 g) ∧ W.cell? ⟨M13, 1, none⟩ = some (.slice A12 l.length c12) ∧ W.cell? ⟨w.heap.size, 0, none⟩ = some (.int .i64 g) ∧ W.cell? ⟨w.heap.size, 1, none⟩ = some (.slice A l.length cap) ∧ Below U13.heap.size U13 W) → Below U13.heap.size U13 W) := Lib.hid (fun W h => h.2.2.2.2)
          have HDR := Lib.hid (show Below U13.heap.size U13 U13.drew from (Below.refl _ _).drew)
          have HGV : Hid (∀ W, Below U13.heap.size U13 W → Calls Tryz.prog 25 #[.agg #[.int .i64 g, .slice A l.length cap]] W fun e w' => ∃ v, e = .returned (.agg #[.int .i64 g, v]) ∧ OwnE w' W.heap.size v l ∧ Below W.heap.size W w') := Lib.hid (fun W hb => given_any W g A cap l (by have := HL.out; omega) (HX.out.below (HB13.out.trans (hb.mono HB13.out.size))))
          have HSM : Hid (∀ W B c, Below U13.heap.size U13 W → RowE W B l → Calls Tryz.prog 34 #[.agg #[.int .i64 g, .slice A12 l.length c12], .agg #[.int .i64 g, .slice B l.length c]] W fun e w' => e = .returned (.bool true) ∧ Below W.heap.size W w') := Lib.hid (fun W B c hb hr => by
            have := Same_any W g g A12 B c12 c l l HLM.out (HR13.out.below hb) hr
            rw [show decide (g = g ∧ l = l) = true from decide_eq_true ⟨rfl, rfl⟩] at this; exact this)
          have hfm : Tryz.prog.follows .mixedOrders = true := by kernel_rfl
          clear hb13 hm13 hm14
          go_wp2_with fail
          try rw [hU13]
          go_region_held3 (fun w' => w'.cell? ⟨M13, 0, none⟩ = some (.int .i64 g) ∧ w'.cell? ⟨M13, 1, none⟩ = some (.slice A12 l.length c12) ∧ w'.cell? ⟨w.heap.size, 0, none⟩ = some (.int .i64 g) ∧ w'.cell? ⟨w.heap.size, 1, none⟩ = some (.slice A l.length cap) ∧ Below U13.heap.size U13 w')
            (first | exact HK.out _ HDR.out | exact HK.out _ (by assumption))
            (first
              | (go_at_call 25; refine (HGV.out _ (HD.out _ (by assumption))).mono ?_; rintro e w15 ⟨v15, rfl, ho15, hb15⟩; obtain ⟨A15, c15, rfl, -, -, hr15, -⟩ := ho15.row; (have HR15 := Lib.hid hr15); (have hg15 := (HD.out _ (by assumption)).trans (hb15.mono (HD.out _ (by assumption)).size)); clear hr15 hb15 ho15)
              | (go_at_call 34; refine (HSM.out _ A15 c15 (HD.out _ (by assumption)) HR15.out).mono ?_; rintro e w16 ⟨rfl, hb16⟩; (have hg16 := (HD.out _ (by assumption)).trans (hb16.mono (HD.out _ (by assumption)).size)); clear hb16))
          all_goals
            have HB16 := Lib.hid (HB13.out.trans (hg16.mono HB13.out.size))
            go_wp2_with fail
            go_ret
            exact ⟨by first | rfl | simp, HB16.out⟩
        · clear hex
          go_wp2_with fail
          refine (HRT.out _).mono ?_
          rintro e w12 ⟨v12, rfl, ho, hb⟩
          simp only at ho
          have HB12 := Lib.hid (HBL.out.trans (hb.mono HBL.out.size))
          have HM12 := Lib.hid ((hb.block _ (row_lt HMW.out)).trans HMW.out)
          have HF12 := Lib.hid (HBF.out.below hb)
          obtain ⟨A12, c12, rfl, -, -, hr12, -⟩ := ho.row
          have HR12 := Lib.hid hr12
          clear hb ho hr12 hcv
          obtain ⟨hb13, hm13⟩ := mnew w12 (.int .i64 g) (.slice A12 l.length c12)
          obtain ⟨V13, hV13⟩ : ∃ W, w12.alloc (.cells #[.int .i64 0, .slice none 0 0] 25) = W := ⟨_, rfl⟩
          have ha13 : V13.heap[w12.heap.size]? = some (.cells #[.int .i64 0, .slice none 0 0] 25 (0, 0)) := by rw [← hV13]; exact heap_alloc_new w12 _
          rw [hV13] at hb13 hm13
          obtain ⟨qa13, qb13, qc13, qd13, d013, d113, -⟩ := mset ha13 (.int .i64 g) (.slice A12 l.length c12)
          obtain ⟨U13, hU13⟩ : ∃ W, (V13.setCell ⟨w12.heap.size, 0, none⟩ (.int .i64 g)).setCell ⟨w12.heap.size, 1, none⟩ (.slice A12 l.length c12) = W := ⟨_, rfl⟩
          rw [hU13] at hb13 hm13 d013 d113
          clear ha13
          have HB13 := Lib.hid (HB12.out.trans (hb13.mono HB12.out.size))
          have HR13 := Lib.hid (HR12.out.below hb13)
          have hm14 := (hb13.block _ (row_lt HM12.out)).trans HM12.out
          have hcw := conv_bytes U13 w3.heap.size 0 zq cap3 T HTL.out.symm (HF12.out.below hb13).row.2
          rw [HY.out] at hcw
          obtain ⟨M13, hM13⟩ : ∃ m, w12.heap.size = m := ⟨_, rfl⟩
          rw [hM13] at qa13 qb13 qc13 qd13 d013 d113 hm13 hU13
          have HK : Hid (∀ W, Below U13.heap.size U13 W → W.cell? ⟨M13, 0, none⟩ = some (.int .i64 g) ∧ W.cell? ⟨M13, 1, none⟩ = some (.slice A12 l.length c12) ∧ W.cell? ⟨w.heap.size, 0, none⟩ = some (.int .i64 g) ∧ W.cell? ⟨w.heap.size, 1, none⟩ = some (.slice A l.length cap) ∧ Below U13.heap.size U13 W) := Lib.hid (fun W hb => by
            have z1 := (hb.block _ (row_lt hm13)).trans hm13
            have z2 := (hb.block _ (row_lt hm14)).trans hm14
            exact ⟨cell_row z1 0, cell_row z1 1, cell_row z2 0, cell_row z2 1, hb⟩)
          have HD : Hid (∀ W, (W.cell? ⟨M13, 0, none⟩ = some (.int .i64 g) ∧ W.cell? ⟨M13, 1, none⟩ = some (.slice A12 l.length c12) ∧ W.cell? ⟨w.heap.size, 0, none⟩ = some (.int .i64 g) ∧ W.cell? ⟨w.heap.size, 1, none⟩ = some (.slice A l.length cap) ∧ Below U13.heap.size U13 W) → Below U13.heap.size U13 W) := Lib.hid (fun W h => h.2.2.2.2)
          have HDR := Lib.hid (show Below U13.heap.size U13 U13.drew from (Below.refl _ _).drew)
          have HGV : Hid (∀ W, Below U13.heap.size U13 W → Calls Tryz.prog 25 #[.agg #[.int .i64 g, .slice A l.length cap]] W fun e w' => ∃ v, e = .returned (.agg #[.int .i64 g, v]) ∧ OwnE w' W.heap.size v l ∧ Below W.heap.size W w') := Lib.hid (fun W hb => given_any W g A cap l (by have := HL.out; omega) (HX.out.below (HB13.out.trans (hb.mono HB13.out.size))))
          have HSM : Hid (∀ W B c, Below U13.heap.size U13 W → RowE W B l → Calls Tryz.prog 34 #[.agg #[.int .i64 g, .slice A12 l.length c12], .agg #[.int .i64 g, .slice B l.length c]] W fun e w' => e = .returned (.bool true) ∧ Below W.heap.size W w') := Lib.hid (fun W B c hb hr => by
            have := Same_any W g g A12 B c12 c l l HLM.out (HR13.out.below hb) hr
            rw [show decide (g = g ∧ l = l) = true from decide_eq_true ⟨rfl, rfl⟩] at this; exact this)
          have hfm : Tryz.prog.follows .mixedOrders = true := by kernel_rfl
          clear hb13 hm13 hm14
          go_wp2_with fail
          try rw [hU13]
          go_region_held3 (fun w' => w'.cell? ⟨M13, 0, none⟩ = some (.int .i64 g) ∧ w'.cell? ⟨M13, 1, none⟩ = some (.slice A12 l.length c12) ∧ w'.cell? ⟨w.heap.size, 0, none⟩ = some (.int .i64 g) ∧ w'.cell? ⟨w.heap.size, 1, none⟩ = some (.slice A l.length cap) ∧ Below U13.heap.size U13 w')
            (first | exact HK.out _ HDR.out | exact HK.out _ (by assumption))
            (first
              | (go_at_call 25; refine (HGV.out _ (HD.out _ (by assumption))).mono ?_; rintro e w15 ⟨v15, rfl, ho15, hb15⟩; obtain ⟨A15, c15, rfl, -, -, hr15, -⟩ := ho15.row; (have HR15 := Lib.hid hr15); (have hg15 := (HD.out _ (by assumption)).trans (hb15.mono (HD.out _ (by assumption)).size)); clear hr15 hb15 ho15)
              | (go_at_call 34; refine (HSM.out _ A15 c15 (HD.out _ (by assumption)) HR15.out).mono ?_; rintro e w16 ⟨rfl, hb16⟩; (have hg16 := (HD.out _ (by assumption)).trans (hb16.mono (HD.out _ (by assumption)).size)); clear hb16))
          all_goals
            have HB16 := Lib.hid (HB13.out.trans (hg16.mono HB13.out.size))
            go_wp2_with fail
            go_ret
            exact ⟨by first | rfl | simp, HB16.out⟩
      · have hbad := hbu.resolve_left he
        have hnx := hne he
        rw [hbad] at HRT
        obtain ⟨Y, hY⟩ : ∃ Y, S T = Y := ⟨_, rfl⟩
        rw [hY] at hcv hnx HRT
        have HY := Lib.hid hY
        clear hne heq hbu hbad hT hY he
        by_cases h32 : (i : Int) < 32
        · have h128 : ¬ (f : Int) + (i : Int) < 8 * (zq : Int) := fun h => hex ⟨h32, h⟩
          clear hex
          go_wp2_with fail
          refine (HRT.out _).mono ?_
          rintro e w12 ⟨v12, rfl, ho, hb⟩
          simp only at ho
          have HB12 := Lib.hid (HBL.out.trans (hb.mono HBL.out.size))
          have HF12 := Lib.hid (HBF.out.below hb)
          obtain ⟨A12, c12, rfl, -, -, -, -⟩ := ho.row
          clear hb ho hcv
          rw [show ([] : List (Int × Int)).length = 0 from rfl]
          obtain ⟨hb13, hm13⟩ := mnew w12 (.int .i64 0) (.slice A12 0 c12)
          obtain ⟨V13, hV13⟩ : ∃ W, w12.alloc (.cells #[.int .i64 0, .slice none 0 0] 25) = W := ⟨_, rfl⟩
          have ha13 : V13.heap[w12.heap.size]? = some (.cells #[.int .i64 0, .slice none 0 0] 25 (0, 0)) := by rw [← hV13]; exact heap_alloc_new w12 _
          rw [hV13] at hb13 hm13
          obtain ⟨qa13, qb13, qc13, qd13, d013, d113, -⟩ := mset ha13 (.int .i64 0) (.slice A12 0 c12)
          obtain ⟨U13, hU13⟩ : ∃ W, (V13.setCell ⟨w12.heap.size, 0, none⟩ (.int .i64 0)).setCell ⟨w12.heap.size, 1, none⟩ (.slice A12 0 c12) = W := ⟨_, rfl⟩
          rw [hU13] at hb13 hm13 d013 d113
          clear ha13
          have HB13 := Lib.hid (HB12.out.trans (hb13.mono HB12.out.size))
          have hcw := conv_bytes U13 w3.heap.size 0 zq cap3 T HTL.out.symm (HF12.out.below hb13).row.2
          rw [HY.out] at hcw
          clear hb13 hm13
          go_wp2_with fail
          go_ret
          exact ⟨by first | rfl | simp, by first | exact HB13.out | (rw [hU13]; exact HB13.out)⟩
        · clear hex
          go_wp2_with fail
          refine (HRT.out _).mono ?_
          rintro e w12 ⟨v12, rfl, ho, hb⟩
          simp only at ho
          have HB12 := Lib.hid (HBL.out.trans (hb.mono HBL.out.size))
          have HF12 := Lib.hid (HBF.out.below hb)
          obtain ⟨A12, c12, rfl, -, -, -, -⟩ := ho.row
          clear hb ho hcv
          rw [show ([] : List (Int × Int)).length = 0 from rfl]
          obtain ⟨hb13, hm13⟩ := mnew w12 (.int .i64 0) (.slice A12 0 c12)
          obtain ⟨V13, hV13⟩ : ∃ W, w12.alloc (.cells #[.int .i64 0, .slice none 0 0] 25) = W := ⟨_, rfl⟩
          have ha13 : V13.heap[w12.heap.size]? = some (.cells #[.int .i64 0, .slice none 0 0] 25 (0, 0)) := by rw [← hV13]; exact heap_alloc_new w12 _
          rw [hV13] at hb13 hm13
          obtain ⟨qa13, qb13, qc13, qd13, d013, d113, -⟩ := mset ha13 (.int .i64 0) (.slice A12 0 c12)
          obtain ⟨U13, hU13⟩ : ∃ W, (V13.setCell ⟨w12.heap.size, 0, none⟩ (.int .i64 0)).setCell ⟨w12.heap.size, 1, none⟩ (.slice A12 0 c12) = W := ⟨_, rfl⟩
          rw [hU13] at hb13 hm13 d013 d113
          clear ha13
          have HB13 := Lib.hid (HB12.out.trans (hb13.mono HB12.out.size))
          have hcw := conv_bytes U13 w3.heap.size 0 zq cap3 T HTL.out.symm (HF12.out.below hb13).row.2
          rw [HY.out] at hcw
          clear hb13 hm13
          go_wp2_with fail
          go_ret
          exact ⟨by first | rfl | simp, by first | exact HB13.out | (rw [hU13]; exact HB13.out)⟩
set_option maxRecDepth 100000 in
set_option maxHeartbeats 4000000 in
/-- **ManifBurst** -/
theorem burst_law (w : World) (g : Int) (A : Option Addr) (cap : Nat) (l : List (Int × Int)) (a b : Int) (hx : RowE w A l) (hb : (Lit.int .u32 b).wf = true) (E : EnvP w) :
    Calls Tryz.prog 9 #[.agg #[.int .i64 g, .slice A l.length cap], .int .i64 a, .int .u32 b] w fun e w' => e = .returned (.bool true) ∧ Below w.heap.size w w' := by
  obtain ⟨p, rfl⟩ := word_of hb
  clear hb
  obtain ⟨w0, hw0⟩ : ∃ w0, w.alloc (.cells #[.int .i64 g, .slice A l.length cap] 47) = w0 := ⟨_, rfl⟩
  have hb0 : Below w.heap.size w w0 := by rw [← hw0]; exact (Below.refl _ _).alloc (Nat.le_refl _) _
  have hm0 : w0.heap[w.heap.size]? = some (.cells #[.int .i64 g, .slice A l.length cap] 47 (0, 0)) := by rw [← hw0]; exact heap_alloc_new w _
  have HAW := Lib.hid (awake_any w0 (E.over hb0))
  have c1 : w0.cell? ⟨w.heap.size, 1, none⟩ = some (.slice A l.length cap) := cell_row hm0 1
  have HB0 := Lib.hid hb0
  have HM0 := Lib.hid hm0
  by_cases hl : 100 < l.length
  · have k1 : decide (100 < (l.length : Int)) = true := decide_eq_true (by omega)
    have k3 : decide (100 < l.length) = true := decide_eq_true hl
    clear hb0 hm0 hx E hl
    go_enter Tryz.func9, Tryz.ntmps9
    go_wp2_with fail
    refine HAW.out.mono ?_
    rintro e w1 ⟨rfl, hb⟩
    have HB1 := Lib.hid (HB0.out.trans (hb.mono HB0.out.size))
    clear hb
    go_wp2_with fail
    go_ret
    exact ⟨rfl, HB1.out⟩
  by_cases hm : mayM g l = true
  · exact burst_few w g A cap l a p hx hl hm E
  have k1 : decide (100 < (l.length : Int)) = false := decide_eq_false (by omega)
  have k3 : decide (100 < l.length) = false := decide_eq_false hl
  have HX := Lib.hid hx
  have HL := Lib.hid hl
  have HMA := Lib.hid hm
  clear hb0 hm0 hx E hl hm
  go_enter Tryz.func9, Tryz.ntmps9
  go_wp2_with fail
  refine HAW.out.mono ?_
  rintro e w1 ⟨rfl, hb⟩
  have HB1 := Lib.hid (HB0.out.trans (hb.mono HB0.out.size))
  have hm1 := (hb.block _ (row_lt HM0.out)).trans HM0.out
  have c0 : w1.cell? ⟨w.heap.size, 0, none⟩ = some (.int .i64 g) := cell_row hm1 0
  clear c1
  have c1 : w1.cell? ⟨w.heap.size, 1, none⟩ = some (.slice A l.length cap) := cell_row hm1 1
  clear hb hm1 k1 k3
  go_wp2_with fail
  refine (given_any w1 g A cap l (by have := HL.out; omega) (HX.out.below HB1.out)).mono ?_
  rintro e w2 ⟨v2, rfl, ho, hb⟩
  have HB2 := Lib.hid (HB1.out.trans (hb.mono HB1.out.size))
  obtain ⟨A2, c2, rfl, -, -, hr2, -⟩ := ho.row
  have HMK : Hid (Calls Tryz.prog 12 #[.agg #[.int .i64 g, .slice A2 l.length c2]] w2 fun e w' => e = .returned (.tuple #[.string ⟨#[]⟩, .int .i64 4]) ∧ Below w2.heap.size w2 w') := Lib.hid (by
    have := Make_any w2 g A2 c2 l (by have := HL.out; unfold maxLen; omega) hr2
    rw [show mkS g l = ⟨#[]⟩ from if_neg HMA.out, show mkX g l = 4 from if_neg HMA.out] at this
    exact this)
  clear hb ho c0 c1 hr2
  go_wp2_with fail
  refine HMK.out.mono ?_
  rintro e w3 ⟨rfl, hb⟩
  have HB3 := Lib.hid (HB2.out.trans (hb.mono HB2.out.size))
  clear hb
  go_wp2_with fail
  go_ret
  exact ⟨by first | rfl | simp, HB3.out⟩
end Go.Proofs.YticfnfekkmkclaaGreatDoor.Manif
