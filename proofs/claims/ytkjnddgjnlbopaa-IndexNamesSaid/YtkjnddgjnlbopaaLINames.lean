import Derived.Test.YtkjnddgjnlbopaaIV
import Derived.Laws.Concat
/-
  The walk of the statement IndexNames.
-/
namespace Go.Proofs.Ytkjnddgjnlbopaa.Index
open Go Go.RowKit
open Go.Proofs.Ytkjnddgjnlbopaa.Wire (S S_list S_size S_append row_lt)
open Go.Proofs.Ytkjnddgjnlbopaa.Frame Go.Proofs.Ytkjnddgjnlbopaa.Seg

set_option maxRecDepth 100000 in
set_option maxHeartbeats 8000000 in
theorem names_law (w : World) : Calls Try.prog 3 #[] w fun e w' => e = .returned (.bool true) ∧ Below w.heap.size w w' := by
  have HWK := Lib.hid (fun W => works_any W)
  have HJ0 := Lib.hid (fun W A c (h : Strs W A abP) => Join_any 0 A c abP (by decide) W h)
  have hj0 : joV 0 abP = .returned (.tuple #[.string (S (sg 0)), .int .i64 0]) := ab_join 0 (by decide)
  rw [hj0] at HJ0
  clear hj0
  have HJ1 := Lib.hid (fun W A c (h : Strs W A abP) => Join_any 1 A c abP (by decide) W h)
  have hj1 : joV 1 abP = .returned (.tuple #[.string (S (sg 1)), .int .i64 0]) := ab_join 1 (by decide)
  rw [hj1] at HJ1
  clear hj1
  have HAS := Lib.hid ab_strs
  have hsz : (S (sg 0)).size = 84 := by rw [S_size]; exact sg_len 0
  have HB0 := Lib.hid (fun W => build_arg (S (sg 0)) 0 (by decide) W)
  have HB65 := Lib.hid (fun W => build_arg (S (sg 0)) 65 (by decide) W)
  have HBS : Hid (∀ W, Calls Try.prog 11 #[.string ⟨#[]⟩, .int .i64 3] W fun e w' => e = .returned (.tuple #[.pointer none, .int .i64 8]) ∧ Below W.heap.size W w') := Lib.hid fun W => build_no ⟨#[]⟩ (by decide) 3 (by decide) (by decide) W
  have HB2 : Hid (∀ W, Calls Try.prog 11 #[.string (S ([115, 101, 103, 50] ++ (sg 0).drop 4)), .int .i64 3] W fun e w' => e = .returned (.tuple #[.pointer none, .int .i64 4]) ∧ Below W.heap.size W w') := Lib.hid fun W => by
    have h := build_no (S ([115, 101, 103, 50] ++ (sg 0).drop 4)) (by rw [S_size, List.length_append, List.length_drop, sg_len]; decide) 3 (by decide) (by rw [S_list, ab_two]; decide) W
    rw [S_list, ab_two] at h
    exact h
  have HBO := Lib.hid (fun W => build_ex (sg 0) (by rw [sg_len]; decide) ab_seg.1 0 ab_seg.2.1 _ ab_seg.2.2.1 84 ab_seg.2.2.2 1 (by decide) W)
  have HBL := Lib.hid (fun W => build_ex (sg 0) (by rw [sg_len]; decide) ab_seg.1 0 ab_seg.2.1 _ ab_seg.2.2.1 84 ab_seg.2.2.2 64 (by decide) W)
  have HBT := Lib.hid (fun W => build_ex ((sg 0).take 83) (by rw [List.length_take, sg_len]; decide) ab_torn.1 0 ab_torn.2.1 _ ab_torn.2.2.1 67 ab_torn.2.2.2 2 (by decide) W)
  have HBB := Lib.hid (fun W => build_ex ((sg 0).take 16) (by rw [List.length_take, sg_len]; decide) ab_bare.1 0 ab_bare.2.1 _ ab_bare.2.2.1 16 ab_bare.2.2.2 2 (by decide) W)
  have HBH := Lib.hid (fun W => build_ex (segH 1048575) (by rw [segH_length]; decide) ab_head.1 1048575 ab_head.2.1 _ ab_head.2.2.1 16 ab_head.2.2.2 5 (by decide) W)
  have hs4 : ∀ W, (Instr.slice 9 (.string (S (sg 0))) (some (.int .i64 4)) none none).run Try.prog W = .ok (.string (S ((sg 0).drop 4))) W := fun W => by
    have h := slice_from (S (sg 0)) 4 (by rw [S_size, sg_len]; decide) W
    rw [S_list] at h; exact h
  have hs83 : ∀ W, (Instr.slice 9 (.string (S (sg 0))) none (some (.int .i64 83)) none).run Try.prog W = .ok (.string (S ((sg 0).take 83))) W := fun W => slice_to (sg 0) 83 (by rw [sg_len]; decide) W
  have hs16 : ∀ W, (Instr.slice 9 (.string (S (sg 0))) none (some (.int .i64 16)) none).run Try.prog W = .ok (.string (S ((sg 0).take 16))) W := fun W => slice_to (sg 0) 16 (by rw [sg_len]; decide) W
  have hs40 : ∀ W, (Instr.slice 9 (.string (S (sg 0))) none (some (.int .i64 40)) none).run Try.prog W = .ok (.string (S ((sg 0).take 40))) W := fun W => slice_to (sg 0) 40 (by rw [sg_len]; decide) W
  have hcat : ∀ W, (Op.stringOp .add (⟨#[115, 101, 103, 50]⟩ : ByteArray) (S ((sg 0).drop 4))).run Try.prog W = .ok (.string (S ([115, 101, 103, 50] ++ (sg 0).drop 4))) W := fun W => by
    rw [run_string_add_sum (P := Try.prog) W _ _ (by rw [S_size, List.length_drop, sg_len]; decide), ← S_append]; rfl
  have HGA := Lib.hid (fun W b0 b h => got_ex 2 0 [16] 33 0 (S (sg 0)) 16 0 0 ⟨#[97]⟩ 0 (by decide) (by decide) (by decide) (by decide) (by rw [S_size, sg_len]; decide) (by decide +kernel) (by decide +kernel) rfl (by rw [got_a.1]; rfl) got_a.2 W b0 b h)
  have HGC := Lib.hid (fun W b0 b h => got_ex 64 0 [16, 33, 50, 67] 84 3 (S ((sg 0).take 40)) 16 0 3 ⟨#[]⟩ 8 (by decide) (by decide) (by decide) (by decide) (by rw [S_size, List.length_take, sg_len]; decide) (by decide +kernel) (by decide +kernel) rfl (by rw [got_cut.1]; rfl) got_cut.2 W b0 b h)
  have HGF := Lib.hid (fun W b0 b h => got_ex 1 0 [16, 33, 50, 67] 84 3 (S ((sg 0).take 40)) 67 3 0 ⟨#[]⟩ 8 (by decide) (by decide) (by decide) (by decide) (by rw [S_size, List.length_take, sg_len]; decide) (by decide +kernel) (by decide +kernel) rfl (by rw [got_far.1]; rfl) got_far.2 W b0 b h)
  have HGO := Lib.hid (fun W b0 b h => got_ex 64 0 [16, 33, 50, 67] 84 2 (S (sg 1)) 16 0 2 ⟨#[]⟩ 4 (by decide) (by decide) (by decide) (by decide) (by rw [S_size, sg_len]; decide) (by decide +kernel) (by decide +kernel) rfl (by rw [got_other.1]; rfl) got_other.2 W b0 b h)
  have HHD := Lib.hid (fun W => head_ex W)
  have HA := Lib.hid (Below.refl w.heap.size w)
  generalize S ([115, 101, 103, 50] ++ (sg 0).drop 4) = T2 at *
  generalize S ((sg 0).drop 4) = X4 at *
  generalize S ((sg 0).take 83) = TT at *
  generalize S ((sg 0).take 16) = TB at *
  generalize S ((sg 0).take 40) = T40 at *
  generalize S (sg 0) = T0 at *
  generalize S (sg 1) = T1 at *
  generalize S (segH 1048575) = TH at *
  go_enter Try.func3, Try.ntmps3
  go_wp2_with fail
  refine (HWK.out w).mono ?_
  rintro e v1 ⟨rfl, hb⟩
  replace HA := Lib.hid (HA.out.trans (hb.mono HA.out.size))
  clear hb
  have hbn := (Below.refl v1.heap.size v1).alloc (Nat.le_refl _) (.cells #[.string ⟨#[97]⟩, .string ⟨#[98]⟩, .string ⟨#[99]⟩, .string ⟨#[100]⟩] 9)
  replace HA := Lib.hid (HA.out.trans (hbn.mono HA.out.size))
  have HS := Lib.hid (HAS.out v1)
  clear hbn
  go_wp2_with fail
  refine (HJ0.out _ _ _ HS.out).mono ?_
  rintro e v2 ⟨rfl, hb⟩
  replace HA := Lib.hid (HA.out.trans (hb.mono HA.out.size))
  clear hb HS
  go_wp2_with fail
  refine (HB0.out v2).mono ?_
  rintro e v3 ⟨rfl, rfl⟩
  go_wp2_with fail
  refine (HB65.out v2).mono ?_
  rintro e v4 ⟨rfl, rfl⟩
  go_wp2_with fail
  refine (HBS.out v2).mono ?_
  rintro e v5 ⟨rfl, hb⟩
  replace HA := Lib.hid (HA.out.trans (hb.mono HA.out.size))
  clear hb
  go_wp2_with fail
  refine (HB2.out v5).mono ?_
  rintro e v6 ⟨rfl, hb⟩
  replace HA := Lib.hid (HA.out.trans (hb.mono HA.out.size))
  clear hb
  go_wp2_with fail
  refine (HBO.out v6).mono ?_
  rintro e v7 ⟨bone, hbb, rfl, hi, hb⟩
  replace HA := Lib.hid (HA.out.trans (hb.mono HA.out.size))
  have Hone := Lib.hid hi
  clear hb hi hbb
  go_wp2_with fail
  refine (HBL.out v7).mono ?_
  rintro e v8 ⟨ball, hbb, rfl, hi, hb⟩
  replace HA := Lib.hid (HA.out.trans (hb.mono HA.out.size))
  replace Hone := Lib.hid (Hone.out.below hb)
  have Hall := Lib.hid hi
  clear hb hi hbb
  go_wp2_with fail
  refine (HBT.out v8).mono ?_
  rintro e v9 ⟨btorn, hbb, rfl, hi, hb⟩
  replace HA := Lib.hid (HA.out.trans (hb.mono HA.out.size))
  replace Hone := Lib.hid (Hone.out.below hb)
  replace Hall := Lib.hid (Hall.out.below hb)
  have Htorn := Lib.hid hi
  clear hb hi hbb
  go_wp2_with fail
  refine (HBB.out v9).mono ?_
  rintro e v10 ⟨bbare, hbb, rfl, hi, hb⟩
  have HLbare := Lib.hid (Nat.le_trans HA.out.size hbb)
  replace HA := Lib.hid (HA.out.trans (hb.mono HA.out.size))
  replace Hone := Lib.hid ((IxN.of Hone.out hbb).below hb)
  replace Hall := Lib.hid ((IxN.of Hall.out hbb).below hb)
  replace Htorn := Lib.hid (Htorn.out.below hb)
  have Hbare := Lib.hid hi
  clear hi hb hbb
  clear hs4 hs83 hs16 hcat HB0 HB65 HBS HB2 HBO HBL HBT HBB HJ0 HWK
  go_wp2_with fail
  refine (marks_any v10 bone bone 1 0 [16, 33, 50, 67] 84 Hone.out.ix (by decide) (by decide)).mono ?_
  rintro e v11 ⟨u, rfl, ho, hb⟩
  replace HA := Lib.hid (HA.out.trans (hb.mono HA.out.size))
  replace Hone := Lib.hid (Hone.out.below hb)
  replace Hall := Lib.hid (Hall.out.below hb)
  replace Htorn := Lib.hid (Htorn.out.below hb)
  replace Hbare := Lib.hid (Hbare.out.below hb)
  obtain ⟨Am, cm, rfl, -, -, -, -⟩ := ho.row
  have hml : (mks 1 0 [16, 33, 50, 67]).length = 4 := by decide +kernel
  rw [hml]
  clear hb ho hml
  go_wp2_with fail
  refine (marks_any v11 ball ball 64 0 [16, 33, 50, 67] 84 Hall.out.ix (by decide) (by decide)).mono ?_
  rintro e v12 ⟨u, rfl, ho, hb⟩
  replace HA := Lib.hid (HA.out.trans (hb.mono HA.out.size))
  replace Hone := Lib.hid (Hone.out.below hb)
  replace Hall := Lib.hid (Hall.out.below hb)
  replace Htorn := Lib.hid (Htorn.out.below hb)
  replace Hbare := Lib.hid (Hbare.out.below hb)
  obtain ⟨Am, cm, rfl, -, -, -, -⟩ := ho.row
  have hml : (mks 64 0 [16, 33, 50, 67]).length = 1 := by decide +kernel
  rw [hml]
  clear hb ho hml
  obtain ⟨vf, hx, -⟩ := Htorn.out
  have HXF := Lib.hid hx
  clear hx
  go_wp2_with fail
  refine (next_x v12 btorn 2 0 3 vf 67 HXF.out).mono ?_
  rintro e v13 ⟨rfl, rfl⟩
  clear HXF
  obtain ⟨vf, hx, -⟩ := Htorn.out
  have HXF := Lib.hid hx
  clear hx
  go_wp2_with fail
  refine (good_x v12 btorn 2 0 3 vf 67 HXF.out).mono ?_
  rintro e v14 ⟨rfl, rfl⟩
  clear HXF
  obtain ⟨vf, hx, -⟩ := Hbare.out
  have HXF := Lib.hid hx
  clear hx
  go_wp2_with fail
  refine (next_x v12 bbare 2 0 0 vf 16 HXF.out).mono ?_
  rintro e v15 ⟨rfl, rfl⟩
  clear HXF
  obtain ⟨vf, hx, -⟩ := Hbare.out
  have HXF := Lib.hid hx
  clear hx
  go_wp2_with fail
  refine (good_x v12 bbare 2 0 0 vf 16 HXF.out).mono ?_
  rintro e v16 ⟨rfl, rfl⟩
  clear HXF
  go_wp2_with fail
  refine (marks_any v12 bbare bbare 2 0 [] 16 Hbare.out (by decide) (by decide)).mono ?_
  rintro e v17 ⟨u, rfl, ho, hb⟩
  replace HA := Lib.hid (HA.out.trans (hb.mono HA.out.size))
  replace Hone := Lib.hid (Hone.out.below hb)
  replace Hall := Lib.hid (Hall.out.below hb)
  replace Hbare := Lib.hid (Hbare.out.below hb)
  obtain ⟨Am, cm, rfl, -, -, -, -⟩ := ho.row
  have hml : (mks 2 0 []).length = 0 := by decide +kernel
  rw [hml]
  clear hb ho hml
  go_wp2_with fail
  refine (get_none v17 bbare bbare 2 0 [] 16 T0 0 Hbare.out (by decide)).mono ?_
  rintro e v18 ⟨rfl, hb⟩
  replace HA := Lib.hid (HA.out.trans (hb.mono HA.out.size))
  replace Hone := Lib.hid (Hone.out.below hb)
  replace Hall := Lib.hid (Hall.out.below hb)
  replace Hbare := Lib.hid (Hbare.out.below hb)
  clear hb
  have HAD := Lib.hid (add_any v18 bbare bbare 2 0 [] 16 1 Hbare.out (Nat.le_refl _) (by decide) (by decide) (by decide) (by decide))
  go_wp2_with fail
  refine HAD.out.mono ?_
  rintro e v19 ⟨rfl, hi, hb⟩
  replace HA := Lib.hid (HA.out.trans (hb.mono HLbare.out))
  replace Hone := Lib.hid (Hone.out.under hb)
  replace Hall := Lib.hid (Hall.out.under hb)
  replace Hbare : Hid (Ix v19 bbare bbare 2 0 [16] 33) := Lib.hid hi
  clear hi hb HAD
  have hre : adV 1 (0 + ([] : List Nat).length) 16 = .tuple #[.int .i64 16, .int .i64 0] := rfl
  rw [hre]
  clear hre
  go_wp2_with fail
  refine (HGA.out v19 bbare bbare Hbare.out).mono ?_
  rintro e v20 ⟨rfl, hb⟩
  replace HA := Lib.hid (HA.out.trans (hb.mono HA.out.size))
  replace Hone := Lib.hid (Hone.out.below hb)
  replace Hall := Lib.hid (Hall.out.below hb)
  replace Hbare := Lib.hid (Hbare.out.below hb)
  clear hb
  have HAD := Lib.hid (add_any v20 bbare bbare 2 0 [16] 33 0 Hbare.out (Nat.le_refl _) (by decide) (by decide) (by decide) (by decide))
  go_wp2_with fail
  refine HAD.out.mono ?_
  rintro e v21 ⟨rfl, hi, hb⟩
  replace HA := Lib.hid (HA.out.trans (hb.mono HLbare.out))
  replace Hone := Lib.hid (Hone.out.under hb)
  replace Hall := Lib.hid (Hall.out.under hb)
  replace Hbare : Hid (Ix v21 bbare bbare 2 0 [16] 33) := Lib.hid hi
  clear hi hb HAD
  have hre : adV 0 (0 + ([16] : List Nat).length) 33 = .tuple #[.int .i64 0, .int .i64 4] := rfl
  rw [hre]
  clear hre
  have HAD := Lib.hid (add_any v21 bbare bbare 2 0 [16] 33 4097 Hbare.out (Nat.le_refl _) (by decide) (by decide) (by decide) (by decide))
  go_wp2_with fail
  refine HAD.out.mono ?_
  rintro e v22 ⟨rfl, hi, hb⟩
  replace HA := Lib.hid (HA.out.trans (hb.mono HLbare.out))
  replace Hone := Lib.hid (Hone.out.under hb)
  replace Hall := Lib.hid (Hall.out.under hb)
  replace Hbare : Hid (Ix v22 bbare bbare 2 0 [16] 33) := Lib.hid hi
  clear hi hb HAD
  have hre : adV 4097 (0 + ([16] : List Nat).length) 33 = .tuple #[.int .i64 0, .int .i64 4] := rfl
  rw [hre]
  clear hre
  obtain ⟨vf, hx, -⟩ := Hbare.out
  have HXF := Lib.hid hx
  clear hx
  go_wp2_with fail
  refine (next_x v22 bbare 2 0 1 vf 33 HXF.out).mono ?_
  rintro e v23 ⟨rfl, rfl⟩
  clear HXF
  go_wp2_with fail
  refine (HGC.out v22 ball ball Hall.out.ix).mono ?_
  rintro e v24 ⟨rfl, hb⟩
  replace HA := Lib.hid (HA.out.trans (hb.mono HA.out.size))
  replace Hone := Lib.hid (Hone.out.below hb)
  replace Hall := Lib.hid (Hall.out.below hb)
  replace Hbare := Lib.hid (Hbare.out.below hb)
  clear hb
  go_wp2_with fail
  refine (HGF.out v24 bone bone Hone.out.ix).mono ?_
  rintro e v25 ⟨rfl, hb⟩
  replace HA := Lib.hid (HA.out.trans (hb.mono HA.out.size))
  replace Hone := Lib.hid (Hone.out.below hb)
  replace Hall := Lib.hid (Hall.out.below hb)
  replace Hbare := Lib.hid (Hbare.out.below hb)
  clear hb
  go_wp2_with fail
  refine (get_none v25 bone bone 1 0 [16, 33, 50, 67] 84 T0 (-1) Hone.out.ix (by decide)).mono ?_
  rintro e v26 ⟨rfl, hb⟩
  replace HA := Lib.hid (HA.out.trans (hb.mono HA.out.size))
  replace Hone := Lib.hid (Hone.out.below hb)
  replace Hall := Lib.hid (Hall.out.below hb)
  replace Hbare := Lib.hid (Hbare.out.below hb)
  clear hb
  have hbn := (Below.refl v26.heap.size v26).alloc (Nat.le_refl _) (.cells #[.string ⟨#[97]⟩, .string ⟨#[98]⟩, .string ⟨#[99]⟩, .string ⟨#[100]⟩] 9)
  replace HA := Lib.hid (HA.out.trans (hbn.mono HA.out.size))
  have HS := Lib.hid (HAS.out v26)
  replace Hone := Lib.hid (Hone.out.below hbn)
  replace Hall := Lib.hid (Hall.out.below hbn)
  replace Hbare := Lib.hid (Hbare.out.below hbn)
  clear hbn
  go_wp2_with fail
  refine (HJ1.out _ _ _ HS.out).mono ?_
  rintro e v27 ⟨rfl, hb⟩
  replace HA := Lib.hid (HA.out.trans (hb.mono HA.out.size))
  replace Hone := Lib.hid (Hone.out.below hb)
  replace Hall := Lib.hid (Hall.out.below hb)
  replace Hbare := Lib.hid (Hbare.out.below hb)
  clear hb HS
  go_wp2_with fail
  refine (HGO.out v27 ball ball Hall.out.ix).mono ?_
  rintro e v28 ⟨rfl, hb⟩
  replace HA := Lib.hid (HA.out.trans (hb.mono HA.out.size))
  replace Hone := Lib.hid (Hone.out.below hb)
  replace Hall := Lib.hid (Hall.out.below hb)
  replace Hbare := Lib.hid (Hbare.out.below hb)
  clear hb
  go_wp2_with fail
  refine (HHD.out v28).mono ?_
  rintro e v29 ⟨rfl, hb⟩
  replace HA := Lib.hid (HA.out.trans (hb.mono HA.out.size))
  clear hb
  go_wp2_with fail
  refine (HBH.out v29).mono ?_
  rintro e v30 ⟨blast, hbb, rfl, hi, hb⟩
  have HLlast := Lib.hid (Nat.le_trans HA.out.size hbb)
  replace HA := Lib.hid (HA.out.trans (hb.mono HA.out.size))
  have Hlast := Lib.hid hi
  clear hi hb hbb
  have HAD := Lib.hid (add_any v30 blast blast 5 1048575 [] 16 9 Hlast.out (Nat.le_refl _) (by decide) (by decide) (by decide) (by decide))
  go_wp2_with fail
  refine HAD.out.mono ?_
  rintro e v31 ⟨rfl, hi, hb⟩
  replace HA := Lib.hid (HA.out.trans (hb.mono HLlast.out))
  replace Hlast : Hid (Ix v31 blast blast 5 1048575 [16] 41) := Lib.hid hi
  clear hi hb HAD
  have hre : adV 9 (1048575 + ([] : List Nat).length) 16 = .tuple #[.int .i64 16, .int .i64 0] := rfl
  rw [hre]
  clear hre
  have HAD := Lib.hid (add_any v31 blast blast 5 1048575 [16] 41 9 Hlast.out (Nat.le_refl _) (by decide) (by decide) (by decide) (by decide))
  go_wp2_with fail
  refine HAD.out.mono ?_
  rintro e v32 ⟨rfl, hi, hb⟩
  replace HA := Lib.hid (HA.out.trans (hb.mono HLlast.out))
  replace Hlast : Hid (Ix v32 blast blast 5 1048575 [16] 41) := Lib.hid hi
  clear hi hb HAD
  have hre : adV 9 (1048575 + ([16] : List Nat).length) 41 = .tuple #[.int .i64 0, .int .i64 40] := rfl
  rw [hre]
  clear hre
  go_wp2_with fail
  refine (add_nil 1 v32).mono ?_
  rintro e v33 ⟨rfl, rfl⟩
  go_wp2_with fail
  refine (get_nil T0 0 v32).mono ?_
  rintro e v34 ⟨rfl, hb⟩
  replace HA := Lib.hid (HA.out.trans (hb.mono HA.out.size))
  clear hb
  go_wp2_with fail
  refine (copy_nil v34).mono ?_
  rintro e v35 ⟨rfl, rfl⟩
  go_wp2_with fail
  refine (first_nil v34).mono ?_
  rintro e v36 ⟨rfl, rfl⟩
  go_wp2_with fail
  refine (next_nil v34).mono ?_
  rintro e v37 ⟨rfl, rfl⟩
  go_wp2_with fail
  refine (good_nil v34).mono ?_
  rintro e v38 ⟨rfl, rfl⟩
  go_wp2_with fail
  refine (steps_nil 0 v34).mono ?_
  rintro e v39 ⟨rfl, rfl⟩
  go_wp2_with fail
  refine (marks_nil v34).mono ?_
  rintro e v40 ⟨rfl, rfl⟩
  go_wp2_with fail
  go_ret
  exact ⟨rfl, HA.out⟩
end Go.Proofs.Ytkjnddgjnlbopaa.Index
