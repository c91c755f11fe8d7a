import Derived.Test.YtkccdffccjgajaaGreatDoorTN
/-
  The walk of the statement SegNames.
-/
namespace Go.Proofs.YtkccdffccjgajaaGreatDoor.Seg
open Go Go.RowKit
open Go.Proofs.YtkccdffccjgajaaGreatDoor.Wire (S S_list S_size S_append cell_row frozen_row row_lt heap_set heap_far U)
open Go.Proofs.YtkccdffccjgajaaGreatDoor.Frame Go.Proofs.YtkccdffccjgajaaGreatDoor.Ranges
open Go.Proofs.YtkccdffccjgajaaGreatDoor.Crc (ofW fourL sealS refSeal_any)

def CT (f : FuncId) (args r : Array Value) : Prop := ∀ W, Calls Tryz.prog f args W fun e w' => e = .returned (.tuple r) ∧ Below W.heap.size W w'
theorem one_z : ((1 : Nat) : Int) = 1 := rfl
theorem zero_z : ((0 : Nat) : Int) = 0 := rfl
theorem head_no1 : CT 14 #[.int .i64 (-1)] #[.string (S (hdB (-1))), .int .i64 1] := fun W => by
  have h := Header_any (-1) W; rw [hd_one.1] at h; exact h
theorem head_no2 : CT 14 #[.int .i64 1048577] #[.string (S (hdB 1048577)), .int .i64 1] := fun W => by
  have h := Header_any 1048577 W; rw [hd_one.2.1] at h; exact h
theorem head_yes : CT 14 #[.int .i64 1048576] #[.string (S (segH 1048576)), .int .i64 0] := fun W => by
  have h := Header_any 1048576 W; rw [hd_one.2.2.1, hd_one.2.2.2] at h; exact h
theorem first_of (l : List UInt8) (q x : Nat) (hl : l.length ≤ 1000) (hq : fiQ l = q) (hx : fiE l = x) : CT 15 #[.string (S l)] #[.int .i64 (q : Int), .int .i64 (x : Int)] := fun W => by
  have h := First_any (S l) (by rw [S_size]; omega) W
  rw [S_list, hq, hx] at h; exact h
theorem fi_q {l : List UInt8} {x : Nat} (h : fiE l = x) (hx : ¬ x = 0) : fiQ l = 0 := by unfold fiQ; rw [if_neg (by rw [h]; exact hx)]
theorem first_yes : CT 15 #[.string (S (segH 1048576))] #[.int .i64 1048576, .int .i64 0] := first_of _ 1048576 0 (by rw [segH_length]; decide) fi_one.2.1 fi_one.1
theorem first_cut : CT 15 #[.string (S ((segH 1048576).take 15))] #[.int .i64 0, .int .i64 8] := first_of _ 0 8 (by rw [List.length_take, segH_length]; decide) (fi_q fi_one.2.2.1 (by decide)) fi_one.2.2.1
theorem first_two : CT 15 #[.string ⟨#[115, 101, 103, 50, 120, 120, 120, 120, 120, 120, 120, 120, 120, 120, 120, 120]⟩] #[.int .i64 0, .int .i64 4] := first_of [115, 101, 103, 50, 120, 120, 120, 120, 120, 120, 120, 120, 120, 120, 120, 120] 0 4 (by decide) (fi_q fi_one.2.2.2.1 (by decide)) fi_one.2.2.2.1
theorem first_sum : CT 15 #[.string ⟨#[115, 101, 103, 49, 120, 120, 120, 120, 120, 120, 120, 120, 120, 120, 120, 120]⟩] #[.int .i64 0, .int .i64 42] := first_of [115, 101, 103, 49, 120, 120, 120, 120, 120, 120, 120, 120, 120, 120, 120, 120] 0 42 (by decide) (fi_q fi_one.2.2.2.2 (by decide)) fi_one.2.2.2.2
def big : List UInt8 := [115, 101, 103, 49, 0, 0, 0, 0, 0, 16, 0, 1]
theorem seal_big (W : World) : Calls Tryz.prog 18 #[.string ⟨#[115, 101, 103, 49, 0, 0, 0, 0, 0, 16, 0, 1]⟩] W fun e w' => e = .returned (.string (S (big ++ fourL (ofW big)))) ∧ Below W.heap.size W w' := by
  have h := refSeal_any (S big) W (by decide)
  have e : sealS (S big) = S (big ++ fourL (ofW big)) := by
    unfold sealS
    rw [S_list]
    show S big ++ S (fourL (ofW big)) = _
    rw [S_append]
  rw [e] at h; exact h
theorem first_big : CT 15 #[.string (S (big ++ fourL (ofW big)))] #[.int .i64 0, .int .i64 4] := first_of _ 0 4 (by rw [List.length_append]; decide) (fi_q fi_two (by decide)) fi_two
theorem join_x (q : Int) (y : ByteArray) (hy : y.size ≤ 100) (W0 : World) : Calls Tryz.prog 16 #[.int .i64 q, .slice (some ⟨W0.heap.size, 0, none⟩) 1 1] (W0.alloc (.cells #[.string y] 9)) fun e w' => e = joV q [y] ∧ Below W0.heap.size W0 w' := by
  have hb := (Below.refl W0.heap.size W0).alloc (Nat.le_refl _) (.cells #[.string y] 9)
  refine (Join_any q (some ⟨W0.heap.size, 0, none⟩) 1 [y] (by show 1 ≤ 1000000; omega) _ (strs_new W0 [y] (fun j h => ?_))).mono fun e w' ⟨h1, h2⟩ => ⟨h1, hb.trans (h2.mono hb.size)⟩
  have : j = 0 := by have : j < 1 := h; omega
  subst this
  show y.size ≤ maxLen
  unfold maxLen; omega
theorem split_no (q most : Int) (hm : (Lit.int .i64 most).wf = true) (x : Nat) (hx : spE q [] most = x) (W : World) : Calls Tryz.prog 17 #[.int .i64 q, .slice none 0 0, .int .i64 most] W fun e w' => ∃ v, e = .returned (.tuple #[v, .int .i64 (x : Int)]) ∧ OwnS w' W.heap.size v (spS q [] most) ∧ Below W.heap.size W w' := by
  have h := Split_any q most hm none 0 [] (by decide) W (fun j hj => absurd hj (Nat.not_lt_zero _))
  rw [show spE q (bytesP []) most = x from hx] at h; exact h
theorem name_of (g f : Int) (l : List UInt8) (h : nameE g f = l) (W : World) (E : Env W) : Calls Tryz.prog 19 #[.int .i64 g, .int .i64 f] W fun e w' => e = .returned (.string (S l)) ∧ Below W.heap.size W w' := by
  have := Name_any g f W E; rw [h] at this; exact this
theorem fits_not (size n most : Int) (h0 : (Lit.int .i64 size).wf = true) (h2 : (Lit.int .i64 most).wf = true) (h : fitsB size n most = false) (W : World) : Calls Tryz.prog 20 #[.int .i64 size, .int .i64 n, .int .i64 most] W fun e w' => e = .returned (.bool false) ∧ W = w' := by
  have := Fits_any size n most h0 h2 W; rw [h] at this; exact this
theorem mk8_l (W : World) : (Instr.makeSlice 32 (.int .i64 4096) (.int .i64 4096)).run Tryz.prog W = .ok (.slice (some ⟨W.heap.size, 0, none⟩) 4096 4096) (W.alloc (.cells (mkz 4096) 5)) := run_mk8 4096 (by decide) W
theorem cv8_l (W : World) : (convert 32 9 (.slice (some ⟨W.heap.size, 0, none⟩) 4096 4096)).run Tryz.prog (W.alloc (.cells (mkz 4096) 5)) = .ok (.string zp) (W.alloc (.cells (mkz 4096) 5)) :=
  conv_bytes (W.alloc (.cells (mkz 4096) 5)) W.heap.size 0 4096 4096 zl zl_len.symm (fun i h => by rw [Nat.zero_add]; exact ((buf_mk8 4096 W).2 i h).1)
theorem last_size : (S (segH 1048576)).size = 16 := by rw [S_size, segH_length]
theorem cut_15 (W : World) : (Instr.slice 9 (.string (S (segH 1048576))) none (some (.int .i64 15)) none).run Tryz.prog W = .ok (.string (S ((segH 1048576).take 15))) W := slice_to (segH 1048576) 15 (by rw [segH_length]; decide) W

set_option maxRecDepth 100000 in
set_option maxHeartbeats 2000000 in
theorem names_law (w : World) (E : Env w) :
    Calls Tryz.prog 3 #[] w fun e w' => e = .returned (.bool true) ∧ Below w.heap.size w w' := by
  have HAW := Lib.hid (awake_any w E)
  have HE := Lib.hid E
  have HNO := Lib.hid lits_no
  have HI := Lib.hid (fun i : Nat => fun h : i ≤ 1000 => (IntWalk.wrap64_in ((i : Int) + 1) ⟨by omega, by omega⟩ : wrap64 ((i : Int) + 1) = (i : Int) + 1))
  clear E
  go_enter Tryz.func3, Tryz.ntmps3
  go_wp2_with fail
  refine HAW.out.mono ?_
  rintro e w1 ⟨rfl, hb⟩
  have HB1 := Lib.hid hb
  clear hb
  go_wp2_with fail
  go_loopw [46] (fun y wr => ∃ i : Nat, i ≤ 13 ∧ y = .int .i64 (i : Int) ∧ Hid (Strs wr (some ⟨w1.heap.size, 0, none⟩) lits) ∧ Hid (Below w.heap.size w wr)) (fun y _ => 13 - (intOf y).toNat)
  case atStart => exact ⟨0, by omega, rfl, Lib.hid (strs_new w1 lits (fun j h => by have := (lits_no j h).2; unfold maxLen; omega)), Lib.hid (HB1.out.alloc HB1.out.size _)⟩
  case round =>
    clear HB1
    obtain ⟨i, hi, rfl, HS, HB⟩ := hrel
    by_cases hlt : i < 13
    · have hl2 : i < lits.length := hlt
      obtain ⟨b, o, hA, hbb, hs, c0⟩ := HS.out i hl2
      injection hA with hA
      injection hA with h1 h2
      subst h1 h2
      rw [Nat.zero_add] at c0
      have HNM := Lib.hid (Named_any (lits[i]'hl2) (by have := (lits_no i hl2).2; omega) wr (HE.out.over HB.out))
      rw [(HNO.out i hl2).1] at HNM
      have k1 : decide ((i : Int) < 13) = true := decide_eq_true (by omega)
      have k2 : (i : Int) < 13 := by omega
      have k3 : (0 : Int) ≤ (i : Int) := by omega
      have HLT := Lib.hid hlt
      generalize lits[i]'hl2 = T at *
      generalize (namedR T.data.toList).1 = N1 at *
      generalize (namedR T.data.toList).2.1 = N2 at *
      clear hl2 hs hbb
      go_wp2_with fail
      refine HNM.out.mono ?_
      rintro e w2 ⟨rfl, hb⟩
      have HS2 := Lib.hid (HS.out.below hb)
      have HB2 := Lib.hid (HB.out.trans (hb.mono HB.out.size))
      clear hb c0
      have hi1 := HI.out i (by omega)
      go_wp2_with fail
      go_roundw
      case rel => exact ⟨i + 1, HLT.out, by first | rfl | (rw [hi1]; rfl), HS2, HB2⟩
      case measure => first | exact meas_step _ _ HLT.out | (rw [hi1]; exact meas_step _ _ HLT.out)
    · obtain rfl : i = 13 := by omega
      clear hlt hi HS HNO HAW
      go_wp2_with fail
      refine (head_no1 _).mono ?_
      rintro e v1 ⟨rfl, hb⟩
      have HV1 := Lib.hid (HB.out.trans (hb.mono HB.out.size))
      clear hb HB
      go_wp2_with fail
      refine (head_no2 _).mono ?_
      rintro e v2 ⟨rfl, hb⟩
      have HV2 := Lib.hid (HV1.out.trans (hb.mono HV1.out.size))
      clear hb HV1
      go_wp2_with fail
      refine (head_yes _).mono ?_
      rintro e v3 ⟨rfl, hb⟩
      have HV3 := Lib.hid (HV2.out.trans (hb.mono HV2.out.size))
      clear hb HV2
      go_wp2_with fail
      refine (first_yes _).mono ?_
      rintro e v4 ⟨rfl, hb⟩
      have HV4 := Lib.hid (HV3.out.trans (hb.mono HV3.out.size))
      clear hb HV3
      have hls := last_size
      have hcut := cut_15
      go_wp2_with fail
      rw [show (S (segH 1048576)).extract 0 (min (15 : Int) 16).toNat = S ((segH 1048576).take 15) from S_take _ 15]
      refine (first_cut _).mono ?_
      rintro e v5 ⟨rfl, hb⟩
      have HV5 := Lib.hid (HV4.out.trans (hb.mono HV4.out.size))
      clear hb HV4
      clear hls hcut
      go_wp2_with fail
      refine (first_two _).mono ?_
      rintro e v6 ⟨rfl, hb⟩
      have HV6 := Lib.hid (HV5.out.trans (hb.mono HV5.out.size))
      clear hb HV5
      go_wp2_with fail
      refine (first_sum _).mono ?_
      rintro e v7 ⟨rfl, hb⟩
      have HV7 := Lib.hid (HV6.out.trans (hb.mono HV6.out.size))
      clear hb HV6
      go_wp2_with fail
      refine (join_x 1048577 ⟨#[]⟩ (by decide) v7).mono ?_
      rw [jo_one.1]
      rintro e v8 ⟨rfl, hb⟩
      have HV8 := Lib.hid (HV7.out.trans (hb.mono HV7.out.size))
      clear hb HV7
      go_wp2_with fail
      refine (join_x 1048576 ⟨#[]⟩ (by decide) v8).mono ?_
      rw [jo_one.2.1]
      rintro e v9 ⟨rfl, hb⟩
      have HV9 := Lib.hid (HV8.out.trans (hb.mono HV8.out.size))
      clear hb HV8
      go_wp2_with fail
      refine (join_x 1048576 ⟨#[120]⟩ (by decide) v9).mono ?_
      rw [jo_one.2.2]
      rintro e v10 ⟨rfl, hb⟩
      have HV10 := Lib.hid (HV9.out.trans (hb.mono HV9.out.size))
      clear hb HV9
      obtain ⟨TX, hTX⟩ := jo_two
      go_wp2_with fail
      refine (join_x 1048575 ⟨#[120]⟩ (by decide) v10).mono ?_
      rw [hTX]
      rintro e v11 ⟨rfl, hb⟩
      have HV11 := Lib.hid (HV10.out.trans (hb.mono HV10.out.size))
      clear hb HV10
      have hmk := run_mkS
      go_wp2_with fail
      clear hmk
      go_loopw [29] (fun y wr => ∃ i : Nat, i ≤ 300 ∧ y = .int .i64 (i : Int) ∧ Hid (OwnS wr w.heap.size (.slice (some ⟨v11.heap.size, 0, none⟩) (lz i).length 300) (lz i)) ∧ Hid (Below w.heap.size w wr)) (fun y _ => 300 - (intOf y).toNat)
      case atStart => exact ⟨0, by omega, rfl, Lib.hid (own_mkS HV11.out.size), Lib.hid (HV11.out.alloc HV11.out.size _)⟩
      case round =>
        have HG := Lib.hid HV11.out.size
        clear HV11
        obtain ⟨i, hi, rfl, HO, HB⟩ := hrel
        by_cases hlt : i < 300
        · as_aux_lemma =>
            have hbn := (Below.refl wr.heap.size wr).alloc (Nat.le_refl _) (.cells (mkz 4096) 5)
            have hon := HO.out.below hbn
            obtain ⟨A9, c9, he, -, -, hcell⟩ := hon.row
            injection he with he1 he2 he3
            subst he1
            obtain ⟨g9, hg9, -, -, c0, f0⟩ := hcell i (by rw [lz_length hi]; exact hlt)
            injection hg9 with hg9
            injection hg9 with hg9
            subst hg9
            have hset := hon.set i (by rw [lz_length hi]; exact hlt) zp
            rw [lz_set hlt] at hset
            have HO2 := Lib.hid hset
            have HB2 := Lib.hid ((HB.out.alloc HB.out.size (.cells (mkz 4096) 5)).setCell (p := ⟨v11.heap.size, i, none⟩) HG.out (.string zp))
            have k1 : decide ((i : Int) < 300) = true := decide_eq_true (by omega)
            have k2 : (i : Int) < 300 := by omega
            have k3 : (0 : Int) ≤ (i : Int) := by omega
            have HLT := Lib.hid hlt
            have hi1 := HI.out i (by omega)
            have hmk := mk8_l
            have hcv := cv8_l wr
            clear hbn hon hcell he2 he3 hset
            generalize (lz i)[i]'_ = TT at *
            go_wp2_with fail
            go_roundw
            case rel => exact ⟨i + 1, HLT.out, by first | rfl | (rw [hi1]; rfl), HO2, HB2⟩
            case measure => first | exact meas_step _ _ HLT.out | (rw [hi1]; exact meas_step _ _ HLT.out)
        · obtain rfl : i = 300 := by omega
          rw [lz_all, List.length_replicate] at HO
          have HL := Lib.hid (show (List.replicate 300 zp).length = 300 from List.length_replicate)
          have HST := Lib.hid (show Strs wr (some ⟨v11.heap.size, 0, none⟩) (List.replicate 300 zp) by
            rw [← HL.out] at HO
            obtain ⟨A9, c9, he, -, -, hst⟩ := HO.out.strs (fun y hy => by rw [List.eq_of_mem_replicate hy, zp_size]; decide)
            injection he with he1 he2 he3
            subst he1
            exact hst)
          have HJL := Lib.hid (fun W (h : Strs W (some ⟨v11.heap.size, 0, none⟩) (List.replicate 300 zp)) => Join_any 0 (some ⟨v11.heap.size, 0, none⟩) 300 (List.replicate 300 zp) (by rw [List.length_replicate]; decide) W h)
          have HSPL := Lib.hid (fun W (h : Strs W (some ⟨v11.heap.size, 0, none⟩) (List.replicate 300 zp)) => Split_any 0 65536 (by decide) (some ⟨v11.heap.size, 0, none⟩) 300 (List.replicate 300 zp) (by rw [List.length_replicate]; decide) W h)
          rw [HL.out, jo_long] at HJL
          rw [HL.out, sp_long.1, zero_z] at HSPL
          clear hlt hi HO
          go_wp2_with fail
          refine (HJL.out wr HST.out).mono ?_
          rintro e x1 ⟨rfl, hb⟩
          have HX1 := Lib.hid (HB.out.trans (hb.mono HB.out.size))
          have HST1 := Lib.hid (HST.out.below hb)
          clear hb HB HST
          go_wp2_with fail
          refine (HSPL.out x1 HST1.out).mono ?_
          rintro e x2 ⟨u1, rfl, ho, hb⟩
          obtain ⟨A2, c2, rfl, -, -, -⟩ := ho.row
          rw [sp_long.2]
          have HX2 := Lib.hid (HX1.out.trans (hb.mono HX1.out.size))
          clear ho hb HX1 HST1
          go_wp2_with fail
          refine (split_no 0 63 (by decide) 1 sp_one.1 x2).mono ?_
          rintro e x3 ⟨u2, rfl, -, hb⟩
          have HX3 := Lib.hid (HX2.out.trans (hb.mono HX2.out.size))
          clear hb HX2
          go_wp2_with fail
          refine (split_no 0 65537 (by decide) 1 sp_one.2.1 x3).mono ?_
          rintro e x4 ⟨u3, rfl, -, hb⟩
          have HX4 := Lib.hid (HX3.out.trans (hb.mono HX3.out.size))
          clear hb HX3
          go_wp2_with fail
          refine (split_no 7 64 (by decide) 0 sp_one.2.2.1 x4).mono ?_
          rintro e x5 ⟨u4, rfl, ho, hb⟩
          obtain ⟨A4, c4, rfl, -, -, -⟩ := ho.row
          rw [sp_one.2.2.2.2.2]
          have HX5 := Lib.hid (HX4.out.trans (hb.mono HX4.out.size))
          clear hb ho HX4
          go_wp2_with fail
          refine (seal_big _).mono ?_
          rintro e v13 ⟨rfl, hb⟩
          have HV13 := Lib.hid (HX5.out.trans (hb.mono HX5.out.size))
          clear hb HX5
          go_wp2_with fail
          refine (first_big _).mono ?_
          rintro e v14 ⟨rfl, hb⟩
          have HV14 := Lib.hid (HV13.out.trans (hb.mono HV13.out.size))
          clear hb HV13
          have hnm : S [115, 57, 57, 57, 57, 57, 57, 57, 57, 45, 48, 48, 48, 49, 48, 52, 56, 53, 55, 54] = ⟨#[115, 57, 57, 57, 57, 57, 57, 57, 57, 45, 48, 48, 48, 49, 48, 52, 56, 53, 55, 54]⟩ := rfl
          have hn0 : S [] = ⟨#[]⟩ := rfl
          go_wp2_with fail
          refine (name_of (-1) 0 [] nm_one.1 v14 (HE.out.over HV14.out)).mono ?_
          rw [hn0]
          rintro e v15 ⟨rfl, hb⟩
          have HV15 := Lib.hid (HV14.out.trans (hb.mono HV14.out.size))
          clear hb HV14
          go_wp2_with fail
          refine (name_of 100000000 0 [] nm_one.2.1 v15 (HE.out.over HV15.out)).mono ?_
          rw [hn0]
          rintro e v16 ⟨rfl, hb⟩
          have HV16 := Lib.hid (HV15.out.trans (hb.mono HV15.out.size))
          clear hb HV15
          go_wp2_with fail
          refine (name_of 0 (-1) [] nm_one.2.2.1 v16 (HE.out.over HV16.out)).mono ?_
          rw [hn0]
          rintro e v17 ⟨rfl, hb⟩
          have HV17 := Lib.hid (HV16.out.trans (hb.mono HV16.out.size))
          clear hb HV16
          go_wp2_with fail
          refine (name_of 0 1048577 [] nm_one.2.2.2.1 v17 (HE.out.over HV17.out)).mono ?_
          rw [hn0]
          rintro e v18 ⟨rfl, hb⟩
          have HV18 := Lib.hid (HV17.out.trans (hb.mono HV17.out.size))
          clear hb HV17
          go_wp2_with fail
          refine (name_of 99999999 1048576 _ nm_one.2.2.2.2 v18 (HE.out.over HV18.out)).mono ?_
          rw [hnm]
          rintro e v19 ⟨rfl, hb⟩
          have HV19 := Lib.hid (HV18.out.trans (hb.mono HV18.out.size))
          clear hb HV18
          go_wp2_with fail
          refine (fits_not 16 0 64 (by decide) (by decide) ft_one.1 _).mono ?_
          rintro e xf ⟨rfl, rfl⟩
          go_wp2_with fail
          refine (fits_not 16 4097 65536 (by decide) (by decide) ft_one.2 _).mono ?_
          rintro e xf ⟨rfl, rfl⟩
          go_wp2_with fail
          go_ret
          exact ⟨rfl, HV19.out⟩
end Go.Proofs.YtkccdffccjgajaaGreatDoor.Seg
