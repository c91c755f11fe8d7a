import Derived.Test.YticfnfekkmkclaaGreatDoorSM
import Derived.Test.YticfnfekkmkclaaGreatDoorAX
import Derived.Test.YticfnfekkmkclaaGreatDoorGV
import Derived.Test.YticfnfekkmkclaaGreatDoorOF
/-
  A swap is done just if there is room.
-/
namespace Go.Proofs.YticfnfekkmkclaaGreatDoor.Manif
open Go Go.RowKit
open Go.Proofs.YticfnfekkmkclaaGreatDoor.Disk
open Go.Proofs.YticfnfekkmkclaaGreatDoor.Seg (EnvP)

theorem two_disks {w w' : World} {a b a2 b2 : Nat} {d : Dk} (h : DkAt w a b d) (ht : Tn a2 b2 w w') (h1 : a ≠ a2 ∧ a ≠ b2 ∧ b ≠ a2 ∧ b ≠ b2) : DkAt w' a b d :=
  h.same (ht.block a h.lt.1 h1.1 h1.2.1) (ht.block b h.lt.2 h1.2.2.1 h1.2.2.2)
theorem fi_short {l : List Fi} (h : manyB l = false) : Short l := fun x hx => by have := (few_len h).2 x hx; omega
set_option maxRecDepth 100000 in
set_option maxHeartbeats 4000000 in
theorem room_few (w : World) (c : Int) (hc : c ≤ 9223372036854775807) (FA : Option Addr) (fc : Nat) (fl : List Fi) (hf : RowF w FA fl) (hmb : manyB fl = false) (hfl : fl.length ≤ maxLen) (g : Int) (A : Option Addr) (cap : Nat) (l : List (Int × Int)) (hx : RowE w A l) (hl : ¬ 100 < l.length) (E : EnvP w) :
    Calls Tryz.prog 7 #[.int .i64 c, .slice FA fl.length fc, .agg #[.int .i64 g, .slice A l.length cap]] w fun e w' => e = .returned (.bool true) ∧ Below w.heap.size w w' := by
  obtain ⟨w0, hw0⟩ : ∃ w0, w.alloc (.cells #[.int .i64 g, .slice A l.length cap] 47) = w0 := ⟨_, rfl⟩
  have hb0 : Below w.heap.size w w0 := by rw [← hw0]; exact (Below.refl _ _).alloc (Nat.le_refl _) _
  have hm0 : w0.heap[w.heap.size]? = some (.cells #[.int .i64 g, .slice A l.length cap] 47 (0, 0)) := by rw [← hw0]; exact heap_alloc_new w _
  have HMA : Hid (Calls Tryz.prog 20 #[.slice FA fl.length fc] w0 fun e w' => e = .returned (.bool false) ∧ Below w0.heap.size w0 w') := Lib.hid (by
    have := many_any w0 FA fc fl hfl (hf.below hb0)
    rw [hmb] at this; exact this)
  have HLD := Lib.hid (fun W (hb : Below w.heap.size w W) => load_any c hc FA fc fl (by have := (few_len hmb).1; omega) (fi_short hmb) W (hf.below hb))
  have k1 : decide (100 < (l.length : Int)) = false := decide_eq_false (by omega)
  have k3 : decide (100 < l.length) = false := decide_eq_false hl
  have HX := Lib.hid hx
  have HL := Lib.hid hl
  have HE := Lib.hid E
  have HB0 := Lib.hid hb0
  have HM0 := Lib.hid hm0
  clear hb0 hm0 hx hl E hf hmb hfl hc
  go_enter Tryz.func7, Tryz.ntmps7
  go_wp2_with fail
  refine HMA.out.mono ?_
  rintro e w1 ⟨rfl, hb⟩
  have HB1 := Lib.hid (HB0.out.trans (hb.mono HB0.out.size))
  have hm1 := (hb.block _ (row_lt HM0.out)).trans HM0.out
  have HM1 := Lib.hid hm1
  have c1 : w1.cell? ⟨w.heap.size, 1, none⟩ = some (.slice A l.length cap) := cell_row hm1 1
  have HAW := Lib.hid (awake_any w1 (HE.out.over HB1.out))
  clear hb hm1
  go_wp2_with fail
  refine HAW.out.mono ?_
  rintro e w2 ⟨rfl, hb⟩
  have HB2 := Lib.hid (HB1.out.trans (hb.mono HB1.out.size))
  have HM2 := Lib.hid ((hb.block _ (row_lt HM1.out)).trans HM1.out)
  clear hb c1 k1 k3
  go_wp2_with fail
  refine (HLD.out w2 HB2.out).mono ?_
  rintro e w3 ⟨hbad, hok, hb⟩
  have HB3 := Lib.hid (HB2.out.trans (hb.mono HB2.out.size))
  have hm3 := (hb.block _ (row_lt HM2.out)).trans HM2.out
  have HM3 := Lib.hid hm3
  have c0 : w3.cell? ⟨w.heap.size, 0, none⟩ = some (.int .i64 g) := cell_row hm3 0
  have c1 : w3.cell? ⟨w.heap.size, 1, none⟩ = some (.slice A l.length cap) := cell_row hm3 1
  have HGV := Lib.hid (given_any w3 g A cap l (by have := HL.out; omega) (HX.out.below HB3.out))
  clear hm3
  by_cases he : loadE c fl = 0
  case neg =>
    have hz := hbad he
    have k1 : ((loadE c fl : Int) == 0) = false := beq_eq_false_iff_ne.2 (by omega)
    have k2 : ¬ (loadE c fl : Int) = 0 := by omega
    generalize loadE c fl = le at *
    subst hz
    clear hbad hok hb he
    go_wp2_with fail
    refine HGV.out.mono ?_
    rintro e w4 ⟨v4, rfl, ho, hb⟩
    have HB4 := Lib.hid (HB3.out.trans (hb.mono HB3.out.size))
    obtain ⟨A4, c4, rfl, -, -, -, -⟩ := ho.row
    clear hb ho c0 c1
    obtain ⟨hb5, hm5⟩ := mnew w4 (.int .i64 g) (.slice A4 l.length c4)
    obtain ⟨V5, hV5⟩ : ∃ W, w4.alloc (.cells #[.int .i64 0, .slice none 0 0] 25) = W := ⟨_, rfl⟩
    have ha5 : V5.heap[w4.heap.size]? = some (.cells #[.int .i64 0, .slice none 0 0] 25 (0, 0)) := by rw [← hV5]; exact heap_alloc_new w4 _
    rw [hV5] at hb5 hm5
    obtain ⟨qa5, qb5, qc5, qd5, d05, d15, -⟩ := mset ha5 (.int .i64 g) (.slice A4 l.length c4)
    obtain ⟨U5, hU5⟩ : ∃ W, (V5.setCell ⟨w4.heap.size, 0, none⟩ (.int .i64 g)).setCell ⟨w4.heap.size, 1, none⟩ (.slice A4 l.length c4) = W := ⟨_, rfl⟩
    rw [hU5] at hb5 hm5 d05 d15
    clear ha5
    have HB5 := Lib.hid (HB4.out.trans (hb5.mono HB4.out.size))
    clear hb5 hm5
    go_wp2_with fail
    go_ret
    exact ⟨by first | rfl | simp, by first | exact HB5.out | (rw [hU5]; exact HB5.out)⟩
  obtain ⟨a, b, rfl, hd, ha, hbb⟩ := hok he
  have HD3 := Lib.hid hd
  have HAB := Lib.hid (show w.heap.size ≤ a ∧ w.heap.size ≤ b from ⟨Nat.le_trans HB2.out.size ha, Nat.le_trans HB2.out.size hbb⟩)
  obtain ⟨D, hD⟩ : ∃ D, (⟨c.toNat, fileL fl, false, false, 0⟩ : Dk) = D := ⟨_, rfl⟩
  have HC := Lib.hid (show Calm D by rw [← hD]; exact ⟨rfl, rfl, rfl⟩)
  rw [hD] at HD3
  have HLT3 := Lib.hid HD3.out.lt
  have HUP := Lib.hid HD3.out.ok.up
  have HLW := Lib.hid (show w.heap.size < a ∧ w.heap.size < b by have h0 := row_lt HM2.out; omega)
  clear hbad hok hb he hd ha hbb hD HLD
  go_wp2_with fail
  refine HGV.out.mono ?_
  rintro e w4 ⟨v4, rfl, ho, hb⟩
  have HB4 := Lib.hid (HB3.out.trans (hb.mono HB3.out.size))
  have HM4 := Lib.hid ((hb.block _ (row_lt HM3.out)).trans HM3.out)
  have HD4 := Lib.hid (HD3.out.below hb)
  obtain ⟨A4, c4, rfl, -, -, hr4, -⟩ := ho.row
  have HR4 := Lib.hid hr4
  have HSZ4 := Lib.hid hb.size
  clear hb ho c0 c1 hr4
  obtain ⟨hb5, hm5⟩ := mnew w4 (.int .i64 g) (.slice A4 l.length c4)
  obtain ⟨V5, hV5⟩ : ∃ W, w4.alloc (.cells #[.int .i64 0, .slice none 0 0] 25) = W := ⟨_, rfl⟩
  have ha5 : V5.heap[w4.heap.size]? = some (.cells #[.int .i64 0, .slice none 0 0] 25 (0, 0)) := by rw [← hV5]; exact heap_alloc_new w4 _
  rw [hV5] at hb5 hm5
  obtain ⟨qa5, qb5, qc5, qd5, d05, d15, -⟩ := mset ha5 (.int .i64 g) (.slice A4 l.length c4)
  obtain ⟨U5, hU5⟩ : ∃ W, (V5.setCell ⟨w4.heap.size, 0, none⟩ (.int .i64 g)).setCell ⟨w4.heap.size, 1, none⟩ (.slice A4 l.length c4) = W := ⟨_, rfl⟩
  rw [hU5] at hb5 hm5 d05 d15
  clear ha5
  have HB5 := Lib.hid (HB4.out.trans (hb5.mono HB4.out.size))
  have HM5 := Lib.hid ((hb5.block _ (row_lt HM4.out)).trans HM4.out)
  have HD5 := Lib.hid (HD4.out.below hb5)
  have HR5 := Lib.hid (HR4.out.below hb5)
  have HN5 := Lib.hid hm5
  obtain ⟨M5, hM5⟩ : ∃ m, w4.heap.size = m := ⟨_, rfl⟩
  rw [hM5] at qa5 qb5 qc5 qd5 d05 d15 HN5 hU5
  have HMM := Lib.hid (show a < M5 ∧ b < M5 by have h1 := HLT3.out; have h2 := HSZ4.out; omega)
  have HLM := Lib.hid (show l.length ≤ maxLen by have := HL.out; unfold maxLen; omega)
  have HMY := Lib.hid (May_any U5 g A4 c4 l HLM.out HR5.out)
  clear hb5 hm5
  go_wp2_with fail
  try rw [hU5]
  refine HMY.out.mono ?_
  rintro e w6 ⟨rfl, hb⟩
  have HB6 := Lib.hid (HB5.out.trans (hb.mono HB5.out.size))
  have HM6 := Lib.hid ((hb.block _ (row_lt HM5.out)).trans HM5.out)
  have HD6 := Lib.hid (HD5.out.below hb)
  have HR6 := Lib.hid (HR5.out.below hb)
  have hn6 := (hb.block _ (row_lt HN5.out)).trans HN5.out
  have HN6 := Lib.hid hn6
  clear qa5 qb5 qc5 qd5 d05 d15 hV5 hU5 hM5 hb
  have c0 : w6.cell? ⟨M5, 0, none⟩ = some (.int .i64 g) := cell_row hn6 0
  have c1 : w6.cell? ⟨M5, 1, none⟩ = some (.slice A4 l.length c4) := cell_row hn6 1
  clear hn6
  by_cases hm : mayM g l = true
  case neg =>
    have HSW : Hid (Calls Tryz.prog 15 #[.pointer (some ⟨a, 0, none⟩), .agg #[.int .i64 g, .slice A4 l.length c4]] w6 (Res a b (4, D) w6)) := Lib.hid (by
      have := Swap_all w6 a b D HD6.out g A4 c4 l HLM.out HR6.out
      rw [if_neg hm] at this; exact this)
    rw [Bool.not_eq_true] at hm
    rw [hm]
    clear hm
    go_wp2_with fail
    refine HSW.out.mono ?_
    rintro e w7 ⟨rfl, hd, ht⟩
    have HB7 := Lib.hid (ht.base HB6.out (Nat.le_refl _) HAB.out)
    clear hd ht c0 c1
    go_wp2_with fail
    go_ret
    exact ⟨by first | rfl | simp, HB7.out⟩
  have HMP := Lib.hid (mayM_parts hm).2.2
  have HSW : Hid (∀ W, DkAt W a b D → RowE W A4 l → Calls Tryz.prog 15 #[.pointer (some ⟨a, 0, none⟩), .agg #[.int .i64 g, .slice A4 l.length c4]] W (Res a b (swD (manB g l) D) W)) := Lib.hid (fun W hd hr => by
    have := Swap_all W a b D hd g A4 c4 l HLM.out hr
    rw [if_pos hm] at this; exact this)
  rw [hm]
  clear hm
  have HCP := Lib.hid (copy_any a b D w6 HD6.out)
  go_wp2_with fail
  refine HCP.out.mono ?_
  rintro e w7 ⟨a2, b2, rfl, hd2, ha2, hb2, hb⟩
  have HB7 := Lib.hid (HB6.out.trans (hb.mono HB6.out.size))
  have HD7 := Lib.hid (HD6.out.below hb)
  have HM7 := Lib.hid ((hb.block _ (row_lt HM6.out)).trans HM6.out)
  have HN7 := Lib.hid ((hb.block _ (row_lt HN6.out)).trans HN6.out)
  have HR7 := Lib.hid (HR6.out.below hb)
  have HX7 := Lib.hid hd2
  have HB67 := Lib.hid hb
  have HNE := Lib.hid (show (a ≠ a2 ∧ a ≠ b2 ∧ b ≠ a2 ∧ b ≠ b2) ∧ w6.heap.size ≤ a2 ∧ w6.heap.size ≤ b2 by
    have h1 := HD6.out.lt.1
    have h2 := HD6.out.lt.2
    exact ⟨⟨by omega, by omega, by omega, by omega⟩, ha2, hb2⟩)
  have HZ6 := Lib.hid HB6.out.size
  have HDE : Hid (Calls Tryz.prog 38 #[.pointer (some ⟨a2, 0, none⟩), .string ⟨#[77, 65, 78, 73, 70, 69, 83, 84, 46, 110, 101, 119]⟩] w7 (Res a2 b2 (deleteD D fresh) w7)) := Lib.hid (delete_any a2 b2 D fresh (by decide) w7 hd2)
  have HDC := Lib.hid (show (deleteD D fresh).2 = { D with l := rest D } from del_calm HC.out)
  clear hd2 ha2 hb2 hb c0 c1
  generalize deleteD D fresh = rd at *
  obtain ⟨r1, r2⟩ := rd
  simp only at HDC
  go_wp2_with fail
  refine HDE.out.mono ?_
  rintro e w8 ⟨rfl, hd, ht⟩
  simp only at hd
  rw [HDC.out] at hd
  have HX8 := Lib.hid hd
  have HB68 := Lib.hid (ht.base HB67.out (Nat.le_refl _) HNE.out.2)
  have HB8 := Lib.hid (HB6.out.trans (HB68.out.mono HB6.out.size))
  have HD8 := Lib.hid (HD6.out.below HB68.out)
  have HM8 := Lib.hid ((HB68.out.block _ (row_lt HM6.out)).trans HM6.out)
  have HN8 := Lib.hid ((HB68.out.block _ (row_lt HN6.out)).trans HN6.out)
  have HR8 := Lib.hid (HR6.out.below HB68.out)
  have HRO := Lib.hid (room_any a2 b2 { D with l := rest D } HC.out.1 w8 hd)
  clear hd ht HDE
  obtain ⟨by_, hby⟩ : ∃ x : Int, (D.cap : Int) - (used (rest D) : Int) = x := ⟨_, rfl⟩
  obtain ⟨fi_, hfi⟩ : ∃ x : Int, 64 - ((rest D).length : Int) = x := ⟨_, rfl⟩
  have HBY := Lib.hid hby
  have HFI := Lib.hid hfi
  change Hid (Calls Tryz.prog 39 #[.pointer (some ⟨a2, 0, none⟩)] w8 fun z w' => z = .returned (.tuple #[.int .i64 ((D.cap : Int) - (used (rest D) : Int)), .int .i64 (64 - ((rest D).length : Int)), .int .i64 0]) ∧ Below w8.heap.size w8 w') at HRO
  rw [hby, hfi] at HRO
  clear hby hfi
  go_wp2_with fail
  refine HRO.out.mono ?_
  rintro e w9 ⟨rfl, hb⟩
  have HB9 := Lib.hid (HB8.out.trans (hb.mono HB8.out.size))
  have HD9 := Lib.hid (HD8.out.below hb)
  have HX9 := Lib.hid (HX8.out.below hb)
  have HM9 := Lib.hid ((hb.block _ (row_lt HM8.out)).trans HM8.out)
  have hn9 := (hb.block _ (row_lt HN8.out)).trans HN8.out
  have HS9 := Lib.hid (HSW.out w9 HD9.out (HR8.out.below hb))
  have c0 : w9.cell? ⟨M5, 0, none⟩ = some (.int .i64 g) := cell_row hn9 0
  have c1 : w9.cell? ⟨M5, 1, none⟩ = some (.slice A4 l.length c4) := cell_row hn9 1
  have HSC := Lib.hid (swap_calm HC.out HUP.out (manB g l) (by rw [manB_length]; have := HMP.out; omega))
  have HSZ : Hid (∀ W, Calls Tryz.prog 19 #[.int .i64 (l.length : Int)] W fun e w' => e = .returned (.int .i64 (((manB g l).length : Nat) : Int)) ∧ W = w') := Lib.hid (fun W => by
    have := Size_any (l.length : Int) W
    rw [szM_in ⟨HMP.out.1, HMP.out.2.1⟩, show (18 : Int) + 16 * (l.length : Int) = (((manB g l).length : Nat) : Int) by rw [manB_length]; omega] at this; exact this)
  clear hb hn9
  generalize (manB g l).length = zs at *
  generalize swD (manB g l) D = R at *
  by_cases h1 : used (rest D) + zs ≤ D.cap
  · by_cases h2 : (rest D).length ≤ 63
    · have q1 : decide ((zs : Int) ≤ by_) = true := decide_eq_true (by have := HBY.out; omega)
      have q2 : decide ((1 : Int) ≤ fi_) = true := decide_eq_true (by have := HFI.out; omega)
      have hR : R = (0, doneD (manB g l) D) := HSC.out.trans (if_neg (by omega))
      clear h1 h2
      subst hR
      go_wp2_with fail
      refine HS9.out.mono ?_
      rintro e w10 ⟨rfl, hd, ht⟩
      have HB10 := Lib.hid (ht.base HB9.out (Nat.le_refl _) HAB.out)
      have hm10 := (ht.block w.heap.size (row_lt HM9.out) (by have := HLW.out; omega) (by have := HLW.out; omega)).trans HM9.out
      have HUPX := Lib.hid (up_any a b _ w10 hd)
      rw [show (!(doneD (manB g l) D).gone) = true by show (!D.gone) = true; rw [HC.out.1]; rfl] at HUPX
      clear hd ht c0 c1
      have c1 : w10.cell? ⟨w.heap.size, 1, none⟩ = some (.slice A l.length cap) := cell_row hm10 1
      clear hm10
      go_wp2_with fail
      refine (HSZ.out w10).mono ?_
      rintro e w11 ⟨rfl, rfl⟩
      go_wp2_with fail
      refine HUPX.out.mono ?_
      rintro e w12 ⟨rfl, rfl⟩
      go_wp2_with fail
      go_ret
      exact ⟨by first | rfl | simp, HB10.out⟩
    · have q1 : decide ((zs : Int) ≤ by_) = true := decide_eq_true (by have := HBY.out; omega)
      have q2 : decide ((1 : Int) ≤ fi_) = false := decide_eq_false (by have := HFI.out; omega)
      have hR : R = (44, { D with l := rest D }) := HSC.out.trans (if_pos (by omega))
      clear h1 h2
      subst hR
      go_wp2_with fail
      refine HS9.out.mono ?_
      rintro e w10 ⟨rfl, hd, ht⟩
      have HB10 := Lib.hid (ht.base HB9.out (Nat.le_refl _) HAB.out)
      have hm10 := (ht.block w.heap.size (row_lt HM9.out) (by have := HLW.out; omega) (by have := HLW.out; omega)).trans HM9.out
      have HX10 := two_disks HX9.out ht (by have := HNE.out.1; exact ⟨fun e => this.1 e.symm, fun e => this.2.2.1 e.symm, fun e => this.2.1 e.symm, fun e => this.2.2.2 e.symm⟩)
      have HSD := Lib.hid (same_any a2 b2 a b _ _ w10 HX10 hd)
      rw [sameD_self] at HSD
      clear hd ht c0 c1 HX10
      have c1 : w10.cell? ⟨w.heap.size, 1, none⟩ = some (.slice A l.length cap) := cell_row hm10 1
      clear hm10
      go_wp2_with fail
      refine (HSZ.out w10).mono ?_
      rintro e w11 ⟨rfl, rfl⟩
      go_wp2_with fail
      refine HSD.out.mono ?_
      rintro e w12 ⟨rfl, hb⟩
      have HB12 := Lib.hid (HB10.out.trans (hb.mono HB10.out.size))
      clear hb
      go_wp2_with fail
      go_ret
      exact ⟨by first | rfl | simp, HB12.out⟩
  · have q1 : decide ((zs : Int) ≤ by_) = false := decide_eq_false (by have := HBY.out; omega)
    have hR : R = (44, { D with l := rest D }) := HSC.out.trans (if_pos (by omega))
    clear h1
    subst hR
    go_wp2_with fail
    refine HS9.out.mono ?_
    rintro e w10 ⟨rfl, hd, ht⟩
    have HB10 := Lib.hid (ht.base HB9.out (Nat.le_refl _) HAB.out)
    have hm10 := (ht.block w.heap.size (row_lt HM9.out) (by have := HLW.out; omega) (by have := HLW.out; omega)).trans HM9.out
    have HX10 := two_disks HX9.out ht (by have := HNE.out.1; exact ⟨fun e => this.1 e.symm, fun e => this.2.2.1 e.symm, fun e => this.2.1 e.symm, fun e => this.2.2.2 e.symm⟩)
    have HSD := Lib.hid (same_any a2 b2 a b _ _ w10 HX10 hd)
    rw [sameD_self] at HSD
    clear hd ht c0 c1 HX10
    have c1 : w10.cell? ⟨w.heap.size, 1, none⟩ = some (.slice A l.length cap) := cell_row hm10 1
    clear hm10
    go_wp2_with fail
    refine (HSZ.out w10).mono ?_
    rintro e w11 ⟨rfl, rfl⟩
    go_wp2_with fail
    refine HSD.out.mono ?_
    rintro e w12 ⟨rfl, hb⟩
    have HB12 := Lib.hid (HB10.out.trans (hb.mono HB10.out.size))
    clear hb
    go_wp2_with fail
    go_ret
    exact ⟨by first | rfl | simp, HB12.out⟩
set_option maxRecDepth 100000 in
set_option maxHeartbeats 4000000 in
/-- **ManifRoom** -/
theorem room_law (w : World) (c : Int) (hc : (Lit.int .i64 c).wf = true) (FA : Option Addr) (fc : Nat) (fl : List Fi) (hf : RowF w FA fl) (hfl : fl.length ≤ maxLen) (g : Int) (A : Option Addr) (cap : Nat) (l : List (Int × Int)) (hx : RowE w A l) (E : EnvP w) :
    Calls Tryz.prog 7 #[.int .i64 c, .slice FA fl.length fc, .agg #[.int .i64 g, .slice A l.length cap]] w fun e w' => e = .returned (.bool true) ∧ Below w.heap.size w w' := by
  obtain ⟨w0, hw0⟩ : ∃ w0, w.alloc (.cells #[.int .i64 g, .slice A l.length cap] 47) = w0 := ⟨_, rfl⟩
  have hb0 : Below w.heap.size w w0 := by rw [← hw0]; exact (Below.refl _ _).alloc (Nat.le_refl _) _
  have hm0 : w0.heap[w.heap.size]? = some (.cells #[.int .i64 g, .slice A l.length cap] 47 (0, 0)) := by rw [← hw0]; exact heap_alloc_new w _
  have hma := many_any w0 FA fc fl hfl (hf.below hb0)
  have HE := Lib.hid E
  have HB0 := Lib.hid hb0
  have HM0 := Lib.hid hm0
  by_cases hmb : manyB fl = true
  · rw [hmb] at hma
    have HMA := Lib.hid hma
    clear hma hmb hb0 hm0 hx hf hfl hc E
    go_enter Tryz.func7, Tryz.ntmps7
    go_wp2_with fail
    refine HMA.out.mono ?_
    rintro e w1 ⟨rfl, hb⟩
    have HB1 := Lib.hid (HB0.out.trans (hb.mono HB0.out.size))
    have HAW := Lib.hid (awake_any w1 (HE.out.over HB1.out))
    clear hb
    go_wp2_with fail
    refine HAW.out.mono ?_
    rintro e w2 ⟨rfl, hb⟩
    have HB2 := Lib.hid (HB1.out.trans (hb.mono HB1.out.size))
    clear hb
    go_wp2_with fail
    go_ret
    exact ⟨rfl, HB2.out⟩
  rw [Bool.not_eq_true] at hmb
  by_cases hl : 100 < l.length
  case neg => exact room_few w c (wf64 hc).2 FA fc fl hf hmb hfl g A cap l hx hl E
  rw [hmb] at hma
  have HMA := Lib.hid hma
  have k1 : decide (100 < (l.length : Int)) = true := decide_eq_true (by omega)
  have k3 : decide (100 < l.length) = true := decide_eq_true hl
  clear hma hmb hb0 hm0 hx hf hfl hc E hl
  go_enter Tryz.func7, Tryz.ntmps7
  go_wp2_with fail
  refine HMA.out.mono ?_
  rintro e w1 ⟨rfl, hb⟩
  have HB1 := Lib.hid (HB0.out.trans (hb.mono HB0.out.size))
  have HAW := Lib.hid (awake_any w1 (HE.out.over HB1.out))
  have hm1 := (hb.block _ (row_lt HM0.out)).trans HM0.out
  have c1 : w1.cell? ⟨w.heap.size, 1, none⟩ = some (.slice A l.length cap) := cell_row hm1 1
  clear hb hm1
  go_wp2_with fail
  refine HAW.out.mono ?_
  rintro e w2 ⟨rfl, hb⟩
  have HB2 := Lib.hid (HB1.out.trans (hb.mono HB1.out.size))
  clear hb
  go_wp2_with fail
  go_ret
  exact ⟨rfl, HB2.out⟩
end Go.Proofs.YticfnfekkmkclaaGreatDoor.Manif
