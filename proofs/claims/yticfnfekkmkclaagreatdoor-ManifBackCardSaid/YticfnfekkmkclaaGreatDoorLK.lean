import Derived.Test.YticfnfekkmkclaaGreatDoorAX
import Derived.Test.YticfnfekkmkclaaGreatDoorGV
/-
  What is made is read as it is; what is read, made again, are the bytes.
-/
namespace Go.Proofs.YticfnfekkmkclaaGreatDoor.Manif
open Go Go.RowKit
open Go.Proofs.YticfnfekkmkclaaGreatDoor.Wire (S S_list S_size cell_row frozen_row row_lt heap_set heap_far)
open Go.Proofs.YticfnfekkmkclaaGreatDoor.Seg (EnvP)
open Go.Proofs.YticfnfekkmkclaaGreatDoor.Crc (fourL ofW)

theorem S_of (s : ByteArray) : S s.data.toList = s := by unfold S; simp
theorem rdM_bad {L : List UInt8} (h : ¬ (rdM L).1 = 0) : (rdM L).2 = (0, []) := by
  unfold rdM at h ⊢
  split
  · rfl
  · split
    · split
      · rename_i h1 h2 h3; rw [if_neg h1, if_pos h2, if_pos h3] at h; exact absurd rfl h
      · rfl
    · rfl
theorem rdM_back {L : List UInt8} (h : (rdM L).1 = 0) : mayM (rdM L).2.1 (rdM L).2.2 = true ∧ manB (rdM L).2.1 (rdM L).2.2 = L := by
  unfold rdM at h ⊢
  split
  · rename_i h1; rw [if_pos h1] at h; cases h
  · split
    · split
      · rename_i h1 h2 h3
        have hb := okM_back h3
        refine ⟨?_, ?_⟩
        · unfold okM at h3; rw [Bool.and_eq_true] at h3; exact h3.2
        · show manB (rdG _) (rdL _ _) = L
          unfold manB
          rw [← hb, ← h2]; exact List.take_append_drop _ _
      · rename_i h1 h2 h3; rw [if_neg h1, if_pos h2, if_neg h3] at h; cases h
    · rename_i h1 h2; rw [if_neg h1, if_neg h2] at h; cases h
theorem rdM_len (L : List UInt8) : (rdM L).2.2.length ≤ 64 := by
  by_cases h : (rdM L).1 = 0
  · exact (mayM_parts (rdM_back h).1).2.2.2.1
  · rw [rdM_bad h]; exact Nat.zero_le _
/-- a manifest of the program, where it lies -/
def MBx (w : World) (M : Nat) (g : Int) (v : Value) : Prop := w.heap[M]? = some (.cells #[.int .i64 g, v] 25 (0, 0))
set_option maxRecDepth 100000 in
set_option maxHeartbeats 4000000 in
/-- **ManifBack**, what comes of a manifest and bytes that are few enough -/
theorem back_few (w : World) (g : Int) (A : Option Addr) (cap : Nat) (l : List (Int × Int)) (s : ByteArray) (hx : RowE w A l) (hl : ¬ 100 < l.length) (hs : ¬ 5000 < s.size) (E : EnvP w) :
    Calls Tryz.prog 5 #[.agg #[.int .i64 g, .slice A l.length cap], .string s] w fun e w' => e = .returned (.bool true) ∧ Below w.heap.size w w' := by
  obtain ⟨w0, hw0⟩ : ∃ w0, w.alloc (.cells #[.int .i64 g, .slice A l.length cap] 47) = w0 := ⟨_, rfl⟩
  have hb0 : Below w.heap.size w w0 := by rw [← hw0]; exact (Below.refl _ _).alloc (Nat.le_refl _) _
  have hm0 : w0.heap[w.heap.size]? = some (.cells #[.int .i64 g, .slice A l.length cap] 47 (0, 0)) := by rw [← hw0]; exact heap_alloc_new w _
  have HAW := Lib.hid (awake_any w0 (E.over hb0))
  have k1 : decide (100 < (l.length : Int)) = false := decide_eq_false (by omega)
  have k2 : decide (5000 < (s.size : Int)) = false := decide_eq_false (by omega)
  have k3 : decide (100 < l.length) = false := decide_eq_false hl
  have k4 : decide (5000 < s.size) = false := decide_eq_false hs
  have c1 : w0.cell? ⟨w.heap.size, 1, none⟩ = some (.slice A l.length cap) := cell_row hm0 1
  have HX := Lib.hid hx
  have HL := Lib.hid hl
  have HS := Lib.hid hs
  have HB0 := Lib.hid hb0
  have HM0 := Lib.hid hm0
  clear hb0 hm0 hx hl hs E
  go_enter Tryz.func5, Tryz.ntmps5
  go_wp2_with fail
  refine HAW.out.mono ?_
  rintro e w1 ⟨rfl, hb⟩
  have HB1 := Lib.hid (HB0.out.trans (hb.mono HB0.out.size))
  have hm1 := (hb.block _ (row_lt HM0.out)).trans HM0.out
  have HM1 := Lib.hid hm1
  have c0 : w1.cell? ⟨w.heap.size, 0, none⟩ = some (.int .i64 g) := cell_row hm1 0
  clear c1
  have c1 : w1.cell? ⟨w.heap.size, 1, none⟩ = some (.slice A l.length cap) := cell_row hm1 1
  clear hb hm1 k1 k2 k3 k4
  go_wp2_with fail
  refine (given_any w1 g A cap l (by have := HL.out; omega) (HX.out.below HB1.out)).mono ?_
  rintro e w2 ⟨v2, rfl, ho, hb⟩
  have HB2 := Lib.hid (HB1.out.trans (hb.mono HB1.out.size))
  have HM2 := Lib.hid ((hb.block _ (row_lt HM1.out)).trans HM1.out)
  have HO2 := Lib.hid ho
  obtain ⟨A2, c2, rfl, -, -, -, -⟩ := ho.row
  clear hb ho c0 c1
  obtain ⟨hb5, hm5⟩ := mnew w2 (.int .i64 g) (.slice A2 l.length c2)
  obtain ⟨V5, hV5⟩ : ∃ W, w2.alloc (.cells #[.int .i64 0, .slice none 0 0] 25) = W := ⟨_, rfl⟩
  have ha5 : V5.heap[w2.heap.size]? = some (.cells #[.int .i64 0, .slice none 0 0] 25 (0, 0)) := by rw [← hV5]; exact heap_alloc_new w2 _
  rw [hV5] at hb5 hm5
  obtain ⟨qa5, qb5, qc5, qd5, d05, d15, -⟩ := mset ha5 (.int .i64 g) (.slice A2 l.length c2)
  obtain ⟨U5, hU5⟩ : ∃ W, (V5.setCell ⟨w2.heap.size, 0, none⟩ (.int .i64 g)).setCell ⟨w2.heap.size, 1, none⟩ (.slice A2 l.length c2) = W := ⟨_, rfl⟩
  rw [hU5] at hb5 hm5 d05 d15
  clear ha5
  have HB5 := Lib.hid (HB2.out.trans (hb5.mono HB2.out.size))
  have HO5 := Lib.hid (HO2.out.below hb5)
  have HN5 := Lib.hid hm5
  have HM5 := Lib.hid ((hb5.block _ (row_lt HM2.out)).trans HM2.out)
  obtain ⟨M5, hM5⟩ : ∃ m, w2.heap.size = m := ⟨_, rfl⟩
  rw [hM5] at qa5 qb5 qc5 qd5 d05 d15 HN5 hU5
  have HR5 : Hid (RowE U5 A2 l) := Lib.hid (by
    obtain ⟨A6, c6, e6, -, -, h6, -⟩ := HO5.out.row
    injection e6 with e6; rw [e6]; exact h6)
  have HLM := Lib.hid (show l.length ≤ maxLen by have := HL.out; unfold maxLen; omega)
  have HMK := Lib.hid (Make_any U5 g A2 c2 l HLM.out HR5.out)
  clear hb5 hm5
  have HMY := Lib.hid (fun W (h : RowE W A2 l) => May_any W g A2 c2 l HLM.out h)
  have HRS : Hid (∀ W, Calls Tryz.prog 17 #[.string s] W (ReadRes W (rdM s.data.toList))) := Lib.hid (fun W => by
    have := Read_any s.data.toList (by have := HS.out; have hz : s.data.toList.length = s.size := by simp
                                       omega) W
    rw [S_of] at this; exact this)
  have HKB := Lib.hid (fun h => rdM_back (L := s.data.toList) h)
  have HKZ := Lib.hid (fun h => rdM_bad (L := s.data.toList) h)
  have HKL := Lib.hid (rdM_len s.data.toList)
  have hso : Disk.S s.data.toList = s := S_of s
  have HSO := Lib.hid hso
  clear hso
  generalize rdM s.data.toList = rk at *
  obtain ⟨k, g2, l2⟩ := rk
  simp only at HKB HKZ HKL
  go_wp2_with fail
  try rw [hU5]
  refine HMK.out.mono ?_
  rintro e w6 ⟨rfl, hb⟩
  have HB6 := Lib.hid (HB5.out.trans (hb.mono HB5.out.size))
  have hn6 := (hb.block _ (row_lt HN5.out)).trans HN5.out
  have HN6 := Lib.hid hn6
  have HM6 := Lib.hid ((hb.block _ (row_lt HM5.out)).trans HM5.out)
  have HR6 := Lib.hid (HR5.out.below hb)
  have HMY6 := Lib.hid (HMY.out w6 HR6.out)
  clear qa5 qb5 qc5 qd5 d05 d15 hV5 hU5 hM5
  have c0 : w6.cell? ⟨M5, 0, none⟩ = some (.int .i64 g) := cell_row hn6 0
  have c1 : w6.cell? ⟨M5, 1, none⟩ = some (.slice A2 l.length c2) := cell_row hn6 1
  clear hb hn6
  by_cases hm : mayM g l = true
  · rw [mkS_list hm, show mkX g l = 0 from if_pos hm]
    rw [hm] at HMY6
    go_wp2_with fail
    refine HMY6.out.mono ?_
    rintro e w7 ⟨rfl, hb⟩
    have HB7 := Lib.hid (HB6.out.trans (hb.mono HB6.out.size))
    have HN7 := Lib.hid ((hb.block _ (row_lt HN6.out)).trans HN6.out)
    have HM7 := Lib.hid ((hb.block _ (row_lt HM6.out)).trans HM6.out)
    have HR7 := Lib.hid (HR6.out.below hb)
    have HRD : Hid (∀ W, Calls Tryz.prog 17 #[.string (Disk.S (manB g l))] W (ReadRes W (0, g, l))) := Lib.hid (fun W => by
      have := Read_any (manB g l) (by rw [manB_length]; have := HL.out; omega) W
      rw [rdM_manB hm] at this; exact this)
    have hzs : (Disk.S (manB g l)).size = 18 + 16 * l.length := by rw [Disk.S_size, manB_length]
    have HSZ : Hid (∀ W, Calls Tryz.prog 19 #[.int .i64 (l.length : Int)] W fun e w' => e = .returned (.int .i64 ((18 + 16 * l.length : Nat) : Int)) ∧ W = w') := Lib.hid (fun W => by
      have := Size_any (l.length : Int) W
      rw [szM_in ⟨(mayM_parts hm).2.2.1, (mayM_parts hm).2.2.2.1⟩, show (18 : Int) + 16 * (l.length : Int) = ((18 + 16 * l.length : Nat) : Int) by omega] at this; exact this)
    clear c0 c1 hb hm
    generalize Disk.S (manB g l) = T at *
    generalize hzq : 18 + 16 * l.length = zq at *
    clear hzq
    go_wp2_with fail
    refine (HRD.out w7).mono ?_
    rintro e w8 ⟨v8, rfl, ho, hb⟩
    have HB8 := Lib.hid (HB7.out.trans (hb.mono HB7.out.size))
    have HN8 := Lib.hid ((hb.block _ (row_lt HN7.out)).trans HN7.out)
    have HM8 := Lib.hid ((hb.block _ (row_lt HM7.out)).trans HM7.out)
    have HR8 := Lib.hid (HR7.out.below hb)
    simp only at ho
    obtain ⟨A8, c8, rfl, -, -, hr8, -⟩ := ho.row
    have HQ8 := Lib.hid hr8
    clear hb ho hr8
    obtain ⟨hb9, hm9⟩ := mnew w8 (.int .i64 g) (.slice A8 l.length c8)
    obtain ⟨V9, hV9⟩ : ∃ W, w8.alloc (.cells #[.int .i64 0, .slice none 0 0] 25) = W := ⟨_, rfl⟩
    have ha9 : V9.heap[w8.heap.size]? = some (.cells #[.int .i64 0, .slice none 0 0] 25 (0, 0)) := by rw [← hV9]; exact heap_alloc_new w8 _
    rw [hV9] at hb9 hm9
    obtain ⟨qa9, qb9, qc9, qd9, d09, d19, -⟩ := mset ha9 (.int .i64 g) (.slice A8 l.length c8)
    obtain ⟨U9, hU9⟩ : ∃ W, (V9.setCell ⟨w8.heap.size, 0, none⟩ (.int .i64 g)).setCell ⟨w8.heap.size, 1, none⟩ (.slice A8 l.length c8) = W := ⟨_, rfl⟩
    rw [hU9] at hb9 hm9 d09 d19
    clear ha9
    have HB9 := Lib.hid (HB8.out.trans (hb9.mono HB8.out.size))
    have HN9 := Lib.hid hm9
    have hn9 := (hb9.block _ (row_lt HN8.out)).trans HN8.out
    have ho9 := (hb9.block _ (row_lt HM8.out)).trans HM8.out
    have c0 : U9.cell? ⟨M5, 0, none⟩ = some (.int .i64 g) := cell_row hn9 0
    have c1 : U9.cell? ⟨M5, 1, none⟩ = some (.slice A2 l.length c2) := cell_row hn9 1
    have HO9 := Lib.hid ho9
    have HSM : Hid (Calls Tryz.prog 34 #[.agg #[.int .i64 g, .slice A8 l.length c8], .agg #[.int .i64 g, .slice A2 l.length c2]] U9 fun e w' => e = .returned (.bool true) ∧ Below U9.heap.size U9 w') := Lib.hid (by
      have := Same_any U9 g g A8 A2 c8 c2 l l HLM.out (HQ8.out.below hb9) (HR8.out.below hb9)
      rw [show decide (g = g ∧ l = l) = true from decide_eq_true ⟨rfl, rfl⟩] at this; exact this)
    clear hb9 hm9 hn9 ho9
    go_wp2_with fail
    try rw [hU9]
    refine HSM.out.mono ?_
    rintro e w10 ⟨rfl, hb⟩
    have HB10 := Lib.hid (HB9.out.trans (hb.mono HB9.out.size))
    have ho10 := (hb.block _ (row_lt HO9.out)).trans HO9.out
    have HM10 := Lib.hid ho10
    clear c0 c1 qa9 qb9 qc9 qd9 d09 d19 hV9 hU9 hb
    have c1 : w10.cell? ⟨w.heap.size, 1, none⟩ = some (.slice A l.length cap) := cell_row ho10 1
    clear ho10
    go_wp2_with fail
    refine (HSZ.out w10).mono ?_
    rintro e w11 ⟨rfl, rfl⟩
    go_wp2_with fail
    refine (HRS.out w10).mono ?_
    rintro e w12 ⟨v12, rfl, ho, hb⟩
    have HB12 := Lib.hid (HB10.out.trans (hb.mono HB10.out.size))
    simp only at ho
    obtain ⟨A12, c12, rfl, -, -, hr12, -⟩ := ho.row
    have HR12 := Lib.hid hr12
    clear hb ho hr12
    by_cases hk : k = 0
    · subst hk
      obtain ⟨hmm, hmb⟩ := HKB.out rfl
      have HMM := Lib.hid hmm
      have HMB := Lib.hid hmb
      clear hmm hmb
      obtain ⟨hb13, hm13⟩ := mnew w12 (.int .i64 g2) (.slice A12 l2.length c12)
      obtain ⟨V13, hV13⟩ : ∃ W, w12.alloc (.cells #[.int .i64 0, .slice none 0 0] 25) = W := ⟨_, rfl⟩
      have ha13 : V13.heap[w12.heap.size]? = some (.cells #[.int .i64 0, .slice none 0 0] 25 (0, 0)) := by rw [← hV13]; exact heap_alloc_new w12 _
      rw [hV13] at hb13 hm13
      obtain ⟨qa13, qb13, qc13, qd13, d013, d113, -⟩ := mset ha13 (.int .i64 g2) (.slice A12 l2.length c12)
      obtain ⟨U13, hU13⟩ : ∃ W, (V13.setCell ⟨w12.heap.size, 0, none⟩ (.int .i64 g2)).setCell ⟨w12.heap.size, 1, none⟩ (.slice A12 l2.length c12) = W := ⟨_, rfl⟩
      rw [hU13] at hb13 hm13 d013 d113
      clear ha13
      have HB13 := Lib.hid (HB12.out.trans (hb13.mono HB12.out.size))
      have HMK2 : Hid (Calls Tryz.prog 12 #[.agg #[.int .i64 g2, .slice A12 l2.length c12]] U13 fun e w' => e = .returned (.tuple #[.string s, .int .i64 0]) ∧ Below U13.heap.size U13 w') := Lib.hid (by
        have := Make_any U13 g2 A12 c12 l2 (by have := HKL.out; unfold maxLen; omega) (HR12.out.below hb13)
        rw [mkS_list HMM.out, show mkX g2 l2 = 0 from if_pos HMM.out, HMB.out, HSO.out] at this
        exact this)
      clear hb13 hm13
      go_wp2_with fail
      try rw [hU13]
      refine HMK2.out.mono ?_
      rintro e w14 ⟨rfl, hb⟩
      have HB14 := Lib.hid (HB13.out.trans (hb.mono HB13.out.size))
      clear hb qa13 qb13 qc13 qd13 d013 d113 hV13 hU13
      go_wp2_with fail
      go_ret
      exact ⟨by first | rfl | simp, HB14.out⟩
    · have hz := HKZ.out hk
      simp only [Prod.mk.injEq] at hz
      obtain ⟨rfl, rfl⟩ := hz
      have k1 : ((k : Int) == 0) = false := beq_eq_false_iff_ne.2 (by omega)
      have k2 : ¬ (k : Int) = 0 := by omega
      rw [show ([] : List (Int × Int)).length = 0 from rfl]
      obtain ⟨hb13, hm13⟩ := mnew w12 (.int .i64 0) (.slice A12 0 c12)
      obtain ⟨V13, hV13⟩ : ∃ W, w12.alloc (.cells #[.int .i64 0, .slice none 0 0] 25) = W := ⟨_, rfl⟩
      have ha13 : V13.heap[w12.heap.size]? = some (.cells #[.int .i64 0, .slice none 0 0] 25 (0, 0)) := by rw [← hV13]; exact heap_alloc_new w12 _
      rw [hV13] at hb13 hm13
      obtain ⟨qa13, qb13, qc13, qd13, d013, d113, -⟩ := mset ha13 (.int .i64 0) (.slice A12 0 c12)
      obtain ⟨U13, hU13⟩ : ∃ W, (V13.setCell ⟨w12.heap.size, 0, none⟩ (.int .i64 0)).setCell ⟨w12.heap.size, 1, none⟩ (.slice A12 0 c12) = W := ⟨_, rfl⟩
      rw [hU13] at hb13 hm13 d013 d113
      clear ha13
      have HB13 := Lib.hid (HB12.out.trans (hb13.mono HB12.out.size))
      clear hb13 hm13
      go_wp2_with fail
      go_ret
      exact ⟨by first | rfl | simp, by first | exact HB13.out | (rw [hU13]; exact HB13.out)⟩
  · rw [show mkS g l = ⟨#[]⟩ from if_neg hm, show mkX g l = 4 from if_neg hm]
    rw [Bool.not_eq_true] at hm
    rw [hm] at HMY6
    clear hm
    go_wp2_with fail
    refine HMY6.out.mono ?_
    rintro e w7 ⟨rfl, hb⟩
    have HB7 := Lib.hid (HB6.out.trans (hb.mono HB6.out.size))
    clear c0 c1 hb
    go_wp2_with fail
    refine (HRS.out w7).mono ?_
    rintro e w12 ⟨v12, rfl, ho, hb⟩
    have HB12 := Lib.hid (HB7.out.trans (hb.mono HB7.out.size))
    simp only at ho
    obtain ⟨A12, c12, rfl, -, -, hr12, -⟩ := ho.row
    have HR12 := Lib.hid hr12
    clear hb ho hr12
    by_cases hk : k = 0
    · subst hk
      obtain ⟨hmm, hmb⟩ := HKB.out rfl
      have HMM := Lib.hid hmm
      have HMB := Lib.hid hmb
      clear hmm hmb
      obtain ⟨hb13, hm13⟩ := mnew w12 (.int .i64 g2) (.slice A12 l2.length c12)
      obtain ⟨V13, hV13⟩ : ∃ W, w12.alloc (.cells #[.int .i64 0, .slice none 0 0] 25) = W := ⟨_, rfl⟩
      have ha13 : V13.heap[w12.heap.size]? = some (.cells #[.int .i64 0, .slice none 0 0] 25 (0, 0)) := by rw [← hV13]; exact heap_alloc_new w12 _
      rw [hV13] at hb13 hm13
      obtain ⟨qa13, qb13, qc13, qd13, d013, d113, -⟩ := mset ha13 (.int .i64 g2) (.slice A12 l2.length c12)
      obtain ⟨U13, hU13⟩ : ∃ W, (V13.setCell ⟨w12.heap.size, 0, none⟩ (.int .i64 g2)).setCell ⟨w12.heap.size, 1, none⟩ (.slice A12 l2.length c12) = W := ⟨_, rfl⟩
      rw [hU13] at hb13 hm13 d013 d113
      clear ha13
      have HB13 := Lib.hid (HB12.out.trans (hb13.mono HB12.out.size))
      have HMK2 : Hid (Calls Tryz.prog 12 #[.agg #[.int .i64 g2, .slice A12 l2.length c12]] U13 fun e w' => e = .returned (.tuple #[.string s, .int .i64 0]) ∧ Below U13.heap.size U13 w') := Lib.hid (by
        have := Make_any U13 g2 A12 c12 l2 (by have := HKL.out; unfold maxLen; omega) (HR12.out.below hb13)
        rw [mkS_list HMM.out, show mkX g2 l2 = 0 from if_pos HMM.out, HMB.out, HSO.out] at this
        exact this)
      clear hb13 hm13
      go_wp2_with fail
      try rw [hU13]
      refine HMK2.out.mono ?_
      rintro e w14 ⟨rfl, hb⟩
      have HB14 := Lib.hid (HB13.out.trans (hb.mono HB13.out.size))
      clear hb qa13 qb13 qc13 qd13 d013 d113 hV13 hU13
      go_wp2_with fail
      go_ret
      exact ⟨by first | rfl | simp, HB14.out⟩
    · have hz := HKZ.out hk
      simp only [Prod.mk.injEq] at hz
      obtain ⟨rfl, rfl⟩ := hz
      have k1 : ((k : Int) == 0) = false := beq_eq_false_iff_ne.2 (by omega)
      have k2 : ¬ (k : Int) = 0 := by omega
      rw [show ([] : List (Int × Int)).length = 0 from rfl]
      obtain ⟨hb13, hm13⟩ := mnew w12 (.int .i64 0) (.slice A12 0 c12)
      obtain ⟨V13, hV13⟩ : ∃ W, w12.alloc (.cells #[.int .i64 0, .slice none 0 0] 25) = W := ⟨_, rfl⟩
      have ha13 : V13.heap[w12.heap.size]? = some (.cells #[.int .i64 0, .slice none 0 0] 25 (0, 0)) := by rw [← hV13]; exact heap_alloc_new w12 _
      rw [hV13] at hb13 hm13
      obtain ⟨qa13, qb13, qc13, qd13, d013, d113, -⟩ := mset ha13 (.int .i64 0) (.slice A12 0 c12)
      obtain ⟨U13, hU13⟩ : ∃ W, (V13.setCell ⟨w12.heap.size, 0, none⟩ (.int .i64 0)).setCell ⟨w12.heap.size, 1, none⟩ (.slice A12 0 c12) = W := ⟨_, rfl⟩
      rw [hU13] at hb13 hm13 d013 d113
      clear ha13
      have HB13 := Lib.hid (HB12.out.trans (hb13.mono HB12.out.size))
      clear hb13 hm13
      go_wp2_with fail
      go_ret
      exact ⟨by first | rfl | simp, by first | exact HB13.out | (rw [hU13]; exact HB13.out)⟩
end Go.Proofs.YticfnfekkmkclaaGreatDoor.Manif

/-
  ManifBack, whatever comes in.
-/
namespace Go.Proofs.YticfnfekkmkclaaGreatDoor.Manif
open Go Go.RowKit
open Go.Proofs.YticfnfekkmkclaaGreatDoor.Wire (S S_list S_size cell_row frozen_row row_lt heap_set heap_far)
open Go.Proofs.YticfnfekkmkclaaGreatDoor.Seg (EnvP)

set_option maxRecDepth 100000 in
/-- **ManifBack** -/
theorem back_law (w : World) (g : Int) (A : Option Addr) (cap : Nat) (l : List (Int × Int)) (s : ByteArray) (hx : RowE w A l) (E : EnvP w) :
    Calls Tryz.prog 5 #[.agg #[.int .i64 g, .slice A l.length cap], .string s] w fun e w' => e = .returned (.bool true) ∧ Below w.heap.size w w' := by
  by_cases hl : 100 < l.length
  case neg =>
    by_cases hs : 5000 < s.size
    case neg => exact back_few w g A cap l s hx hl hs E
    obtain ⟨w0, hw0⟩ : ∃ w0, w.alloc (.cells #[.int .i64 g, .slice A l.length cap] 47) = w0 := ⟨_, rfl⟩
    have hb0 : Below w.heap.size w w0 := by rw [← hw0]; exact (Below.refl _ _).alloc (Nat.le_refl _) _
    have hm0 : w0.heap[w.heap.size]? = some (.cells #[.int .i64 g, .slice A l.length cap] 47 (0, 0)) := by rw [← hw0]; exact heap_alloc_new w _
    have HAW := Lib.hid (awake_any w0 (E.over hb0))
    have k1 : decide (100 < (l.length : Int)) = false := decide_eq_false (by omega)
    have k2 : decide (5000 < (s.size : Int)) = true := decide_eq_true (by omega)
    have k3 : decide (100 < l.length) = false := decide_eq_false hl
    have k4 : decide (5000 < s.size) = true := decide_eq_true hs
    have c1 : w0.cell? ⟨w.heap.size, 1, none⟩ = some (.slice A l.length cap) := cell_row hm0 1
    have HB0 := Lib.hid hb0
    clear hb0 hm0 hx E hl hs
    go_enter Tryz.func5, Tryz.ntmps5
    go_wp2_with fail
    refine HAW.out.mono ?_
    rintro e w1 ⟨rfl, hb⟩
    have HB1 := Lib.hid (HB0.out.trans (hb.mono HB0.out.size))
    clear hb
    go_wp2_with fail
    go_ret
    exact ⟨rfl, HB1.out⟩
  obtain ⟨w0, hw0⟩ : ∃ w0, w.alloc (.cells #[.int .i64 g, .slice A l.length cap] 47) = w0 := ⟨_, rfl⟩
  have hb0 : Below w.heap.size w w0 := by rw [← hw0]; exact (Below.refl _ _).alloc (Nat.le_refl _) _
  have hm0 : w0.heap[w.heap.size]? = some (.cells #[.int .i64 g, .slice A l.length cap] 47 (0, 0)) := by rw [← hw0]; exact heap_alloc_new w _
  have HAW := Lib.hid (awake_any w0 (E.over hb0))
  have k1 : decide (100 < (l.length : Int)) = true := decide_eq_true (by omega)
  have k3 : decide (100 < l.length) = true := decide_eq_true hl
  have c1 : w0.cell? ⟨w.heap.size, 1, none⟩ = some (.slice A l.length cap) := cell_row hm0 1
  have HB0 := Lib.hid hb0
  clear hb0 hm0 hx E hl
  go_enter Tryz.func5, Tryz.ntmps5
  go_wp2_with fail
  refine HAW.out.mono ?_
  rintro e w1 ⟨rfl, hb⟩
  have HB1 := Lib.hid (HB0.out.trans (hb.mono HB0.out.size))
  clear hb
  go_wp2_with fail
  go_ret
  exact ⟨rfl, HB1.out⟩
end Go.Proofs.YticfnfekkmkclaaGreatDoor.Manif
