import Derived.Test.YtkjnddgjnlbopaaSA
import Derived.Deep.DeepCutAuto
import Derived.Deep.RegionHeld3
/-
  The document's own number, and Read.
-/
namespace Go.Proofs.Ytkjnddgjnlbopaa.Frame
open Go Go.RowKit
open Go.Proofs.Ytkjnddgjnlbopaa.Crc (W V ofW fourL refOf_any)
open Go.Proofs.Ytkjnddgjnlbopaa.Wire (be fixB S S_list S_size U fxV tkT tkI tkE errAt Dr DStep drS dfixed_any lowB lowB_length refLow_any cell_row frozen_row be_lt)

theorem number_any (s : ByteArray) (i k : Nat) (hi : i + k ≤ s.size) (hs : s.size ≤ 1000000000000) (hk : k ≤ 8) (w : World) :
    Calls Try.prog 70 #[.string s, .int .i64 (i : Int), .int .i64 (k : Int)] w fun e w' => e = .returned (.int .u64 (U (be ((s.data.toList.drop i).take k)))) ∧ Below w.heap.size w w' := by
  have HD := Lib.hid (show Dr (w.alloc (.cells (drS s i 0 0) 142)) w.heap.size s i 0 from heap_alloc_new w _)
  have HV := Lib.hid (show fxV s i 0 k = be ((s.data.toList.drop i).take k) by unfold fxV; rw [← tk_list s.data.toList i k (by simp; omega)]; rfl)
  have HI := Lib.hid (show i ≤ s.size by omega)
  have HS := Lib.hid hs
  have HK := Lib.hid hk
  clear hi hs hk
  go_enter Try.func70, Try.ntmps70
  go_wp2_with fail
  refine (dfixed_any w.heap.size s i 0 k _ rfl _ HD.out HI.out HS.out HK.out).mono ?_
  rintro e w1 ⟨rfl, hst⟩
  rw [HV.out]
  have HST := Lib.hid hst.2
  clear hst
  go_wp2_with fail
  go_ret
  exact ⟨rfl, below_grown ((Below.refl _ _).alloc (Nat.le_refl _) _) HST.out (Nat.le_refl _) (by simp)⟩

/-- the box of the document's frame -/
def RBx (w : World) (b : Nat) : Prop := w.heap[b]? = some (.cells #[.int .i64 0, .string ⟨#[]⟩, .int .i64 0] 91 (0, 0))
theorem RBx.facts {w : World} {b : Nat} (h : RBx w b) : (w.cell? ⟨b, 0, none⟩ = some (.int .i64 0) ∧ w.cell? ⟨b, 1, none⟩ = some (.string ⟨#[]⟩) ∧ w.cell? ⟨b, 2, none⟩ = some (.int .i64 0)) ∧ w.frozen? ⟨b, 0, none⟩ = false ∧ w.frozen? ⟨b, 1, none⟩ = false ∧ w.frozen? ⟨b, 2, none⟩ = false :=
  ⟨⟨cell_row h 0, cell_row h 1, cell_row h 2⟩, frozen_row h 0, frozen_row h 1, frozen_row h 2⟩
theorem RBx.store {w : World} {b : Nat} (h : RBx w b) (q : Int) (p : ByteArray) (i : Int) :
    (((w.setCell ⟨b, 0, none⟩ (.int .i64 q)).setCell ⟨b, 1, none⟩ (.string p)).setCell ⟨b, 2, none⟩ (.int .i64 i)).cell? ⟨b, 0, none⟩ = some (.int .i64 q) ∧
    (((w.setCell ⟨b, 0, none⟩ (.int .i64 q)).setCell ⟨b, 1, none⟩ (.string p)).setCell ⟨b, 2, none⟩ (.int .i64 i)).cell? ⟨b, 1, none⟩ = some (.string p) ∧
    (((w.setCell ⟨b, 0, none⟩ (.int .i64 q)).setCell ⟨b, 1, none⟩ (.string p)).setCell ⟨b, 2, none⟩ (.int .i64 i)).cell? ⟨b, 2, none⟩ = some (.int .i64 i) ∧
    (w.setCell ⟨b, 0, none⟩ (.int .i64 q)).cell? ⟨b, 0, none⟩ = some (.int .i64 q) ∧ ((w.setCell ⟨b, 0, none⟩ (.int .i64 q)).setCell ⟨b, 1, none⟩ (.string p)).cell? ⟨b, 1, none⟩ = some (.string p) := by
  have h1 := Wire.heap_set h 0 (.int .i64 q)
  have h2 := Wire.heap_set h1 1 (.string p)
  have h3 := Wire.heap_set h2 2 (.int .i64 i)
  exact ⟨cell_row h3 0, cell_row h3 1, cell_row h3 2, cell_row h1 0, cell_row h2 1⟩

set_option maxRecDepth 100000 in
set_option maxHeartbeats 2000000 in
theorem refRead_no (s : ByteArray) (i : Int) (h : ¬ (0 ≤ i ∧ i ≤ s.size)) (w : World) :
    Calls Try.prog 46 #[.string s, .int .i64 i] w fun e w' => e = .returned (.tuple #[frV 0 [] 0, .int .i64 0, .int .i64 1]) ∧ Below w.heap.size w w' := by
  rw [zero_fr]
  by_cases h0 : i < 0
  · clear h
    go_enter Try.func46, Try.ntmps46
    go_wp2_with fail
    refine bodyPost_ret (v := .tuple #[.agg #[.int .i64 0, .string ⟨#[]⟩, .int .i64 0], .int .i64 0, .int .i64 1]) (by simp [results, Try.results46, go_sem]) rfl ⟨rfl, ?_⟩
    exact (Below.refl _ _).alloc (Nat.le_refl _) _
  · have h1 : (s.size : Int) < i := by omega
    clear h
    go_enter Try.func46, Try.ntmps46
    go_wp2_with fail
    refine bodyPost_ret (v := .tuple #[.agg #[.int .i64 0, .string ⟨#[]⟩, .int .i64 0], .int .i64 0, .int .i64 1]) (by simp [results, Try.results46, go_sem]) rfl ⟨rfl, ?_⟩
    exact (Below.refl _ _).alloc (Nat.le_refl _) _

theorem be_lt_take (l : List UInt8) (k : Nat) : be (l.take k) < 256 ^ k := by
  have h := be_lt (l.take k).length (l.take k) rfl
  have h2 : (l.take k).length ≤ k := by rw [List.length_take]; omega
  exact Nat.lt_of_lt_of_le h (Nat.pow_le_pow_right (by decide) h2)
theorem str_ne' {a b : List UInt8} (h : ¬ a = b) : ((S a).toList == (S b).toList) = false := by
  rw [ByteArray.toList_eq, ByteArray.toList_eq]; exact beq_eq_false_iff_ne.2 h
set_option maxRecDepth 100000 in
set_option maxHeartbeats 8000000 in
theorem refRead_at (s : ByteArray) (k : Nat) (h : k ≤ s.size) (hs : s.size ≤ 1000000000000) (T : List UInt8) (hT : s.data.toList.drop k = T) (w : World) :
    Calls Try.prog 46 #[.string s, .int .i64 (k : Int)] w fun e w' => (rdE T = 0 ∧ e = .returned (.tuple #[.agg #[.int .i64 (rdQ T : Int), .string (S (rdP T)), .int .i64 (k : Int)], .int .i64 ((k : Int) + rdK T), .int .i64 0]) ∨ ¬ rdE T = 0 ∧ e = .returned (.tuple #[.agg #[.int .i64 0, .string ⟨#[]⟩, .int .i64 0], .int .i64 0, .int .i64 (rdE T : Int)])) ∧ Below w.heap.size w w' := by
  have hTl : T.length = s.size - k := by rw [← hT, List.length_drop]; simp
  have HTK := Lib.hid hTl
  have HK := Lib.hid h
  have HS := Lib.hid hs
  have y0 : decide ((k : Int) < 0) = false := decide_eq_false (by omega)
  have y1 : decide ((s.size : Int) < (k : Int)) = false := decide_eq_false (by omega)
  have y2 : decide (s.size < k) = false := decide_eq_false (by omega)
  have HT := Lib.hid hT
  have HDD : Hid (wrap64 ((s.size : Int) - (k : Int)) = (T.length : Int)) := Lib.hid (by rw [IntWalk.wrap64_in _ ⟨by omega, by omega⟩]; omega)
  clear h hs hT hTl
  obtain ⟨W0, hW0⟩ : ∃ W0, w.alloc (.cells #[.int .i64 0, .string ⟨#[]⟩, .int .i64 0] 91) = W0 := ⟨_, rfl⟩
  have HF := Lib.hid (show RBx W0 w.heap.size by rw [← hW0]; exact heap_alloc_new w _)
  have HB := Lib.hid (show Below w.heap.size w W0 by rw [← hW0]; exact (Below.refl _ _).alloc (Nat.le_refl _) _)
  have HZ := Lib.hid (show w.heap.size < W0.heap.size by rw [← hW0]; simp)
  by_cases h16 : T.length < 16
  · have HE := Lib.hid (show rdE T = 8 by unfold rdE; rw [if_pos h16])
    obtain ⟨⟨c0, c1, c2⟩, f0, f1, f2⟩ := HF.out.facts
    obtain ⟨d0, d1, d2, d3, d4⟩ := HF.out.store 0 ⟨#[]⟩ 0
    have hd := HDD.out
    go_enter Try.func46, Try.ntmps46
    go_wp2_with fail
    refine bodyPost_ret (v := .tuple #[.agg #[.int .i64 0, .string ⟨#[]⟩, .int .i64 0], .int .i64 0, .int .i64 8]) (by simp [results, Try.results46, go_sem, d0, d1, d2, d3, d4]) rfl ⟨Or.inr ⟨by rw [HE.out]; decide, by rw [HE.out]; rfl⟩, ?_⟩
    exact ((HB.out.setCell (p := ⟨w.heap.size, 0, none⟩) (Nat.le_refl _) _).setCell (p := ⟨w.heap.size, 1, none⟩) (Nat.le_refl _) _).setCell (p := ⟨w.heap.size, 2, none⟩) (Nat.le_refl _) _
  · have h16i : ¬ (T.length : Int) < 16 := by omega
    have h16d : decide ((T.length : Int) < 16) = false := decide_eq_false h16i
    have HTL := Lib.hid (show 16 ≤ T.length by omega)
    have hn1 := fun W => number_any s k 4 (by have := HTK.out; have := HTL.out; have := HK.out; omega) HS.out (by decide) W
    rw [HT.out, show U (be (T.take 4)) = ((rdN T : Nat) : Int) from rfl] at hn1
    have hn2 := fun W => number_any s (k + 4) 8 (by have := HTK.out; have := HTL.out; have := HK.out; omega) HS.out (by decide) W
    rw [← List.drop_drop, HT.out, show U (be ((T.drop 4).take 8)) = ((rdQ T : Nat) : Int) from rfl, show ((k + 4 : Nat) : Int) = (k : Int) + 4 from rfl] at hn2
    have HN1 := Lib.hid hn1
    have HN2 := Lib.hid hn2
    have HW4 : Hid (wrap64 ((k : Int) + 4) = (k : Int) + 4) := Lib.hid (IntWalk.wrap64_in _ ⟨by omega, by have := HK.out; have := HS.out; omega⟩)
    have HW16 : Hid (wrap64 ((k : Int) + 16) = (k : Int) + 16) := Lib.hid (IntWalk.wrap64_in _ ⟨by omega, by have := HK.out; have := HS.out; omega⟩)
    have HW12 : Hid (wrap64 ((k : Int) + 12) = (k : Int) + 12) := Lib.hid (IntWalk.wrap64_in _ ⟨by omega, by have := HK.out; have := HS.out; omega⟩)
    have HNL := Lib.hid (show rdN T < 4294967296 from be_lt_take T 4)
    have HQL := Lib.hid (show rdQ T < 18446744073709551616 from be_lt_take (T.drop 4) 8)
    clear hn1 hn2 h16
    have hd := HDD.out
    have w4 := HW4.out
    go_enter Try.func46, Try.ntmps46
    go_wp2_with fail
    refine (HN1.out _).mono ?_
    rintro e w1 ⟨rfl, hb⟩
    have HF1 := Lib.hid (show RBx w1 w.heap.size from (hb.block _ HZ.out).trans HF.out)
    have HB1 := Lib.hid (HB.out.trans (hb.mono HB.out.size))
    have HZ1 := Lib.hid (Nat.lt_of_lt_of_le HZ.out hb.size)
    clear hb HF HB hW0
    go_wp2_with fail
    refine (HN2.out _).mono ?_
    rintro e w2 ⟨rfl, hb⟩
    have HF2 := Lib.hid (show RBx w2 w.heap.size from (hb.block _ HZ1.out).trans HF1.out)
    have HB2 := Lib.hid (HB1.out.trans (hb.mono HB1.out.size))
    have HZ2 := Lib.hid (Nat.lt_of_lt_of_le HZ1.out hb.size)
    clear hb HF1 HB1 HZ1 HZ hd w4
    obtain ⟨⟨c0, c1, c2⟩, f0, f1, f2⟩ := HF2.out.facts
    by_cases hok : 1 ≤ rdN T ∧ rdN T ≤ 4096 ∧ rdQ T < 1048576
    · obtain ⟨o1, o2, o3⟩ := hok
      have HOK := Lib.hid (And.intro o1 (And.intro o2 o3))
      have g1 : decide ((rdN T : Int) < 1) = false := decide_eq_false (by omega)
      have g2 : decide ((4096 : Int) < (rdN T : Int)) = false := decide_eq_false (by omega)
      have g3 : decide ((1048576 : Int) ≤ (rdQ T : Int)) = false := decide_eq_false (by omega)
      have g4 : decide (rdN T < 1) = false := decide_eq_false (by omega)
      have g5 : decide (4096 < rdN T) = false := decide_eq_false (by omega)
      have g6 : decide (1048576 ≤ rdQ T) = false := decide_eq_false (by omega)
      have g7 : decide (rdN T = 0) = false := decide_eq_false (by omega)
      have HWN : Hid (wrap64 (rdN T : Int) = (rdN T : Int)) := Lib.hid (IntWalk.wrap64_in _ ⟨by omega, by omega⟩)
      have HWQ : Hid (wrap64 (rdQ T : Int) = (rdQ T : Int)) := Lib.hid (IntWalk.wrap64_in _ ⟨by omega, by omega⟩)
      have HWE : Hid (wrap64 ((k : Int) + 16 + (rdN T : Int)) = (k : Int) + 16 + (rdN T : Int)) := Lib.hid (IntWalk.wrap64_in _ ⟨by omega, by have := HK.out; have := HS.out; omega⟩)
      by_cases hl : 16 + rdN T ≤ T.length
      · have e1 : ¬ (s.size : Int) < (k : Int) + 16 + (rdN T : Int) := by have := HTK.out; have := HK.out; omega
        have e2 : decide ((s.size : Int) < (k : Int) + 16 + (rdN T : Int)) = false := decide_eq_false e1
        have HLL := Lib.hid hl
        have HPL := Lib.hid (rdP_length hl)
        have s1 := slice_mid s (k + 16) (k + 16 + rdN T) (by omega) (by have := HTK.out; have := HK.out; omega)
        rw [← List.drop_drop, HT.out, Nat.add_sub_cancel_left, show ((k + 16 + rdN T : Nat) : Int) = (k : Int) + 16 + (rdN T : Int) from rfl, show ((k + 16 : Nat) : Int) = (k : Int) + 16 from rfl, show S ((T.drop 16).take (rdN T)) = S (rdP T) from rfl] at s1
        have s2 := slice_mid s (k + 12) (k + 16) (by omega) (by have := HTK.out; have := HK.out; omega)
        rw [← List.drop_drop, HT.out, show k + 16 - (k + 12) = 4 by omega, show ((k + 16 : Nat) : Int) = (k : Int) + 16 from rfl, show ((k + 12 : Nat) : Int) = (k : Int) + 12 from rfl, show S ((T.drop 12).take 4) = S (rdC T) from rfl] at s2
        have s3 := slice_mid s k (k + 12) (by omega) (by have := HTK.out; have := HK.out; omega)
        rw [HT.out, Nat.add_sub_cancel_left, show ((k + 12 : Nat) : Int) = (k : Int) + 12 from rfl] at s3
        clear o1 o2 o3 hl
        have HB16n := Lib.hid (show k + 16 ≤ s.size by have := HTK.out; have := HTL.out; have := HK.out; omega)
        have HB12n := Lib.hid (show k + 12 ≤ s.size by have := HTK.out; have := HTL.out; have := HK.out; omega)
        have HB16 := Lib.hid (show (k : Int) + 16 ≤ (s.size : Int) by have := HB16n.out; omega)
        have HB12 := Lib.hid (show (k : Int) + 12 ≤ (s.size : Int) by have := HB12n.out; omega)
        have HX2 := Lib.hid (show s.extract (k + 12) (k + 16) = S (rdC T) from (S_mid s.data.toList (k + 12) (k + 16)).trans (by rw [← List.drop_drop, HT.out, show k + 16 - (k + 12) = 4 by omega]; rfl))
        have HX3 := Lib.hid (show s.extract k (k + 12) = S (T.take 12) from (S_mid s.data.toList k (k + 12)).trans (by rw [HT.out, Nat.add_sub_cancel_left]))
        have HB5 := Lib.hid (show (0 : Int) ≤ (k : Int) + 12 by omega)
        have HB6 := Lib.hid (show (k : Int) + 12 ≤ (k : Int) + 16 by omega)
        have HB7 := Lib.hid (show (0 : Int) ≤ (k : Int) by omega)
        have HB8 := Lib.hid (show (k : Int) ≤ (k : Int) + 12 by omega)
        have HT12 := Lib.hid (show (T.take 12).length = 12 by rw [List.length_take]; have := HTL.out; omega)
        have HKK := Lib.hid (show rdK T = 16 + rdN T from rfl)
        generalize hne : rdN T = n at *
        generalize hqe : rdQ T = q at *
        have HNE := Lib.hid hne
        have HQE := Lib.hid hqe
        clear hne hqe
        have w16 := HW16.out
        have w12 := HW12.out
        have wn := HWN.out
        have wq := HWQ.out
        have we := HWE.out
        have zc1 : (S (T.take 12)).size = 12 := by rw [S_size]; exact HT12.out
        have zc2 : (S (rdP T)).size = n := by rw [S_size]; exact HPL.out
        have zc3 : n ≤ 4096 := HOK.out.2.1
        have hcat : S (T.take 12) ++ S (rdP T) = S (T.take 12 ++ rdP T) := S_app _ _
        have hca : ∀ W, (Op.stringOp .add (S (T.take 12)) (S (rdP T))).run Try.prog W = .ok (.string (S (T.take 12 ++ rdP T))) W := fun W => by
          rw [← hcat]; exact run_string_add_sum W _ _ (by rw [zc1, zc2]; exact Nat.le_trans (Nat.add_le_add_left zc3 12) (by decide))
        have HOF := Lib.hid (fun W => refOf_any (S (T.take 12 ++ rdP T)) W (by rw [S_size, List.length_append, HT12.out, HPL.out]; have := HOK.out; unfold maxLen; omega))
        rw [S_list] at HOF
        have b1 : (k : Int) + 16 ≤ (s.size : Int) := HB16.out
        have b2 : (k : Int) + 12 ≤ (s.size : Int) := HB12.out
        have x2 : s.extract (k + 12) (k + 16) = S (rdC T) := HX2.out
        have x3 : s.extract k (k + 12) = S (T.take 12) := HX3.out
        have b3 : k + 16 ≤ s.size := HB16n.out
        have b4 : k + 12 ≤ s.size := HB12n.out
        have v12 : IntKind.i64.wrap ((k : Int) + 12) = (k : Int) + 12 := (IntWalk.i64_left _).trans w12
        have v16 : IntKind.i64.wrap ((k : Int) + 16) = (k : Int) + 16 := (IntWalk.i64_left _).trans w16
        have b5 : (0 : Int) ≤ (k : Int) + 12 := HB5.out
        have b6 : (k : Int) + 12 ≤ (k : Int) + 16 := HB6.out
        have b7 : (0 : Int) ≤ (k : Int) := HB7.out
        have b8 : (k : Int) ≤ (k : Int) + 12 := HB8.out
        have HLO0 := Lib.hid (fun W => refLow_any (sumW (T.take 12) (rdP T)).toNat W (sumW (T.take 12) (rdP T)).isLt)
        rw [← fourL_low] at HLO0
        have hmx : Try.prog.follows .mixedOrders = true := by kernel_rfl
        have HGN := Lib.hid (show ¬ T.length < 16 from Nat.not_lt.2 HTL.out)
        have HGL := Lib.hid (show ¬ T.length < 16 + rdN T from Nat.not_lt.2 (by rw [HNE.out]; exact HLL.out))
        by_cases hc : fourL (sumW (T.take 12) (rdP T)) = rdC T
        · have HE0 := Lib.hid (show rdE T = 0 by unfold rdE; rw [if_neg HGN.out, if_neg (fun h => h (by rw [HNE.out, HQE.out]; exact HOK.out)), if_neg HGL.out, if_pos hc])
          have HLO := HLO0
          rw [hc] at HLO
          clear hc HLO0
          go_wp2_with fail
          go_region_held3 (fun _ => True) (trivial) (first | (go_at_call 72; (with_reducible refine (HOF.out _).mono ?_); rintro e w5 ⟨rfl, rfl⟩) | (go_at_call 71; refine (HLO.out _).mono ?_; rintro e w6 ⟨rfl, hb⟩))
          have hbb : Below w2.heap.size w2 w6 := ⟨hb.os, hb.tape, hb.output, hb.size, hb.block⟩
          have HF6 := Lib.hid (show RBx w6 w.heap.size from (hbb.block _ HZ2.out).trans HF2.out)
          have HB6' := Lib.hid (HB2.out.trans (hbb.mono HB2.out.size))
          clear hb hbb c0 c1 c2 f0 f1 f2
          obtain ⟨⟨c0, c1, c2⟩, f0, f1, f2⟩ := HF6.out.facts
          obtain ⟨d0, d1, d2, d3, d4⟩ := HF6.out.store (q : Int) (S (rdP T)) (k : Int)
          have hki : (k : Int) + 16 + (n : Int) = (k : Int) + (rdK T : Int) := by have := HKK.out; clear w16 w12 wn wq we v12 v16; omega
          go_wp2_with fail
          refine bodyPost_ret (v := .tuple #[.agg #[.int .i64 (q : Int), .string (S (rdP T)), .int .i64 (k : Int)], .int .i64 ((k : Int) + rdK T), .int .i64 0]) (by simp [results, Try.results46, go_sem, d0, d1, d2, d3, d4, hki]) rfl ⟨Or.inl ⟨HE0.out, by rw [HQE.out]⟩, ?_⟩
          exact ((HB6'.out.setCell (p := ⟨w.heap.size, 0, none⟩) (Nat.le_refl _) _).setCell (p := ⟨w.heap.size, 1, none⟩) (Nat.le_refl _) _).setCell (p := ⟨w.heap.size, 2, none⟩) (Nat.le_refl _) _
        · have HE4 := Lib.hid (show rdE T = 42 by unfold rdE; rw [if_neg HGN.out, if_neg (fun h => h (by rw [HNE.out, HQE.out]; exact HOK.out)), if_neg HGL.out, if_neg hc])
          have hne := str_ne' (fun h => hc h.symm)
          have HLO := HLO0
          generalize fourL (sumW (T.take 12) (rdP T)) = F4 at HLO hne
          clear hc HLO0
          go_wp2_with fail
          go_region_held3 (fun _ => True) (trivial) (first | (go_at_call 72; (with_reducible refine (HOF.out _).mono ?_); rintro e w5 ⟨rfl, rfl⟩) | (go_at_call 71; refine (HLO.out _).mono ?_; rintro e w6 ⟨rfl, hb⟩))
          have hbb : Below w2.heap.size w2 w6 := ⟨hb.os, hb.tape, hb.output, hb.size, hb.block⟩
          have HF6 := Lib.hid (show RBx w6 w.heap.size from (hbb.block _ HZ2.out).trans HF2.out)
          have HB6' := Lib.hid (HB2.out.trans (hbb.mono HB2.out.size))
          clear hb hbb c0 c1 c2 f0 f1 f2
          obtain ⟨⟨c0, c1, c2⟩, f0, f1, f2⟩ := HF6.out.facts
          obtain ⟨d0, d1, d2, d3, d4⟩ := HF6.out.store 0 ⟨#[]⟩ 0
          go_wp2_with fail
          refine bodyPost_ret (v := .tuple #[.agg #[.int .i64 0, .string ⟨#[]⟩, .int .i64 0], .int .i64 0, .int .i64 42]) (by simp [results, Try.results46, go_sem, d0, d1, d2, d3, d4]) rfl ⟨Or.inr ⟨by rw [HE4.out]; decide, by rw [HE4.out]; rfl⟩, ?_⟩
          exact ((HB6'.out.setCell (p := ⟨w.heap.size, 0, none⟩) (Nat.le_refl _) _).setCell (p := ⟨w.heap.size, 1, none⟩) (Nat.le_refl _) _).setCell (p := ⟨w.heap.size, 2, none⟩) (Nat.le_refl _) _
      · have e1 : (s.size : Int) < (k : Int) + 16 + (rdN T : Int) := by have := HTK.out; have := HK.out; omega
        have e2 : decide ((s.size : Int) < (k : Int) + 16 + (rdN T : Int)) = true := decide_eq_true e1
        have HE4 := Lib.hid (show rdE T = 8 by unfold rdE; rw [if_neg (by have := HTL.out; omega), if_neg (fun h => h ⟨o1, o2, o3⟩), if_pos (by omega)])
        obtain ⟨d0, d1, d2, d3, d4⟩ := HF2.out.store 0 ⟨#[]⟩ 0
        clear o1 o2 o3 hl
        generalize rdN T = n at *
        generalize rdQ T = q at *
        have w16 := HW16.out
        have wn := HWN.out
        have we := HWE.out
        go_wp2_with fail
        refine bodyPost_ret (v := .tuple #[.agg #[.int .i64 0, .string ⟨#[]⟩, .int .i64 0], .int .i64 0, .int .i64 8]) (by simp [results, Try.results46, go_sem, d0, d1, d2, d3, d4]) rfl ⟨Or.inr ⟨by rw [HE4.out]; decide, by rw [HE4.out]; rfl⟩, ?_⟩
        exact ((HB2.out.setCell (p := ⟨w.heap.size, 0, none⟩) (Nat.le_refl _) _).setCell (p := ⟨w.heap.size, 1, none⟩) (Nat.le_refl _) _).setCell (p := ⟨w.heap.size, 2, none⟩) (Nat.le_refl _) _
    · have HE4 := Lib.hid (show rdE T = 4 by unfold rdE; rw [if_neg (by have := HTL.out; omega), if_pos hok])
      obtain ⟨d0, d1, d2, d3, d4⟩ := HF2.out.store 0 ⟨#[]⟩ 0
      have HXX : Hid ((decide ((rdN T : Int) < 1) = true) ∨ (decide ((rdN T : Int) < 1) = false ∧ decide ((4096 : Int) < (rdN T : Int)) = true) ∨ (decide ((rdN T : Int) < 1) = false ∧ decide ((4096 : Int) < (rdN T : Int)) = false ∧ decide ((1048576 : Int) ≤ (rdQ T : Int)) = true)) := Lib.hid (by
        by_cases h1 : (rdN T : Int) < 1
        · exact Or.inl (decide_eq_true h1)
        · by_cases h2 : (4096 : Int) < (rdN T : Int)
          · exact Or.inr (Or.inl ⟨decide_eq_false h1, decide_eq_true h2⟩)
          · exact Or.inr (Or.inr ⟨decide_eq_false h1, decide_eq_false h2, decide_eq_true (by omega)⟩))
      clear hok
      generalize rdN T = n at *
      generalize rdQ T = q at *
      rcases HXX.out with g1 | ⟨g1, g2⟩ | ⟨g1, g2, g3⟩
      · have g4 : decide (n < 1) = true := by rw [decide_eq_true_eq] at g1 ⊢; omega
        have g7 : n = 0 := by rw [decide_eq_true_eq] at g1; omega
        go_wp2_with fail
        refine bodyPost_ret (v := .tuple #[.agg #[.int .i64 0, .string ⟨#[]⟩, .int .i64 0], .int .i64 0, .int .i64 4]) (by simp [results, Try.results46, go_sem, d0, d1, d2, d3, d4]) rfl ⟨Or.inr ⟨by rw [HE4.out]; decide, by rw [HE4.out]; rfl⟩, ?_⟩
        exact ((HB2.out.setCell (p := ⟨w.heap.size, 0, none⟩) (Nat.le_refl _) _).setCell (p := ⟨w.heap.size, 1, none⟩) (Nat.le_refl _) _).setCell (p := ⟨w.heap.size, 2, none⟩) (Nat.le_refl _) _
      · have g4 : decide (n < 1) = false := by rw [decide_eq_false_iff_not] at g1 ⊢; omega
        have g5 : decide (4096 < n) = true := by rw [decide_eq_true_eq] at g2 ⊢; omega
        have g7 : decide (n = 0) = false := by rw [decide_eq_false_iff_not] at g1 ⊢; omega
        go_wp2_with fail
        refine bodyPost_ret (v := .tuple #[.agg #[.int .i64 0, .string ⟨#[]⟩, .int .i64 0], .int .i64 0, .int .i64 4]) (by simp [results, Try.results46, go_sem, d0, d1, d2, d3, d4]) rfl ⟨Or.inr ⟨by rw [HE4.out]; decide, by rw [HE4.out]; rfl⟩, ?_⟩
        exact ((HB2.out.setCell (p := ⟨w.heap.size, 0, none⟩) (Nat.le_refl _) _).setCell (p := ⟨w.heap.size, 1, none⟩) (Nat.le_refl _) _).setCell (p := ⟨w.heap.size, 2, none⟩) (Nat.le_refl _) _
      · have g4 : decide (n < 1) = false := by rw [decide_eq_false_iff_not] at g1 ⊢; omega
        have g5 : decide (4096 < n) = false := by rw [decide_eq_false_iff_not] at g2 ⊢; omega
        have g6 : decide (1048576 ≤ q) = true := by rw [decide_eq_true_eq] at g3 ⊢; omega
        have g7 : decide (n = 0) = false := by rw [decide_eq_false_iff_not] at g1 ⊢; omega
        go_wp2_with fail
        refine bodyPost_ret (v := .tuple #[.agg #[.int .i64 0, .string ⟨#[]⟩, .int .i64 0], .int .i64 0, .int .i64 4]) (by simp [results, Try.results46, go_sem, d0, d1, d2, d3, d4]) rfl ⟨Or.inr ⟨by rw [HE4.out]; decide, by rw [HE4.out]; rfl⟩, ?_⟩
        exact ((HB2.out.setCell (p := ⟨w.heap.size, 0, none⟩) (Nat.le_refl _) _).setCell (p := ⟨w.heap.size, 1, none⟩) (Nat.le_refl _) _).setCell (p := ⟨w.heap.size, 2, none⟩) (Nat.le_refl _) _
/-- **the document's Read** -/
theorem refRead_any (s : ByteArray) (i : Int) (hs : s.size ≤ 1000000000000) (w : World) :
    Calls Try.prog 46 #[.string s, .int .i64 i] w fun e w' => e = .returned (rdV s i) ∧ Below w.heap.size w w' := by
  by_cases h : 0 ≤ i ∧ i ≤ s.size
  · obtain ⟨k, rfl⟩ : ∃ k : Nat, i = (k : Int) := ⟨i.toNat, by omega⟩
    refine (refRead_at s k (by omega) hs _ rfl w).mono ?_
    rintro e w' ⟨he, hb⟩
    refine ⟨?_, hb⟩
    unfold rdV
    rw [if_pos h, Int.toNat_natCast]
    rcases he with ⟨h0, rfl⟩ | ⟨h0, rfl⟩
    · rw [if_pos h0]; rfl
    · rw [if_neg h0]; rfl
  · refine (refRead_no s i h w).mono ?_
    rintro e w' ⟨rfl, hb⟩
    refine ⟨?_, hb⟩
    unfold rdV; rw [if_neg h]
end Go.Proofs.Ytkjnddgjnlbopaa.Frame
