import Derived.Test.YthaafniahkejkaaFB
/-
  The walk of Read.
-/
namespace Go.Proofs.Ythaafniahkejkaa.Frame
open Go Go.RowKit
open Go.Proofs.Ythaafniahkejkaa.Crc (W V ofW fourL)
open Go.Proofs.Ythaafniahkejkaa.Wire (be fixB S S_list S_size U Rd Step rdS fxV tkT tkI tkE errAt new_any ru32_any ru64_any rlow_any rraw_any err_any at_any grown_below grown_trans revN cell_row frozen_row be_lt)

/-- a frame as a value -/
def frV (q : Int) (p : List UInt8) (i : Int) : Value := .agg #[.int .i64 q, .string (S p), .int .i64 i]
/-- what Read tells -/
def rdV (s : ByteArray) (i : Int) : Value :=
  if 0 ≤ i ∧ i ≤ s.size then
    (if rdE (s.data.toList.drop i.toNat) = 0 then .tuple #[frV (rdQ (s.data.toList.drop i.toNat)) (rdP (s.data.toList.drop i.toNat)) i, .int .i64 (i + rdK (s.data.toList.drop i.toNat)), .int .i64 0]
     else .tuple #[frV 0 [] 0, .int .i64 0, .int .i64 (rdE (s.data.toList.drop i.toNat) : Int)])
  else .tuple #[frV 0 [] 0, .int .i64 0, .int .i64 1]
theorem S_of (s : ByteArray) : S s.data.toList = s := rfl
theorem S_drop (l : List UInt8) (n : Nat) : (S l).extract n (S l).size = S (l.drop n) := by
  apply ByteArray.ext
  apply Array.ext'
  rw [ByteArray.data_extract, S_size]
  simp [S, List.take_of_length_le]
theorem S_mid (l : List UInt8) (a b : Nat) : (S l).extract a b = S ((l.drop a).take (b - a)) := by
  apply ByteArray.ext
  apply Array.ext'
  rw [ByteArray.data_extract]
  simp [S, List.drop_take]
theorem slice_from (s : ByteArray) (k : Nat) (h : k ≤ s.size) (W : World) : (Instr.slice 9 (.string s) (some (.int .i64 (k : Int))) none none).run Try.prog W = .ok (.string (S (s.data.toList.drop k))) W := by
  have y0 : (0 : Int) ≤ (k : Int) := by omega
  have y1 : (k : Int) ≤ (s.size : Int) := by omega
  have e : s.extract k s.size = S (s.data.toList.drop k) := S_drop s.data.toList k
  rw [← e]
  go_simp
theorem slice_mid (s : ByteArray) (a b : Nat) (h1 : a ≤ b) (h2 : b ≤ s.size) (W : World) : (Instr.slice 9 (.string s) (some (.int .i64 (a : Int))) (some (.int .i64 (b : Int))) none).run Try.prog W = .ok (.string (S ((s.data.toList.drop a).take (b - a)))) W := by
  have y0 : (0 : Int) ≤ (a : Int) := by omega
  have y1 : (a : Int) ≤ (b : Int) := by omega
  have y2 : (b : Int) ≤ (s.size : Int) := by omega
  have e : s.extract a b = S ((s.data.toList.drop a).take (b - a)) := S_mid s.data.toList a b
  rw [← e]
  go_simp

/-! ### what the Reader has read of the bytes from the place on -/
theorem tk_list (T : List UInt8) (i n : Nat) (h : i + n ≤ T.length) : (tkT (S T) i 0 n).data.toList = (T.drop i).take n := by
  unfold tkT
  rw [if_pos ⟨rfl, by rw [S_size]; exact h⟩, S_mid, S_list, Nat.add_sub_cancel_left]
theorem short3 (s : ByteArray) (h : s.size < 16) : tkE s (tkI s (tkI s 0 0 4) (tkE s 0 0 4) 8) (tkE s (tkI s 0 0 4) (tkE s 0 0 4) 8) 4 = 8 := by
  unfold tkE tkI
  by_cases h1 : 0 + 4 ≤ s.size
  · by_cases h2 : 4 + 8 ≤ s.size
    · simp [h1, h2, show 4 ≤ s.size by omega, show 12 ≤ s.size by omega, show ¬ 16 ≤ s.size by omega]
    · simp [show 4 ≤ s.size by omega, show ¬ 12 ≤ s.size by omega]
  · simp [show ¬ 4 ≤ s.size by omega]
theorem le3 (s : ByteArray) : tkI s 0 0 4 ≤ s.size ∧ tkI s (tkI s 0 0 4) (tkE s 0 0 4) 8 ≤ s.size ∧ tkI s (tkI s (tkI s 0 0 4) (tkE s 0 0 4) 8) (tkE s (tkI s 0 0 4) (tkE s 0 0 4) 8) 4 ≤ s.size := by
  have key : ∀ i e n, i ≤ s.size → tkI s i e n ≤ s.size := fun i e n h => by unfold tkI; split <;> omega
  exact ⟨key _ _ _ (Nat.zero_le _), key _ _ _ (key _ _ _ (Nat.zero_le _)), key _ _ _ (key _ _ _ (key _ _ _ (Nat.zero_le _)))⟩
theorem long3 (s : ByteArray) (h : 16 ≤ s.size) : tkI s 0 0 4 = 4 ∧ tkE s 0 0 4 = 0 ∧ tkI s 4 0 8 = 12 ∧ tkE s 4 0 8 = 0 ∧ tkI s 12 0 4 = 16 ∧ tkE s 12 0 4 = 0 := by
  unfold tkI tkE
  simp [show 4 ≤ s.size by omega, show 12 ≤ s.size by omega, h]

theorem zero_fr : frV 0 [] 0 = .agg #[.int .i64 0, .string ⟨#[]⟩, .int .i64 0] := rfl
/-- the box of the frame that is told -/
def FBx (w : World) (b : Nat) : Prop := w.heap[b]? = some (.cells #[.int .i64 0, .string ⟨#[]⟩, .int .i64 0] 26 (0, 0))
theorem FBx.facts {w : World} {b : Nat} (h : FBx w b) : (w.cell? ⟨b, 0, none⟩ = some (.int .i64 0) ∧ w.cell? ⟨b, 1, none⟩ = some (.string ⟨#[]⟩) ∧ w.cell? ⟨b, 2, none⟩ = some (.int .i64 0)) ∧ w.frozen? ⟨b, 0, none⟩ = false ∧ w.frozen? ⟨b, 1, none⟩ = false ∧ w.frozen? ⟨b, 2, none⟩ = false :=
  ⟨⟨cell_row h 0, cell_row h 1, cell_row h 2⟩, frozen_row h 0, frozen_row h 1, frozen_row h 2⟩
theorem FBx.grown {w w' : World} {b r : Nat} (h : FBx w b) (g : w.grownBy w' (some r)) (hne : b ≠ r) : FBx w' b := (g.block b (Wire.row_lt h) (fun e => hne (by injection e))).trans h
/-- what stood below stays -/
theorem below_grown {n : Nat} {a b c : World} {r : Nat} (h : Below n a b) (g : b.grownBy c (some r)) (hr : n ≤ r) (hn : n ≤ b.heap.size) : Below n a c :=
  h.trans ⟨g.os, g.tape, g.output, g.size, fun k hk => g.block k (by omega) (fun e => by injection e with e; omega)⟩

set_option maxRecDepth 100000 in
set_option maxHeartbeats 2000000 in
theorem Read_no (s : ByteArray) (i : Int) (h : ¬ (0 ≤ i ∧ i ≤ s.size)) (w : World) :
    Calls Try.prog 12 #[.string s, .int .i64 i] w fun e w' => e = .returned (.tuple #[frV 0 [] 0, .int .i64 0, .int .i64 1]) ∧ Below w.heap.size w w' := by
  rw [zero_fr]
  by_cases h0 : i < 0
  · clear h
    go_enter Try.func12, Try.ntmps12
    go_wp2_with fail
    refine bodyPost_ret (v := .tuple #[.agg #[.int .i64 0, .string ⟨#[]⟩, .int .i64 0], .int .i64 0, .int .i64 1]) (by simp [results, Try.results12, go_sem]) rfl ⟨rfl, ?_⟩
    exact (Below.refl _ _).alloc (Nat.le_refl _) _
  · have h1 : (s.size : Int) < i := by omega
    clear h
    go_enter Try.func12, Try.ntmps12
    go_wp2_with fail
    refine bodyPost_ret (v := .tuple #[.agg #[.int .i64 0, .string ⟨#[]⟩, .int .i64 0], .int .i64 0, .int .i64 1]) (by simp [results, Try.results12, go_sem]) rfl ⟨rfl, ?_⟩
    exact (Below.refl _ _).alloc (Nat.le_refl _) _
/-- the frame's box, written over -/
theorem FBx.store {w : World} {b : Nat} (h : FBx w b) (q : Int) (p : ByteArray) (i : Int) :
    (((w.setCell ⟨b, 0, none⟩ (.int .i64 q)).setCell ⟨b, 1, none⟩ (.string p)).setCell ⟨b, 2, none⟩ (.int .i64 i)).cell? ⟨b, 0, none⟩ = some (.int .i64 q) ∧
    (((w.setCell ⟨b, 0, none⟩ (.int .i64 q)).setCell ⟨b, 1, none⟩ (.string p)).setCell ⟨b, 2, none⟩ (.int .i64 i)).cell? ⟨b, 1, none⟩ = some (.string p) ∧
    (((w.setCell ⟨b, 0, none⟩ (.int .i64 q)).setCell ⟨b, 1, none⟩ (.string p)).setCell ⟨b, 2, none⟩ (.int .i64 i)).cell? ⟨b, 2, none⟩ = some (.int .i64 i) ∧
    (w.setCell ⟨b, 0, none⟩ (.int .i64 q)).cell? ⟨b, 0, none⟩ = some (.int .i64 q) ∧ ((w.setCell ⟨b, 0, none⟩ (.int .i64 q)).setCell ⟨b, 1, none⟩ (.string p)).cell? ⟨b, 1, none⟩ = some (.string p) := by
  have h1 := Wire.heap_set h 0 (.int .i64 q)
  have h2 := Wire.heap_set h1 1 (.string p)
  have h3 := Wire.heap_set h2 2 (.int .i64 i)
  exact ⟨cell_row h3 0, cell_row h3 1, cell_row h3 2, cell_row h1 0, cell_row h2 1⟩
theorem nat_ne {e : Nat} (h : ¬ e = 0) : ((e : Int) == 0) = false ∧ ((e : Int) != 0) = true ∧ (e == 0) = false ∧ (e != 0) = true ∧ ¬ (e : Int) = 0 := by
  refine ⟨beq_eq_false_iff_ne.2 (by omega), bne_iff_ne.2 (by omega), beq_eq_false_iff_ne.2 h, bne_iff_ne.2 h, by omega⟩

theorem mayQ_u (q : Nat) (h : q < 18446744073709551616) : mayQ (wrap64 (U q)) = decide (q < 1048576) := by
  have e : wrap64 (U q) = if q < 9223372036854775808 then (q : Int) else (q : Int) - 18446744073709551616 := by
    unfold wrap64 U; split <;> omega
  unfold mayQ
  rw [e]
  split
  · exact decide_eq_decide.2 (by omega)
  · rw [decide_eq_false (by omega), decide_eq_false (by omega)]
theorem wrapq (q : Nat) (h : q < 1048576) : wrap64 (U q) = (q : Int) := by unfold U; exact IntWalk.wrap64_in _ (by omega)
theorem szI_no {n : Nat} (h : ¬ (1 ≤ n ∧ n ≤ 4096)) : szI (n : Int) = 0 := if_neg (by omega)
theorem szI_yes {n : Nat} (h : 1 ≤ n ∧ n ≤ 4096) : szI (n : Int) = 16 + (n : Int) := if_pos (by omega)

set_option maxRecDepth 100000 in
set_option maxHeartbeats 4000000 in
theorem Read_at (s : ByteArray) (k : Nat) (h : k ≤ s.size) (hs : s.size ≤ 1000000000000) (T : List UInt8) (hT : s.data.toList.drop k = T) (w : World) :
    Calls Try.prog 12 #[.string s, .int .i64 (k : Int)] w fun e w' => (rdE T = 0 ∧ e = .returned (.tuple #[.agg #[.int .i64 (rdQ T : Int), .string (S (rdP T)), .int .i64 (k : Int)], .int .i64 ((k : Int) + rdK T), .int .i64 0]) ∨ ¬ rdE T = 0 ∧ e = .returned (.tuple #[.agg #[.int .i64 0, .string ⟨#[]⟩, .int .i64 0], .int .i64 0, .int .i64 (rdE T : Int)])) ∧ Below w.heap.size w w' := by
  have hsl := slice_from s k h
  rw [hT] at hsl
  have hTs : (S T).size ≤ 1000000000000 := by rw [S_size, ← hT, List.length_drop]; simp; omega
  have hTk : (S T).size = s.size - k := by rw [S_size, ← hT, List.length_drop]; simp
  have HTS := Lib.hid hTs
  have HTK := Lib.hid hTk
  have HK := Lib.hid h
  have HS := Lib.hid hs
  have y0 : decide ((k : Int) < 0) = false := decide_eq_false (by omega)
  have y1 : decide ((s.size : Int) < (k : Int)) = false := decide_eq_false (by omega)
  have y2 : decide (s.size < k) = false := decide_eq_false (by omega)
  have HT := Lib.hid hT
  have HLE := Lib.hid (le3 (S T))
  clear h hs hT hTs hTk
  obtain ⟨W0, hW0⟩ : ∃ W0, w.alloc (.cells #[.int .i64 0, .string ⟨#[]⟩, .int .i64 0] 26) = W0 := ⟨_, rfl⟩
  have HF := Lib.hid (show FBx W0 w.heap.size by rw [← hW0]; exact heap_alloc_new w _)
  have HB := Lib.hid (show Below w.heap.size w W0 by rw [← hW0]; exact (Below.refl _ _).alloc (Nat.le_refl _) _)
  have HZ := Lib.hid (show W0.heap.size = w.heap.size + 1 by rw [← hW0]; simp)
  go_enter Try.func12, Try.ntmps12
  go_wp2_with fail
  refine (new_any (S T) W0).mono ?_
  rintro e w1 ⟨rfl, rfl⟩
  have HR := Lib.hid (Rd.new (S T) W0)
  have HF1 := Lib.hid (show FBx (W0.alloc (.cells (rdS (S T) 0 0) 80)) w.heap.size from (((Below.refl W0.heap.size W0).alloc (Nat.le_refl _) _).block _ (by have := HZ.out; omega)).trans HF.out)
  have HB1 := Lib.hid (HB.out.alloc (by have := HZ.out; omega) (.cells (rdS (S T) 0 0) 80))
  have HG := Lib.hid (Wire.grown_refl (W0.alloc (.cells (rdS (S T) 0 0) 80)) W0.heap.size)
  obtain ⟨W1, hW1⟩ : ∃ W1, W0.alloc (.cells (rdS (S T) 0 0) 80) = W1 := ⟨_, rfl⟩
  rw [hW1] at HR HF1 HB1 HG ⊢
  have HZ1 := Lib.hid (show W1.heap.size = w.heap.size + 2 by rw [← hW1]; have := HZ.out; simp; omega)
  obtain ⟨r, hr⟩ : ∃ r, W0.heap.size = r := ⟨_, rfl⟩
  rw [hr] at HR HG HZ ⊢
  clear hW0 hW1 hr HF HB
  have HRN := Lib.hid (show w.heap.size ≠ r by have := HZ.out; omega)
  have HWR := Lib.hid (show w.heap.size ≤ r by have := HZ.out; omega)
  by_cases h16 : (S T).size < 16
  · have hE8 : rdE T = 8 := by unfold rdE; rw [if_pos (by rw [S_size] at h16; exact h16)]
    have HE8 := Lib.hid hE8
    have HSH := Lib.hid (short3 (S T) h16)
    clear hE8 h16
    go_wp2_with fail
    refine (ru32_any r (S T) 0 0 W1 HR.out (Nat.zero_le _) HTS.out).mono ?_
    rintro e W2 ⟨rfl, hst⟩
    replace HR := Lib.hid hst.1; replace HG := Lib.hid (grown_trans HG.out hst.2); clear hst
    go_wp2_with fail
    refine (ru64_any r (S T) _ _ W2 HR.out HLE.out.1 HTS.out).mono ?_
    rintro e W3 ⟨rfl, hst⟩
    replace HR := Lib.hid hst.1; replace HG := Lib.hid (grown_trans HG.out hst.2); clear hst
    go_wp2_with fail
    refine (rlow_any r (S T) _ _ W3 HR.out HLE.out.2.1 HTS.out).mono ?_
    rintro e W4 ⟨rfl, hst⟩
    replace HR := Lib.hid hst.1; replace HG := Lib.hid (grown_trans HG.out hst.2); clear hst
    rw [HSH.out] at HR
    go_wp2_with fail
    refine (err_any r (S T) _ _ W4 HR.out).mono ?_
    rintro e W5 ⟨rfl, nq, rfl⟩
    have HF5 := Lib.hid (show FBx (W4.drewN nq) w.heap.size from HF1.out.grown (Wire.grown_drewN HG.out nq) HRN.out)
    have HB5 := Lib.hid (below_grown HB1.out (Wire.grown_drewN HG.out nq) HWR.out (by have := HZ1.out; omega))
    generalize W4.drewN nq = W5 at HF5 HB5 ⊢
    obtain ⟨⟨c0, c1, c2⟩, f0, f1, f2⟩ := HF5.out.facts
    obtain ⟨d0, d1, d2, d3, d4⟩ := HF5.out.store 0 ⟨#[]⟩ 0
    clear HR HG HF1 HB1
    go_wp2_with fail
    refine bodyPost_ret (v := .tuple #[.agg #[.int .i64 0, .string ⟨#[]⟩, .int .i64 0], .int .i64 0, .int .i64 (8)]) (by simp [results, Try.results12, go_sem, d0, d1, d2, d3, d4]) rfl ⟨Or.inr ⟨by rw [HE8.out]; decide, by rw [HE8.out]; rfl⟩, ?_⟩
    exact ((HB5.out.setCell (p := ⟨w.heap.size, 0, none⟩) (Nat.le_refl _) _).setCell (p := ⟨w.heap.size, 1, none⟩) (Nat.le_refl _) _).setCell (p := ⟨w.heap.size, 2, none⟩) (Nat.le_refl _) _
  · have HL3 := Lib.hid (long3 (S T) (by omega))
    have HTL := Lib.hid (show 16 ≤ T.length by rw [S_size] at h16; omega)
    have HNN := Lib.hid (show fxV (S T) 0 0 4 = rdN T by unfold fxV; rw [tk_list T 0 4 (by have := HTL.out; omega)]; rfl)
    have HQQ := Lib.hid (show fxV (S T) 4 0 8 = rdQ T by unfold fxV; rw [tk_list T 4 8 (by have := HTL.out; omega)]; rfl)
    have HCC := Lib.hid (show fxV (S T) 12 0 4 = be (rdC T) by unfold fxV; rw [tk_list T 12 4 (by have := HTL.out; omega)]; rfl)
    have HNL := Lib.hid (show rdN T < 4294967296 by rw [← HNN.out]; exact Wire.fxV_lt _ _ _ 4)
    have HQL := Lib.hid (show rdQ T < 18446744073709551616 by rw [← HQQ.out]; exact Wire.fxV_lt _ _ _ 8)
    clear h16
    go_wp2_with fail
    refine (ru32_any r (S T) 0 0 W1 HR.out (Nat.zero_le _) HTS.out).mono ?_
    rintro e W2 ⟨rfl, hst⟩
    rw [HL3.out.1, HL3.out.2.1] at hst
    rw [HNN.out]
    replace HR := Lib.hid hst.1; replace HG := Lib.hid (grown_trans HG.out hst.2); clear hst
    go_wp2_with fail
    refine (ru64_any r (S T) 4 0 W2 HR.out (by have := HTL.out; rw [S_size]; omega) HTS.out).mono ?_
    rintro e W3 ⟨rfl, hst⟩
    rw [HL3.out.2.2.1, HL3.out.2.2.2.1] at hst
    rw [HQQ.out]
    replace HR := Lib.hid hst.1; replace HG := Lib.hid (grown_trans HG.out hst.2); clear hst
    go_wp2_with fail
    refine (rlow_any r (S T) 12 0 W3 HR.out (by have := HTL.out; rw [S_size]; omega) HTS.out).mono ?_
    rintro e W4 ⟨rfl, hst⟩
    rw [HL3.out.2.2.2.2.1, HL3.out.2.2.2.2.2] at hst
    rw [HCC.out]
    replace HR := Lib.hid hst.1; replace HG := Lib.hid (grown_trans HG.out hst.2); clear hst
    go_wp2_with fail
    refine (err_any r (S T) 16 0 W4 HR.out).mono ?_
    rintro e W5 ⟨rfl, nq, rfl⟩
    replace HG := Lib.hid (Wire.grown_drewN HG.out nq)
    replace HR := Lib.hid (show Rd (W4.drewN nq) r (S T) 16 0 from HR.out)
    generalize W4.drewN nq = W5 at HG HR ⊢
    have HF5 := Lib.hid (show FBx W5 w.heap.size from HF1.out.grown HG.out HRN.out)
    have HB5 := Lib.hid (below_grown HB1.out HG.out HWR.out (by have := HZ1.out; omega))
    clear HL3 HNN HQQ HCC
    have HMQ := fun W => mayNumber_any (wrap64 (U (rdQ T))) W
    rw [mayQ_u _ HQL.out] at HMQ
    have HMM := Lib.hid HMQ
    have hwn : wrap64 (U (rdN T)) = (rdN T : Int) := by have := HNL.out; unfold U; exact IntWalk.wrap64_in _ (by omega)
    clear HMQ
    by_cases hn : 1 ≤ rdN T ∧ rdN T ≤ 4096
    · have hz := szI_yes hn
      have HSZ := Lib.hid (fun W => Size_any (rdN T : Int) W)
      rw [hz] at HSZ
      have z1 : ((16 + (rdN T : Int)) == 0) = false := beq_eq_false_iff_ne.2 (by omega)
      have HNB := Lib.hid hn
      clear hn hz
      by_cases hq : rdQ T < 1048576
      · have HMT := HMM.out
        rw [decide_eq_true hq] at HMT
        have HM2 := Lib.hid HMT
        clear HMT HMM
        go_wp2_with (first | (go_at_call 13; refine (HSZ.out _).mono ?_; rintro e w1 ⟨rfl, rfl⟩) | (go_at_call 26; refine (HM2.out _).mono ?_; rintro e w1 ⟨rfl, rfl⟩))
        refine (rraw_any r (S T) 16 0 (rdN T : Int) W5 HR.out (by have := HTL.out; rw [S_size]; omega) HTS.out).mono ?_
        rintro e W6 ⟨rfl, hst⟩
        rw [Int.toNat_natCast] at hst ⊢
        replace HR := Lib.hid hst.1; replace HG := Lib.hid (grown_trans HG.out hst.2); clear hst
        have HQ2 := Lib.hid hq
        clear HM2 hq
        by_cases hl : 16 + rdN T ≤ T.length
        · have HP := Lib.hid (show tkT (S T) 16 0 (rdN T) = S (rdP T) by unfold tkT; rw [if_pos ⟨rfl, by rw [S_size]; exact hl⟩, S_mid, Nat.add_sub_cancel_left]; rfl)
          have HI : Hid (tkI (S T) 16 0 (rdN T) = 16 + rdN T ∧ tkE (S T) 16 0 (rdN T) = 0) := Lib.hid (by unfold tkI tkE; rw [if_pos ⟨rfl, by rw [S_size]; exact hl⟩, if_pos rfl, if_pos (by rw [S_size]; exact hl)]; exact ⟨rfl, rfl⟩)
          rw [HI.out.1, HI.out.2] at HR
          rw [HP.out]
          have HPL := Lib.hid (rdP_length hl)
          have HLL := Lib.hid hl
          clear HI HP hl
          go_wp2_with fail
          refine (err_any r (S T) _ 0 W6 HR.out).mono ?_
          rintro e W7 ⟨rfl, nr, rfl⟩
          replace HG := Lib.hid (Wire.grown_drewN HG.out nr)
          replace HR := Lib.hid (show Rd (W6.drewN nr) r (S T) _ 0 from HR.out)
          generalize W6.drewN nr = W7 at HG HR ⊢
          have hk12 : IntKind.i64.wrap ((k : Int) + 12) = (k : Int) + 12 := IntWalk.i64_in _ (by have := HK.out; have := HS.out; omega)
          have hsm := slice_mid s k (k + 12) (by omega) (by have h1 := HTK.out; have h2 := HTL.out; rw [S_size] at h1; have h3 := HK.out; omega)
          rw [HT.out, Nat.add_sub_cancel_left, show ((k + 12 : Nat) : Int) = (k : Int) + 12 by omega] at hsm
          go_wp2_with fail
          refine (checksum_any (S (T.take 12)) (S (rdP T)) W7 (by rw [S_size, List.length_take]; unfold maxLen; omega) (by rw [S_size, HPL.out]; have := HNB.out; unfold maxLen; omega)).mono ?_
          rintro e W8 ⟨rfl, hb⟩
          rw [S_list, S_list]
          have HC2 := Lib.hid (low_iff (sumW (T.take 12) (rdP T)) (rdC T) (by have := HTL.out; unfold rdC; rw [List.length_take, List.length_drop]; omega))
          have HG8 := Lib.hid (grown_trans HG.out (grown_below hb))
          have HR8 := Lib.hid (show Rd W8 r (S T) _ 0 from (hb.block r (Wire.row_lt HR.out)).trans HR.out)
          clear hb HR HG
          have HF5 := Lib.hid (show FBx W8 w.heap.size from HF1.out.grown HG8.out HRN.out)
          have HB5 := Lib.hid (below_grown HB1.out HG8.out HWR.out (by have := HZ1.out; omega))
          obtain ⟨⟨c0, c1, c2⟩, f0, f1, f2⟩ := HF5.out.facts
          by_cases hc : fourL (sumW (T.take 12) (rdP T)) = rdC T
          · have HE0 := Lib.hid (show rdE T = 0 by unfold rdE; rw [if_neg (by have := HTL.out; omega), if_neg (fun h => h ⟨HNB.out.1, HNB.out.2, HQ2.out⟩), if_neg (by have := HLL.out; omega), if_pos hc])
            have hcb : V (sumW (T.take 12) (rdP T)) = U (revN (be (rdC T))) := by
              show ((sumW (T.take 12) (rdP T)).toNat : Int) = ((revN (be (rdC T)) : Nat) : Int)
              rw [HC2.out.2 hc]
            rw [hcb]
            have hcz : (U (revN (be (rdC T))) != U (revN (be (rdC T)))) = false := by simp
            have hwq := wrapq (rdQ T) HQ2.out
            obtain ⟨d0, d1, d2, d3, d4⟩ := HF5.out.store (rdQ T : Int) (S (rdP T)) (k : Int)
            have hki : wrap64 ((k : Int) + (16 + (rdN T : Int))) = (k : Int) + (rdK T : Int) := by
              rw [IntWalk.wrap64_in _ (by have h1 := HK.out; have h2 := HS.out; have h3 := HNB.out; omega)]
              unfold rdK; omega
            clear hc hcb
            rw [hwq]
            go_wp2_with (go_at_call 29; refine (at_any r (S T) _ 0 W8 HR8.out).mono ?_; rintro e w1 ⟨rfl, rfl⟩)
            refine bodyPost_ret (v := .tuple #[.agg #[.int .i64 (rdQ T : Int), .string (S (rdP T)), .int .i64 (k : Int)], .int .i64 ((k : Int) + rdK T), .int .i64 0]) (by simp [results, Try.results12, go_sem, d0, d1, d2, d3, d4, hki]) rfl ⟨Or.inl ⟨HE0.out, rfl⟩, ?_⟩
            exact ((HB5.out.setCell (p := ⟨w.heap.size, 0, none⟩) (Nat.le_refl _) _).setCell (p := ⟨w.heap.size, 1, none⟩) (Nat.le_refl _) _).setCell (p := ⟨w.heap.size, 2, none⟩) (Nat.le_refl _) _
          · have HE4 := Lib.hid (show rdE T = 42 by unfold rdE; rw [if_neg (by have := HTL.out; omega), if_neg (fun h => h ⟨HNB.out.1, HNB.out.2, HQ2.out⟩), if_neg (by have := HLL.out; omega), if_neg hc])
            have hcz : (V (sumW (T.take 12) (rdP T)) != U (revN (be (rdC T)))) = true := bne_iff_ne.2 (fun h => hc (HC2.out.1 (by unfold V U at h; omega)))
            obtain ⟨d0, d1, d2, d3, d4⟩ := HF5.out.store 0 ⟨#[]⟩ 0
            clear hc
            go_wp2_with fail
            refine bodyPost_ret (v := .tuple #[.agg #[.int .i64 0, .string ⟨#[]⟩, .int .i64 0], .int .i64 0, .int .i64 42]) (by simp [results, Try.results12, go_sem, d0, d1, d2, d3, d4]) rfl ⟨Or.inr ⟨by rw [HE4.out]; decide, by rw [HE4.out]; rfl⟩, ?_⟩
            exact ((HB5.out.setCell (p := ⟨w.heap.size, 0, none⟩) (Nat.le_refl _) _).setCell (p := ⟨w.heap.size, 1, none⟩) (Nat.le_refl _) _).setCell (p := ⟨w.heap.size, 2, none⟩) (Nat.le_refl _) _
        · have HE4 := Lib.hid (show rdE T = 8 by unfold rdE; rw [if_neg (by have := HTL.out; omega), if_neg (fun h => h ⟨HNB.out.1, HNB.out.2, HQ2.out⟩), if_pos (by omega)])
          have HI : Hid (tkE (S T) 16 0 (rdN T) = 8) := Lib.hid (by unfold tkE; rw [if_pos rfl, if_neg (by rw [S_size]; exact hl)])
          rw [HI.out] at HR
          clear HI hl
          go_wp2_with fail
          refine (err_any r (S T) _ 8 W6 HR.out).mono ?_
          rintro e W7 ⟨rfl, nr, rfl⟩
          replace HG := Lib.hid (Wire.grown_drewN HG.out nr)
          generalize W6.drewN nr = W7 at HG ⊢
          clear HF5 HB5
          have HF5 := Lib.hid (show FBx W7 w.heap.size from HF1.out.grown HG.out HRN.out)
          have HB5 := Lib.hid (below_grown HB1.out HG.out HWR.out (by have := HZ1.out; omega))
          obtain ⟨⟨c0, c1, c2⟩, f0, f1, f2⟩ := HF5.out.facts
          obtain ⟨d0, d1, d2, d3, d4⟩ := HF5.out.store 0 ⟨#[]⟩ 0
          clear HR HG
          go_wp2_with fail
          refine bodyPost_ret (v := .tuple #[.agg #[.int .i64 0, .string ⟨#[]⟩, .int .i64 0], .int .i64 0, .int .i64 8]) (by simp [results, Try.results12, go_sem, d0, d1, d2, d3, d4]) rfl ⟨Or.inr ⟨by rw [HE4.out]; decide, by rw [HE4.out]; rfl⟩, ?_⟩
          exact ((HB5.out.setCell (p := ⟨w.heap.size, 0, none⟩) (Nat.le_refl _) _).setCell (p := ⟨w.heap.size, 1, none⟩) (Nat.le_refl _) _).setCell (p := ⟨w.heap.size, 2, none⟩) (Nat.le_refl _) _
      · have HMT := HMM.out
        rw [decide_eq_false hq] at HMT
        have HM2 := Lib.hid HMT
        have HE4 := Lib.hid (show rdE T = 4 by unfold rdE; rw [if_neg (by have := HTL.out; omega), if_pos (fun h => hq h.2.2)])
        clear HMT HMM hq
        obtain ⟨⟨c0, c1, c2⟩, f0, f1, f2⟩ := HF5.out.facts
        obtain ⟨d0, d1, d2, d3, d4⟩ := HF5.out.store 0 ⟨#[]⟩ 0
        clear HR HG HF1 HB1
        go_wp2_with (first | (go_at_call 13; refine (HSZ.out _).mono ?_; rintro e w1 ⟨rfl, rfl⟩) | (go_at_call 26; refine (HM2.out _).mono ?_; rintro e w1 ⟨rfl, rfl⟩))
        refine bodyPost_ret (v := .tuple #[.agg #[.int .i64 0, .string ⟨#[]⟩, .int .i64 0], .int .i64 0, .int .i64 (4)]) (by simp [results, Try.results12, go_sem, d0, d1, d2, d3, d4]) rfl ⟨Or.inr ⟨by rw [HE4.out]; decide, by rw [HE4.out]; rfl⟩, ?_⟩
        exact ((HB5.out.setCell (p := ⟨w.heap.size, 0, none⟩) (Nat.le_refl _) _).setCell (p := ⟨w.heap.size, 1, none⟩) (Nat.le_refl _) _).setCell (p := ⟨w.heap.size, 2, none⟩) (Nat.le_refl _) _
    · have hz := szI_no hn
      have HSZ := Lib.hid (fun W => Size_any (rdN T : Int) W)
      rw [hz] at HSZ
      have HE4 := Lib.hid (show rdE T = 4 by unfold rdE; rw [if_neg (by have := HTL.out; omega), if_pos (fun h => hn ⟨h.1, h.2.1⟩)])
      clear hz hn HMM
      obtain ⟨⟨c0, c1, c2⟩, f0, f1, f2⟩ := HF5.out.facts
      obtain ⟨d0, d1, d2, d3, d4⟩ := HF5.out.store 0 ⟨#[]⟩ 0
      clear HR HG HF1 HB1
      go_wp2_with (go_at_call 13; refine (HSZ.out _).mono ?_; rintro e w1 ⟨rfl, rfl⟩)
      refine bodyPost_ret (v := .tuple #[.agg #[.int .i64 0, .string ⟨#[]⟩, .int .i64 0], .int .i64 0, .int .i64 (4)]) (by simp [results, Try.results12, go_sem, d0, d1, d2, d3, d4]) rfl ⟨Or.inr ⟨by rw [HE4.out]; decide, by rw [HE4.out]; rfl⟩, ?_⟩
      exact ((HB5.out.setCell (p := ⟨w.heap.size, 0, none⟩) (Nat.le_refl _) _).setCell (p := ⟨w.heap.size, 1, none⟩) (Nat.le_refl _) _).setCell (p := ⟨w.heap.size, 2, none⟩) (Nat.le_refl _) _
/-- **Read** -/
theorem Read_any (s : ByteArray) (i : Int) (hs : s.size ≤ 1000000000000) (w : World) :
    Calls Try.prog 12 #[.string s, .int .i64 i] w fun e w' => e = .returned (rdV s i) ∧ Below w.heap.size w w' := by
  by_cases h : 0 ≤ i ∧ i ≤ s.size
  · obtain ⟨k, rfl⟩ : ∃ k : Nat, i = (k : Int) := ⟨i.toNat, by omega⟩
    refine (Read_at s k (by omega) hs _ rfl w).mono ?_
    rintro e w' ⟨he, hb⟩
    refine ⟨?_, hb⟩
    unfold rdV
    rw [if_pos h, Int.toNat_natCast]
    rcases he with ⟨h0, rfl⟩ | ⟨h0, rfl⟩
    · rw [if_pos h0]; rfl
    · rw [if_neg h0]; rfl
  · refine (Read_no s i h w).mono ?_
    rintro e w' ⟨rfl, hb⟩
    refine ⟨?_, hb⟩
    unfold rdV; rw [if_neg h]
end Go.Proofs.Ythaafniahkejkaa.Frame
