import Derived.Test.YticfnfekkmkclaaGreatDoorFD
import Derived.Test.YticfnfekkmkclaaGreatDoorAX
import Derived.Test.YticfnfekkmkclaaGreatDoorGV
/-
  What Find tells, what With takes, that names are all unlike.
-/
namespace Go.Proofs.YticfnfekkmkclaaGreatDoor.Manif
open Go Go.RowKit
open Go.Proofs.YticfnfekkmkclaaGreatDoor.Wire (S S_list S_size cell_row frozen_row row_lt heap_set heap_far)
open Go.Proofs.YticfnfekkmkclaaGreatDoor.Seg (Env EnvP OwnS nameE namedR)

/-- where the law's manifest and its entry lie -/
def Sit (w W : World) (M B off c2 : Nat) (g : Int) (l : List (Int × Int)) (x y : Int) : Prop :=
  Below w.heap.size w W ∧ W.heap[w.heap.size + 1]? = some (.cells #[.int .i64 x, .int .i64 y] 80 (0, 0)) ∧ W.heap[M]? = some (.cells #[.int .i64 g, .slice (some ⟨B, off, none⟩) l.length c2] 25 (0, 0)) ∧ OwnE W w.heap.size (.slice (some ⟨B, off, none⟩) l.length c2) l
theorem Sit.over {w W W' : World} {M B off c2 : Nat} {g : Int} {l : List (Int × Int)} {x y : Int} (h : Sit w W M B off c2 g l x y) (hb : Below W.heap.size W W') : Sit w W' M B off c2 g l x y :=
  ⟨h.1.trans (hb.mono h.1.size), (hb.block _ (row_lt h.2.1)).trans h.2.1, (hb.block _ (row_lt h.2.2.1)).trans h.2.2.1, h.2.2.2.below hb⟩
theorem Sit.cells {w W : World} {M B off c2 : Nat} {g : Int} {l : List (Int × Int)} {x y : Int} (h : Sit w W M B off c2 g l x y) :
    W.cell? ⟨w.heap.size + 1, 0, none⟩ = some (.int .i64 x) ∧ W.cell? ⟨w.heap.size + 1, 1, none⟩ = some (.int .i64 y) ∧ W.cell? ⟨M, 0, none⟩ = some (.int .i64 g) ∧ W.cell? ⟨M, 1, none⟩ = some (.slice (some ⟨B, off, none⟩) l.length c2) :=
  ⟨cell_row h.2.1 0, cell_row h.2.1 1, cell_row h.2.2.1 0, cell_row h.2.2.1 1⟩
theorem Sit.at {w W : World} {M B off c2 : Nat} {g : Int} {l : List (Int × Int)} {x y : Int} (h : Sit w W M B off c2 g l x y) (k : Nat) (hk : k < l.length) :
    W.cell? ⟨B, off + k * 2, none⟩ = some (.int .i64 (l[k]).1) ∧ W.cell? ⟨B, off + k * 2 + 1, none⟩ = some (.int .i64 (l[k]).2) := by
  obtain ⟨b, o, e, -, h1, h2⟩ := own_rowE h.2.2.2 k hk
  injection e with e
  injection e with e1 e2
  subst e1 e2
  exact ⟨h1, h2⟩
theorem str_diff {a b : ByteArray} (h : a ≠ b) : (a.toList == b.toList) = false := by
  refine beq_eq_false_iff_ne.2 (fun e => h ?_)
  rw [ByteArray.toList_eq, ByteArray.toList_eq] at e
  exact ByteArray.ext (Array.toList_inj.1 e)
theorem str_at {W : World} {base C n c : Nat} {ys : List ByteArray} (h : OwnS W base (.slice (some ⟨C, 0, none⟩) n c) ys) (j : Nat) (hj : j < ys.length) : W.cell? ⟨C, j, none⟩ = some (.string ys[j]) := by
  obtain ⟨A, cap, e, -, -, hr⟩ := h.row
  injection e with e1 e2 e3
  obtain ⟨g2, h1, -, -, h2, -⟩ := hr j hj
  rw [h1] at e1
  injection e1 with e1; injection e1 with e1
  subst e1; exact h2
theorem nm_at (l : List (Int × Int)) (j : Nat) (hj : j < l.length) : (nmL l)[j]'(by rw [nmL_len]; exact hj) = S (nameE (l[j]).1 (l[j]).2) := by simp [nmL]
theorem S_data (L : List UInt8) : (S L).data.toList = L := by simp [S]
set_option maxRecDepth 100000 in
set_option maxHeartbeats 8000000 in
theorem found_may (w : World) (g : Int) (A : Option Addr) (cap : Nat) (l : List (Int × Int)) (x y q : Int) (hx : RowE w A l) (hl : ¬ 100 < l.length) (hm : mayM g l = true) (E : Env w) :
    Calls Tryz.prog 8 #[.agg #[.int .i64 g, .slice A l.length cap], .agg #[.int .i64 x, .int .i64 y], .int .i64 q] w fun e w' => e = .returned (.bool true) ∧ Below w.heap.size w w' := by
  obtain ⟨w0, hw0⟩ : ∃ w0, (w.alloc (.cells #[.int .i64 g, .slice A l.length cap] 47)).alloc (.cells #[.int .i64 x, .int .i64 y] 80) = w0 := ⟨_, rfl⟩
  have e1 : (w.alloc (.cells #[.int .i64 g, .slice A l.length cap] 47)).heap.size = w.heap.size + 1 := by simp
  have hb0 : Below w.heap.size w w0 := by rw [← hw0]; exact ((Below.refl _ w).alloc (Nat.le_refl _) _).alloc (by simp) _
  have hm0 : w0.heap[w.heap.size]? = some (.cells #[.int .i64 g, .slice A l.length cap] 47 (0, 0)) := by
    rw [← hw0]; exact (Below.heap_alloc _ _ _ (by rw [e1]; omega)).trans (heap_alloc_new w _)
  have hn0 : w0.heap[w.heap.size + 1]? = some (.cells #[.int .i64 x, .int .i64 y] 80 (0, 0)) := by rw [← hw0, ← e1]; exact heap_alloc_new _ _
  have HAW := Lib.hid (awake_any w0 (E.p.over hb0))
  have k1 : decide (100 < (l.length : Int)) = false := decide_eq_false (by omega)
  have k3 : decide (100 < l.length) = false := decide_eq_false hl
  have c1 : w0.cell? ⟨w.heap.size, 1, none⟩ = some (.slice A l.length cap) := cell_row hm0 1
  have HX := Lib.hid hx
  have HL := Lib.hid hl
  have HMA := Lib.hid hm
  have HNL := Lib.hid (And.intro (mayM_parts hm).2.2.1 (mayM_parts hm).2.2.2.1)
  have HB0 := Lib.hid hb0
  have HM0 := Lib.hid hm0
  have HN0 := Lib.hid hn0
  have HE := Lib.hid E
  clear hb0 hm0 hn0 hx hl hm E e1
  go_enter Tryz.func8, Tryz.ntmps8
  go_wp2_with fail
  refine HAW.out.mono ?_
  rintro e w1 ⟨rfl, hb⟩
  have HB1 := Lib.hid (HB0.out.trans (hb.mono HB0.out.size))
  have hm1 := (hb.block _ (row_lt HM0.out)).trans HM0.out
  have HN1 := Lib.hid ((hb.block _ (row_lt HN0.out)).trans HN0.out)
  have c0 : w1.cell? ⟨w.heap.size, 0, none⟩ = some (.int .i64 g) := cell_row hm1 0
  clear c1
  have c1 : w1.cell? ⟨w.heap.size, 1, none⟩ = some (.slice A l.length cap) := cell_row hm1 1
  clear hb hm1 k1 k3 hw0
  go_wp2_with fail
  refine (given_any w1 g A cap l (by have := HL.out; omega) (HX.out.below HB1.out)).mono ?_
  rintro e w2 ⟨v2, rfl, ho, hb⟩
  have HB2 := Lib.hid (HB1.out.trans (hb.mono HB1.out.size))
  have HN2 := Lib.hid ((hb.block _ (row_lt HN1.out)).trans HN1.out)
  have HO2 := Lib.hid (ho.less HB1.out.size)
  obtain ⟨A2, c2, rfl, -, -, hr2, -⟩ := ho.row
  obtain ⟨B, off, rfl, hBB, -, -⟩ := hr2 0 (by have := HNL.out; omega)
  clear hb ho c0 c1 hr2
  obtain ⟨hb5, hm5⟩ := mnew w2 (.int .i64 g) (.slice (some ⟨B, off, none⟩) l.length c2)
  obtain ⟨V5, hV5⟩ : ∃ W, w2.alloc (.cells #[.int .i64 0, .slice none 0 0] 25) = W := ⟨_, rfl⟩
  have ha5 : V5.heap[w2.heap.size]? = some (.cells #[.int .i64 0, .slice none 0 0] 25 (0, 0)) := by rw [← hV5]; exact heap_alloc_new w2 _
  rw [hV5] at hb5 hm5
  obtain ⟨qa5, qb5, qc5, qd5, d05, d15, -⟩ := mset ha5 (.int .i64 g) (.slice (some ⟨B, off, none⟩) l.length c2)
  obtain ⟨U5, hU5⟩ : ∃ W, (V5.setCell ⟨w2.heap.size, 0, none⟩ (.int .i64 g)).setCell ⟨w2.heap.size, 1, none⟩ (.slice (some ⟨B, off, none⟩) l.length c2) = W := ⟨_, rfl⟩
  rw [hU5] at hb5 hm5 d05 d15
  clear ha5
  have HS5 : Hid (Sit w U5 w2.heap.size B off c2 g l x y) := Lib.hid ⟨HB2.out.trans (hb5.mono HB2.out.size), (hb5.block _ (row_lt HN2.out)).trans HN2.out, hm5, HO2.out.below hb5⟩
  have HLM := Lib.hid (show l.length ≤ maxLen by have := HNL.out; unfold maxLen; omega)
  have HMY := Lib.hid (fun W (h : OwnE W w.heap.size (.slice (some ⟨B, off, none⟩) l.length c2) l) => May_any W g _ c2 l HLM.out (own_rowE h))
  have HFD := Lib.hid (fun W (h : OwnE W w.heap.size (.slice (some ⟨B, off, none⟩) l.length c2) l) => Find_any W g (some ⟨B, off, none⟩) c2 l HLM.out (own_rowE h) (fun a ha => by
    injection ha with ha; subst ha; obtain ⟨b, o, e, hlt, -⟩ := own_rowE h 0 (by have := HNL.out; omega)
    injection e with e; injection e with e1; rw [e1]; exact hlt) q)
  have HNM := Lib.hid (fun W (EW : EnvP W) (h : OwnE W w.heap.size (.slice (some ⟨B, off, none⟩) l.length c2) l) => Names_any W EW g _ c2 l HLM.out (own_rowE h))
  obtain ⟨M, hM⟩ : ∃ m, w2.heap.size = m := ⟨_, rfl⟩
  rw [hM] at qa5 qb5 qc5 qd5 d05 d15 HS5 hU5
  clear hb5 hm5 hBB
  rw [HMA.out] at HMY
  go_wp2_with fail
  refine (HMY.out U5 HS5.out.2.2.2).mono ?_
  rintro e w6 ⟨rfl, hb⟩
  have HS6 := Lib.hid (HS5.out.over hb)
  obtain ⟨-, -, c0, c1⟩ := HS6.out.cells
  clear hb qa5 qb5 qc5 qd5 d05 d15 hU5 hV5 hM
  go_wp2_with fail
  refine (HFD.out w6 HS6.out.2.2.2).mono ?_
  rintro e w7 ⟨rfl, hb⟩
  have HS7 := Lib.hid (HS6.out.over hb)
  clear c0 c1 hb
  obtain ⟨-, -, c0, c1⟩ := HS7.out.cells
  have hff := fdN_facts l q l.length
  have HFK := Lib.hid (fd_snoc l x y q)
  change -1 ≤ fdI l q ∧ fdI l q < (l.length : Int) ∧ (0 ≤ fdI l q → (l.getD (fdI l q).toNat (0, 0)).2 ≤ q) ∧ (∀ j : Nat, fdI l q < (j : Int) → j < l.length → q < (l.getD j (0, 0)).2) at hff
  obtain ⟨kk, hkk⟩ : ∃ kk, fdI l q = kk := ⟨_, rfl⟩
  rw [hkk] at hff HFK ⊢
  clear hkk
  obtain ⟨hf1, hf2, hf3, hf4⟩ := hff
  have hgd : ∀ j (h : j < l.length), (l.getD j (0, 0)).2 = (l[j]).2 := fun j h => by simp [h]
  have hn1 : (0 : Int) < (l.length : Int) := by have := HNL.out; omega
  have k1 : decide (kk < -1) = false := decide_eq_false (by omega)
  have k2 : decide ((l.length : Int) ≤ kk) = false := decide_eq_false (by omega)
  by_cases hz : 0 ≤ kk
  · obtain ⟨i, rfl⟩ : ∃ i : Nat, kk = (i : Int) := ⟨kk.toNat, by omega⟩
    have hi : i < l.length := by omega
    have h3 := hf3 hz
    rw [Int.toNat_natCast, hgd i hi] at h3
    obtain ⟨-, d1⟩ := HS7.out.at i hi
    have g0 : (0 : Int) ≤ (i : Int) := hz
    have g1 : (i : Int) < (l.length : Int) := by omega
    have k3 : decide (q < (l[i]).2) = false := decide_eq_false (by omega)
    have kz : decide ((0 : Int) ≤ (i : Int)) = true := decide_eq_true hz
    have hw1 : wrap64 ((i : Int) + 1) = ((i + 1 : Nat) : Int) := (IntWalk.wrap64_in _ ⟨by omega, by have := HNL.out; omega⟩).trans (by omega)
    obtain ⟨i1, hi1⟩ : ∃ i1 : Nat, i + 1 = i1 := ⟨_, rfl⟩
    rw [hi1] at hw1
    have hm1 : (0 : Int) ≤ (i1 : Int) := by omega
    generalize (l[i]).2 = s0 at *
    by_cases h1 : i1 < l.length
    · have h4 := hf4 i1 (by omega) h1
      rw [hgd i1 h1] at h4
      obtain ⟨-, d2⟩ := HS7.out.at i1 h1
      have k4 : decide ((i1 : Int) < (l.length : Int)) = true := decide_eq_true (by omega)
      have k5 : decide ((l[i1]).2 ≤ q) = false := decide_eq_false (by omega)
      have g2 : (i1 : Int) < (l.length : Int) := by omega
      generalize (l[i1]).2 = s1 at *
      have HKK := Lib.hid h3
      clear hf1 hf2 hf3 hf4 hgd h3 h4 hz hi hi1 h1
      go_wp2_with fail
      try clear k1
      try clear k2
      try clear k3
      try clear k4
      try clear k5
      try clear k6
      try clear k7
      try clear kz
      try clear g0
      try clear g2
      try clear hw1
      try clear hm1
      try clear d1
      try clear d2
      try clear hn1
      try clear HKK
      clear c0 c1
      refine (HNM.out w7 (HE.out.p.over HS7.out.1) HS7.out.2.2.2).mono ?_
      rintro e w8 ⟨v8, rfl, ho, hb⟩
      have HS8 := Lib.hid (HS7.out.over hb)
      rw [show nmR g l = nmL l from if_pos HMA.out] at ho
      obtain ⟨A3, c3, rfl, -, -, hr3⟩ := ho.row
      obtain ⟨C, rfl, -, -, -, -⟩ := hr3 0 (by rw [nmL_len]; have := HNL.out; omega)
      rw [nmL_len] at ho ⊢
      have HO8 := Lib.hid ho
      clear hb ho hr3
      obtain ⟨-, -, c0, c1⟩ := HS8.out.cells
      have HW7 := Lib.hid HS7.out.1.size
      clear HS7
      go_wp2_with fail
      clear c0 c1
      go_loopw [10] (fun z wr => ∃ j : Nat, j ≤ l.length ∧ z = .int .i64 (j : Int) ∧ Hid (Sit w wr M B off c2 g l x y) ∧ Hid (OwnS wr w7.heap.size (.slice (some ⟨C, 0, none⟩) l.length c3) (nmL l))) (fun z _ => l.length - (intOf z).toNat)
      case atStart => exact ⟨0, Nat.zero_le _, rfl, HS8, HO8⟩
      case round =>
        clear HS8 HO8
        obtain ⟨j, hj, rfl, HSR, HOR⟩ := hrel
        obtain ⟨-, -, c0, c1⟩ := HSR.out.cells
        by_cases hlt : j < l.length
        · as_aux_lemma =>
            have n1 : decide ((j : Int) < (l.length : Int)) = true := decide_eq_true (by omega)
            have n2 : decide (j < l.length) = true := decide_eq_true hlt
            have n3 : (0 : Int) ≤ (j : Int) := by omega
            have n4 : (j : Int) < (l.length : Int) := by omega
            have HI1 := Lib.hid (show wrap64 ((j : Int) + 1) = (j : Int) + 1 from IntWalk.wrap64_in _ ⟨by omega, by have := HNL.out; omega⟩)
            have s1 := str_at HOR.out j (by rw [nmL_len]; exact hlt)
            rw [nm_at l j hlt] at s1
            have HNE : Hid (∀ m (hm : m < j), S (nameE (l[m]'(by omega)).1 (l[m]'(by omega)).2) ≠ S (nameE (l[j]'hlt).1 (l[j]'hlt).2)) := Lib.hid (fun m hm => names_ne HMA.out m j hm hlt)
            have HND : Hid (∀ W, Env W → Calls Tryz.prog 42 #[.string (S (nameE (l[j]'hlt).1 (l[j]'hlt).2))] W fun e w' => e = .returned (.tuple #[.int .i64 (l[j]'hlt).1, .int .i64 (l[j]'hlt).2, .bool true]) ∧ Below W.heap.size W w') := Lib.hid (fun W EW => by
              have := Seg.Named_any (S (nameE (l[j]'hlt).1 (l[j]'hlt).2)) (by rw [S_size]; unfold nameE; split <;> simp [Seg.nameL_length]) W EW
              rw [S_data, may_named HMA.out j hlt] at this
              exact this)
            obtain ⟨d0, d1⟩ := HSR.out.at j hlt
            have HDC := Lib.hid (fun W (h : Sit w W M B off c2 g l x y) => h.at j hlt)
            obtain ⟨nj, hnj⟩ : ∃ nj, S (nameE (l[j]'hlt).1 (l[j]'hlt).2) = nj := ⟨_, rfl⟩
            rw [hnj] at s1 HND HNE
            have HSJ : Hid (∀ W, OwnS W w7.heap.size (.slice (some ⟨C, 0, none⟩) l.length c3) (nmL l) → W.cell? ⟨C, j, none⟩ = some (.string nj)) := Lib.hid (fun W h => by
              have := str_at h j (by rw [nmL_len]; exact hlt)
              rw [nm_at l j hlt, hnj] at this; exact this)
            generalize (l[j]'hlt).1 = gj at *
            generalize (l[j]'hlt).2 = fj at *
            have HLT := Lib.hid hlt
            clear hnj d0 d1
            go_wp2_with fail
            refine (HND.out wr (HE.out.over HSR.out.1)).mono ?_
            rintro e w9 ⟨rfl, hb⟩
            have HS9 := Lib.hid (HSR.out.over hb)
            have HO9 := Lib.hid (HOR.out.below hb)
            clear c0 c1 s1 hb
            obtain ⟨-, -, c0, c1⟩ := HS9.out.cells
            obtain ⟨d0, d1⟩ := HDC.out w9 HS9.out
            go_wp2_with fail
            clear c0 c1 d0 d1
            go_loopw [14] (fun z wr2 => ∃ m : Nat, m ≤ j ∧ z = .int .i64 (m : Int) ∧ Hid (Sit w wr2 M B off c2 g l x y) ∧ Hid (OwnS wr2 w7.heap.size (.slice (some ⟨C, 0, none⟩) l.length c3) (nmL l))) (fun z _ => j - (intOf z).toNat)
            case atStart => exact ⟨0, Nat.zero_le _, rfl, HS9, HO9⟩
            case round =>
              clear HS9 HO9
              obtain ⟨m, hm, rfl, HSM, HOM⟩ := hrel
              by_cases hmj : m < j
              · have m1 : decide ((m : Int) < (j : Int)) = true := decide_eq_true (by omega)
                have m2 : decide (m < j) = true := decide_eq_true hmj
                have m3 : (0 : Int) ≤ (m : Int) := by omega
                have m4 : (m : Int) < (l.length : Int) := by omega
                have s1 := HSJ.out wr HOM.out
                have s2 := str_at HOM.out m (by rw [nmL_len]; omega)
                rw [nm_at l m (by omega)] at s2
                have hne := HNE.out m hmj
                have hml : m < l.length := by omega
                generalize S (nameE (l[m]'hml).1 (l[m]'hml).2) = nm at *
                have k9 : (nm.toList == nj.toList) = false := str_diff hne
                have HMJ := Lib.hid hmj
                have HI2 := Lib.hid (show wrap64 ((m : Int) + 1) = (m : Int) + 1 from IntWalk.wrap64_in _ ⟨by omega, by have := HNL.out; omega⟩)
                clear hne hmj
                go_wp2_with fail
                go_region
                go_wp2_with fail
                go_roundw
                case rel => exact ⟨m + 1, HMJ.out, by rw [HI2.out]; rfl, Lib.hid (HSM.out.over (Below.refl _ _).drew), Lib.hid (HOM.out.below (Below.refl _ _).drew)⟩
                case measure =>
                  rw [HI2.out]
                  show j - ((m : Int) + 1).toNat < j - (m : Int).toNat
                  have := HMJ.out; omega
              · obtain rfl : m = j := by omega
                have m1 : decide ((m : Int) < (m : Int)) = false := decide_eq_false (by omega)
                go_wp2_with fail
                go_roundw
                case rel => exact ⟨m + 1, HLT.out, by rw [HI1.out]; rfl, HSM, HOM⟩
                case measure =>
                  rw [HI1.out]
                  show l.length - ((m : Int) + 1).toNat < l.length - (m : Int).toNat
                  have := HLT.out; omega
        · obtain rfl : j = l.length := by omega
          have n1 : decide ((l.length : Int) < (l.length : Int)) = false := decide_eq_false (by omega)
          have HWI := Lib.hid (With_any wr g w.heap.size _ l HSR.out.2.2.2 (by have := HNL.out; omega) x y)
          have HMS := Lib.hid (may_snoc (x := x) (y := y) HMA.out)
          obtain ⟨p0, hp0⟩ : ∃ p, l.length = p + 1 := ⟨l.length - 1, by have := HNL.out; omega⟩
          have hpl : p0 < l.length := by omega
          have HAT := Lib.hid (fun W (h : Sit w W M B off c2 g l x y) => h.at p0 hpl)
          have hla : (l.getD (l.length - 1) (0, 0)).2 = (l[p0]'hpl).2 := by rw [hp0, Nat.add_sub_cancel]; simp [hpl]
          rw [hla] at HMS
          generalize (l[p0]'hpl).1 = sg at *
          generalize (l[p0]'hpl).2 = sf at *
          have HPW := Lib.hid (show wrap64 ((l.length : Int) - 1) = (p0 : Int) from (IntWalk.wrap64_in _ ⟨by have := HNL.out; omega, by have := HNL.out; omega⟩).trans (by omega))
          have HPL := Lib.hid hpl
          clear hp0 hpl hla hj hlt
          obtain ⟨b0, b1, -, -⟩ := HSR.out.cells
          go_wp2_with fail
          refine HWI.out.mono ?_
          rintro e w10 ⟨v10, rfl, ho10, hb⟩
          have HS10 := Lib.hid (HSR.out.over hb)
          have HW10 := Lib.hid hb.size
          clear b0 b1 c0 c1 hb
          by_cases hmay : mayM g (l ++ [(x, y)]) = true
          · have HM5 := Lib.hid (HMS.out.1 hmay)
            rw [if_pos hmay] at ho10 ⊢
            have HLN := Lib.hid (show (l ++ [(x, y)]).length = l.length + 1 by simp)
            obtain ⟨A7, c7, hv, -, -, -, -⟩ := ho10.row
            rw [HLN.out] at hv
            subst hv
            have HO10 : Hid (OwnE w10 wr.heap.size (.slice A7 (l ++ [(x, y)]).length c7) (l ++ [(x, y)])) := Lib.hid (by rw [HLN.out]; exact ho10)
            clear ho10 hmay
            obtain ⟨hb6, hm6⟩ := mnew w10 (.int .i64 g) (.slice A7 (l.length + 1) c7)
            obtain ⟨V6, hV6⟩ : ∃ W, w10.alloc (.cells #[.int .i64 0, .slice none 0 0] 25) = W := ⟨_, rfl⟩
            have ha6 : V6.heap[w10.heap.size]? = some (.cells #[.int .i64 0, .slice none 0 0] 25 (0, 0)) := by rw [← hV6]; exact heap_alloc_new w10 _
            rw [hV6] at hb6 hm6
            obtain ⟨qa6, qb6, qc6, qd6, d06, d16, -⟩ := mset ha6 (.int .i64 g) (.slice A7 (l.length + 1) c7)
            obtain ⟨U6, hU6⟩ : ∃ W, (V6.setCell ⟨w10.heap.size, 0, none⟩ (.int .i64 g)).setCell ⟨w10.heap.size, 1, none⟩ (.slice A7 (l.length + 1) c7) = W := ⟨_, rfl⟩
            rw [hU6] at hb6 hm6 d06 d16
            clear ha6
            have HS11 := Lib.hid (HS10.out.over hb6)
            have HB6 := Lib.hid hm6
            have HO6 : Hid (OwnE U6 wr.heap.size (.slice A7 (l ++ [(x, y)]).length c7) (l ++ [(x, y)])) := Lib.hid (HO10.out.below hb6)
            obtain ⟨e0, e1, c0, c1⟩ := HS11.out.cells
            obtain ⟨-, d1⟩ := HAT.out _ HS11.out
            have hpw := HPW.out
            have g3 : (0 : Int) ≤ (p0 : Int) := by omega
            have g4 : (p0 : Int) < (l.length : Int) := by have := HPL.out; omega
            have HF11 := Lib.hid HS11.out.1
            have HFB : Hid (∀ W, Below U6.heap.size U6 W → Calls Tryz.prog 41 #[.agg #[.int .i64 g, .slice A7 (l.length + 1) c7], .int .i64 q] W fun e w' => ∃ v, e = .returned v ∧ (v = .int .i64 (fdI (l ++ [(x, y)]) q) ∧ Below W.heap.size W w')) := Lib.hid (fun W hb => by
              have ho := HO6.out.below hb
              have := Find_any W g A7 c7 (l ++ [(x, y)]) (by have := HNL.out; rw [List.length_append]; unfold maxLen; simp; omega) (own_rowE ho) (fun a ha => by
                subst ha; obtain ⟨b2, o2, e2, hlt2, -⟩ := own_rowE ho 0 (by simp)
                injection e2 with e2; rw [e2]; exact hlt2) q
              rw [HLN.out] at this
              exact this.mono (fun e w' h => ⟨_, h.1, rfl, h.2⟩))
            rw [HFK.out] at HFB
            have HDW := Lib.hid (show Below U6.heap.size U6 U6.drew from (Below.refl _ _).drew)
            clear hb6 hm6
            obtain ⟨h1, h2, h3, h4, h5⟩ := HM5.out
            have j1 : decide (0 ≤ x) = true := decide_eq_true h1
            have j2 : decide (x ≤ g) = true := decide_eq_true h2
            have j3 : decide (sf < y) = true := decide_eq_true h3
            have j4 : decide (y ≤ 1048576) = true := decide_eq_true h4
            have j5 : decide ((l.length : Int) < 64) = true := decide_eq_true (by omega)
            have j6 : decide (l.length < 64) = true := decide_eq_true h5
            clear h1 h2 h3 h4 h5
            by_cases hq : y ≤ q
            · have j7 : decide (y ≤ q) = true := decide_eq_true hq
              simp only [if_pos hq] at HFB
              clear hq
              go_wp2_with fail
              go_region_law (refine step_call (f := 41) (args := #[.agg #[.int .i64 g, .slice A7 (l.length + 1) c7], .int .i64 q]) (by rfl) (by go_simp) (HFB.out _ (by first | exact Below.refl _ _ | exact HDW.out)) ?_; rintro u w12 ⟨rfl, hb12⟩; (have hs12 : Below U6.heap.size U6 w12 := by first | exact hb12 | exact HDW.out.trans (hb12.mono HDW.out.size)); (obtain ⟨-, -, z0, z1⟩ := (HS11.out.over hs12).cells); (have HF12 := Lib.hid (HS11.out.over hs12).1); clear hb12)
              all_goals
                go_wp2_with fail
                go_ret
                exact ⟨by first | rfl | simp, HF12.out⟩
            · have j7 : decide (y ≤ q) = false := decide_eq_false hq
              simp only [if_neg hq] at HFB
              clear hq
              go_wp2_with fail
              refine (HFB.out _ (Below.refl _ _)).mono ?_
              rintro e w12 ⟨u, rfl, rfl, hb12⟩
              have hs12 : Below U6.heap.size U6 w12 := hb12
              obtain ⟨-, -, z0, z1⟩ := (HS11.out.over hs12).cells
              have hm12 := (hb12.block _ (row_lt HB6.out)).trans HB6.out
              have y0 : w12.cell? ⟨w10.heap.size, 0, none⟩ = some (.int .i64 g) := cell_row hm12 0
              have y1 : w12.cell? ⟨w10.heap.size, 1, none⟩ = some (.slice A7 (l.length + 1) c7) := cell_row hm12 1
              have HF12 := Lib.hid (HS11.out.over hs12).1
              have hn1 : wrap64 ((l.length : Int) + 1) = (l.length : Int) + 1 := IntWalk.wrap64_in _ ⟨by omega, by have := HNL.out; omega⟩
              clear c0 c1 hb12 hs12 hm12
              go_wp2_with fail
              go_ret
              exact ⟨by first | rfl | simp, HF12.out⟩
          · have HM5 := Lib.hid (fun h => hmay (HMS.out.2 h))
            rw [if_neg hmay] at ho10 ⊢
            obtain ⟨A7, c7, hv, -, -, -, -⟩ := ho10.row
            change v10 = .slice A7 0 c7 at hv
            subst hv
            clear ho10 hmay
            obtain ⟨hb6, hm6⟩ := mnew w10 (.int .i64 0) (.slice A7 0 c7)
            obtain ⟨V6, hV6⟩ : ∃ W, w10.alloc (.cells #[.int .i64 0, .slice none 0 0] 25) = W := ⟨_, rfl⟩
            have ha6 : V6.heap[w10.heap.size]? = some (.cells #[.int .i64 0, .slice none 0 0] 25 (0, 0)) := by rw [← hV6]; exact heap_alloc_new w10 _
            rw [hV6] at hb6 hm6
            obtain ⟨qa6, qb6, qc6, qd6, d06, d16, -⟩ := mset ha6 (.int .i64 0) (.slice A7 0 c7)
            obtain ⟨U6, hU6⟩ : ∃ W, (V6.setCell ⟨w10.heap.size, 0, none⟩ (.int .i64 0)).setCell ⟨w10.heap.size, 1, none⟩ (.slice A7 0 c7) = W := ⟨_, rfl⟩
            rw [hU6] at hb6 hm6 d06 d16
            clear ha6
            have HS11 := Lib.hid (HS10.out.over hb6)
            obtain ⟨e0, e1, c0, c1⟩ := HS11.out.cells
            obtain ⟨-, d1⟩ := HAT.out _ HS11.out
            have hpw := HPW.out
            have g3 : (0 : Int) ≤ (p0 : Int) := by omega
            have g4 : (p0 : Int) < (l.length : Int) := by have := HPL.out; omega
            have HF11 := Lib.hid HS11.out.1
            clear hb6 hm6
            by_cases h1 : 0 ≤ x
            · have j1 : decide (0 ≤ x) = true := decide_eq_true h1
              by_cases h2 : x ≤ g
              · have j2 : decide (x ≤ g) = true := decide_eq_true h2
                by_cases h3 : sf < y
                · have j3 : decide (sf < y) = true := decide_eq_true h3
                  by_cases h4 : y ≤ 1048576
                  · have j4 : decide (y ≤ 1048576) = true := decide_eq_true h4
                    have h5 : ¬ l.length < 64 := fun h5 => HM5.out ⟨h1, h2, h3, h4, h5⟩
                    have j5 : decide ((l.length : Int) < 64) = false := decide_eq_false (by omega)
                    have j6 : decide (l.length < 64) = false := decide_eq_false h5
                    clear h1 h2 h3 h4 h5
                    go_wp2_with fail
                    go_ret
                    exact ⟨rfl, HF11.out⟩
                  · have j4 : decide (y ≤ 1048576) = false := decide_eq_false h4
                    clear h1 h2 h3 h4
                    go_wp2_with fail
                    go_ret
                    exact ⟨rfl, HF11.out⟩
                · have j3 : decide (sf < y) = false := decide_eq_false h3
                  clear h1 h2 h3
                  go_wp2_with fail
                  go_ret
                  exact ⟨rfl, HF11.out⟩
              · have j2 : decide (x ≤ g) = false := decide_eq_false h2
                clear h1 h2
                go_wp2_with fail
                go_ret
                exact ⟨rfl, HF11.out⟩
            · have j1 : decide (0 ≤ x) = false := decide_eq_false h1
              clear h1
              go_wp2_with fail
              go_ret
              exact ⟨rfl, HF11.out⟩
    · have k4 : decide ((i1 : Int) < (l.length : Int)) = false := decide_eq_false (by omega)
      have k6 : decide (i1 < l.length) = false := decide_eq_false h1
      have k7 : decide (l.length ≤ i) = false := decide_eq_false (by omega)
      clear hf1 hf2 hf3 hf4 hgd h3 hz hi hi1 h1
      go_wp2_with fail
      try clear k1
      try clear k2
      try clear k3
      try clear k4
      try clear k5
      try clear k6
      try clear k7
      try clear kz
      try clear g0
      try clear g2
      try clear hw1
      try clear hm1
      try clear d1
      try clear d2
      try clear hn1
      try clear HKK
      clear c0 c1
      refine (HNM.out w7 (HE.out.p.over HS7.out.1) HS7.out.2.2.2).mono ?_
      rintro e w8 ⟨v8, rfl, ho, hb⟩
      have HS8 := Lib.hid (HS7.out.over hb)
      rw [show nmR g l = nmL l from if_pos HMA.out] at ho
      obtain ⟨A3, c3, rfl, -, -, hr3⟩ := ho.row
      obtain ⟨C, rfl, -, -, -, -⟩ := hr3 0 (by rw [nmL_len]; have := HNL.out; omega)
      rw [nmL_len] at ho ⊢
      have HO8 := Lib.hid ho
      clear hb ho hr3
      obtain ⟨-, -, c0, c1⟩ := HS8.out.cells
      have HW7 := Lib.hid HS7.out.1.size
      clear HS7
      go_wp2_with fail
      clear c0 c1
      go_loopw [10] (fun z wr => ∃ j : Nat, j ≤ l.length ∧ z = .int .i64 (j : Int) ∧ Hid (Sit w wr M B off c2 g l x y) ∧ Hid (OwnS wr w7.heap.size (.slice (some ⟨C, 0, none⟩) l.length c3) (nmL l))) (fun z _ => l.length - (intOf z).toNat)
      case atStart => exact ⟨0, Nat.zero_le _, rfl, HS8, HO8⟩
      case round =>
        clear HS8 HO8
        obtain ⟨j, hj, rfl, HSR, HOR⟩ := hrel
        obtain ⟨-, -, c0, c1⟩ := HSR.out.cells
        by_cases hlt : j < l.length
        · as_aux_lemma =>
            have n1 : decide ((j : Int) < (l.length : Int)) = true := decide_eq_true (by omega)
            have n2 : decide (j < l.length) = true := decide_eq_true hlt
            have n3 : (0 : Int) ≤ (j : Int) := by omega
            have n4 : (j : Int) < (l.length : Int) := by omega
            have HI1 := Lib.hid (show wrap64 ((j : Int) + 1) = (j : Int) + 1 from IntWalk.wrap64_in _ ⟨by omega, by have := HNL.out; omega⟩)
            have s1 := str_at HOR.out j (by rw [nmL_len]; exact hlt)
            rw [nm_at l j hlt] at s1
            have HNE : Hid (∀ m (hm : m < j), S (nameE (l[m]'(by omega)).1 (l[m]'(by omega)).2) ≠ S (nameE (l[j]'hlt).1 (l[j]'hlt).2)) := Lib.hid (fun m hm => names_ne HMA.out m j hm hlt)
            have HND : Hid (∀ W, Env W → Calls Tryz.prog 42 #[.string (S (nameE (l[j]'hlt).1 (l[j]'hlt).2))] W fun e w' => e = .returned (.tuple #[.int .i64 (l[j]'hlt).1, .int .i64 (l[j]'hlt).2, .bool true]) ∧ Below W.heap.size W w') := Lib.hid (fun W EW => by
              have := Seg.Named_any (S (nameE (l[j]'hlt).1 (l[j]'hlt).2)) (by rw [S_size]; unfold nameE; split <;> simp [Seg.nameL_length]) W EW
              rw [S_data, may_named HMA.out j hlt] at this
              exact this)
            obtain ⟨d0, d1⟩ := HSR.out.at j hlt
            have HDC := Lib.hid (fun W (h : Sit w W M B off c2 g l x y) => h.at j hlt)
            obtain ⟨nj, hnj⟩ : ∃ nj, S (nameE (l[j]'hlt).1 (l[j]'hlt).2) = nj := ⟨_, rfl⟩
            rw [hnj] at s1 HND HNE
            have HSJ : Hid (∀ W, OwnS W w7.heap.size (.slice (some ⟨C, 0, none⟩) l.length c3) (nmL l) → W.cell? ⟨C, j, none⟩ = some (.string nj)) := Lib.hid (fun W h => by
              have := str_at h j (by rw [nmL_len]; exact hlt)
              rw [nm_at l j hlt, hnj] at this; exact this)
            generalize (l[j]'hlt).1 = gj at *
            generalize (l[j]'hlt).2 = fj at *
            have HLT := Lib.hid hlt
            clear hnj d0 d1
            go_wp2_with fail
            refine (HND.out wr (HE.out.over HSR.out.1)).mono ?_
            rintro e w9 ⟨rfl, hb⟩
            have HS9 := Lib.hid (HSR.out.over hb)
            have HO9 := Lib.hid (HOR.out.below hb)
            clear c0 c1 s1 hb
            obtain ⟨-, -, c0, c1⟩ := HS9.out.cells
            obtain ⟨d0, d1⟩ := HDC.out w9 HS9.out
            go_wp2_with fail
            clear c0 c1 d0 d1
            go_loopw [14] (fun z wr2 => ∃ m : Nat, m ≤ j ∧ z = .int .i64 (m : Int) ∧ Hid (Sit w wr2 M B off c2 g l x y) ∧ Hid (OwnS wr2 w7.heap.size (.slice (some ⟨C, 0, none⟩) l.length c3) (nmL l))) (fun z _ => j - (intOf z).toNat)
            case atStart => exact ⟨0, Nat.zero_le _, rfl, HS9, HO9⟩
            case round =>
              clear HS9 HO9
              obtain ⟨m, hm, rfl, HSM, HOM⟩ := hrel
              by_cases hmj : m < j
              · have m1 : decide ((m : Int) < (j : Int)) = true := decide_eq_true (by omega)
                have m2 : decide (m < j) = true := decide_eq_true hmj
                have m3 : (0 : Int) ≤ (m : Int) := by omega
                have m4 : (m : Int) < (l.length : Int) := by omega
                have s1 := HSJ.out wr HOM.out
                have s2 := str_at HOM.out m (by rw [nmL_len]; omega)
                rw [nm_at l m (by omega)] at s2
                have hne := HNE.out m hmj
                have hml : m < l.length := by omega
                generalize S (nameE (l[m]'hml).1 (l[m]'hml).2) = nm at *
                have k9 : (nm.toList == nj.toList) = false := str_diff hne
                have HMJ := Lib.hid hmj
                have HI2 := Lib.hid (show wrap64 ((m : Int) + 1) = (m : Int) + 1 from IntWalk.wrap64_in _ ⟨by omega, by have := HNL.out; omega⟩)
                clear hne hmj
                go_wp2_with fail
                go_region
                go_wp2_with fail
                go_roundw
                case rel => exact ⟨m + 1, HMJ.out, by rw [HI2.out]; rfl, Lib.hid (HSM.out.over (Below.refl _ _).drew), Lib.hid (HOM.out.below (Below.refl _ _).drew)⟩
                case measure =>
                  rw [HI2.out]
                  show j - ((m : Int) + 1).toNat < j - (m : Int).toNat
                  have := HMJ.out; omega
              · obtain rfl : m = j := by omega
                have m1 : decide ((m : Int) < (m : Int)) = false := decide_eq_false (by omega)
                go_wp2_with fail
                go_roundw
                case rel => exact ⟨m + 1, HLT.out, by rw [HI1.out]; rfl, HSM, HOM⟩
                case measure =>
                  rw [HI1.out]
                  show l.length - ((m : Int) + 1).toNat < l.length - (m : Int).toNat
                  have := HLT.out; omega
        · obtain rfl : j = l.length := by omega
          have n1 : decide ((l.length : Int) < (l.length : Int)) = false := decide_eq_false (by omega)
          have HWI := Lib.hid (With_any wr g w.heap.size _ l HSR.out.2.2.2 (by have := HNL.out; omega) x y)
          have HMS := Lib.hid (may_snoc (x := x) (y := y) HMA.out)
          obtain ⟨p0, hp0⟩ : ∃ p, l.length = p + 1 := ⟨l.length - 1, by have := HNL.out; omega⟩
          have hpl : p0 < l.length := by omega
          have HAT := Lib.hid (fun W (h : Sit w W M B off c2 g l x y) => h.at p0 hpl)
          have hla : (l.getD (l.length - 1) (0, 0)).2 = (l[p0]'hpl).2 := by rw [hp0, Nat.add_sub_cancel]; simp [hpl]
          rw [hla] at HMS
          generalize (l[p0]'hpl).1 = sg at *
          generalize (l[p0]'hpl).2 = sf at *
          have HPW := Lib.hid (show wrap64 ((l.length : Int) - 1) = (p0 : Int) from (IntWalk.wrap64_in _ ⟨by have := HNL.out; omega, by have := HNL.out; omega⟩).trans (by omega))
          have HPL := Lib.hid hpl
          clear hp0 hpl hla hj hlt
          obtain ⟨b0, b1, -, -⟩ := HSR.out.cells
          go_wp2_with fail
          refine HWI.out.mono ?_
          rintro e w10 ⟨v10, rfl, ho10, hb⟩
          have HS10 := Lib.hid (HSR.out.over hb)
          have HW10 := Lib.hid hb.size
          clear b0 b1 c0 c1 hb
          by_cases hmay : mayM g (l ++ [(x, y)]) = true
          · have HM5 := Lib.hid (HMS.out.1 hmay)
            rw [if_pos hmay] at ho10 ⊢
            have HLN := Lib.hid (show (l ++ [(x, y)]).length = l.length + 1 by simp)
            obtain ⟨A7, c7, hv, -, -, -, -⟩ := ho10.row
            rw [HLN.out] at hv
            subst hv
            have HO10 : Hid (OwnE w10 wr.heap.size (.slice A7 (l ++ [(x, y)]).length c7) (l ++ [(x, y)])) := Lib.hid (by rw [HLN.out]; exact ho10)
            clear ho10 hmay
            obtain ⟨hb6, hm6⟩ := mnew w10 (.int .i64 g) (.slice A7 (l.length + 1) c7)
            obtain ⟨V6, hV6⟩ : ∃ W, w10.alloc (.cells #[.int .i64 0, .slice none 0 0] 25) = W := ⟨_, rfl⟩
            have ha6 : V6.heap[w10.heap.size]? = some (.cells #[.int .i64 0, .slice none 0 0] 25 (0, 0)) := by rw [← hV6]; exact heap_alloc_new w10 _
            rw [hV6] at hb6 hm6
            obtain ⟨qa6, qb6, qc6, qd6, d06, d16, -⟩ := mset ha6 (.int .i64 g) (.slice A7 (l.length + 1) c7)
            obtain ⟨U6, hU6⟩ : ∃ W, (V6.setCell ⟨w10.heap.size, 0, none⟩ (.int .i64 g)).setCell ⟨w10.heap.size, 1, none⟩ (.slice A7 (l.length + 1) c7) = W := ⟨_, rfl⟩
            rw [hU6] at hb6 hm6 d06 d16
            clear ha6
            have HS11 := Lib.hid (HS10.out.over hb6)
            have HB6 := Lib.hid hm6
            have HO6 : Hid (OwnE U6 wr.heap.size (.slice A7 (l ++ [(x, y)]).length c7) (l ++ [(x, y)])) := Lib.hid (HO10.out.below hb6)
            obtain ⟨e0, e1, c0, c1⟩ := HS11.out.cells
            obtain ⟨-, d1⟩ := HAT.out _ HS11.out
            have hpw := HPW.out
            have g3 : (0 : Int) ≤ (p0 : Int) := by omega
            have g4 : (p0 : Int) < (l.length : Int) := by have := HPL.out; omega
            have HF11 := Lib.hid HS11.out.1
            have HFB : Hid (∀ W, Below U6.heap.size U6 W → Calls Tryz.prog 41 #[.agg #[.int .i64 g, .slice A7 (l.length + 1) c7], .int .i64 q] W fun e w' => ∃ v, e = .returned v ∧ (v = .int .i64 (fdI (l ++ [(x, y)]) q) ∧ Below W.heap.size W w')) := Lib.hid (fun W hb => by
              have ho := HO6.out.below hb
              have := Find_any W g A7 c7 (l ++ [(x, y)]) (by have := HNL.out; rw [List.length_append]; unfold maxLen; simp; omega) (own_rowE ho) (fun a ha => by
                subst ha; obtain ⟨b2, o2, e2, hlt2, -⟩ := own_rowE ho 0 (by simp)
                injection e2 with e2; rw [e2]; exact hlt2) q
              rw [HLN.out] at this
              exact this.mono (fun e w' h => ⟨_, h.1, rfl, h.2⟩))
            rw [HFK.out] at HFB
            have HDW := Lib.hid (show Below U6.heap.size U6 U6.drew from (Below.refl _ _).drew)
            clear hb6 hm6
            obtain ⟨h1, h2, h3, h4, h5⟩ := HM5.out
            have j1 : decide (0 ≤ x) = true := decide_eq_true h1
            have j2 : decide (x ≤ g) = true := decide_eq_true h2
            have j3 : decide (sf < y) = true := decide_eq_true h3
            have j4 : decide (y ≤ 1048576) = true := decide_eq_true h4
            have j5 : decide ((l.length : Int) < 64) = true := decide_eq_true (by omega)
            have j6 : decide (l.length < 64) = true := decide_eq_true h5
            clear h1 h2 h3 h4 h5
            by_cases hq : y ≤ q
            · have j7 : decide (y ≤ q) = true := decide_eq_true hq
              simp only [if_pos hq] at HFB
              clear hq
              go_wp2_with fail
              go_region_law (refine step_call (f := 41) (args := #[.agg #[.int .i64 g, .slice A7 (l.length + 1) c7], .int .i64 q]) (by rfl) (by go_simp) (HFB.out _ (by first | exact Below.refl _ _ | exact HDW.out)) ?_; rintro u w12 ⟨rfl, hb12⟩; (have hs12 : Below U6.heap.size U6 w12 := by first | exact hb12 | exact HDW.out.trans (hb12.mono HDW.out.size)); (obtain ⟨-, -, z0, z1⟩ := (HS11.out.over hs12).cells); (have HF12 := Lib.hid (HS11.out.over hs12).1); clear hb12)
              all_goals
                go_wp2_with fail
                go_ret
                exact ⟨by first | rfl | simp, HF12.out⟩
            · have j7 : decide (y ≤ q) = false := decide_eq_false hq
              simp only [if_neg hq] at HFB
              clear hq
              go_wp2_with fail
              refine (HFB.out _ (Below.refl _ _)).mono ?_
              rintro e w12 ⟨u, rfl, rfl, hb12⟩
              have hs12 : Below U6.heap.size U6 w12 := hb12
              obtain ⟨-, -, z0, z1⟩ := (HS11.out.over hs12).cells
              have hm12 := (hb12.block _ (row_lt HB6.out)).trans HB6.out
              have y0 : w12.cell? ⟨w10.heap.size, 0, none⟩ = some (.int .i64 g) := cell_row hm12 0
              have y1 : w12.cell? ⟨w10.heap.size, 1, none⟩ = some (.slice A7 (l.length + 1) c7) := cell_row hm12 1
              have HF12 := Lib.hid (HS11.out.over hs12).1
              have hn1 : wrap64 ((l.length : Int) + 1) = (l.length : Int) + 1 := IntWalk.wrap64_in _ ⟨by omega, by have := HNL.out; omega⟩
              clear c0 c1 hb12 hs12 hm12
              go_wp2_with fail
              go_ret
              exact ⟨by first | rfl | simp, HF12.out⟩
          · have HM5 := Lib.hid (fun h => hmay (HMS.out.2 h))
            rw [if_neg hmay] at ho10 ⊢
            obtain ⟨A7, c7, hv, -, -, -, -⟩ := ho10.row
            change v10 = .slice A7 0 c7 at hv
            subst hv
            clear ho10 hmay
            obtain ⟨hb6, hm6⟩ := mnew w10 (.int .i64 0) (.slice A7 0 c7)
            obtain ⟨V6, hV6⟩ : ∃ W, w10.alloc (.cells #[.int .i64 0, .slice none 0 0] 25) = W := ⟨_, rfl⟩
            have ha6 : V6.heap[w10.heap.size]? = some (.cells #[.int .i64 0, .slice none 0 0] 25 (0, 0)) := by rw [← hV6]; exact heap_alloc_new w10 _
            rw [hV6] at hb6 hm6
            obtain ⟨qa6, qb6, qc6, qd6, d06, d16, -⟩ := mset ha6 (.int .i64 0) (.slice A7 0 c7)
            obtain ⟨U6, hU6⟩ : ∃ W, (V6.setCell ⟨w10.heap.size, 0, none⟩ (.int .i64 0)).setCell ⟨w10.heap.size, 1, none⟩ (.slice A7 0 c7) = W := ⟨_, rfl⟩
            rw [hU6] at hb6 hm6 d06 d16
            clear ha6
            have HS11 := Lib.hid (HS10.out.over hb6)
            obtain ⟨e0, e1, c0, c1⟩ := HS11.out.cells
            obtain ⟨-, d1⟩ := HAT.out _ HS11.out
            have hpw := HPW.out
            have g3 : (0 : Int) ≤ (p0 : Int) := by omega
            have g4 : (p0 : Int) < (l.length : Int) := by have := HPL.out; omega
            have HF11 := Lib.hid HS11.out.1
            clear hb6 hm6
            by_cases h1 : 0 ≤ x
            · have j1 : decide (0 ≤ x) = true := decide_eq_true h1
              by_cases h2 : x ≤ g
              · have j2 : decide (x ≤ g) = true := decide_eq_true h2
                by_cases h3 : sf < y
                · have j3 : decide (sf < y) = true := decide_eq_true h3
                  by_cases h4 : y ≤ 1048576
                  · have j4 : decide (y ≤ 1048576) = true := decide_eq_true h4
                    have h5 : ¬ l.length < 64 := fun h5 => HM5.out ⟨h1, h2, h3, h4, h5⟩
                    have j5 : decide ((l.length : Int) < 64) = false := decide_eq_false (by omega)
                    have j6 : decide (l.length < 64) = false := decide_eq_false h5
                    clear h1 h2 h3 h4 h5
                    go_wp2_with fail
                    go_ret
                    exact ⟨rfl, HF11.out⟩
                  · have j4 : decide (y ≤ 1048576) = false := decide_eq_false h4
                    clear h1 h2 h3 h4
                    go_wp2_with fail
                    go_ret
                    exact ⟨rfl, HF11.out⟩
                · have j3 : decide (sf < y) = false := decide_eq_false h3
                  clear h1 h2 h3
                  go_wp2_with fail
                  go_ret
                  exact ⟨rfl, HF11.out⟩
              · have j2 : decide (x ≤ g) = false := decide_eq_false h2
                clear h1 h2
                go_wp2_with fail
                go_ret
                exact ⟨rfl, HF11.out⟩
            · have j1 : decide (0 ≤ x) = false := decide_eq_false h1
              clear h1
              go_wp2_with fail
              go_ret
              exact ⟨rfl, HF11.out⟩
  · obtain rfl : kk = -1 := by omega
    have h4 := hf4 0 (by omega) (by omega)
    rw [hgd 0 (by omega)] at h4
    obtain ⟨-, d2⟩ := HS7.out.at 0 (by omega)
    have k4 : decide ((0 : Int) < (l.length : Int)) = true := decide_eq_true hn1
    have k5 : decide ((l[0]'(by omega)).2 ≤ q) = false := decide_eq_false (by omega)
    generalize (l[0]'(by omega)).2 = s1 at *
    clear hf1 hf2 hf3 hf4 hgd h4 hz
    go_wp2_with fail
    try clear k1
    try clear k2
    try clear k3
    try clear k4
    try clear k5
    try clear k6
    try clear k7
    try clear kz
    try clear g0
    try clear g2
    try clear hw1
    try clear hm1
    try clear d1
    try clear d2
    try clear hn1
    try clear HKK
    clear c0 c1
    refine (HNM.out w7 (HE.out.p.over HS7.out.1) HS7.out.2.2.2).mono ?_
    rintro e w8 ⟨v8, rfl, ho, hb⟩
    have HS8 := Lib.hid (HS7.out.over hb)
    rw [show nmR g l = nmL l from if_pos HMA.out] at ho
    obtain ⟨A3, c3, rfl, -, -, hr3⟩ := ho.row
    obtain ⟨C, rfl, -, -, -, -⟩ := hr3 0 (by rw [nmL_len]; have := HNL.out; omega)
    rw [nmL_len] at ho ⊢
    have HO8 := Lib.hid ho
    clear hb ho hr3
    obtain ⟨-, -, c0, c1⟩ := HS8.out.cells
    have HW7 := Lib.hid HS7.out.1.size
    clear HS7
    go_wp2_with fail
    clear c0 c1
    go_loopw [10] (fun z wr => ∃ j : Nat, j ≤ l.length ∧ z = .int .i64 (j : Int) ∧ Hid (Sit w wr M B off c2 g l x y) ∧ Hid (OwnS wr w7.heap.size (.slice (some ⟨C, 0, none⟩) l.length c3) (nmL l))) (fun z _ => l.length - (intOf z).toNat)
    case atStart => exact ⟨0, Nat.zero_le _, rfl, HS8, HO8⟩
    case round =>
      clear HS8 HO8
      obtain ⟨j, hj, rfl, HSR, HOR⟩ := hrel
      obtain ⟨-, -, c0, c1⟩ := HSR.out.cells
      by_cases hlt : j < l.length
      · as_aux_lemma =>
          have n1 : decide ((j : Int) < (l.length : Int)) = true := decide_eq_true (by omega)
          have n2 : decide (j < l.length) = true := decide_eq_true hlt
          have n3 : (0 : Int) ≤ (j : Int) := by omega
          have n4 : (j : Int) < (l.length : Int) := by omega
          have HI1 := Lib.hid (show wrap64 ((j : Int) + 1) = (j : Int) + 1 from IntWalk.wrap64_in _ ⟨by omega, by have := HNL.out; omega⟩)
          have s1 := str_at HOR.out j (by rw [nmL_len]; exact hlt)
          rw [nm_at l j hlt] at s1
          have HNE : Hid (∀ m (hm : m < j), S (nameE (l[m]'(by omega)).1 (l[m]'(by omega)).2) ≠ S (nameE (l[j]'hlt).1 (l[j]'hlt).2)) := Lib.hid (fun m hm => names_ne HMA.out m j hm hlt)
          have HND : Hid (∀ W, Env W → Calls Tryz.prog 42 #[.string (S (nameE (l[j]'hlt).1 (l[j]'hlt).2))] W fun e w' => e = .returned (.tuple #[.int .i64 (l[j]'hlt).1, .int .i64 (l[j]'hlt).2, .bool true]) ∧ Below W.heap.size W w') := Lib.hid (fun W EW => by
            have := Seg.Named_any (S (nameE (l[j]'hlt).1 (l[j]'hlt).2)) (by rw [S_size]; unfold nameE; split <;> simp [Seg.nameL_length]) W EW
            rw [S_data, may_named HMA.out j hlt] at this
            exact this)
          obtain ⟨d0, d1⟩ := HSR.out.at j hlt
          have HDC := Lib.hid (fun W (h : Sit w W M B off c2 g l x y) => h.at j hlt)
          obtain ⟨nj, hnj⟩ : ∃ nj, S (nameE (l[j]'hlt).1 (l[j]'hlt).2) = nj := ⟨_, rfl⟩
          rw [hnj] at s1 HND HNE
          have HSJ : Hid (∀ W, OwnS W w7.heap.size (.slice (some ⟨C, 0, none⟩) l.length c3) (nmL l) → W.cell? ⟨C, j, none⟩ = some (.string nj)) := Lib.hid (fun W h => by
            have := str_at h j (by rw [nmL_len]; exact hlt)
            rw [nm_at l j hlt, hnj] at this; exact this)
          generalize (l[j]'hlt).1 = gj at *
          generalize (l[j]'hlt).2 = fj at *
          have HLT := Lib.hid hlt
          clear hnj d0 d1
          go_wp2_with fail
          refine (HND.out wr (HE.out.over HSR.out.1)).mono ?_
          rintro e w9 ⟨rfl, hb⟩
          have HS9 := Lib.hid (HSR.out.over hb)
          have HO9 := Lib.hid (HOR.out.below hb)
          clear c0 c1 s1 hb
          obtain ⟨-, -, c0, c1⟩ := HS9.out.cells
          obtain ⟨d0, d1⟩ := HDC.out w9 HS9.out
          go_wp2_with fail
          clear c0 c1 d0 d1
          go_loopw [14] (fun z wr2 => ∃ m : Nat, m ≤ j ∧ z = .int .i64 (m : Int) ∧ Hid (Sit w wr2 M B off c2 g l x y) ∧ Hid (OwnS wr2 w7.heap.size (.slice (some ⟨C, 0, none⟩) l.length c3) (nmL l))) (fun z _ => j - (intOf z).toNat)
          case atStart => exact ⟨0, Nat.zero_le _, rfl, HS9, HO9⟩
          case round =>
            clear HS9 HO9
            obtain ⟨m, hm, rfl, HSM, HOM⟩ := hrel
            by_cases hmj : m < j
            · have m1 : decide ((m : Int) < (j : Int)) = true := decide_eq_true (by omega)
              have m2 : decide (m < j) = true := decide_eq_true hmj
              have m3 : (0 : Int) ≤ (m : Int) := by omega
              have m4 : (m : Int) < (l.length : Int) := by omega
              have s1 := HSJ.out wr HOM.out
              have s2 := str_at HOM.out m (by rw [nmL_len]; omega)
              rw [nm_at l m (by omega)] at s2
              have hne := HNE.out m hmj
              have hml : m < l.length := by omega
              generalize S (nameE (l[m]'hml).1 (l[m]'hml).2) = nm at *
              have k9 : (nm.toList == nj.toList) = false := str_diff hne
              have HMJ := Lib.hid hmj
              have HI2 := Lib.hid (show wrap64 ((m : Int) + 1) = (m : Int) + 1 from IntWalk.wrap64_in _ ⟨by omega, by have := HNL.out; omega⟩)
              clear hne hmj
              go_wp2_with fail
              go_region
              go_wp2_with fail
              go_roundw
              case rel => exact ⟨m + 1, HMJ.out, by rw [HI2.out]; rfl, Lib.hid (HSM.out.over (Below.refl _ _).drew), Lib.hid (HOM.out.below (Below.refl _ _).drew)⟩
              case measure =>
                rw [HI2.out]
                show j - ((m : Int) + 1).toNat < j - (m : Int).toNat
                have := HMJ.out; omega
            · obtain rfl : m = j := by omega
              have m1 : decide ((m : Int) < (m : Int)) = false := decide_eq_false (by omega)
              go_wp2_with fail
              go_roundw
              case rel => exact ⟨m + 1, HLT.out, by rw [HI1.out]; rfl, HSM, HOM⟩
              case measure =>
                rw [HI1.out]
                show l.length - ((m : Int) + 1).toNat < l.length - (m : Int).toNat
                have := HLT.out; omega
      · obtain rfl : j = l.length := by omega
        have n1 : decide ((l.length : Int) < (l.length : Int)) = false := decide_eq_false (by omega)
        have HWI := Lib.hid (With_any wr g w.heap.size _ l HSR.out.2.2.2 (by have := HNL.out; omega) x y)
        have HMS := Lib.hid (may_snoc (x := x) (y := y) HMA.out)
        obtain ⟨p0, hp0⟩ : ∃ p, l.length = p + 1 := ⟨l.length - 1, by have := HNL.out; omega⟩
        have hpl : p0 < l.length := by omega
        have HAT := Lib.hid (fun W (h : Sit w W M B off c2 g l x y) => h.at p0 hpl)
        have hla : (l.getD (l.length - 1) (0, 0)).2 = (l[p0]'hpl).2 := by rw [hp0, Nat.add_sub_cancel]; simp [hpl]
        rw [hla] at HMS
        generalize (l[p0]'hpl).1 = sg at *
        generalize (l[p0]'hpl).2 = sf at *
        have HPW := Lib.hid (show wrap64 ((l.length : Int) - 1) = (p0 : Int) from (IntWalk.wrap64_in _ ⟨by have := HNL.out; omega, by have := HNL.out; omega⟩).trans (by omega))
        have HPL := Lib.hid hpl
        clear hp0 hpl hla hj hlt
        obtain ⟨b0, b1, -, -⟩ := HSR.out.cells
        go_wp2_with fail
        refine HWI.out.mono ?_
        rintro e w10 ⟨v10, rfl, ho10, hb⟩
        have HS10 := Lib.hid (HSR.out.over hb)
        have HW10 := Lib.hid hb.size
        clear b0 b1 c0 c1 hb
        by_cases hmay : mayM g (l ++ [(x, y)]) = true
        · have HM5 := Lib.hid (HMS.out.1 hmay)
          rw [if_pos hmay] at ho10 ⊢
          have HLN := Lib.hid (show (l ++ [(x, y)]).length = l.length + 1 by simp)
          obtain ⟨A7, c7, hv, -, -, -, -⟩ := ho10.row
          rw [HLN.out] at hv
          subst hv
          have HO10 : Hid (OwnE w10 wr.heap.size (.slice A7 (l ++ [(x, y)]).length c7) (l ++ [(x, y)])) := Lib.hid (by rw [HLN.out]; exact ho10)
          clear ho10 hmay
          obtain ⟨hb6, hm6⟩ := mnew w10 (.int .i64 g) (.slice A7 (l.length + 1) c7)
          obtain ⟨V6, hV6⟩ : ∃ W, w10.alloc (.cells #[.int .i64 0, .slice none 0 0] 25) = W := ⟨_, rfl⟩
          have ha6 : V6.heap[w10.heap.size]? = some (.cells #[.int .i64 0, .slice none 0 0] 25 (0, 0)) := by rw [← hV6]; exact heap_alloc_new w10 _
          rw [hV6] at hb6 hm6
          obtain ⟨qa6, qb6, qc6, qd6, d06, d16, -⟩ := mset ha6 (.int .i64 g) (.slice A7 (l.length + 1) c7)
          obtain ⟨U6, hU6⟩ : ∃ W, (V6.setCell ⟨w10.heap.size, 0, none⟩ (.int .i64 g)).setCell ⟨w10.heap.size, 1, none⟩ (.slice A7 (l.length + 1) c7) = W := ⟨_, rfl⟩
          rw [hU6] at hb6 hm6 d06 d16
          clear ha6
          have HS11 := Lib.hid (HS10.out.over hb6)
          have HB6 := Lib.hid hm6
          have HO6 : Hid (OwnE U6 wr.heap.size (.slice A7 (l ++ [(x, y)]).length c7) (l ++ [(x, y)])) := Lib.hid (HO10.out.below hb6)
          obtain ⟨e0, e1, c0, c1⟩ := HS11.out.cells
          obtain ⟨-, d1⟩ := HAT.out _ HS11.out
          have hpw := HPW.out
          have g3 : (0 : Int) ≤ (p0 : Int) := by omega
          have g4 : (p0 : Int) < (l.length : Int) := by have := HPL.out; omega
          have HF11 := Lib.hid HS11.out.1
          have HFB : Hid (∀ W, Below U6.heap.size U6 W → Calls Tryz.prog 41 #[.agg #[.int .i64 g, .slice A7 (l.length + 1) c7], .int .i64 q] W fun e w' => ∃ v, e = .returned v ∧ (v = .int .i64 (fdI (l ++ [(x, y)]) q) ∧ Below W.heap.size W w')) := Lib.hid (fun W hb => by
            have ho := HO6.out.below hb
            have := Find_any W g A7 c7 (l ++ [(x, y)]) (by have := HNL.out; rw [List.length_append]; unfold maxLen; simp; omega) (own_rowE ho) (fun a ha => by
              subst ha; obtain ⟨b2, o2, e2, hlt2, -⟩ := own_rowE ho 0 (by simp)
              injection e2 with e2; rw [e2]; exact hlt2) q
            rw [HLN.out] at this
            exact this.mono (fun e w' h => ⟨_, h.1, rfl, h.2⟩))
          rw [HFK.out] at HFB
          have HDW := Lib.hid (show Below U6.heap.size U6 U6.drew from (Below.refl _ _).drew)
          clear hb6 hm6
          obtain ⟨h1, h2, h3, h4, h5⟩ := HM5.out
          have j1 : decide (0 ≤ x) = true := decide_eq_true h1
          have j2 : decide (x ≤ g) = true := decide_eq_true h2
          have j3 : decide (sf < y) = true := decide_eq_true h3
          have j4 : decide (y ≤ 1048576) = true := decide_eq_true h4
          have j5 : decide ((l.length : Int) < 64) = true := decide_eq_true (by omega)
          have j6 : decide (l.length < 64) = true := decide_eq_true h5
          clear h1 h2 h3 h4 h5
          by_cases hq : y ≤ q
          · have j7 : decide (y ≤ q) = true := decide_eq_true hq
            simp only [if_pos hq] at HFB
            clear hq
            go_wp2_with fail
            go_region_law (refine step_call (f := 41) (args := #[.agg #[.int .i64 g, .slice A7 (l.length + 1) c7], .int .i64 q]) (by rfl) (by go_simp) (HFB.out _ (by first | exact Below.refl _ _ | exact HDW.out)) ?_; rintro u w12 ⟨rfl, hb12⟩; (have hs12 : Below U6.heap.size U6 w12 := by first | exact hb12 | exact HDW.out.trans (hb12.mono HDW.out.size)); (obtain ⟨-, -, z0, z1⟩ := (HS11.out.over hs12).cells); (have HF12 := Lib.hid (HS11.out.over hs12).1); clear hb12)
            all_goals
              go_wp2_with fail
              go_ret
              exact ⟨by first | rfl | simp, HF12.out⟩
          · have j7 : decide (y ≤ q) = false := decide_eq_false hq
            simp only [if_neg hq] at HFB
            clear hq
            go_wp2_with fail
            refine (HFB.out _ (Below.refl _ _)).mono ?_
            rintro e w12 ⟨u, rfl, rfl, hb12⟩
            have hs12 : Below U6.heap.size U6 w12 := hb12
            obtain ⟨-, -, z0, z1⟩ := (HS11.out.over hs12).cells
            have hm12 := (hb12.block _ (row_lt HB6.out)).trans HB6.out
            have y0 : w12.cell? ⟨w10.heap.size, 0, none⟩ = some (.int .i64 g) := cell_row hm12 0
            have y1 : w12.cell? ⟨w10.heap.size, 1, none⟩ = some (.slice A7 (l.length + 1) c7) := cell_row hm12 1
            have HF12 := Lib.hid (HS11.out.over hs12).1
            have hn1 : wrap64 ((l.length : Int) + 1) = (l.length : Int) + 1 := IntWalk.wrap64_in _ ⟨by omega, by have := HNL.out; omega⟩
            clear c0 c1 hb12 hs12 hm12
            go_wp2_with fail
            go_ret
            exact ⟨by first | rfl | simp, HF12.out⟩
        · have HM5 := Lib.hid (fun h => hmay (HMS.out.2 h))
          rw [if_neg hmay] at ho10 ⊢
          obtain ⟨A7, c7, hv, -, -, -, -⟩ := ho10.row
          change v10 = .slice A7 0 c7 at hv
          subst hv
          clear ho10 hmay
          obtain ⟨hb6, hm6⟩ := mnew w10 (.int .i64 0) (.slice A7 0 c7)
          obtain ⟨V6, hV6⟩ : ∃ W, w10.alloc (.cells #[.int .i64 0, .slice none 0 0] 25) = W := ⟨_, rfl⟩
          have ha6 : V6.heap[w10.heap.size]? = some (.cells #[.int .i64 0, .slice none 0 0] 25 (0, 0)) := by rw [← hV6]; exact heap_alloc_new w10 _
          rw [hV6] at hb6 hm6
          obtain ⟨qa6, qb6, qc6, qd6, d06, d16, -⟩ := mset ha6 (.int .i64 0) (.slice A7 0 c7)
          obtain ⟨U6, hU6⟩ : ∃ W, (V6.setCell ⟨w10.heap.size, 0, none⟩ (.int .i64 0)).setCell ⟨w10.heap.size, 1, none⟩ (.slice A7 0 c7) = W := ⟨_, rfl⟩
          rw [hU6] at hb6 hm6 d06 d16
          clear ha6
          have HS11 := Lib.hid (HS10.out.over hb6)
          obtain ⟨e0, e1, c0, c1⟩ := HS11.out.cells
          obtain ⟨-, d1⟩ := HAT.out _ HS11.out
          have hpw := HPW.out
          have g3 : (0 : Int) ≤ (p0 : Int) := by omega
          have g4 : (p0 : Int) < (l.length : Int) := by have := HPL.out; omega
          have HF11 := Lib.hid HS11.out.1
          clear hb6 hm6
          by_cases h1 : 0 ≤ x
          · have j1 : decide (0 ≤ x) = true := decide_eq_true h1
            by_cases h2 : x ≤ g
            · have j2 : decide (x ≤ g) = true := decide_eq_true h2
              by_cases h3 : sf < y
              · have j3 : decide (sf < y) = true := decide_eq_true h3
                by_cases h4 : y ≤ 1048576
                · have j4 : decide (y ≤ 1048576) = true := decide_eq_true h4
                  have h5 : ¬ l.length < 64 := fun h5 => HM5.out ⟨h1, h2, h3, h4, h5⟩
                  have j5 : decide ((l.length : Int) < 64) = false := decide_eq_false (by omega)
                  have j6 : decide (l.length < 64) = false := decide_eq_false h5
                  clear h1 h2 h3 h4 h5
                  go_wp2_with fail
                  go_ret
                  exact ⟨rfl, HF11.out⟩
                · have j4 : decide (y ≤ 1048576) = false := decide_eq_false h4
                  clear h1 h2 h3 h4
                  go_wp2_with fail
                  go_ret
                  exact ⟨rfl, HF11.out⟩
              · have j3 : decide (sf < y) = false := decide_eq_false h3
                clear h1 h2 h3
                go_wp2_with fail
                go_ret
                exact ⟨rfl, HF11.out⟩
            · have j2 : decide (x ≤ g) = false := decide_eq_false h2
              clear h1 h2
              go_wp2_with fail
              go_ret
              exact ⟨rfl, HF11.out⟩
          · have j1 : decide (0 ≤ x) = false := decide_eq_false h1
            clear h1
            go_wp2_with fail
            go_ret
            exact ⟨rfl, HF11.out⟩
end Go.Proofs.YticfnfekkmkclaaGreatDoor.Manif
