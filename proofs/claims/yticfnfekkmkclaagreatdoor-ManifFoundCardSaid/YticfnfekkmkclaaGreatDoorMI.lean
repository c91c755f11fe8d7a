import Derived.Test.YticfnfekkmkclaaGreatDoorMF
import Derived.BigQuiet
/-
  Manifests: Same.
-/
namespace Go.Proofs.YticfnfekkmkclaaGreatDoor.Manif
open Go Go.RowKit
open Go.Proofs.YticfnfekkmkclaaGreatDoor.Wire (cell_row row_lt)

theorem below_dn (n m : Nat) (w : World) : Below n w (w.drewN m) := ⟨rfl, rfl, rfl, Nat.le_refl _, fun _ _ => rfl⟩
set_option maxRecDepth 100000 in
set_option maxHeartbeats 2000000 in
/-- **slices.Equal** of segments -/
theorem eqE_any (w : World) (A B : Option Addr) (c1 c2 : Nat) (l m : List (Int × Int)) (hl : l.length ≤ maxLen) (h1 : RowE w A l) (h2 : RowE w B m) :
    Calls Tryz.prog 83 #[.slice A l.length c1, .slice B m.length c2] w fun e w' => e = .returned (.bool (decide (l = m))) ∧ Below w.heap.size w w' := by
  have H1 := Lib.hid h1
  have H2 := Lib.hid h2
  have HL := Lib.hid hl
  clear h1 h2 hl
  by_cases hlen : l.length = m.length
  case neg =>
    have k1 : ((l.length : Int) == (m.length : Int)) = false := beq_eq_false_iff_ne.2 (by omega)
    have k2 : ¬ (l.length : Int) = (m.length : Int) := by omega
    have HV := Lib.hid (show decide (l = m) = false from decide_eq_false (fun e => hlen (by rw [e])))
    go_enter Tryz.func83, Tryz.ntmps83
    go_wp2_with fail
    go_ret
    exact ⟨by rw [HV.out]; rfl, Below.refl _ _⟩
  have HLM := Lib.hid hlen
  obtain ⟨n, hn⟩ : ∃ n, m.length = n := ⟨_, rfl⟩
  have HN := Lib.hid hn
  rw [hn] at hlen
  rw [hlen, hn]
  clear hn hlen
  go_enter Tryz.func83, Tryz.ntmps83
  go_wp2_with fail
  go_loopw [13] (fun y wr => ∃ j : Nat, j ≤ n ∧ y = .int .i64 (j : Int) ∧ Hid (l.take j = m.take j) ∧ Hid (Below w.heap.size w wr)) (fun y _ => n - (intOf y).toNat)
  case atStart => exact ⟨0, Nat.zero_le _, rfl, Lib.hid (by rw [List.take_zero, List.take_zero]), Lib.hid (Below.refl _ _)⟩
  case round =>
    obtain ⟨j, hj, rfl, HT, HB⟩ := hrel
    by_cases hlt : j < n
    · have e1 : decide ((j : Int) < (n : Int)) = true := decide_eq_true (by omega)
      have hjl : j < l.length := by have := HLM.out; have := HN.out; omega
      have hjm : j < m.length := by have := HN.out; omega
      obtain ⟨b1, o1, rfl, -, d0, d1⟩ := H1.out.below HB.out j hjl
      obtain ⟨b2, o2, rfl, -, d2, d3⟩ := H2.out.below HB.out j hjm
      have HLT := Lib.hid hlt
      have HI1 := Lib.hid (show wrap64 ((j : Int) + 1) = (j : Int) + 1 from IntWalk.wrap64_in _ ⟨by omega, by have := HL.out; have := HLM.out; have := HN.out; unfold maxLen at *; omega⟩)
      have T1 := List.take_succ_eq_append_getElem hjl
      have T2 := List.take_succ_eq_append_getElem hjm
      by_cases hq : l[j] = m[j]
      · as_aux_lemma =>
          have HT2 := Lib.hid (show l.take (j + 1) = m.take (j + 1) by rw [T1, T2, HT.out, hq])
          rw [← hq] at d2 d3
          clear T1 T2 hq hj
          generalize (l[j]'hjl).1 = x at *
          generalize (l[j]'hjl).2 = y at *
          go_wp2_with fail
          go_quiet (fail)
          go_wp2_with fail
          clear d0 d1 d2 d3
          go_roundw
          case rel => exact ⟨j + 1, HLT.out, by rw [HI1.out]; rfl, HT2, Lib.hid (HB.out.trans (below_dn _ _ _))⟩
          case measure =>
            rw [HI1.out]
            show n - ((j : Int) + 1).toNat < n - (j : Int).toNat
            have := HLT.out; omega
      · as_aux_lemma =>
          have HV := Lib.hid (show decide (l = m) = false from decide_eq_false (fun e => hq (by subst e; rfl)))
          have hne : ¬ ((l[j]'hjl).1 = (m[j]'hjm).1 ∧ (l[j]'hjl).2 = (m[j]'hjm).2) := fun ⟨a1, a2⟩ => hq (Prod.ext a1 a2)
          clear T1 T2 hq hj
          generalize (l[j]'hjl).1 = x at *
          generalize (l[j]'hjl).2 = y at *
          generalize (m[j]'hjm).1 = x2 at *
          generalize (m[j]'hjm).2 = y2 at *
          by_cases hx : x = x2
          · subst hx
            have hy : ¬ y = y2 := fun e => hne ⟨rfl, e⟩
            have k1 : (y == y2) = false := beq_eq_false_iff_ne.2 hy
            go_wp2_with fail
            go_quiet (fail)
            go_wp2_with fail
            go_ret
            exact ⟨by rw [HV.out]; rfl, HB.out.trans (below_dn _ _ _)⟩
          · have k1 : (x == x2) = false := beq_eq_false_iff_ne.2 hx
            go_wp2_with fail
            go_quiet (fail)
            go_wp2_with fail
            go_ret
            exact ⟨by rw [HV.out]; rfl, HB.out.trans (below_dn _ _ _)⟩
    · as_aux_lemma =>
        have e1 : decide ((j : Int) < (n : Int)) = false := decide_eq_false (by omega)
        have HV := Lib.hid (show decide (l = m) = true from decide_eq_true (by
          have h := HT.out
          rw [List.take_of_length_le (by have := HLM.out; have := HN.out; omega), List.take_of_length_le (by have := HN.out; omega)] at h
          exact h))
        clear hj
        go_wp2_with fail
        go_ret
        exact ⟨by rw [HV.out]; rfl, HB.out⟩
set_option maxRecDepth 100000 in
set_option maxHeartbeats 2000000 in
/-- **Same** -/
theorem Same_any (w : World) (g h : Int) (A B : Option Addr) (c1 c2 : Nat) (l m : List (Int × Int)) (hl : l.length ≤ maxLen) (h1 : RowE w A l) (h2 : RowE w B m) :
    Calls Tryz.prog 34 #[.agg #[.int .i64 g, .slice A l.length c1], .agg #[.int .i64 h, .slice B m.length c2]] w fun e w' => e = .returned (.bool (decide (g = h ∧ l = m))) ∧ Below w.heap.size w w' := by
  obtain ⟨w0, hw0⟩ : ∃ w0, (w.alloc (.cells #[.int .i64 g, .slice A l.length c1] 25)).alloc (.cells #[.int .i64 h, .slice B m.length c2] 25) = w0 := ⟨_, rfl⟩
  have e1 : (w.alloc (.cells #[.int .i64 g, .slice A l.length c1] 25)).heap.size = w.heap.size + 1 := by simp
  have hb0 : Below w.heap.size w w0 := by rw [← hw0]; exact ((Below.refl _ _).alloc (Nat.le_refl _) _).alloc (by simp) _
  have a0 : w0.heap[w.heap.size]? = some (.cells #[.int .i64 g, .slice A l.length c1] 25 (0, 0)) := by
    rw [← hw0]
    exact (Below.heap_alloc _ _ _ (by rw [e1]; omega)).trans (heap_alloc_new w _)
  have a1 : w0.heap[w.heap.size + 1]? = some (.cells #[.int .i64 h, .slice B m.length c2] 25 (0, 0)) := by
    rw [← hw0, ← e1]; exact heap_alloc_new _ _
  have c00 : w0.cell? ⟨w.heap.size, 0, none⟩ = some (.int .i64 g) := cell_row a0 0
  have c01 : w0.cell? ⟨w.heap.size, 1, none⟩ = some (.slice A l.length c1) := cell_row a0 1
  have c10 : w0.cell? ⟨w.heap.size + 1, 0, none⟩ = some (.int .i64 h) := cell_row a1 0
  have c11 : w0.cell? ⟨w.heap.size + 1, 1, none⟩ = some (.slice B m.length c2) := cell_row a1 1
  have HE := Lib.hid (eqE_any w0 A B c1 c2 l m hl (h1.below hb0) (h2.below hb0))
  have HB0 := Lib.hid hb0
  have HW0 := Lib.hid hw0
  clear a0 a1 e1 hb0 h1 h2 hl
  by_cases hg : g = h
  · subst hg
    have HV := Lib.hid (show decide (g = g ∧ l = m) = decide (l = m) from decide_eq_decide.2 ⟨fun h => h.2, fun h => ⟨rfl, h⟩⟩)
    go_enter Tryz.func34, Tryz.ntmps34
    go_wp2_with fail
    refine HE.out.mono ?_
    rintro e w1 ⟨rfl, hb⟩
    have HB1 := Lib.hid (HB0.out.trans (hb.mono HB0.out.size))
    clear hb hw0 c00 c01 c10 c11
    go_wp2_with fail
    go_ret
    exact ⟨by first | (rw [HV.out]; done) | simp | (simp [HV.out]), HB1.out⟩
  · have HV := Lib.hid (show decide (g = h ∧ l = m) = false from decide_eq_false (fun e => hg e.1))
    have k1 : (g == h) = false := beq_eq_false_iff_ne.2 hg
    go_enter Tryz.func34, Tryz.ntmps34
    go_wp2_with fail
    go_ret
    exact ⟨by rw [HV.out]; rfl, by first | exact HB0.out | (rw [HW0.out]; exact HB0.out)⟩
end Go.Proofs.YticfnfekkmkclaaGreatDoor.Manif

/-
  The laws' own example of a manifest.
-/
namespace Go.Proofs.YticfnfekkmkclaaGreatDoor.Manif
open Go Go.RowKit
open Go.Proofs.YticfnfekkmkclaaGreatDoor.Wire (cell_row frozen_row row_lt heap_set)

def exL : List (Int × Int) := [(1, 0), (2, 7)]
set_option maxRecDepth 100000 in
theorem example_any (w : World) : Calls Tryz.prog 43 #[] w fun e w' => ∃ b, e = .returned (.agg #[.int .i64 2, .slice (some ⟨b, 0, none⟩) 2 2]) ∧ RowE w' (some ⟨b, 0, none⟩) exL ∧ Below w.heap.size w w' := by
  obtain ⟨w1, hw1⟩ : ∃ w1, (w.alloc (.cells #[.int .i64 0, .slice none 0 0] 25)).alloc (.cells #[.int .i64 1, .int .i64 0, .int .i64 2, .int .i64 7] 27) = w1 := ⟨_, rfl⟩
  have e1 : (w.alloc (.cells #[.int .i64 0, .slice none 0 0] 25)).heap.size = w.heap.size + 1 := by simp
  have hb1 : Below w.heap.size w w1 := by rw [← hw1]; exact ((Below.refl _ _).alloc (Nat.le_refl _) _).alloc (by simp) _
  have a0 : w1.heap[w.heap.size]? = some (.cells #[.int .i64 0, .slice none 0 0] 25 (0, 0)) := by
    rw [← hw1]
    exact (Below.heap_alloc _ _ _ (by rw [e1]; omega)).trans (heap_alloc_new w _)
  have a1 : w1.heap[w.heap.size + 1]? = some (.cells #[.int .i64 1, .int .i64 0, .int .i64 2, .int .i64 7] 27 (0, 0)) := by
    rw [← hw1, ← e1]; exact heap_alloc_new _ _
  have h5 := heap_set a0 0 (.int .i64 2)
  have h6 := heap_set h5 1 (.slice (some ⟨w.heap.size + 1, 0, none⟩) 2 2)
  have b0 : w1.cell? ⟨w.heap.size, 0, none⟩ = some (.int .i64 0) := cell_row a0 0
  have f0 := frozen_row a0 0
  have b1 : (w1.setCell ⟨w.heap.size, 0, none⟩ (.int .i64 2)).cell? ⟨w.heap.size, 1, none⟩ = some (.slice none 0 0) := cell_row h5 1
  have f1 := frozen_row h5 1
  have d0 : ((w1.setCell ⟨w.heap.size, 0, none⟩ (.int .i64 2)).setCell ⟨w.heap.size, 1, none⟩ (.slice (some ⟨w.heap.size + 1, 0, none⟩) 2 2)).cell? ⟨w.heap.size, 0, none⟩ = some (.int .i64 2) := cell_row h6 0
  have d1 : ((w1.setCell ⟨w.heap.size, 0, none⟩ (.int .i64 2)).setCell ⟨w.heap.size, 1, none⟩ (.slice (some ⟨w.heap.size + 1, 0, none⟩) 2 2)).cell? ⟨w.heap.size, 1, none⟩ = some (.slice (some ⟨w.heap.size + 1, 0, none⟩) 2 2) := cell_row h6 1
  have HR : Hid (RowE ((w1.setCell ⟨w.heap.size, 0, none⟩ (.int .i64 2)).setCell ⟨w.heap.size, 1, none⟩ (.slice (some ⟨w.heap.size + 1, 0, none⟩) 2 2)) (some ⟨w.heap.size + 1, 0, none⟩) exL) := Lib.hid (by
    have a2 : ((w1.setCell ⟨w.heap.size, 0, none⟩ (.int .i64 2)).setCell ⟨w.heap.size, 1, none⟩ (.slice (some ⟨w.heap.size + 1, 0, none⟩) 2 2)).heap[w.heap.size + 1]? = some (.cells #[.int .i64 1, .int .i64 0, .int .i64 2, .int .i64 7] 27 (0, 0)) :=
      (Below.heap_setCell _ _ _ _ (by show w.heap.size + 1 ≠ w.heap.size; omega)).trans ((Below.heap_setCell _ _ _ _ (by show w.heap.size + 1 ≠ w.heap.size; omega)).trans a1)
    intro k hk
    refine ⟨w.heap.size + 1, 0, rfl, row_lt a2, ?_, ?_⟩
    · rw [cell_row a2]
      have h2 : k < 2 := hk
      match k, h2 with
      | 0, _ => rfl
      | 1, _ => rfl
    · rw [cell_row a2]
      have h2 : k < 2 := hk
      match k, h2 with
      | 0, _ => rfl
      | 1, _ => rfl)
  have HB := Lib.hid ((hb1.setCell (p := ⟨w.heap.size, 0, none⟩) (Nat.le_refl _) (.int .i64 2)).setCell (p := ⟨w.heap.size, 1, none⟩) (Nat.le_refl _) (.slice (some ⟨w.heap.size + 1, 0, none⟩) 2 2))
  clear h5 h6 a0 a1 e1 hb1
  go_enter Tryz.func43, Tryz.ntmps43
  go_wp2_with fail
  refine bodyPost_ret (v := .agg #[.int .i64 2, .slice (some ⟨w.heap.size + 1, 0, none⟩) 2 2]) (by simp [results, Tryz.results43, go_sem, d0, d1]) rfl ⟨w.heap.size + 1, rfl, HR.out, HB.out⟩
end Go.Proofs.YticfnfekkmkclaaGreatDoor.Manif
