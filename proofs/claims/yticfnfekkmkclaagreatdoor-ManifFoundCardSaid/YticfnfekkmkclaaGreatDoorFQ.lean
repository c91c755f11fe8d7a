import Derived.Test.YticfnfekkmkclaaGreatDoorAX
import Derived.Test.YticfnfekkmkclaaGreatDoorGV
import Derived.Test.YticfnfekkmkclaaGreatDoorMT
/-
  ManifFound of too many segments, and of what is no manifest.
-/
namespace Go.Proofs.YticfnfekkmkclaaGreatDoor.Manif
open Go Go.RowKit
open Go.Proofs.YticfnfekkmkclaaGreatDoor.Wire (S S_list S_size cell_row frozen_row row_lt heap_set heap_far)
open Go.Proofs.YticfnfekkmkclaaGreatDoor.Seg (Env EnvP OwnS)

set_option maxRecDepth 100000 in
set_option maxHeartbeats 4000000 in
theorem found_many (w : World) (g : Int) (A : Option Addr) (cap : Nat) (l : List (Int × Int)) (x y q : Int) (hl : 100 < l.length) (E : Env w) :
    Calls Tryz.prog 8 #[.agg #[.int .i64 g, .slice A l.length cap], .agg #[.int .i64 x, .int .i64 y], .int .i64 q] w fun e w' => e = .returned (.bool true) ∧ Below w.heap.size w w' := by
  obtain ⟨w0, hw0⟩ : ∃ w0, (w.alloc (.cells #[.int .i64 g, .slice A l.length cap] 47)).alloc (.cells #[.int .i64 x, .int .i64 y] 80) = w0 := ⟨_, rfl⟩
  have e1 : (w.alloc (.cells #[.int .i64 g, .slice A l.length cap] 47)).heap.size = w.heap.size + 1 := by simp
  have hb0 : Below w.heap.size w w0 := by rw [← hw0]; exact ((Below.refl _ w).alloc (Nat.le_refl _) _).alloc (by simp) _
  have hm0 : w0.heap[w.heap.size]? = some (.cells #[.int .i64 g, .slice A l.length cap] 47 (0, 0)) := by
    rw [← hw0]; exact (Below.heap_alloc _ _ _ (by rw [e1]; omega)).trans (heap_alloc_new w _)
  have HAW := Lib.hid (awake_any w0 (E.p.over hb0))
  have c1 : w0.cell? ⟨w.heap.size, 1, none⟩ = some (.slice A l.length cap) := cell_row hm0 1
  have HB0 := Lib.hid hb0
  have HM0 := Lib.hid hm0
  have HE := Lib.hid E
  have k1 : decide (100 < (l.length : Int)) = true := decide_eq_true (by omega)
  have k3 : decide (100 < l.length) = true := decide_eq_true hl
  clear hb0 hm0 hl E e1
  go_enter Tryz.func8, Tryz.ntmps8
  go_wp2_with fail
  refine HAW.out.mono ?_
  rintro e w1 ⟨rfl, hb⟩
  have HB1 := Lib.hid (HB0.out.trans (hb.mono HB0.out.size))
  clear hb
  go_wp2_with fail
  go_ret
  exact ⟨rfl, HB1.out⟩
set_option maxRecDepth 100000 in
set_option maxHeartbeats 8000000 in
theorem found_not (w : World) (g : Int) (A : Option Addr) (cap : Nat) (l : List (Int × Int)) (x y q : Int) (hx : RowE w A l) (hl : ¬ 100 < l.length) (hm : mayM g l = false) (E : Env w) :
    Calls Tryz.prog 8 #[.agg #[.int .i64 g, .slice A l.length cap], .agg #[.int .i64 x, .int .i64 y], .int .i64 q] w fun e w' => e = .returned (.bool true) ∧ Below w.heap.size w w' := by
  obtain ⟨w0, hw0⟩ : ∃ w0, (w.alloc (.cells #[.int .i64 g, .slice A l.length cap] 47)).alloc (.cells #[.int .i64 x, .int .i64 y] 80) = w0 := ⟨_, rfl⟩
  have e1 : (w.alloc (.cells #[.int .i64 g, .slice A l.length cap] 47)).heap.size = w.heap.size + 1 := by simp
  have hb0 : Below w.heap.size w w0 := by rw [← hw0]; exact ((Below.refl _ w).alloc (Nat.le_refl _) _).alloc (by simp) _
  have hm0 : w0.heap[w.heap.size]? = some (.cells #[.int .i64 g, .slice A l.length cap] 47 (0, 0)) := by
    rw [← hw0]; exact (Below.heap_alloc _ _ _ (by rw [e1]; omega)).trans (heap_alloc_new w _)
  have HAW := Lib.hid (awake_any w0 (E.p.over hb0))
  have c1 : w0.cell? ⟨w.heap.size, 1, none⟩ = some (.slice A l.length cap) := cell_row hm0 1
  have HB0 := Lib.hid hb0
  have HM0 := Lib.hid hm0
  have HE := Lib.hid E
  have k1 : decide (100 < (l.length : Int)) = false := decide_eq_false (by omega)
  have k3 : decide (100 < l.length) = false := decide_eq_false hl
  have HX := Lib.hid hx
  have HL := Lib.hid hl
  have HMA := Lib.hid hm
  clear hb0 hm0 hx hl hm E e1
  go_enter Tryz.func8, Tryz.ntmps8
  go_wp2_with fail
  refine HAW.out.mono ?_
  rintro e w1 ⟨rfl, hb⟩
  have HB1 := Lib.hid (HB0.out.trans (hb.mono HB0.out.size))
  have hm1 := (hb.block _ (row_lt HM0.out)).trans HM0.out
  have c0 : w1.cell? ⟨w.heap.size, 0, none⟩ = some (.int .i64 g) := cell_row hm1 0
  clear c1
  have c1 : w1.cell? ⟨w.heap.size, 1, none⟩ = some (.slice A l.length cap) := cell_row hm1 1
  clear hb hm1 k1 k3 hw0
  go_wp2_with fail
  refine (given_any w1 g A cap l (by have := HL.out; omega) (HX.out.below HB1.out)).mono ?_
  rintro e w2 ⟨v2, rfl, ho, hb⟩
  have HB2 := Lib.hid (HB1.out.trans (hb.mono HB1.out.size))
  obtain ⟨A2, c2, rfl, -, -, hr2, -⟩ := ho.row
  have HR2 := Lib.hid hr2
  clear hb ho c0 c1 hr2
  obtain ⟨hb5, hm5⟩ := mnew w2 (.int .i64 g) (.slice A2 l.length c2)
  obtain ⟨V5, hV5⟩ : ∃ W, w2.alloc (.cells #[.int .i64 0, .slice none 0 0] 25) = W := ⟨_, rfl⟩
  have ha5 : V5.heap[w2.heap.size]? = some (.cells #[.int .i64 0, .slice none 0 0] 25 (0, 0)) := by rw [← hV5]; exact heap_alloc_new w2 _
  rw [hV5] at hb5 hm5
  obtain ⟨qa5, qb5, qc5, qd5, d05, d15, -⟩ := mset ha5 (.int .i64 g) (.slice A2 l.length c2)
  obtain ⟨U5, hU5⟩ : ∃ W, (V5.setCell ⟨w2.heap.size, 0, none⟩ (.int .i64 g)).setCell ⟨w2.heap.size, 1, none⟩ (.slice A2 l.length c2) = W := ⟨_, rfl⟩
  rw [hU5] at hb5 hm5 d05 d15
  clear ha5
  have HB5 := Lib.hid (HB2.out.trans (hb5.mono HB2.out.size))
  have HN5 := Lib.hid hm5
  have HR5 := Lib.hid (HR2.out.below hb5)
  have HLM := Lib.hid (show l.length ≤ maxLen by have := HL.out; unfold maxLen; omega)
  have HMY := Lib.hid (May_any U5 g A2 c2 l HLM.out HR5.out)
  rw [HMA.out] at HMY
  clear hb5 hm5
  go_wp2_with fail
  refine HMY.out.mono ?_
  rintro e w6 ⟨rfl, hb⟩
  have HB6 := Lib.hid (HB5.out.trans (hb.mono HB5.out.size))
  have hn6 := (hb.block _ (row_lt HN5.out)).trans HN5.out
  have HNM := Lib.hid (Names_any w6 (HE.out.p.over HB6.out) g A2 c2 l HLM.out (HR5.out.below hb))
  have c0 : w6.cell? ⟨w2.heap.size, 0, none⟩ = some (.int .i64 g) := cell_row hn6 0
  have c1 : w6.cell? ⟨w2.heap.size, 1, none⟩ = some (.slice A2 l.length c2) := cell_row hn6 1
  clear hb hn6 hU5 hV5 qa5 qb5 qc5 qd5 d05 d15
  go_wp2_with fail
  refine HNM.out.mono ?_
  rintro e w7 ⟨v7, rfl, ho, hb⟩
  rw [show nmR g l = [] by unfold nmR; rw [HMA.out]; rfl] at ho
  obtain ⟨A7, c7, hv, -, -, -⟩ := ho.row
  change v7 = .slice A7 0 c7 at hv
  subst hv
  have HB7 := Lib.hid (HB6.out.trans (hb.mono HB6.out.size))
  clear ho hb
  go_wp2_with fail
  go_ret
  exact ⟨rfl, HB7.out⟩
end Go.Proofs.YticfnfekkmkclaaGreatDoor.Manif
