/-
  The walk of the examples.
-/
import Derived.Test.YtfklkainbkffnaaDoorE15
namespace Go.Proofs.YtfklkainbkffnaaDoor.Schema
open Go Go.RowKit

theorem two64 (x y : Int) (h : (-9223372036854775808 ≤ x ∧ x ≤ 9223372036854775807) ∧ (-9223372036854775808 ≤ y ∧ y ≤ 9223372036854775807)) : Fits64 [x, y] := fun z hz => by
  rcases List.mem_cons.1 hz with rfl | hz
  · exact h.1
  · rcases List.mem_cons.1 hz with rfl | hz
    · exact h.2
    · cases hz
theorem str_self (a : ByteArray) : (a.toList == a.toList) = true := by simp
theorem two_cells (w : World) (a b : Value) (T : TypeId) : (w.alloc (.cells #[a, b] T)).cell? ⟨w.heap.size, 0, none⟩ = some a ∧ (w.alloc (.cells #[a, b] T)).cell? ⟨w.heap.size, 1, none⟩ = some b := by
  have h : ∀ j, (w.alloc (.cells #[a, b] T)).cell? ⟨w.heap.size, j, none⟩ = #[a, b][j]? := fun j => by
    unfold World.cell?
    rw [show (w.alloc _).heap[(⟨w.heap.size, j, none⟩ : Addr).block]? = _ from (MapKept.heap_alloc w _).1]
    rfl
  exact ⟨h 0, h 1⟩
theorem below_alloc {Y W : World} (h : Below Y.heap.size Y W) (o : Obj) : Below Y.heap.size Y (W.alloc o) := below_step h ((Below.refl _ _).alloc (Nat.le_refl _) _)

set_option maxRecDepth 100000 in
set_option maxHeartbeats 1000000 in
theorem awake_any (w : World) (E : Env w) : Calls Tryd.prog 11 #[] w fun e w' => e = .returned (.bool true) ∧ Below w.heap.size w w' := by
  have HE := Lib.hid E
  clear E
  go_enter Tryd.func11, Tryd.ntmps11
  go_wp2_with fail
  refine (aw_f1 HE.out).mono ?_; rintro e w1 ⟨g1, c1, rfl, q1, hb1⟩
  have HB1 := Lib.hid hb1
  have HQ1 := Lib.hid q1
  clear hb1 q1
  go_wp2_with fail
  refine (aw_f2 (HE.out.below HB1.out)).mono ?_; rintro e w2 ⟨g2, c2, rfl, q2, hb2⟩
  have HB2 := Lib.hid (below_step HB1.out hb2)
  have HQ1b := Lib.hid (cell_kept HQ1.out hb2)
  have HQ2 := Lib.hid q2
  clear hb2 q2 HQ1
  go_wp2_with fail
  refine (aw_f3 (HE.out.below HB2.out)).mono ?_; rintro e w3 ⟨v3, rfl, hb3⟩
  have HB3 := Lib.hid (below_step HB2.out hb3)
  have HQ1c := Lib.hid (cell_kept HQ1b.out hb3)
  have HQ2c := Lib.hid (cell_kept HQ2.out hb3)
  clear hb3 HQ1b HQ2
  go_wp2_with fail
  refine (aw_b (HE.out.below HB3.out)).mono ?_; rintro e w4 ⟨rfl, hb4⟩
  have HB4 := Lib.hid (below_step HB3.out hb4)
  have HQ1d := Lib.hid (cell_kept HQ1c.out hb4)
  have HQ2d := Lib.hid (cell_kept HQ2c.out hb4)
  clear hb4 HQ1c HQ2c
  go_wp2_with fail
  refine (aw_c (HE.out.below HB4.out)).mono ?_; rintro e w5 ⟨g5, c5, rfl, q5, hb5⟩
  have HB5 := Lib.hid (below_step HB4.out hb5)
  have p1 := cell_kept HQ1d.out hb5
  have p2 := cell_kept HQ2d.out hb5
  have HQ5 := Lib.hid q5
  clear hb5 HQ1d HQ2d q5
  have HE5 := Lib.hid (HE.out.below HB5.out)
  have s1 := str_self ⟨#[102, 101, 101, 32, 115, 101, 116]⟩
  have s2 := str_self ⟨#[112, 108, 97, 99, 101]⟩
  go_wp2_with fail
  refine (aw_n HE5.out).mono ?_; rintro e w5' ⟨rfl, rfl⟩
  have HBw5 := Lib.hid HB5.out
  have HPw5 := Lib.hid HQ5.out
  clear HB5 HQ5
  go_wp2_with fail
  have t1 := two_cells w5 (.int .i64 64) (.int .i64 1) 2
  refine (event_any 6 (by decide) _ _ _ _).mono ?_; rintro e wa1 ⟨rfl, hb⟩
  have HA1 := Lib.hid (below_step (below_alloc HBw5.out _) hb)
  have T1 := Lib.hid (And.intro (cell_kept t1.1 hb) (cell_kept t1.2 hb))
  have P5 := Lib.hid (cell_kept (cell_kept HPw5.out ((Below.refl _ _).alloc (Nat.le_refl _) _)) hb)
  clear hb t1
  go_wp2_with fail
  refine (aw_m (HE.out.below HA1.out) _ 64 1 true aw_m1 (two64 _ _ (by decide)) T1.out.1 T1.out.2).mono ?_; rintro e wm1 ⟨rfl, hb⟩
  have HBwm1 := Lib.hid (below_step HA1.out hb)
  have HPwm1 := Lib.hid (cell_kept P5.out hb)
  clear hb HA1 T1 P5 HBw5 HPw5
  go_wp2_with fail
  have t2 := two_cells wm1 (.int .i64 65) (.int .i64 1) 2
  refine (event_any 6 (by decide) _ _ _ _).mono ?_; rintro e wa2 ⟨rfl, hb⟩
  have HA2 := Lib.hid (below_step (below_alloc HBwm1.out _) hb)
  have T2 := Lib.hid (And.intro (cell_kept t2.1 hb) (cell_kept t2.2 hb))
  have P5 := Lib.hid (cell_kept (cell_kept HPwm1.out ((Below.refl _ _).alloc (Nat.le_refl _) _)) hb)
  clear hb t2
  go_wp2_with fail
  refine (aw_m (HE.out.below HA2.out) _ 65 1 false aw_m2 (two64 _ _ (by decide)) T2.out.1 T2.out.2).mono ?_; rintro e wm2 ⟨rfl, hb⟩
  have HBwm2 := Lib.hid (below_step HA2.out hb)
  have HPwm2 := Lib.hid (cell_kept P5.out hb)
  clear hb HA2 T2 P5 HBwm1 HPwm1
  go_wp2_with fail
  have t3 := two_cells wm2 (.int .i64 64) (.int .i64 0) 2
  refine (event_any 6 (by decide) _ _ _ _).mono ?_; rintro e wa3 ⟨rfl, hb⟩
  have HA3 := Lib.hid (below_step (below_alloc HBwm2.out _) hb)
  have T3 := Lib.hid (And.intro (cell_kept t3.1 hb) (cell_kept t3.2 hb))
  have P5 := Lib.hid (cell_kept (cell_kept HPwm2.out ((Below.refl _ _).alloc (Nat.le_refl _) _)) hb)
  clear hb t3
  go_wp2_with fail
  refine (aw_m (HE.out.below HA3.out) _ 64 0 false aw_m3 (two64 _ _ (by decide)) T3.out.1 T3.out.2).mono ?_; rintro e wm3 ⟨rfl, hb⟩
  have HBwm3 := Lib.hid (below_step HA3.out hb)
  have HPwm3 := Lib.hid (cell_kept P5.out hb)
  clear hb HA3 T3 P5 HBwm2 HPwm2
  go_wp2_with fail
  refine (aw_mn ⟨#[97, 45, 98, 95, 57]⟩ true (by decide) aw_n1 _).mono ?_; rintro e wn1 ⟨rfl, hb⟩
  have HBwn1 := Lib.hid (below_step HBwm3.out hb)
  have HPwn1 := Lib.hid (cell_kept HPwm3.out hb)
  clear hb HBwm3 HPwm3
  go_wp2_with fail
  refine (aw_mn ⟨#[65]⟩ false (by decide) aw_n2 _).mono ?_; rintro e wn2 ⟨rfl, hb⟩
  have HBwn2 := Lib.hid (below_step HBwn1.out hb)
  have HPwn2 := Lib.hid (cell_kept HPwn1.out hb)
  clear hb HBwn1 HPwn1
  go_wp2_with fail
  refine (aw_mn ⟨#[97, 32, 98]⟩ false (by decide) aw_n3 _).mono ?_; rintro e wn3 ⟨rfl, hb⟩
  have HBwn3 := Lib.hid (below_step HBwn2.out hb)
  have HPwn3 := Lib.hid (cell_kept HPwn2.out hb)
  clear hb HBwn2 HPwn2
  have c5' := HPwn3.out
  go_wp2_with fail
  refine (aw_w (HE.out.below HBwn3.out)).mono ?_; rintro e w9 ⟨rfl, rfl⟩
  go_wp2_with fail
  go_ret
  exact ⟨rfl, HBwn3.out⟩

end Go.Proofs.YtfklkainbkffnaaDoor.Schema
