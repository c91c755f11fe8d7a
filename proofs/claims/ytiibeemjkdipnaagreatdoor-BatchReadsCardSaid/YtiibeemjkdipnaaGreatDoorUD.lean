import Derived.Deep.DeepCutAuto
import Derived.BigCall
import Derived.BigQuiet
import Derived.Deep.QuietTactic
import Derived.Deep.RegionWith
import Derived.Deep.RegionHeld3
import Derived.RegionTactic
import Derived.ChangeAlike
import Derived.Test.YtiibeemjkdipnaaGreatDoorE22
import Derived.Test.YtiibeemjkdipnaaGreatDoorEF
import Derived.Laws.MakeOwn
import Derived.StillTailTactics
/-
  How a kind goes from a version to the next one: kept, added, Rules.
-/
namespace Go.Proofs.YtiibeemjkdipnaaGreatDoor.Upcast
open Go Go.RowKit
open Go.Proofs.YtiibeemjkdipnaaGreatDoor.Schema

/-- where a field comes from -/
structure Ru where
  fr : Int
  ti : Int
  pl : Int
def keptR (v c j : Nat) : Ru := ⟨(j : Int), if v = 1 ∧ (c = 109 ∨ c = 122 ∨ c = 112 ∨ c = 107 ∨ c = 98) then 100 else if v = 2 ∧ c = 116 then 10 else 1, if v = 2 ∧ c = 115 then 1 else 0⟩
def addedR (c : Nat) : Ru := ⟨-1, 0, if c = 107 ∨ c = 109 then 100 else 0⟩
def ruC (r : Ru) : List Value := [.int .i64 r.fr, .int .i64 r.ti, .int .i64 r.pl]
def ruV (r : Ru) : Value := .agg #[.int .i64 r.fr, .int .i64 r.ti, .int .i64 r.pl]
def stepU (v : Nat) (former : ByteArray) (c : Nat) (st : Nat × List Ru) : Nat × List Ru := if st.1 < former.size ∧ byteAt former st.1 = c then (st.1 + 1, st.2 ++ [keptR v c st.1]) else (st.1, st.2 ++ [addedR c])
def foldU (v : Nat) (former next : ByteArray) (n : Nat) : Nat × List Ru := (List.range n).foldl (fun st j => stepU v former (byteAt next j) st) (0, [])
theorem foldU_succ (v : Nat) (former next : ByteArray) (n : Nat) : foldU v former next (n + 1) = stepU v former (byteAt next n) (foldU v former next n) := by unfold foldU; rw [List.range_succ, List.foldl_append]; rfl
def rulesL (v k : Nat) : List Ru := (foldU v (lets v k) (lets (v + 1) k) (lets (v + 1) k).size).2
def goes (v k : Nat) : Bool := tall v k && tall ((v + 1) % 256) k
theorem foldU_len (v : Nat) (former next : ByteArray) (n : Nat) : (foldU v former next n).2.length = n := by
  induction n with
  | zero => rfl
  | succ n ih =>
    rw [foldU_succ]
    unfold stepU
    split
    · simp [ih]
    · simp [ih]
theorem foldU_fr (v : Nat) (former next : ByteArray) (n : Nat) : (foldU v former next n).1 ≤ n := by
  induction n with
  | zero => exact Nat.le_refl _
  | succ n ih =>
    rw [foldU_succ]
    unfold stepU
    split
    · simp only []; omega
    · simp only []; omega

/-! ### three cells -/
def Tri (w : World) (b : Nat) (a0 a1 a2 : Value) : Prop := w.cell? ⟨b, 0, none⟩ = some a0 ∧ w.cell? ⟨b, 1, none⟩ = some a1 ∧ w.cell? ⟨b, 2, none⟩ = some a2
theorem Tri.below {w w' : World} {b : Nat} {a0 a1 a2 : Value} (h : Tri w b a0 a1 a2) (hb : Below w.heap.size w w') : Tri w' b a0 a1 a2 := ⟨cell_kept h.1 hb, cell_kept h.2.1 hb, cell_kept h.2.2 hb⟩
theorem Tri.touch {lo hi : Nat} {w w' : World} {b : Nat} {a0 a1 a2 : Value} (h : Tri w b a0 a1 a2) (g : Schema.Touch lo hi w w') (ho : b < lo ∨ hi ≤ b) : Tri w' b a0 a1 a2 := ⟨cell_touch h.1 g ho, cell_touch h.2.1 g ho, cell_touch h.2.2 g ho⟩
theorem Tri.set0 {w : World} {b : Nat} {a0 a1 a2 : Value} (h : Tri w b a0 a1 a2) (x : Value) : Tri (w.setCell ⟨b, 0, none⟩ x) b x a1 a2 := ⟨World.cell?_setCell_same _ _ _ h.1, (World.cell?_setCell_other _ _ _ _ (by simp)).trans h.2.1, (World.cell?_setCell_other _ _ _ _ (by simp)).trans h.2.2⟩
theorem Tri.set1 {w : World} {b : Nat} {a0 a1 a2 : Value} (h : Tri w b a0 a1 a2) (x : Value) : Tri (w.setCell ⟨b, 1, none⟩ x) b a0 x a2 := ⟨(World.cell?_setCell_other _ _ _ _ (by simp)).trans h.1, World.cell?_setCell_same _ _ _ h.2.1, (World.cell?_setCell_other _ _ _ _ (by simp)).trans h.2.2⟩
theorem Tri.set2 {w : World} {b : Nat} {a0 a1 a2 : Value} (h : Tri w b a0 a1 a2) (x : Value) : Tri (w.setCell ⟨b, 2, none⟩ x) b a0 a1 x := ⟨(World.cell?_setCell_other _ _ _ _ (by simp)).trans h.1, (World.cell?_setCell_other _ _ _ _ (by simp)).trans h.2.1, World.cell?_setCell_same _ _ _ h.2.2⟩
theorem tri_new (w : World) (a b c : Value) (T : TypeId) : Tri (w.alloc (.cells #[a, b, c] T)) w.heap.size a b c := by
  have h : ∀ j, (w.alloc (.cells #[a, b, c] T)).cell? ⟨w.heap.size, j, none⟩ = #[a, b, c][j]? := fun j => by
    unfold World.cell?
    rw [show (w.alloc _).heap[(⟨w.heap.size, j, none⟩ : Addr).block]? = _ from (MapKept.heap_alloc w _).1]
    rfl
  exact ⟨h 0, h 1, h 2⟩
theorem touch3 (W : World) (b : Nat) (x0 x1 x2 : Value) : Schema.Touch b (b + 1) W (((W.setCell ⟨b, 0, none⟩ x0).setCell ⟨b, 1, none⟩ x1).setCell ⟨b, 2, none⟩ x2) := ((Schema.Touch.set W b 0 x0).trans (Schema.Touch.set _ b 1 x1)).trans (Schema.Touch.set _ b 2 x2)

set_option maxRecDepth 100000 in
set_option maxHeartbeats 4000000 in
theorem kept_any (v c j : Nat) (w : World) :
    Calls Tryz.prog 108 #[.int .u8 (v : Int), .int .u8 (c : Int), .int .i64 (j : Int)] w fun z w' => z = .returned (ruV (keptR v c j)) ∧ Below w.heap.size w w' := by
  have HX := Lib.hid (show keptR v c j = keptR v c j from rfl)
  clear HX
  have hb1 := (Below.refl w.heap.size w).alloc (Nat.le_refl _) (.cells #[.int .i64 0, .int .i64 0, .int .i64 0] 136)
  have hs1 : (w.alloc (.cells #[.int .i64 0, .int .i64 0, .int .i64 0] 136)).heap.size = w.heap.size + 1 := by simp
  have hb2 := (Below.refl (w.alloc (.cells #[.int .i64 0, .int .i64 0, .int .i64 0] 136)).heap.size (w.alloc (.cells #[.int .i64 0, .int .i64 0, .int .i64 0] 136))).alloc (Nat.le_refl _) (.cells #[.int .i64 (j : Int), .int .i64 1, .int .i64 0] 136)
  have hq := tri_new (w.alloc (.cells #[.int .i64 0, .int .i64 0, .int .i64 0] 136)) (.int .i64 (j : Int)) (.int .i64 1) (.int .i64 0) 136
  rw [hs1] at hq
  have HQ := Lib.hid hq
  have HP := Lib.hid ((tri_new w (.int .i64 0) (.int .i64 0) (.int .i64 0) 136).below hb2)
  have HPF := Lib.hid ((free_new w #[.int .i64 0, .int .i64 0, .int .i64 0] 136).below hb2)
  have hqf := free_new (w.alloc (.cells #[.int .i64 0, .int .i64 0, .int .i64 0] 136)) #[.int .i64 (j : Int), .int .i64 1, .int .i64 0] 136
  rw [hs1] at hqf
  have HQF := Lib.hid hqf
  have HB := Lib.hid (below_step hb1 hb2)
  clear hb1 hb2 hs1 hq hqf
  go_enter Tryz.func108, Tryz.ntmps108
  go_upto_region 2 with (fail)
  generalize hW : (w.alloc (.cells #[.int .i64 0, .int .i64 0, .int .i64 0] 136)).alloc (.cells #[.int .i64 (j : Int), .int .i64 1, .int .i64 0] 136) = W at HP HPF HQ HQF HB ⊢
  clear hW
  by_cases c109 : c = 109
  · subst c109
    by_cases hv1 : v = 1
    · subst hv1
      obtain ⟨x0, x1, x2⟩ := HQ.out
      have f1 := HQF.out.2 1
      have f2 := HQF.out.2 2
      go_upto_region 16 with (fail)
      clear x0 x1 x2 f1 f2
      have ht := Schema.Touch.set W (w.heap.size + 1) 1 (.int .i64 100)
      replace HQ := Lib.hid (HQ.out.set1 (.int .i64 100))
      replace HP := Lib.hid (HP.out.touch ht (Or.inl (by omega)))
      replace HPF := Lib.hid (HPF.out.touch ht (Or.inl (by omega)))
      replace HB := Lib.hid (Touch.step HB.out ht (by omega))
      clear ht
      generalize W.setCell ⟨w.heap.size + 1, 1, none⟩ (.int .i64 100) = W2 at HP HPF HQ HB ⊢
      have hr : keptR 1 109 j = ⟨(j : Int), 100, 0⟩ := by
        unfold keptR
        simp []
      have HRR := Lib.hid hr
      clear hr
      obtain ⟨x0, x1, x2⟩ := HQ.out
      obtain ⟨p0, p1, p2⟩ := HP.out
      have f0 := HPF.out.2 0
      have f1 := HPF.out.2 1
      have f2 := HPF.out.2 2
      go_wp2_with fail
      clear x0 x1 x2 p0 p1 p2 f0 f1 f2
      have hp := HP.out.set0 (.int .i64 (j : Int)) |>.set1 (.int .i64 100) |>.set2 (.int .i64 0)
      obtain ⟨d0, d1, d2⟩ := hp
      exact bodyPost_ret (v := .agg #[.int .i64 (j : Int), .int .i64 100, .int .i64 0]) (by simp [results, Tryz.results108, go_sem, d0, d1, d2]) rfl ⟨by rw [HRR.out]; rfl, HB.out.trans ((touch3 W2 w.heap.size (.int .i64 (j : Int)) (.int .i64 100) (.int .i64 0)).below (Nat.le_refl _) HB.out.size)⟩
    by_cases hv2 : v = 2
    · subst hv2
      have hr : keptR 2 109 j = ⟨(j : Int), 1, 0⟩ := by
        unfold keptR
        simp []
      have HRR := Lib.hid hr
      clear hr
      obtain ⟨x0, x1, x2⟩ := HQ.out
      obtain ⟨p0, p1, p2⟩ := HP.out
      have f0 := HPF.out.2 0
      have f1 := HPF.out.2 1
      have f2 := HPF.out.2 2
      go_wp2_with fail
      clear x0 x1 x2 p0 p1 p2 f0 f1 f2
      have hp := HP.out.set0 (.int .i64 (j : Int)) |>.set1 (.int .i64 1) |>.set2 (.int .i64 0)
      obtain ⟨d0, d1, d2⟩ := hp
      exact bodyPost_ret (v := .agg #[.int .i64 (j : Int), .int .i64 1, .int .i64 0]) (by simp [results, Tryz.results108, go_sem, d0, d1, d2]) rfl ⟨by rw [HRR.out]; rfl, HB.out.trans ((touch3 W w.heap.size (.int .i64 (j : Int)) (.int .i64 1) (.int .i64 0)).below (Nat.le_refl _) HB.out.size)⟩
    have e1 : ((v : Int) == 1) = false := beq_eq_false_iff_ne.2 (by omega)
    have e2 : ((v : Int) == 2) = false := beq_eq_false_iff_ne.2 (by omega)
    have e3 : (v == 1) = false := beq_eq_false_iff_ne.2 hv1
    have e4 : (v == 2) = false := beq_eq_false_iff_ne.2 hv2
    have hr : keptR v 109 j = ⟨(j : Int), 1, 0⟩ := by
      unfold keptR
      simp [hv1, hv2]
    have HRR := Lib.hid hr
    clear hr hv1 hv2
    obtain ⟨x0, x1, x2⟩ := HQ.out
    obtain ⟨p0, p1, p2⟩ := HP.out
    have f0 := HPF.out.2 0
    have f1 := HPF.out.2 1
    have f2 := HPF.out.2 2
    go_wp2_with fail
    clear x0 x1 x2 p0 p1 p2 f0 f1 f2
    have hp := HP.out.set0 (.int .i64 (j : Int)) |>.set1 (.int .i64 1) |>.set2 (.int .i64 0)
    obtain ⟨d0, d1, d2⟩ := hp
    exact bodyPost_ret (v := .agg #[.int .i64 (j : Int), .int .i64 1, .int .i64 0]) (by simp [results, Tryz.results108, go_sem, d0, d1, d2]) rfl ⟨by rw [HRR.out]; rfl, HB.out.trans ((touch3 W w.heap.size (.int .i64 (j : Int)) (.int .i64 1) (.int .i64 0)).below (Nat.le_refl _) HB.out.size)⟩
  by_cases c122 : c = 122
  · subst c122
    by_cases hv1 : v = 1
    · subst hv1
      obtain ⟨x0, x1, x2⟩ := HQ.out
      have f1 := HQF.out.2 1
      have f2 := HQF.out.2 2
      go_upto_region 16 with (fail)
      clear x0 x1 x2 f1 f2
      have ht := Schema.Touch.set W (w.heap.size + 1) 1 (.int .i64 100)
      replace HQ := Lib.hid (HQ.out.set1 (.int .i64 100))
      replace HP := Lib.hid (HP.out.touch ht (Or.inl (by omega)))
      replace HPF := Lib.hid (HPF.out.touch ht (Or.inl (by omega)))
      replace HB := Lib.hid (Touch.step HB.out ht (by omega))
      clear ht
      generalize W.setCell ⟨w.heap.size + 1, 1, none⟩ (.int .i64 100) = W2 at HP HPF HQ HB ⊢
      have hr : keptR 1 122 j = ⟨(j : Int), 100, 0⟩ := by
        unfold keptR
        simp []
      have HRR := Lib.hid hr
      clear hr
      obtain ⟨x0, x1, x2⟩ := HQ.out
      obtain ⟨p0, p1, p2⟩ := HP.out
      have f0 := HPF.out.2 0
      have f1 := HPF.out.2 1
      have f2 := HPF.out.2 2
      go_wp2_with fail
      clear x0 x1 x2 p0 p1 p2 f0 f1 f2
      have hp := HP.out.set0 (.int .i64 (j : Int)) |>.set1 (.int .i64 100) |>.set2 (.int .i64 0)
      obtain ⟨d0, d1, d2⟩ := hp
      exact bodyPost_ret (v := .agg #[.int .i64 (j : Int), .int .i64 100, .int .i64 0]) (by simp [results, Tryz.results108, go_sem, d0, d1, d2]) rfl ⟨by rw [HRR.out]; rfl, HB.out.trans ((touch3 W2 w.heap.size (.int .i64 (j : Int)) (.int .i64 100) (.int .i64 0)).below (Nat.le_refl _) HB.out.size)⟩
    by_cases hv2 : v = 2
    · subst hv2
      have hr : keptR 2 122 j = ⟨(j : Int), 1, 0⟩ := by
        unfold keptR
        simp []
      have HRR := Lib.hid hr
      clear hr
      obtain ⟨x0, x1, x2⟩ := HQ.out
      obtain ⟨p0, p1, p2⟩ := HP.out
      have f0 := HPF.out.2 0
      have f1 := HPF.out.2 1
      have f2 := HPF.out.2 2
      go_wp2_with fail
      clear x0 x1 x2 p0 p1 p2 f0 f1 f2
      have hp := HP.out.set0 (.int .i64 (j : Int)) |>.set1 (.int .i64 1) |>.set2 (.int .i64 0)
      obtain ⟨d0, d1, d2⟩ := hp
      exact bodyPost_ret (v := .agg #[.int .i64 (j : Int), .int .i64 1, .int .i64 0]) (by simp [results, Tryz.results108, go_sem, d0, d1, d2]) rfl ⟨by rw [HRR.out]; rfl, HB.out.trans ((touch3 W w.heap.size (.int .i64 (j : Int)) (.int .i64 1) (.int .i64 0)).below (Nat.le_refl _) HB.out.size)⟩
    have e1 : ((v : Int) == 1) = false := beq_eq_false_iff_ne.2 (by omega)
    have e2 : ((v : Int) == 2) = false := beq_eq_false_iff_ne.2 (by omega)
    have e3 : (v == 1) = false := beq_eq_false_iff_ne.2 hv1
    have e4 : (v == 2) = false := beq_eq_false_iff_ne.2 hv2
    have hr : keptR v 122 j = ⟨(j : Int), 1, 0⟩ := by
      unfold keptR
      simp [hv1, hv2]
    have HRR := Lib.hid hr
    clear hr hv1 hv2
    obtain ⟨x0, x1, x2⟩ := HQ.out
    obtain ⟨p0, p1, p2⟩ := HP.out
    have f0 := HPF.out.2 0
    have f1 := HPF.out.2 1
    have f2 := HPF.out.2 2
    go_wp2_with fail
    clear x0 x1 x2 p0 p1 p2 f0 f1 f2
    have hp := HP.out.set0 (.int .i64 (j : Int)) |>.set1 (.int .i64 1) |>.set2 (.int .i64 0)
    obtain ⟨d0, d1, d2⟩ := hp
    exact bodyPost_ret (v := .agg #[.int .i64 (j : Int), .int .i64 1, .int .i64 0]) (by simp [results, Tryz.results108, go_sem, d0, d1, d2]) rfl ⟨by rw [HRR.out]; rfl, HB.out.trans ((touch3 W w.heap.size (.int .i64 (j : Int)) (.int .i64 1) (.int .i64 0)).below (Nat.le_refl _) HB.out.size)⟩
  by_cases c112 : c = 112
  · subst c112
    by_cases hv1 : v = 1
    · subst hv1
      obtain ⟨x0, x1, x2⟩ := HQ.out
      have f1 := HQF.out.2 1
      have f2 := HQF.out.2 2
      go_upto_region 16 with (fail)
      clear x0 x1 x2 f1 f2
      have ht := Schema.Touch.set W (w.heap.size + 1) 1 (.int .i64 100)
      replace HQ := Lib.hid (HQ.out.set1 (.int .i64 100))
      replace HP := Lib.hid (HP.out.touch ht (Or.inl (by omega)))
      replace HPF := Lib.hid (HPF.out.touch ht (Or.inl (by omega)))
      replace HB := Lib.hid (Touch.step HB.out ht (by omega))
      clear ht
      generalize W.setCell ⟨w.heap.size + 1, 1, none⟩ (.int .i64 100) = W2 at HP HPF HQ HB ⊢
      have hr : keptR 1 112 j = ⟨(j : Int), 100, 0⟩ := by
        unfold keptR
        simp []
      have HRR := Lib.hid hr
      clear hr
      obtain ⟨x0, x1, x2⟩ := HQ.out
      obtain ⟨p0, p1, p2⟩ := HP.out
      have f0 := HPF.out.2 0
      have f1 := HPF.out.2 1
      have f2 := HPF.out.2 2
      go_wp2_with fail
      clear x0 x1 x2 p0 p1 p2 f0 f1 f2
      have hp := HP.out.set0 (.int .i64 (j : Int)) |>.set1 (.int .i64 100) |>.set2 (.int .i64 0)
      obtain ⟨d0, d1, d2⟩ := hp
      exact bodyPost_ret (v := .agg #[.int .i64 (j : Int), .int .i64 100, .int .i64 0]) (by simp [results, Tryz.results108, go_sem, d0, d1, d2]) rfl ⟨by rw [HRR.out]; rfl, HB.out.trans ((touch3 W2 w.heap.size (.int .i64 (j : Int)) (.int .i64 100) (.int .i64 0)).below (Nat.le_refl _) HB.out.size)⟩
    by_cases hv2 : v = 2
    · subst hv2
      have hr : keptR 2 112 j = ⟨(j : Int), 1, 0⟩ := by
        unfold keptR
        simp []
      have HRR := Lib.hid hr
      clear hr
      obtain ⟨x0, x1, x2⟩ := HQ.out
      obtain ⟨p0, p1, p2⟩ := HP.out
      have f0 := HPF.out.2 0
      have f1 := HPF.out.2 1
      have f2 := HPF.out.2 2
      go_wp2_with fail
      clear x0 x1 x2 p0 p1 p2 f0 f1 f2
      have hp := HP.out.set0 (.int .i64 (j : Int)) |>.set1 (.int .i64 1) |>.set2 (.int .i64 0)
      obtain ⟨d0, d1, d2⟩ := hp
      exact bodyPost_ret (v := .agg #[.int .i64 (j : Int), .int .i64 1, .int .i64 0]) (by simp [results, Tryz.results108, go_sem, d0, d1, d2]) rfl ⟨by rw [HRR.out]; rfl, HB.out.trans ((touch3 W w.heap.size (.int .i64 (j : Int)) (.int .i64 1) (.int .i64 0)).below (Nat.le_refl _) HB.out.size)⟩
    have e1 : ((v : Int) == 1) = false := beq_eq_false_iff_ne.2 (by omega)
    have e2 : ((v : Int) == 2) = false := beq_eq_false_iff_ne.2 (by omega)
    have e3 : (v == 1) = false := beq_eq_false_iff_ne.2 hv1
    have e4 : (v == 2) = false := beq_eq_false_iff_ne.2 hv2
    have hr : keptR v 112 j = ⟨(j : Int), 1, 0⟩ := by
      unfold keptR
      simp [hv1, hv2]
    have HRR := Lib.hid hr
    clear hr hv1 hv2
    obtain ⟨x0, x1, x2⟩ := HQ.out
    obtain ⟨p0, p1, p2⟩ := HP.out
    have f0 := HPF.out.2 0
    have f1 := HPF.out.2 1
    have f2 := HPF.out.2 2
    go_wp2_with fail
    clear x0 x1 x2 p0 p1 p2 f0 f1 f2
    have hp := HP.out.set0 (.int .i64 (j : Int)) |>.set1 (.int .i64 1) |>.set2 (.int .i64 0)
    obtain ⟨d0, d1, d2⟩ := hp
    exact bodyPost_ret (v := .agg #[.int .i64 (j : Int), .int .i64 1, .int .i64 0]) (by simp [results, Tryz.results108, go_sem, d0, d1, d2]) rfl ⟨by rw [HRR.out]; rfl, HB.out.trans ((touch3 W w.heap.size (.int .i64 (j : Int)) (.int .i64 1) (.int .i64 0)).below (Nat.le_refl _) HB.out.size)⟩
  by_cases c107 : c = 107
  · subst c107
    by_cases hv1 : v = 1
    · subst hv1
      obtain ⟨x0, x1, x2⟩ := HQ.out
      have f1 := HQF.out.2 1
      have f2 := HQF.out.2 2
      go_upto_region 16 with (fail)
      clear x0 x1 x2 f1 f2
      have ht := Schema.Touch.set W (w.heap.size + 1) 1 (.int .i64 100)
      replace HQ := Lib.hid (HQ.out.set1 (.int .i64 100))
      replace HP := Lib.hid (HP.out.touch ht (Or.inl (by omega)))
      replace HPF := Lib.hid (HPF.out.touch ht (Or.inl (by omega)))
      replace HB := Lib.hid (Touch.step HB.out ht (by omega))
      clear ht
      generalize W.setCell ⟨w.heap.size + 1, 1, none⟩ (.int .i64 100) = W2 at HP HPF HQ HB ⊢
      have hr : keptR 1 107 j = ⟨(j : Int), 100, 0⟩ := by
        unfold keptR
        simp []
      have HRR := Lib.hid hr
      clear hr
      obtain ⟨x0, x1, x2⟩ := HQ.out
      obtain ⟨p0, p1, p2⟩ := HP.out
      have f0 := HPF.out.2 0
      have f1 := HPF.out.2 1
      have f2 := HPF.out.2 2
      go_wp2_with fail
      clear x0 x1 x2 p0 p1 p2 f0 f1 f2
      have hp := HP.out.set0 (.int .i64 (j : Int)) |>.set1 (.int .i64 100) |>.set2 (.int .i64 0)
      obtain ⟨d0, d1, d2⟩ := hp
      exact bodyPost_ret (v := .agg #[.int .i64 (j : Int), .int .i64 100, .int .i64 0]) (by simp [results, Tryz.results108, go_sem, d0, d1, d2]) rfl ⟨by rw [HRR.out]; rfl, HB.out.trans ((touch3 W2 w.heap.size (.int .i64 (j : Int)) (.int .i64 100) (.int .i64 0)).below (Nat.le_refl _) HB.out.size)⟩
    by_cases hv2 : v = 2
    · subst hv2
      have hr : keptR 2 107 j = ⟨(j : Int), 1, 0⟩ := by
        unfold keptR
        simp []
      have HRR := Lib.hid hr
      clear hr
      obtain ⟨x0, x1, x2⟩ := HQ.out
      obtain ⟨p0, p1, p2⟩ := HP.out
      have f0 := HPF.out.2 0
      have f1 := HPF.out.2 1
      have f2 := HPF.out.2 2
      go_wp2_with fail
      clear x0 x1 x2 p0 p1 p2 f0 f1 f2
      have hp := HP.out.set0 (.int .i64 (j : Int)) |>.set1 (.int .i64 1) |>.set2 (.int .i64 0)
      obtain ⟨d0, d1, d2⟩ := hp
      exact bodyPost_ret (v := .agg #[.int .i64 (j : Int), .int .i64 1, .int .i64 0]) (by simp [results, Tryz.results108, go_sem, d0, d1, d2]) rfl ⟨by rw [HRR.out]; rfl, HB.out.trans ((touch3 W w.heap.size (.int .i64 (j : Int)) (.int .i64 1) (.int .i64 0)).below (Nat.le_refl _) HB.out.size)⟩
    have e1 : ((v : Int) == 1) = false := beq_eq_false_iff_ne.2 (by omega)
    have e2 : ((v : Int) == 2) = false := beq_eq_false_iff_ne.2 (by omega)
    have e3 : (v == 1) = false := beq_eq_false_iff_ne.2 hv1
    have e4 : (v == 2) = false := beq_eq_false_iff_ne.2 hv2
    have hr : keptR v 107 j = ⟨(j : Int), 1, 0⟩ := by
      unfold keptR
      simp [hv1, hv2]
    have HRR := Lib.hid hr
    clear hr hv1 hv2
    obtain ⟨x0, x1, x2⟩ := HQ.out
    obtain ⟨p0, p1, p2⟩ := HP.out
    have f0 := HPF.out.2 0
    have f1 := HPF.out.2 1
    have f2 := HPF.out.2 2
    go_wp2_with fail
    clear x0 x1 x2 p0 p1 p2 f0 f1 f2
    have hp := HP.out.set0 (.int .i64 (j : Int)) |>.set1 (.int .i64 1) |>.set2 (.int .i64 0)
    obtain ⟨d0, d1, d2⟩ := hp
    exact bodyPost_ret (v := .agg #[.int .i64 (j : Int), .int .i64 1, .int .i64 0]) (by simp [results, Tryz.results108, go_sem, d0, d1, d2]) rfl ⟨by rw [HRR.out]; rfl, HB.out.trans ((touch3 W w.heap.size (.int .i64 (j : Int)) (.int .i64 1) (.int .i64 0)).below (Nat.le_refl _) HB.out.size)⟩
  by_cases c98 : c = 98
  · subst c98
    by_cases hv1 : v = 1
    · subst hv1
      obtain ⟨x0, x1, x2⟩ := HQ.out
      have f1 := HQF.out.2 1
      have f2 := HQF.out.2 2
      go_upto_region 16 with (fail)
      clear x0 x1 x2 f1 f2
      have ht := Schema.Touch.set W (w.heap.size + 1) 1 (.int .i64 100)
      replace HQ := Lib.hid (HQ.out.set1 (.int .i64 100))
      replace HP := Lib.hid (HP.out.touch ht (Or.inl (by omega)))
      replace HPF := Lib.hid (HPF.out.touch ht (Or.inl (by omega)))
      replace HB := Lib.hid (Touch.step HB.out ht (by omega))
      clear ht
      generalize W.setCell ⟨w.heap.size + 1, 1, none⟩ (.int .i64 100) = W2 at HP HPF HQ HB ⊢
      have hr : keptR 1 98 j = ⟨(j : Int), 100, 0⟩ := by
        unfold keptR
        simp []
      have HRR := Lib.hid hr
      clear hr
      obtain ⟨x0, x1, x2⟩ := HQ.out
      obtain ⟨p0, p1, p2⟩ := HP.out
      have f0 := HPF.out.2 0
      have f1 := HPF.out.2 1
      have f2 := HPF.out.2 2
      go_wp2_with fail
      clear x0 x1 x2 p0 p1 p2 f0 f1 f2
      have hp := HP.out.set0 (.int .i64 (j : Int)) |>.set1 (.int .i64 100) |>.set2 (.int .i64 0)
      obtain ⟨d0, d1, d2⟩ := hp
      exact bodyPost_ret (v := .agg #[.int .i64 (j : Int), .int .i64 100, .int .i64 0]) (by simp [results, Tryz.results108, go_sem, d0, d1, d2]) rfl ⟨by rw [HRR.out]; rfl, HB.out.trans ((touch3 W2 w.heap.size (.int .i64 (j : Int)) (.int .i64 100) (.int .i64 0)).below (Nat.le_refl _) HB.out.size)⟩
    by_cases hv2 : v = 2
    · subst hv2
      have hr : keptR 2 98 j = ⟨(j : Int), 1, 0⟩ := by
        unfold keptR
        simp []
      have HRR := Lib.hid hr
      clear hr
      obtain ⟨x0, x1, x2⟩ := HQ.out
      obtain ⟨p0, p1, p2⟩ := HP.out
      have f0 := HPF.out.2 0
      have f1 := HPF.out.2 1
      have f2 := HPF.out.2 2
      go_wp2_with fail
      clear x0 x1 x2 p0 p1 p2 f0 f1 f2
      have hp := HP.out.set0 (.int .i64 (j : Int)) |>.set1 (.int .i64 1) |>.set2 (.int .i64 0)
      obtain ⟨d0, d1, d2⟩ := hp
      exact bodyPost_ret (v := .agg #[.int .i64 (j : Int), .int .i64 1, .int .i64 0]) (by simp [results, Tryz.results108, go_sem, d0, d1, d2]) rfl ⟨by rw [HRR.out]; rfl, HB.out.trans ((touch3 W w.heap.size (.int .i64 (j : Int)) (.int .i64 1) (.int .i64 0)).below (Nat.le_refl _) HB.out.size)⟩
    have e1 : ((v : Int) == 1) = false := beq_eq_false_iff_ne.2 (by omega)
    have e2 : ((v : Int) == 2) = false := beq_eq_false_iff_ne.2 (by omega)
    have e3 : (v == 1) = false := beq_eq_false_iff_ne.2 hv1
    have e4 : (v == 2) = false := beq_eq_false_iff_ne.2 hv2
    have hr : keptR v 98 j = ⟨(j : Int), 1, 0⟩ := by
      unfold keptR
      simp [hv1, hv2]
    have HRR := Lib.hid hr
    clear hr hv1 hv2
    obtain ⟨x0, x1, x2⟩ := HQ.out
    obtain ⟨p0, p1, p2⟩ := HP.out
    have f0 := HPF.out.2 0
    have f1 := HPF.out.2 1
    have f2 := HPF.out.2 2
    go_wp2_with fail
    clear x0 x1 x2 p0 p1 p2 f0 f1 f2
    have hp := HP.out.set0 (.int .i64 (j : Int)) |>.set1 (.int .i64 1) |>.set2 (.int .i64 0)
    obtain ⟨d0, d1, d2⟩ := hp
    exact bodyPost_ret (v := .agg #[.int .i64 (j : Int), .int .i64 1, .int .i64 0]) (by simp [results, Tryz.results108, go_sem, d0, d1, d2]) rfl ⟨by rw [HRR.out]; rfl, HB.out.trans ((touch3 W w.heap.size (.int .i64 (j : Int)) (.int .i64 1) (.int .i64 0)).below (Nat.le_refl _) HB.out.size)⟩
  by_cases c116 : c = 116
  · subst c116
    by_cases hv1 : v = 1
    · subst hv1
      have hr : keptR 1 116 j = ⟨(j : Int), 1, 0⟩ := by
        unfold keptR
        simp []
      have HRR := Lib.hid hr
      clear hr
      obtain ⟨x0, x1, x2⟩ := HQ.out
      obtain ⟨p0, p1, p2⟩ := HP.out
      have f0 := HPF.out.2 0
      have f1 := HPF.out.2 1
      have f2 := HPF.out.2 2
      go_wp2_with fail
      clear x0 x1 x2 p0 p1 p2 f0 f1 f2
      have hp := HP.out.set0 (.int .i64 (j : Int)) |>.set1 (.int .i64 1) |>.set2 (.int .i64 0)
      obtain ⟨d0, d1, d2⟩ := hp
      exact bodyPost_ret (v := .agg #[.int .i64 (j : Int), .int .i64 1, .int .i64 0]) (by simp [results, Tryz.results108, go_sem, d0, d1, d2]) rfl ⟨by rw [HRR.out]; rfl, HB.out.trans ((touch3 W w.heap.size (.int .i64 (j : Int)) (.int .i64 1) (.int .i64 0)).below (Nat.le_refl _) HB.out.size)⟩
    by_cases hv2 : v = 2
    · subst hv2
      obtain ⟨x0, x1, x2⟩ := HQ.out
      have f1 := HQF.out.2 1
      have f2 := HQF.out.2 2
      go_upto_region 16 with (fail)
      clear x0 x1 x2 f1 f2
      have ht := Schema.Touch.set W (w.heap.size + 1) 1 (.int .i64 10)
      replace HQ := Lib.hid (HQ.out.set1 (.int .i64 10))
      replace HP := Lib.hid (HP.out.touch ht (Or.inl (by omega)))
      replace HPF := Lib.hid (HPF.out.touch ht (Or.inl (by omega)))
      replace HB := Lib.hid (Touch.step HB.out ht (by omega))
      clear ht
      generalize W.setCell ⟨w.heap.size + 1, 1, none⟩ (.int .i64 10) = W2 at HP HPF HQ HB ⊢
      have hr : keptR 2 116 j = ⟨(j : Int), 10, 0⟩ := by
        unfold keptR
        simp []
      have HRR := Lib.hid hr
      clear hr
      obtain ⟨x0, x1, x2⟩ := HQ.out
      obtain ⟨p0, p1, p2⟩ := HP.out
      have f0 := HPF.out.2 0
      have f1 := HPF.out.2 1
      have f2 := HPF.out.2 2
      go_wp2_with fail
      clear x0 x1 x2 p0 p1 p2 f0 f1 f2
      have hp := HP.out.set0 (.int .i64 (j : Int)) |>.set1 (.int .i64 10) |>.set2 (.int .i64 0)
      obtain ⟨d0, d1, d2⟩ := hp
      exact bodyPost_ret (v := .agg #[.int .i64 (j : Int), .int .i64 10, .int .i64 0]) (by simp [results, Tryz.results108, go_sem, d0, d1, d2]) rfl ⟨by rw [HRR.out]; rfl, HB.out.trans ((touch3 W2 w.heap.size (.int .i64 (j : Int)) (.int .i64 10) (.int .i64 0)).below (Nat.le_refl _) HB.out.size)⟩
    have e1 : ((v : Int) == 1) = false := beq_eq_false_iff_ne.2 (by omega)
    have e2 : ((v : Int) == 2) = false := beq_eq_false_iff_ne.2 (by omega)
    have e3 : (v == 1) = false := beq_eq_false_iff_ne.2 hv1
    have e4 : (v == 2) = false := beq_eq_false_iff_ne.2 hv2
    have hr : keptR v 116 j = ⟨(j : Int), 1, 0⟩ := by
      unfold keptR
      simp [hv1, hv2]
    have HRR := Lib.hid hr
    clear hr hv1 hv2
    obtain ⟨x0, x1, x2⟩ := HQ.out
    obtain ⟨p0, p1, p2⟩ := HP.out
    have f0 := HPF.out.2 0
    have f1 := HPF.out.2 1
    have f2 := HPF.out.2 2
    go_wp2_with fail
    clear x0 x1 x2 p0 p1 p2 f0 f1 f2
    have hp := HP.out.set0 (.int .i64 (j : Int)) |>.set1 (.int .i64 1) |>.set2 (.int .i64 0)
    obtain ⟨d0, d1, d2⟩ := hp
    exact bodyPost_ret (v := .agg #[.int .i64 (j : Int), .int .i64 1, .int .i64 0]) (by simp [results, Tryz.results108, go_sem, d0, d1, d2]) rfl ⟨by rw [HRR.out]; rfl, HB.out.trans ((touch3 W w.heap.size (.int .i64 (j : Int)) (.int .i64 1) (.int .i64 0)).below (Nat.le_refl _) HB.out.size)⟩
  by_cases c115 : c = 115
  · subst c115
    by_cases hv1 : v = 1
    · subst hv1
      have hr : keptR 1 115 j = ⟨(j : Int), 1, 0⟩ := by
        unfold keptR
        simp []
      have HRR := Lib.hid hr
      clear hr
      obtain ⟨x0, x1, x2⟩ := HQ.out
      obtain ⟨p0, p1, p2⟩ := HP.out
      have f0 := HPF.out.2 0
      have f1 := HPF.out.2 1
      have f2 := HPF.out.2 2
      go_wp2_with fail
      clear x0 x1 x2 p0 p1 p2 f0 f1 f2
      have hp := HP.out.set0 (.int .i64 (j : Int)) |>.set1 (.int .i64 1) |>.set2 (.int .i64 0)
      obtain ⟨d0, d1, d2⟩ := hp
      exact bodyPost_ret (v := .agg #[.int .i64 (j : Int), .int .i64 1, .int .i64 0]) (by simp [results, Tryz.results108, go_sem, d0, d1, d2]) rfl ⟨by rw [HRR.out]; rfl, HB.out.trans ((touch3 W w.heap.size (.int .i64 (j : Int)) (.int .i64 1) (.int .i64 0)).below (Nat.le_refl _) HB.out.size)⟩
    by_cases hv2 : v = 2
    · subst hv2
      obtain ⟨x0, x1, x2⟩ := HQ.out
      have f1 := HQF.out.2 1
      have f2 := HQF.out.2 2
      go_upto_region 16 with (fail)
      clear x0 x1 x2 f1 f2
      have ht := Schema.Touch.set W (w.heap.size + 1) 2 (.int .i64 1)
      replace HQ := Lib.hid (HQ.out.set2 (.int .i64 1))
      replace HP := Lib.hid (HP.out.touch ht (Or.inl (by omega)))
      replace HPF := Lib.hid (HPF.out.touch ht (Or.inl (by omega)))
      replace HB := Lib.hid (Touch.step HB.out ht (by omega))
      clear ht
      generalize W.setCell ⟨w.heap.size + 1, 2, none⟩ (.int .i64 1) = W2 at HP HPF HQ HB ⊢
      have hr : keptR 2 115 j = ⟨(j : Int), 1, 1⟩ := by
        unfold keptR
        simp []
      have HRR := Lib.hid hr
      clear hr
      obtain ⟨x0, x1, x2⟩ := HQ.out
      obtain ⟨p0, p1, p2⟩ := HP.out
      have f0 := HPF.out.2 0
      have f1 := HPF.out.2 1
      have f2 := HPF.out.2 2
      go_wp2_with fail
      clear x0 x1 x2 p0 p1 p2 f0 f1 f2
      have hp := HP.out.set0 (.int .i64 (j : Int)) |>.set1 (.int .i64 1) |>.set2 (.int .i64 1)
      obtain ⟨d0, d1, d2⟩ := hp
      exact bodyPost_ret (v := .agg #[.int .i64 (j : Int), .int .i64 1, .int .i64 1]) (by simp [results, Tryz.results108, go_sem, d0, d1, d2]) rfl ⟨by rw [HRR.out]; rfl, HB.out.trans ((touch3 W2 w.heap.size (.int .i64 (j : Int)) (.int .i64 1) (.int .i64 1)).below (Nat.le_refl _) HB.out.size)⟩
    have e1 : ((v : Int) == 1) = false := beq_eq_false_iff_ne.2 (by omega)
    have e2 : ((v : Int) == 2) = false := beq_eq_false_iff_ne.2 (by omega)
    have e3 : (v == 1) = false := beq_eq_false_iff_ne.2 hv1
    have e4 : (v == 2) = false := beq_eq_false_iff_ne.2 hv2
    have hr : keptR v 115 j = ⟨(j : Int), 1, 0⟩ := by
      unfold keptR
      simp [hv1, hv2]
    have HRR := Lib.hid hr
    clear hr hv1 hv2
    obtain ⟨x0, x1, x2⟩ := HQ.out
    obtain ⟨p0, p1, p2⟩ := HP.out
    have f0 := HPF.out.2 0
    have f1 := HPF.out.2 1
    have f2 := HPF.out.2 2
    go_wp2_with fail
    clear x0 x1 x2 p0 p1 p2 f0 f1 f2
    have hp := HP.out.set0 (.int .i64 (j : Int)) |>.set1 (.int .i64 1) |>.set2 (.int .i64 0)
    obtain ⟨d0, d1, d2⟩ := hp
    exact bodyPost_ret (v := .agg #[.int .i64 (j : Int), .int .i64 1, .int .i64 0]) (by simp [results, Tryz.results108, go_sem, d0, d1, d2]) rfl ⟨by rw [HRR.out]; rfl, HB.out.trans ((touch3 W w.heap.size (.int .i64 (j : Int)) (.int .i64 1) (.int .i64 0)).below (Nat.le_refl _) HB.out.size)⟩
  have g109 : ((c : Int) == 109) = false := beq_eq_false_iff_ne.2 (by omega)
  have h109 : (c == 109) = false := beq_eq_false_iff_ne.2 c109
  have g122 : ((c : Int) == 122) = false := beq_eq_false_iff_ne.2 (by omega)
  have h122 : (c == 122) = false := beq_eq_false_iff_ne.2 c122
  have g112 : ((c : Int) == 112) = false := beq_eq_false_iff_ne.2 (by omega)
  have h112 : (c == 112) = false := beq_eq_false_iff_ne.2 c112
  have g107 : ((c : Int) == 107) = false := beq_eq_false_iff_ne.2 (by omega)
  have h107 : (c == 107) = false := beq_eq_false_iff_ne.2 c107
  have g98 : ((c : Int) == 98) = false := beq_eq_false_iff_ne.2 (by omega)
  have h98 : (c == 98) = false := beq_eq_false_iff_ne.2 c98
  have g116 : ((c : Int) == 116) = false := beq_eq_false_iff_ne.2 (by omega)
  have h116 : (c == 116) = false := beq_eq_false_iff_ne.2 c116
  have g115 : ((c : Int) == 115) = false := beq_eq_false_iff_ne.2 (by omega)
  have h115 : (c == 115) = false := beq_eq_false_iff_ne.2 c115
  by_cases hv1 : v = 1
  · subst hv1
    have hr : keptR 1 c j = ⟨(j : Int), 1, 0⟩ := by
      unfold keptR
      simp [c109, c122, c112, c107, c98, c116, c115]
    have HRR := Lib.hid hr
    clear hr
    obtain ⟨x0, x1, x2⟩ := HQ.out
    obtain ⟨p0, p1, p2⟩ := HP.out
    have f0 := HPF.out.2 0
    have f1 := HPF.out.2 1
    have f2 := HPF.out.2 2
    go_wp2_with fail
    clear x0 x1 x2 p0 p1 p2 f0 f1 f2
    have hp := HP.out.set0 (.int .i64 (j : Int)) |>.set1 (.int .i64 1) |>.set2 (.int .i64 0)
    obtain ⟨d0, d1, d2⟩ := hp
    exact bodyPost_ret (v := .agg #[.int .i64 (j : Int), .int .i64 1, .int .i64 0]) (by simp [results, Tryz.results108, go_sem, d0, d1, d2]) rfl ⟨by rw [HRR.out]; rfl, HB.out.trans ((touch3 W w.heap.size (.int .i64 (j : Int)) (.int .i64 1) (.int .i64 0)).below (Nat.le_refl _) HB.out.size)⟩
  by_cases hv2 : v = 2
  · subst hv2
    have hr : keptR 2 c j = ⟨(j : Int), 1, 0⟩ := by
      unfold keptR
      simp [c109, c122, c112, c107, c98, c116, c115]
    have HRR := Lib.hid hr
    clear hr
    obtain ⟨x0, x1, x2⟩ := HQ.out
    obtain ⟨p0, p1, p2⟩ := HP.out
    have f0 := HPF.out.2 0
    have f1 := HPF.out.2 1
    have f2 := HPF.out.2 2
    go_wp2_with fail
    clear x0 x1 x2 p0 p1 p2 f0 f1 f2
    have hp := HP.out.set0 (.int .i64 (j : Int)) |>.set1 (.int .i64 1) |>.set2 (.int .i64 0)
    obtain ⟨d0, d1, d2⟩ := hp
    exact bodyPost_ret (v := .agg #[.int .i64 (j : Int), .int .i64 1, .int .i64 0]) (by simp [results, Tryz.results108, go_sem, d0, d1, d2]) rfl ⟨by rw [HRR.out]; rfl, HB.out.trans ((touch3 W w.heap.size (.int .i64 (j : Int)) (.int .i64 1) (.int .i64 0)).below (Nat.le_refl _) HB.out.size)⟩
  have e1 : ((v : Int) == 1) = false := beq_eq_false_iff_ne.2 (by omega)
  have e2 : ((v : Int) == 2) = false := beq_eq_false_iff_ne.2 (by omega)
  have e3 : (v == 1) = false := beq_eq_false_iff_ne.2 hv1
  have e4 : (v == 2) = false := beq_eq_false_iff_ne.2 hv2
  have hr : keptR v c j = ⟨(j : Int), 1, 0⟩ := by
    unfold keptR
    simp [hv1, hv2, c109, c122, c112, c107, c98, c116, c115]
  have HRR := Lib.hid hr
  clear hr hv1 hv2
  obtain ⟨x0, x1, x2⟩ := HQ.out
  obtain ⟨p0, p1, p2⟩ := HP.out
  have f0 := HPF.out.2 0
  have f1 := HPF.out.2 1
  have f2 := HPF.out.2 2
  go_wp2_with fail
  clear x0 x1 x2 p0 p1 p2 f0 f1 f2
  have hp := HP.out.set0 (.int .i64 (j : Int)) |>.set1 (.int .i64 1) |>.set2 (.int .i64 0)
  obtain ⟨d0, d1, d2⟩ := hp
  exact bodyPost_ret (v := .agg #[.int .i64 (j : Int), .int .i64 1, .int .i64 0]) (by simp [results, Tryz.results108, go_sem, d0, d1, d2]) rfl ⟨by rw [HRR.out]; rfl, HB.out.trans ((touch3 W w.heap.size (.int .i64 (j : Int)) (.int .i64 1) (.int .i64 0)).below (Nat.le_refl _) HB.out.size)⟩

set_option maxRecDepth 100000 in
set_option maxHeartbeats 4000000 in
theorem added_any (c : Nat) (w : World) :
    Calls Tryz.prog 109 #[.int .u8 (c : Int)] w fun z w' => z = .returned (ruV (addedR c)) ∧ Below w.heap.size w w' := by
  have hb1 := (Below.refl w.heap.size w).alloc (Nat.le_refl _) (.cells #[.int .i64 0, .int .i64 0, .int .i64 0] 136)
  have hs1 : (w.alloc (.cells #[.int .i64 0, .int .i64 0, .int .i64 0] 136)).heap.size = w.heap.size + 1 := by simp
  have hb2 := (Below.refl (w.alloc (.cells #[.int .i64 0, .int .i64 0, .int .i64 0] 136)).heap.size (w.alloc (.cells #[.int .i64 0, .int .i64 0, .int .i64 0] 136))).alloc (Nat.le_refl _) (.cells #[.int .i64 (-1), .int .i64 0, .int .i64 0] 136)
  have hq := tri_new (w.alloc (.cells #[.int .i64 0, .int .i64 0, .int .i64 0] 136)) (.int .i64 (-1)) (.int .i64 0) (.int .i64 0) 136
  rw [hs1] at hq
  have HQ := Lib.hid hq
  have HP := Lib.hid ((tri_new w (.int .i64 0) (.int .i64 0) (.int .i64 0) 136).below hb2)
  have HPF := Lib.hid ((free_new w #[.int .i64 0, .int .i64 0, .int .i64 0] 136).below hb2)
  have hqf := free_new (w.alloc (.cells #[.int .i64 0, .int .i64 0, .int .i64 0] 136)) #[.int .i64 (-1), .int .i64 0, .int .i64 0] 136
  rw [hs1] at hqf
  have HQF := Lib.hid hqf
  have HB := Lib.hid (below_step hb1 hb2)
  clear hb1 hb2 hs1 hq hqf
  go_enter Tryz.func109, Tryz.ntmps109
  go_upto_region 2 with (fail)
  generalize hW : (w.alloc (.cells #[.int .i64 0, .int .i64 0, .int .i64 0] 136)).alloc (.cells #[.int .i64 (-1), .int .i64 0, .int .i64 0] 136) = W at HP HPF HQ HQF HB ⊢
  clear hW
  by_cases c107 : c = 107
  · subst c107
    obtain ⟨x0, x1, x2⟩ := HQ.out
    have f2 := HQF.out.2 2
    go_upto_region 4 with (fail)
    clear x0 x1 x2 f2
    have ht := Schema.Touch.set W (w.heap.size + 1) 2 (.int .i64 100)
    replace HQ := Lib.hid (HQ.out.set2 (.int .i64 100))
    replace HP := Lib.hid (HP.out.touch ht (Or.inl (by omega)))
    replace HPF := Lib.hid (HPF.out.touch ht (Or.inl (by omega)))
    replace HB := Lib.hid (Touch.step HB.out ht (by omega))
    clear ht
    generalize W.setCell ⟨w.heap.size + 1, 2, none⟩ (.int .i64 100) = W2 at HP HPF HQ HB ⊢
    have hr : addedR 107 = ⟨-1, 0, 100⟩ := by
      unfold addedR
      simp []
    have HRR := Lib.hid hr
    clear hr
    obtain ⟨x0, x1, x2⟩ := HQ.out
    obtain ⟨p0, p1, p2⟩ := HP.out
    have f0 := HPF.out.2 0
    have f1 := HPF.out.2 1
    have f2 := HPF.out.2 2
    go_wp2_with fail
    clear x0 x1 x2 p0 p1 p2 f0 f1 f2
    have hp := HP.out.set0 (.int .i64 (-1)) |>.set1 (.int .i64 0) |>.set2 (.int .i64 100)
    obtain ⟨d0, d1, d2⟩ := hp
    exact bodyPost_ret (v := .agg #[.int .i64 (-1), .int .i64 0, .int .i64 100]) (by simp [results, Tryz.results109, go_sem, d0, d1, d2]) rfl ⟨by rw [HRR.out]; rfl, HB.out.trans ((touch3 W2 w.heap.size (.int .i64 (-1)) (.int .i64 0) (.int .i64 100)).below (Nat.le_refl _) HB.out.size)⟩
  by_cases c109 : c = 109
  · subst c109
    obtain ⟨x0, x1, x2⟩ := HQ.out
    have f2 := HQF.out.2 2
    go_upto_region 4 with (fail)
    clear x0 x1 x2 f2
    have ht := Schema.Touch.set W (w.heap.size + 1) 2 (.int .i64 100)
    replace HQ := Lib.hid (HQ.out.set2 (.int .i64 100))
    replace HP := Lib.hid (HP.out.touch ht (Or.inl (by omega)))
    replace HPF := Lib.hid (HPF.out.touch ht (Or.inl (by omega)))
    replace HB := Lib.hid (Touch.step HB.out ht (by omega))
    clear ht
    generalize W.setCell ⟨w.heap.size + 1, 2, none⟩ (.int .i64 100) = W2 at HP HPF HQ HB ⊢
    have hr : addedR 109 = ⟨-1, 0, 100⟩ := by
      unfold addedR
      simp []
    have HRR := Lib.hid hr
    clear hr
    obtain ⟨x0, x1, x2⟩ := HQ.out
    obtain ⟨p0, p1, p2⟩ := HP.out
    have f0 := HPF.out.2 0
    have f1 := HPF.out.2 1
    have f2 := HPF.out.2 2
    go_wp2_with fail
    clear x0 x1 x2 p0 p1 p2 f0 f1 f2
    have hp := HP.out.set0 (.int .i64 (-1)) |>.set1 (.int .i64 0) |>.set2 (.int .i64 100)
    obtain ⟨d0, d1, d2⟩ := hp
    exact bodyPost_ret (v := .agg #[.int .i64 (-1), .int .i64 0, .int .i64 100]) (by simp [results, Tryz.results109, go_sem, d0, d1, d2]) rfl ⟨by rw [HRR.out]; rfl, HB.out.trans ((touch3 W2 w.heap.size (.int .i64 (-1)) (.int .i64 0) (.int .i64 100)).below (Nat.le_refl _) HB.out.size)⟩
  have g107 : ((c : Int) == 107) = false := beq_eq_false_iff_ne.2 (by omega)
  have h107 : (c == 107) = false := beq_eq_false_iff_ne.2 c107
  have g109 : ((c : Int) == 109) = false := beq_eq_false_iff_ne.2 (by omega)
  have h109 : (c == 109) = false := beq_eq_false_iff_ne.2 c109
  have hr : addedR c = ⟨-1, 0, 0⟩ := by
    unfold addedR
    simp [c107, c109]
  have HRR := Lib.hid hr
  clear hr
  obtain ⟨x0, x1, x2⟩ := HQ.out
  obtain ⟨p0, p1, p2⟩ := HP.out
  have f0 := HPF.out.2 0
  have f1 := HPF.out.2 1
  have f2 := HPF.out.2 2
  go_wp2_with fail
  clear x0 x1 x2 p0 p1 p2 f0 f1 f2
  have hp := HP.out.set0 (.int .i64 (-1)) |>.set1 (.int .i64 0) |>.set2 (.int .i64 0)
  obtain ⟨d0, d1, d2⟩ := hp
  exact bodyPost_ret (v := .agg #[.int .i64 (-1), .int .i64 0, .int .i64 0]) (by simp [results, Tryz.results109, go_sem, d0, d1, d2]) rfl ⟨by rw [HRR.out]; rfl, HB.out.trans ((touch3 W w.heap.size (.int .i64 (-1)) (.int .i64 0) (.int .i64 0)).below (Nat.le_refl _) HB.out.size)⟩

end Go.Proofs.YtiibeemjkdipnaaGreatDoor.Upcast

/-
  Rules; rows of rules.
-/
namespace Go.Proofs.YtiibeemjkdipnaaGreatDoor.Upcast
open Go Go.RowKit
open Go.Proofs.YtiibeemjkdipnaaGreatDoor.Schema

def cellsU (l : List Ru) : List Value := l.flatMap ruC
theorem cellsU_len (l : List Ru) : (cellsU l).length = l.length * 3 := by
  unfold cellsU
  induction l with
  | nil => rfl
  | cons x l ih => rw [List.flatMap_cons, List.length_append, ih, List.length_cons]; show 3 + _ = _; omega
theorem cellsU_at (l : List Ru) (k j : Nat) (hk : k < l.length) (hj : j < 3) : (cellsU l)[k * 3 + j]? = (ruC l[k])[j]? := by
  unfold cellsU
  induction l generalizing k with
  | nil => exact absurd hk (by simp)
  | cons x l ih =>
    rw [List.flatMap_cons]
    cases k with
    | zero => rw [List.getElem?_append_left (by show _ < 3; omega)]; simp
    | succ k =>
      rw [List.getElem?_append_right (by show 3 ≤ _; omega)]
      have := ih k (by simpa using hk)
      rw [show (k + 1) * 3 + j - (ruC x).length = k * 3 + j by show (k + 1) * 3 + j - 3 = _; omega]
      simpa using this
theorem cellsU_snoc (l : List Ru) (x : Ru) : cellsU (l ++ [x]) = cellsU l ++ ruC x := by unfold cellsU; rw [List.flatMap_append]; simp
theorem ruC_cell (x : Ru) : ∀ u ∈ ruC x, u.oneCell' = true := by
  intro u hu
  unfold ruC at hu
  simp only [List.mem_cons, List.not_mem_nil, or_false] at hu
  rcases hu with rfl | rfl | rfl <;> rfl
def OwnU (w : World) (base : Nat) (v : Value) (l : List Ru) : Prop := w.ownsRow base 136 3 v l.length (cellsU l)
theorem OwnU.nil (w : World) (base : Nat) : OwnU w base (.slice none 0 0) [] := World.ownsRow_nil w base _ _
theorem OwnU.below {w w' : World} {base : Nat} {v : Value} {l : List Ru} (h : OwnU w base v l) (hb : Below w.heap.size w w') : OwnU w' base v l := by
  obtain ⟨h1, h2⟩ := h
  refine ⟨h1, ?_⟩
  rcases h2 with h2 | ⟨g, cap, cur, e, hbg, hg, r⟩
  · exact Or.inl h2
  · exact Or.inr ⟨g, cap, cur, e, hbg, by rw [hb.block g (Array.getElem?_eq_some_iff.1 hg).1]; exact hg, r⟩
/-- rules that lie one behind the other -/
def RowU (w : World) (A : Option Addr) (l : List Ru) : Prop := VAt w A (cellsU l)
theorem OwnU.vat {w : World} {base : Nat} {v : Value} {l : List Ru} (h : OwnU w base v l) : ∃ (A : Option Addr) (cap : Nat), v = .slice A l.length cap ∧ RowU w A l := by
  obtain ⟨_, h⟩ := h
  rcases h with ⟨rfl, h0⟩ | ⟨g, cap, cur, rfl, hb, hg, hn, hc, hs, ht⟩
  · have : l = [] := List.eq_nil_of_length_eq_zero h0
    subst this
    exact ⟨none, 0, rfl, VAt.nil _ _⟩
  · refine ⟨_, cap, rfl, fun k u hu => ⟨g, 0, rfl, ?_⟩⟩
    have hk : k < l.length * 3 := by
      have := (List.getElem?_eq_some_iff.1 hu).1
      rw [cellsU_len] at this; exact this
    have e : cur[k]? = some u := by
      have h1 : (cellsU l)[k]? = cur.toList[k]? := by
        conv => lhs; rw [← ht]
        rw [List.getElem?_take, if_pos hk]
      rw [← Array.getElem?_toList, ← h1, hu]
    simp [World.cell?, hg, e]
theorem RowU.at {w : World} {A : Option Addr} {l : List Ru} (h : RowU w A l) (k : Nat) (hk : k < l.length) : ∃ b o, A = some ⟨b, o, none⟩ ∧ b < w.heap.size ∧ w.cell? ⟨b, o + k * 3, none⟩ = some (.int .i64 l[k].fr) ∧ w.cell? ⟨b, o + k * 3 + 1, none⟩ = some (.int .i64 l[k].ti) ∧ w.cell? ⟨b, o + k * 3 + 2, none⟩ = some (.int .i64 l[k].pl) := by
  obtain ⟨b, o, hA, c0⟩ := h (k * 3) (.int .i64 l[k].fr) (by have := cellsU_at l k 0 hk (by omega); simpa [ruC] using this)
  have get : ∀ j u, j < 3 → (ruC l[k])[j]? = some u → w.cell? ⟨b, o + (k * 3 + j), none⟩ = some u := fun j u hj hu => by
    obtain ⟨b', o', hA', c⟩ := h (k * 3 + j) u (by rw [cellsU_at l k j hk hj]; exact hu)
    rw [hA] at hA'
    injection hA' with e; injection e with e1 e2; subst e1; subst e2
    exact c
  refine ⟨b, o, hA, cell_lt c0, c0, ?_, ?_⟩
  · rw [Nat.add_assoc]; exact get 1 _ (by omega) rfl
  · rw [Nat.add_assoc]; exact get 2 _ (by omega) rfl
theorem infoU : (Tryz.prog.info? 136).map (fun i => (i.zero, i.size, i.bytes)) = some (some (.agg #[.int .i64 0, .int .i64 0, .int .i64 0]), 3, 24) := by kernel_rfl
theorem tri_vat {w : World} {q : Nat} {r : Ru} (h : Tri w q (.int .i64 r.fr) (.int .i64 r.ti) (.int .i64 r.pl)) : VAt w (some ⟨q, 0, none⟩) (ruC r) := by
  intro k u hk
  match k with
  | 0 => obtain rfl : _ = u := by simpa [ruC] using hk
         exact ⟨_, 0, rfl, h.1⟩
  | 1 => obtain rfl : _ = u := by simpa [ruC] using hk
         exact ⟨_, 0, rfl, h.2.1⟩
  | 2 => obtain rfl : _ = u := by simpa [ruC] using hk
         exact ⟨_, 0, rfl, h.2.2⟩
  | k + 3 => simp [ruC] at hk
set_option maxRecDepth 100000 in
theorem wpList_append_ru {ops : Array Oper} {rest : List Oper} {o : Oper} {a : Act} {w : World} {Q : Exit → Act → World → Prop} (hgd : o.guard = none) (s x : Operand)
    (ho : o.op = .call { callee := .builtin .append, args := #[s, x], argTypes := #[132, 132] })
    (base : Nat) (v : Value) (xs : List Ru) (hs : a.eval s = v) (hown : OwnU w base v xs)
    (ad : Addr) (cap : Nat) (y : Ru) (hx : a.eval x = .slice (some ad) 1 cap) (hn : VAt w (some ad) (ruC y))
    (hlen : xs.length ≤ 1000000) (hbase : base ≤ w.heap.size)
    (h : ∀ v' w', OwnU w' base v' (xs ++ [y]) → w.grownBy w' v.ownBlock → wpList Tryz.prog ops Q rest (a.put o.dst v') w') : wpList Tryz.prog ops Q (o :: rest) a w := by
  obtain ⟨i0, hi, hz0, hz1, hz2⟩ := info_parts4 infoU
  refine wpList_append_own w hgd s x 132 ho base 136 i0 _ 3 24 Tryz.underlying132 hi hz0 hz1 hz2 rfl (by decide) v xs.length (cellsU xs) hs hown ad 1 cap (ruC y) hx rfl ?_ (ruC_cell y) (by unfold maxLen; omega) (by omega) hbase ?_
  · intro j u hj
    obtain ⟨b, o, e, hc⟩ := hn j u hj
    injection e with e; subst e
    rw [addr_add, hc]
  · intro v' w' hown' hg _
    exact h v' w' (by unfold OwnU; rw [cellsU_snoc, List.length_append]; exact hown') hg
theorem OwnU.below_grown {B : Nat} {w w' : World} {v : Value} {base : Nat} {xs : List Ru} (ho : OwnU w base v xs) (hb : B ≤ base) (hB : B ≤ w.heap.size) (h : w.grownBy w' v.ownBlock) : Below B w w' :=
  ⟨h.os, h.tape, h.output, h.size, fun k hk => h.block k (by omega) (fun e => by
    have := World.ownsRow.lt ho k e.symm
    omega)⟩

/-- what Rules tells -/
def RulesRes (v k : Nat) (w : World) (z : Ending) (w' : World) : Prop := ∃ x, z = .returned (.tuple #[x, .bool (goes v k)]) ∧ OwnU w' w.heap.size x (if goes v k then rulesL v k else []) ∧ Below w.heap.size w w'
structure RulesI (W : World) (v : Nat) (f n : ByteArray) (j : Nat) (x : Value) (wr : World) : Prop where
  bel : Below W.heap.size W wr
  own : OwnU wr W.heap.size x (foldU v f n j).2
theorem tall_range {v k : Nat} (h : tall v k = true) : (1 ≤ v ∧ v ≤ 3) ∧ k < 24 := by
  by_cases hq : v < 1 ∨ 3 < v ∨ ¬ k < 24
  · unfold tall at h
    rw [lets_out v k hq] at h; cases h
  · omega
theorem VAt.low {w w' : World} {A : Option Addr} {vs : List Value} (h : VAt w A vs) (hb : Below w.heap.size w w') : VAt w' A vs := h.below hb
theorem ownU_less {w : World} {base base' : Nat} {v : Value} {l : List Ru} (h : OwnU w base v l) (hb : base' ≤ base) : OwnU w base' v l := by
  obtain ⟨h1, h2⟩ := h
  refine ⟨h1, ?_⟩
  rcases h2 with h2 | ⟨g, cap, cur, e, hbg, r⟩
  · exact Or.inl h2
  · exact Or.inr ⟨g, cap, cur, e, Nat.le_trans hb hbg, r⟩

set_option maxRecDepth 100000 in
set_option maxHeartbeats 4000000 in
theorem Rules_any (v k : Nat) (hv : v < 256) (hk : k < 256) (w : World) (E : Env w) :
    Calls Tryz.prog 94 #[.int .u8 (v : Int), .int .u8 (k : Int)] w (RulesRes v k w) := by
  have HE := Lib.hid E
  have HK := Lib.hid hk
  have HV := Lib.hid hv
  clear E
  have hvw : IntKind.u8.wrap ((v : Int) + 1) = (((v + 1) % 256 : Nat) : Int) := by rw [IntKind.wrap_u8]; omega
  have hv1 : (v + 1) % 256 < 256 := Nat.mod_lt _ (by decide)
  have HV1 := Lib.hid hv1
  clear hv1
  have HGO := Lib.hid (show goes v k = (tall v k && tall ((v + 1) % 256) k) from rfl)
  have HRU := Lib.hid (show rulesL v k = (foldU v (lets v k) (lets (v + 1) k) (lets (v + 1) k).size).2 from rfl)
  have HT0 := Lib.hid (fun (h : tall v k = true) => (tall_range h).1)
  obtain ⟨v1, hv1e⟩ : ∃ v1, v1 = (v + 1) % 256 := ⟨_, rfl⟩
  rw [← hv1e] at hvw HV1 HGO
  have HVE := Lib.hid hv1e
  clear hv1e
  go_enter Tryz.func94, Tryz.ntmps94
  go_wp2_with fail
  refine (Fields_any v k hv hk w HE.out).mono ?_
  rintro z W1 ⟨x1, rfl, ho1, hb⟩
  have HO1 := Lib.hid ho1
  have HB := Lib.hid hb
  clear ho1 hb
  go_wp2_with fail
  refine (Fields_any v1 k HV1.out hk W1 (HE.out.below HB.out)).mono ?_
  rintro z W2 ⟨x2, rfl, ho2, hb⟩
  replace HO1 := Lib.hid (HO1.out.below hb)
  have HO2 := Lib.hid ho2
  replace HB := Lib.hid (below_step HB.out hb)
  clear ho2 hb hvw
  obtain ⟨A1, c1, rfl, hv1, -, -⟩ := HO1.out.vat
  obtain ⟨A2, c2, rfl, hv2, -, -⟩ := HO2.out.vat
  simp only [clsV_len]
  have HVA := Lib.hid hv1
  have HVB := Lib.hid hv2
  clear hv1 hv2 HO1 HO2
  have HS1 := Lib.hid (lets_ok v k).1
  have HS2 := Lib.hid (lets_ok v1 k).1
  have HGG : Hid (∀ a b, tall v k = a → tall v1 k = b → goes v k = (a && b)) := fun a b h1 h2 => by rw [HGO.out, h1, h2]
  obtain ⟨a, ha⟩ : ∃ a, tall v k = a := ⟨_, rfl⟩
  obtain ⟨b, hb⟩ : ∃ b, tall v1 k = b := ⟨_, rfl⟩
  have HAB := Lib.hid (HGG.out a b ha hb)
  have HTA := Lib.hid ha
  rw [ha, hb]
  clear ha hb HGG HGO
  generalize (a && tru k) = ta
  generalize (b && tru k) = tb
  cases a with
  | false =>
    cases hgv : goes v k with
    | true => rw [hgv] at HAB; exact absurd HAB.out (by simp)
    | false =>
      have HGV := Lib.hid hgv
      clear hgv
      go_wp2_with fail
      go_ret2
      exact ⟨_, by rw [HGV.out]; rfl, by rw [HGV.out]; exact OwnU.nil _ _, HB.out⟩
  | true =>
    cases b with
    | false =>
      cases hgv : goes v k with
      | true => rw [hgv] at HAB; exact absurd HAB.out (by simp)
      | false =>
        have HGV := Lib.hid hgv
        clear hgv
        go_wp2_with fail
        go_ret2
        exact ⟨_, by rw [HGV.out]; rfl, by rw [HGV.out]; exact OwnU.nil _ _, HB.out⟩
    | true =>
      have HGV := Lib.hid (show goes v k = true from HAB.out)
      clear HAB
      have hvv : v1 = v + 1 := by have := HT0.out HTA.out; have := HVE.out; omega
      rw [← hvv] at HRU
      clear hvv HT0 HVE
      generalize hF : lets v k = F at HVA HS1 HRU ⊢
      generalize hN : lets v1 k = N at HVB HS2 HRU ⊢
      clear hF hN
      have hf64 : F.size ≤ 10 := HS1.out
      have hn64 : N.size ≤ 10 := HS2.out
      go_wp2_with fail
      have HI : Hid (RulesI W2 v F N 0 (.slice none 0 0) W2) := ⟨Below.refl _ _, OwnU.nil _ _⟩
      go_loopw [12, 13, 39] (fun x f t wr => ∃ j fr : Nat, t = .int .i64 j ∧ j ≤ N.size ∧ f = .int .i64 fr ∧ fr ≤ 10 ∧ Hid ((foldU v F N j).1 = fr) ∧ Hid (RulesI W2 v F N j x wr)) (fun _ _ t _ => N.size - (intOf t).toNat)
      case atStart => exact ⟨0, 0, rfl, Nat.zero_le _, rfl, Nat.zero_le _, rfl, HI⟩
      case round =>
        obtain ⟨j, fr, rfl, hj, rfl, hfr, HFR, HIj⟩ := hrel
        by_cases hlt : j < N.size
        · have z0 : (0 : Int) ≤ (j : Int) := by omega
          have z1 : (j : Int) < (N.size : Int) := by omega
          obtain ⟨b2, o2, rfl, c0⟩ := (Upcast.VAt.low HVB.out HIj.out.bel) j _ (clsV_at N j hlt)
          have HST := Lib.hid (foldU_succ v F N j)
          have HLN := Lib.hid (foldU_len v F N j)
          have HFL := Lib.hid (foldU_fr v F N j)
          have HC := Lib.hid (show byteAt N j < 256 from byteAt_lt N j)
          generalize hcc : byteAt N j = c at c0 HST HC
          clear hcc
          by_cases hff : fr < F.size
          case pos =>
            have y0 : (0 : Int) ≤ (fr : Int) := by omega
            have y1 : (fr : Int) < (F.size : Int) := by omega
            obtain ⟨b1, o1, rfl, c1'⟩ := (Upcast.VAt.low HVA.out HIj.out.bel) fr _ (clsV_at F fr hff)
            by_cases heq : byteAt F fr = c
            case pos =>
              have hst2 : stepU v F c (foldU v F N j) = (fr + 1, (foldU v F N j).2 ++ [keptR v c fr]) := by unfold stepU; rw [HFR.out, if_pos ⟨hff, heq⟩]
              rw [hst2] at HST
              clear hst2
              rw [heq] at c1'
              have q1 : ((c : Int) == (c : Int)) = true := by simp
              have q2 : (c == c) = true := by simp
              clear heq
              go_wp2_with fail
              refine (kept_any v c fr wr).mono ?_
              rintro z W3 ⟨rfl, hb⟩
              have HI3 := Lib.hid (show RulesI _ _ _ _ _ _ _ from ⟨below_step HIj.out.bel hb, HIj.out.own.below hb⟩)
              clear hb c0 c1'
              unfold ruV
              generalize hru : (keptR v c fr) = r at HST ⊢
              clear hru
              have hb := (Below.refl W3.heap.size W3).alloc (Nat.le_refl _) (.cells #[.int .i64 r.fr, .int .i64 r.ti, .int .i64 r.pl] 136)
              have HT := Lib.hid (tri_vat (r := r) (tri_new W3 (.int .i64 r.fr) (.int .i64 r.ti) (.int .i64 r.pl) 136))
              have HI4 := Lib.hid (show RulesI _ _ _ _ _ _ _ from ⟨below_step HI3.out.bel hb, HI3.out.own.below hb⟩)
              clear hb HI3
              go_wp2_with (at_builtin; refine wpList_append_ru rfl (.tmp 55) (.tmp 60) rfl W2.heap.size _ _ rfl HI4.out.own ⟨W3.heap.size, 0, none⟩ 1 r rfl HT.out ?c1 ?c2 ?_)
              case c1 => have := HLN.out; omega
              case c2 => exact HI4.out.bel.size
              intro v' W5 hO hg
              have HI5 : Hid (Below W2.heap.size W2 W5) := HI4.out.bel.trans (HI4.out.own.below_grown (Nat.le_refl _) HI4.out.bel.size hg)
              have HO5 := Lib.hid hO
              clear hO hg HI4 HT
              go_wp2_with fail
              go_roundw
              case rel => exact ⟨j + 1, fr + 1, by go_num, by omega, by go_num, by have := HFL.out; have := HFR.out; omega, by rw [HST.out]; exact rfl, ⟨HI5.out, by rw [HST.out]; exact HO5.out⟩⟩
              case measure => simp [intOf] <;> omega
            have hst2 : stepU v F c (foldU v F N j) = ((foldU v F N j).1, (foldU v F N j).2 ++ [addedR c]) := by unfold stepU; rw [if_neg (by rw [HFR.out]; exact fun h => heq h.2)]
            rw [hst2] at HST
            clear hst2
            have q1 : ((byteAt F fr : Int) == (c : Int)) = false := beq_eq_false_iff_ne.2 (by omega)
            have q2 : (byteAt F fr == c) = false := beq_eq_false_iff_ne.2 heq
            clear heq
            go_wp2_with fail
            refine (added_any c wr).mono ?_
            rintro z W3 ⟨rfl, hb⟩
            have HI3 := Lib.hid (show RulesI _ _ _ _ _ _ _ from ⟨below_step HIj.out.bel hb, HIj.out.own.below hb⟩)
            clear hb c0
            unfold ruV
            generalize hru : (addedR c) = r at HST ⊢
            clear hru
            have hb := (Below.refl W3.heap.size W3).alloc (Nat.le_refl _) (.cells #[.int .i64 r.fr, .int .i64 r.ti, .int .i64 r.pl] 136)
            have HT := Lib.hid (tri_vat (r := r) (tri_new W3 (.int .i64 r.fr) (.int .i64 r.ti) (.int .i64 r.pl) 136))
            have HI4 := Lib.hid (show RulesI _ _ _ _ _ _ _ from ⟨below_step HI3.out.bel hb, HI3.out.own.below hb⟩)
            clear hb HI3
            go_wp2_with (at_builtin; refine wpList_append_ru rfl (.tmp 64) (.tmp 67) rfl W2.heap.size _ _ rfl HI4.out.own ⟨W3.heap.size, 0, none⟩ 1 r rfl HT.out ?c1 ?c2 ?_)
            case c1 => have := HLN.out; omega
            case c2 => exact HI4.out.bel.size
            intro v' W5 hO hg
            have HI5 : Hid (Below W2.heap.size W2 W5) := HI4.out.bel.trans (HI4.out.own.below_grown (Nat.le_refl _) HI4.out.bel.size hg)
            have HO5 := Lib.hid hO
            clear hO hg HI4 HT
            go_wp2_with fail
            go_roundw
            case rel => exact ⟨j + 1, fr, by go_num, by omega, rfl, by omega, by rw [HST.out]; exact HFR.out, ⟨HI5.out, by rw [HST.out]; exact HO5.out⟩⟩
            case measure => simp [intOf] <;> omega
          have y1 : ¬ (fr : Int) < (F.size : Int) := by omega
          have y2 : decide ((fr : Int) < (F.size : Int)) = false := decide_eq_false y1
          have hst2 : stepU v F c (foldU v F N j) = ((foldU v F N j).1, (foldU v F N j).2 ++ [addedR c]) := by unfold stepU; rw [if_neg (by rw [HFR.out]; exact fun h => hff h.1)]
          rw [hst2] at HST
          clear hst2 hff
          go_wp2_with fail
          refine (added_any c wr).mono ?_
          rintro z W3 ⟨rfl, hb⟩
          have HI3 := Lib.hid (show RulesI _ _ _ _ _ _ _ from ⟨below_step HIj.out.bel hb, HIj.out.own.below hb⟩)
          clear hb c0
          unfold ruV
          generalize hru : (addedR c) = r at HST ⊢
          clear hru
          have hb := (Below.refl W3.heap.size W3).alloc (Nat.le_refl _) (.cells #[.int .i64 r.fr, .int .i64 r.ti, .int .i64 r.pl] 136)
          have HT := Lib.hid (tri_vat (r := r) (tri_new W3 (.int .i64 r.fr) (.int .i64 r.ti) (.int .i64 r.pl) 136))
          have HI4 := Lib.hid (show RulesI _ _ _ _ _ _ _ from ⟨below_step HI3.out.bel hb, HI3.out.own.below hb⟩)
          clear hb HI3
          go_wp2_with (at_builtin; refine wpList_append_ru rfl (.tmp 64) (.tmp 67) rfl W2.heap.size _ _ rfl HI4.out.own ⟨W3.heap.size, 0, none⟩ 1 r rfl HT.out ?c1 ?c2 ?_)
          case c1 => have := HLN.out; omega
          case c2 => exact HI4.out.bel.size
          intro v' W5 hO hg
          have HI5 : Hid (Below W2.heap.size W2 W5) := HI4.out.bel.trans (HI4.out.own.below_grown (Nat.le_refl _) HI4.out.bel.size hg)
          have HO5 := Lib.hid hO
          clear hO hg HI4 HT
          go_wp2_with fail
          go_roundw
          case rel => exact ⟨j + 1, fr, by go_num, by omega, rfl, by omega, by rw [HST.out]; exact HFR.out, ⟨HI5.out, by rw [HST.out]; exact HO5.out⟩⟩
          case measure => simp [intOf] <;> omega
        · have z1 : ¬ (j : Int) < (N.size : Int) := by omega
          have z2 : decide ((j : Int) < (N.size : Int)) = false := decide_eq_false z1
          have hjj : j = N.size := by omega
          rw [hjj] at HIj
          clear hjj hlt
          go_wp2_with fail
          go_ret2
          exact ⟨_, by rw [HGV.out]; rfl, by rw [HGV.out, if_pos rfl, HRU.out]; exact ownU_less HIj.out.own HB.out.size, HB.out.trans (HIj.out.bel.mono HB.out.size)⟩

end Go.Proofs.YtiibeemjkdipnaaGreatDoor.Upcast

/-
  Slices of numbers that are made; like; lifted.
-/
namespace Go.Proofs.YtiibeemjkdipnaaGreatDoor.Upcast
open Go Go.RowKit
open Go.Proofs.YtiibeemjkdipnaaGreatDoor.Schema

theorem row_lt {w : World} {g : Nat} {o : Obj} (h : w.heap[g]? = some o) : g < w.heap.size := by
  rcases Nat.lt_or_ge g w.heap.size with h1 | h1
  · exact h1
  · rw [Array.getElem?_eq_none h1] at h; cases h
theorem cell_row {w : World} {g : Nat} {cs : Array Value} {t : TypeId} {fr : Nat × Nat} (h : w.heap[g]? = some (.cells cs t fr)) (i : Nat) : w.cell? ⟨g, i, none⟩ = cs[i]? := cell_of_row w g i cs _ _ h
theorem frozen_row {w : World} {g : Nat} {cs : Array Value} {t : TypeId} (h : w.heap[g]? = some (.cells cs t (0, 0))) (i : Nat) : w.frozen? ⟨g, i, none⟩ = false := by
  unfold World.frozen?
  show (match w.heap[g]? with | some (.cells _ _ (lo, hi)) => _ | _ => _) = _
  rw [h]
  simp
theorem heap_set {w : World} {b : Nat} {cs : Array Value} {t : TypeId} {fr : Nat × Nat} (h : w.heap[b]? = some (.cells cs t fr)) (i : Nat) (v : Value) : (w.setCell ⟨b, i, none⟩ v).heap[b]? = some (.cells (cs.setIfInBounds i v) t fr) := by
  simp [World.setCell, Array.getElem?_modify, h]

/-- a block of numbers that was made: just these -/
def Nm (w : World) (g : Nat) (ns : List Int) : Prop := ∃ cur : Array Value, w.heap[g]? = some (.cells cur 2 (0, 0)) ∧ cur.toList = nums ns
theorem Nm.lt {w : World} {g : Nat} {ns : List Int} (h : Nm w g ns) : g < w.heap.size := by obtain ⟨cur, h, _⟩ := h; exact row_lt h
theorem Nm.cell {w : World} {g : Nat} {ns : List Int} (h : Nm w g ns) (i : Nat) (hi : i < ns.length) : w.cell? ⟨g, i, none⟩ = some (.int .i64 (ns.getD i 0)) := by
  obtain ⟨cur, h, e⟩ := h
  rw [cell_row h, ← Array.getElem?_toList, e]
  exact nums_at ns i hi
theorem Nm.fr {w : World} {g : Nat} {ns : List Int} (h : Nm w g ns) (i : Nat) : w.frozen? ⟨g, i, none⟩ = false := by obtain ⟨cur, h, _⟩ := h; exact frozen_row h i
theorem Nm.set {w : World} {g : Nat} {ns : List Int} (h : Nm w g ns) (i : Nat) (x : Int) : Nm (w.setCell ⟨g, i, none⟩ (.int .i64 x)) g (ns.set i x) := by
  obtain ⟨cur, h, e⟩ := h
  refine ⟨_, heap_set h i _, ?_⟩
  rw [Array.toList_setIfInBounds, e]
  unfold nums
  rw [List.map_set]
theorem Nm.below {w w' : World} {g : Nat} {ns : List Int} (h : Nm w g ns) (hb : Below w.heap.size w w') : Nm w' g ns := by
  obtain ⟨cur, h, e⟩ := h
  exact ⟨cur, (hb.block g (row_lt h)).trans h, e⟩
theorem Nm.touch {lo hi : Nat} {w w' : World} {g : Nat} {ns : List Int} (h : Nm w g ns) (t : Schema.Touch lo hi w w') (ho : g < lo ∨ hi ≤ g) : Nm w' g ns := by
  obtain ⟨cur, h, e⟩ := h
  exact ⟨cur, (t.block g (row_lt h) ho).trans h, e⟩
theorem Nm.own {w : World} {g base : Nat} {ns : List Int} (h : Nm w g ns) (hb : base ≤ g) (hl : ns.length ≤ maxLen) : Own w base 2 (.slice (some ⟨g, 0, none⟩) ns.length ns.length) (nums ns) := by
  obtain ⟨cur, h, e⟩ := h
  have hs : cur.size = ns.length := by rw [← Array.length_toList, e, nums_len]
  unfold Own
  rw [nums_len]
  exact ⟨by rw [nums_len, Nat.mul_one], Or.inr ⟨g, ns.length, cur, rfl, hb, h, Nat.le_refl _, hl, by rw [hs, Nat.mul_one], by rw [e, Nat.mul_one]; exact List.take_of_length_le (by rw [nums_len]; exact Nat.le_refl _)⟩⟩
def mkN (n : Nat) : Array Value := madeCells #[.int .i64 0] n
theorem mkN_list (n : Nat) : (mkN n).toList = nums (List.replicate n 0) := by
  unfold mkN nums
  rw [List.map_replicate]
  apply List.ext_getElem
  · simp [madeCells]
  · intro i h1 h2
    simp [madeCells, Nat.mod_one]
theorem nm_new (w : World) (n : Nat) : Nm (w.alloc (.cells (mkN n) 2)) w.heap.size (List.replicate n 0) := ⟨mkN n, heap_alloc_new w _, mkN_list n⟩
theorem run_mkN (n : Nat) (hn : n ≤ 1000000) (W : World) : (Instr.makeSlice 36 (.int .i64 (n : Int)) (.int .i64 (n : Int))).run Tryz.prog W = .ok (.slice (some ⟨W.heap.size, 0, none⟩) n n) (W.alloc (.cells (mkN n) 2)) := by
  obtain ⟨i0, hi, hz0, hz1, hz2⟩ := info_parts infoN
  have h := run_make (P := Tryz.prog) W 36 2 i0 (.int .i64 0) Tryz.underlying36 hi hz0 .i64 .i64 (n : Int) (n : Int) (by omega) (by omega) (by rw [hz2]; omega) (by omega)
  rw [hz1, Int.toNat_natCast, Nat.mul_one] at h
  exact h

/-! ### an event of the same kind and name -/
def LikeRes (v k : Nat) (N : Value) (ts : List ByteArray) (w : World) (z : Ending) (w' : World) : Prop := ∃ C cc, z = .returned (.agg #[.int .u8 (v : Int), .int .u8 (k : Int), N, .slice C ts.length cc]) ∧ OwnE w' w.heap.size 9 (.slice C ts.length cc) (texts ts) ∧ Below w.heap.size w w'
theorem touch4 (W : World) (b : Nat) (x0 x1 x2 x3 : Value) : Schema.Touch b (b + 1) W ((((W.setCell ⟨b, 0, none⟩ x0).setCell ⟨b, 1, none⟩ x1).setCell ⟨b, 2, none⟩ x2).setCell ⟨b, 3, none⟩ x3) :=
  (((Schema.Touch.set W b 0 x0).trans (Schema.Touch.set _ b 1 x1)).trans (Schema.Touch.set _ b 2 x2)).trans (Schema.Touch.set _ b 3 x3)
theorem ownE_set4 {w : World} {b base : Nat} {E : TypeId} {v : Value} {vs : List Value} {x0 x1 x2 x3 : Value} (h : OwnE w base E v vs) (hb : b < base) : OwnE ((((w.setCell ⟨b, 0, none⟩ x0).setCell ⟨b, 1, none⟩ x1).setCell ⟨b, 2, none⟩ x2).setCell ⟨b, 3, none⟩ x3) base E v vs :=
  (((h.set (b := b) (o := 0) hb x0).set (b := b) (o := 1) hb x1).set (b := b) (o := 2) hb x2).set (b := b) (o := 3) hb x3
theorem _root_.Go.Proofs.YtiibeemjkdipnaaGreatDoor.Schema.Four.set4 {w : World} {b : Nat} {a0 a1 a2 a3 : Value} (h : Four w b a0 a1 a2 a3) (x0 x1 x2 x3 : Value) : Four ((((w.setCell ⟨b, 0, none⟩ x0).setCell ⟨b, 1, none⟩ x1).setCell ⟨b, 2, none⟩ x2).setCell ⟨b, 3, none⟩ x3) b x0 x1 x2 x3 := by
  have s0 : Four (w.setCell ⟨b, 0, none⟩ x0) b x0 a1 a2 a3 := ⟨World.cell?_setCell_same _ _ _ h.1, (World.cell?_setCell_other _ _ _ _ (by simp)).trans h.2.1, (World.cell?_setCell_other _ _ _ _ (by simp)).trans h.2.2.1, (World.cell?_setCell_other _ _ _ _ (by simp)).trans h.2.2.2⟩
  have s1 : Four ((w.setCell ⟨b, 0, none⟩ x0).setCell ⟨b, 1, none⟩ x1) b x0 x1 a2 a3 := ⟨(World.cell?_setCell_other _ _ _ _ (by simp)).trans s0.1, World.cell?_setCell_same _ _ _ s0.2.1, (World.cell?_setCell_other _ _ _ _ (by simp)).trans s0.2.2.1, (World.cell?_setCell_other _ _ _ _ (by simp)).trans s0.2.2.2⟩
  have s2 : Four (((w.setCell ⟨b, 0, none⟩ x0).setCell ⟨b, 1, none⟩ x1).setCell ⟨b, 2, none⟩ x2) b x0 x1 x2 a3 := ⟨(World.cell?_setCell_other _ _ _ _ (by simp)).trans s1.1, (World.cell?_setCell_other _ _ _ _ (by simp)).trans s1.2.1, World.cell?_setCell_same _ _ _ s1.2.2.1, (World.cell?_setCell_other _ _ _ _ (by simp)).trans s1.2.2.2⟩
  exact ⟨(World.cell?_setCell_other _ _ _ _ (by simp)).trans s2.1, (World.cell?_setCell_other _ _ _ _ (by simp)).trans s2.2.1, (World.cell?_setCell_other _ _ _ _ (by simp)).trans s2.2.2.1, World.cell?_setCell_same _ _ _ s2.2.2.2⟩
theorem vat_low {w w' : World} {A : Option Addr} {vs : List Value} (h : VAt w A vs) (hb : Below w.heap.size w w') : VAt w' A vs := h.below hb
set_option maxRecDepth 100000 in
set_option maxHeartbeats 2000000 in
theorem like_any (A : Option Addr) (ca : Nat) (C : Option Addr) (cc : Nat) (e : Ev) (v : Nat) (A1 : Option Addr) (n1 c1 : Nat) (w : World) (hC : VAt w C (texts e.ts)) (hnC : C = none → cc = 0) (hlt : e.ts.length ≤ 1000) :
    Calls Tryz.prog 76 #[evV A ca C cc e, .int .u8 (v : Int), .slice A1 n1 c1] w (LikeRes v e.k (.slice A1 n1 c1) e.ts w) := by
  have HTs := Lib.hid hC
  have HnC := Lib.hid hnC
  have HLT := Lib.hid hlt
  clear hC hnC hlt
  unfold evV
  have hb1 := (Below.refl w.heap.size w).alloc (Nat.le_refl _) (.cells #[.int .u8 e.v, .int .u8 e.k, .slice A e.ns.length ca, .slice C e.ts.length cc] 39)
  have hs1 : (w.alloc (.cells #[.int .u8 e.v, .int .u8 e.k, .slice A e.ns.length ca, .slice C e.ts.length cc] 39)).heap.size = w.heap.size + 1 := by simp
  have hb2 := (Below.refl (w.alloc (.cells #[.int .u8 e.v, .int .u8 e.k, .slice A e.ns.length ca, .slice C e.ts.length cc] 39)).heap.size (w.alloc (.cells #[.int .u8 e.v, .int .u8 e.k, .slice A e.ns.length ca, .slice C e.ts.length cc] 39))).alloc (Nat.le_refl _) (.cells #[.int .u8 0, .int .u8 0, .slice none 0 0, .slice none 0 0] 39)
  have hx : Four _ w.heap.size _ _ _ _ := Four.below (box4 w (.int .u8 e.v) (.int .u8 e.k) (.slice A e.ns.length ca) (.slice C e.ts.length cc) 39) hb2
  have HX := Lib.hid hx
  have hp : Four _ (w.alloc (.cells #[.int .u8 e.v, .int .u8 e.k, .slice A e.ns.length ca, .slice C e.ts.length cc] 39)).heap.size _ _ _ _ := box4 (w.alloc (.cells #[.int .u8 e.v, .int .u8 e.k, .slice A e.ns.length ca, .slice C e.ts.length cc] 39)) (.int .u8 0) (.int .u8 0) (.slice none 0 0) (.slice none 0 0) 39
  have hf := free_new (w.alloc (.cells #[.int .u8 e.v, .int .u8 e.k, .slice A e.ns.length ca, .slice C e.ts.length cc] 39)) #[.int .u8 0, .int .u8 0, .slice none 0 0, .slice none 0 0] 39
  rw [hs1] at hp hf
  have HP := Lib.hid hp
  have HPF := Lib.hid hf
  have HB := Lib.hid (below_step hb1 hb2)
  have HBV := Lib.hid hb1
  skip
  clear hb1 hb2 hs1 hx hp hf
  go_enter Tryz.func76, Tryz.ntmps76
  go_upto_region 1 with (fail)
  have HTW := Lib.hid (vat_low HTs.out HB.out)
  generalize ((w.alloc (.cells #[.int .u8 e.v, .int .u8 e.k, .slice A e.ns.length ca, .slice C e.ts.length cc] 39)).alloc (.cells #[.int .u8 0, .int .u8 0, .slice none 0 0, .slice none 0 0] 39)) = W at HX HP HPF HB HTW ⊢
  have gd := below_drew W.heap.size W
  replace HX := Lib.hid (HX.out.below gd)
  replace HP := Lib.hid (HP.out.below gd)
  replace HPF := Lib.hid (HPF.out.below gd)
  replace HB := Lib.hid (below_step HB.out gd)
  replace HTW := Lib.hid (HTW.out.below gd)
  clear gd
  refine wp_region_held_drew (S := (fun w' => w'.cell? ⟨w.heap.size, 0, none⟩ = some (.int .u8 e.v) ∧ w'.cell? ⟨w.heap.size, 1, none⟩ = some (.int .u8 e.k) ∧ w'.cell? ⟨w.heap.size, 2, none⟩ = some (.slice A e.ns.length ca) ∧ w'.cell? ⟨w.heap.size, 3, none⟩ = some (.slice C e.ts.length cc))) (by kernel_rfl) HX.out (fun hHeld => ?_)
  generalize W.drew = D0 at HX HP HPF HB HTW hHeld ⊢
  refine wpAnyH_take (i := 0) (oi := { dst := some 7, op := Go.Op.move (Go.Operand.tmp 1), type := 5, pos := "upcast.go:77", after := #[], guard := none }) (v := ?v1) rfl (by kernel_rfl) (by kernel_rfl) (by kernel_rfl) (fun _ _ _ h => h) (Or.inl ⟨by rfl, ?hy1⟩) (by assumption) ?rest1
  case hy1 => (intro w hSw; obtain ⟨s0, s1, s2, s3⟩ := hSw; go_simp; try with_reducible rfl)
  try simp only [Act.put, List.setIfInBounds_toArray, List.set_cons_zero, List.set_cons_succ]
  refine wpAnyH_take (i := 1) (oi := { dst := some 8, op := Go.Op.fieldAddr 39 (Go.Operand.tmp 3) 1, type := 0, pos := "upcast.go:77", after := #[], guard := none }) (v := ?v2) rfl (by kernel_rfl) (by kernel_rfl) (by kernel_rfl) (fun _ _ _ h => h) (Or.inl ⟨by rfl, ?hy2⟩) (by assumption) ?rest2
  case hy2 => (intro w hSw; obtain ⟨s0, s1, s2, s3⟩ := hSw; go_simp; try with_reducible rfl)
  try simp only [Act.put, List.setIfInBounds_toArray, List.set_cons_zero, List.set_cons_succ]
  refine wpAnyH_take (i := 2) (oi := { dst := some 9, op := Go.Op.load 5 (Go.Operand.tmp 8), type := 5, pos := "upcast.go:77", after := #[{ on := 1, ground := Go.Ground.data }], guard := none }) (v := ?v3) rfl (by kernel_rfl) (by kernel_rfl) (by kernel_rfl) (fun _ _ _ h => h) (Or.inl ⟨by rfl, ?hy3⟩) (by assumption) ?rest3
  case hy3 => (intro w hSw; obtain ⟨s0, s1, s2, s3⟩ := hSw; go_simp; try with_reducible rfl)
  try simp only [Act.put, List.setIfInBounds_toArray, List.set_cons_zero, List.set_cons_succ]
  refine wpAnyH_take (i := 3) (oi := { dst := some 10, op := Go.Op.move (Go.Operand.tmp 2), type := 36, pos := "upcast.go:77", after := #[], guard := none }) (v := ?v4) rfl (by kernel_rfl) (by kernel_rfl) (by kernel_rfl) (fun _ _ _ h => h) (Or.inl ⟨by rfl, ?hy4⟩) (by assumption) ?rest4
  case hy4 => (intro w hSw; obtain ⟨s0, s1, s2, s3⟩ := hSw; go_simp; try with_reducible rfl)
  try simp only [Act.put, List.setIfInBounds_toArray, List.set_cons_zero, List.set_cons_succ]
  refine wpAnyH_take (i := 4) (oi := { dst := some 11, op := Go.Op.fieldAddr 39 (Go.Operand.tmp 3) 3, type := 0, pos := "upcast.go:77", after := #[], guard := none }) (v := ?v5) rfl (by kernel_rfl) (by kernel_rfl) (by kernel_rfl) (fun _ _ _ h => h) (Or.inl ⟨by rfl, ?hy5⟩) (by assumption) ?rest5
  case hy5 => (intro w hSw; obtain ⟨s0, s1, s2, s3⟩ := hSw; go_simp; try with_reducible rfl)
  try simp only [Act.put, List.setIfInBounds_toArray, List.set_cons_zero, List.set_cons_succ]
  refine wpAnyH_take (i := 5) (oi := { dst := some 12, op := Go.Op.load 37 (Go.Operand.tmp 11), type := 37, pos := "upcast.go:77", after := #[{ on := 4, ground := Go.Ground.data }], guard := none }) (v := ?v6) rfl (by kernel_rfl) (by kernel_rfl) (by kernel_rfl) (fun _ _ _ h => h) (Or.inl ⟨by rfl, ?hy6⟩) (by assumption) ?rest6
  case hy6 => (intro w hSw; obtain ⟨s0, s1, s2, s3⟩ := hSw; go_simp; try with_reducible rfl)
  try simp only [Act.put, List.setIfInBounds_toArray, List.set_cons_zero, List.set_cons_succ]
  refine wpAnyH_ready (rs := [6]) (by kernel_rfl) (by simp) ?_
  refine AllReadyH.cons (o := { dst := some 13, op := Go.Op.call { callee := Go.Callee.builtin Go.Builtin.append, args := #[Go.Operand.const (Go.Value.slice none 0 0), Go.Operand.tmp 12], argTypes := #[37, 37] }, type := 37, pos := "upcast.go:77", after := #[{ on := 5, ground := Go.Ground.data }], guard := none }) rfl (fun K hK => ?_) AllReadyH.nil
  refine wp_append_vals 37 9 (.string ByteArray.empty) 16 Tryz.underlying37 infoT rfl (by decide) (.const (.slice none 0 0)) (.tmp 12) rfl D0.heap.size (.slice none 0 0) [] rfl (Own.nil _ _ _) C _ cc (texts e.ts) rfl (texts_len _).symm HTW.out (texts_cell _) HnC.out (by have := HLT.out; have := texts_len e.ts; simp only [List.length_nil]; omega) (Nat.le_refl _) ?_
  intro v' V2 hO hg
  try rw [List.nil_append] at hO
  obtain ⟨C2, c2, rfl, -, -⟩ := hO.vat
  rw [texts_len] at hO ⊢
  have hb : Below D0.heap.size D0 V2 := ⟨hg.os, hg.tape, hg.output, hg.size, fun k hk => hg.block k hk (by simp [Value.ownBlock])⟩
  have HO := Lib.hid hO
  have hlow : w.heap.size + 1 < D0.heap.size := HPF.out.1
  replace HP := Lib.hid (HP.out.below hb)
  replace HPF := Lib.hid (HPF.out.below hb)
  replace HX := Lib.hid (HX.out.below hb)
  replace HB := Lib.hid (below_step HB.out hb)
  have HLW := Lib.hid hlow
  clear hO hg hb hlow HTW
  refine hK.out _ _ HX.out (fun hHeld2 => ?_)
  clear hK K
  try simp only [Act.put, List.setIfInBounds_toArray, List.set_cons_zero, List.set_cons_succ]
  refine wpAnyH_take (i := 7) (oi := { dst := some 14, op := Go.Op.build 39 #[(0, Go.Operand.tmp 7), (1, Go.Operand.tmp 9), (2, Go.Operand.tmp 10), (3, Go.Operand.tmp 13)], type := 39, pos := "upcast.go:77", after := #[{ on := 0, ground := Go.Ground.data }, { on := 2, ground := Go.Ground.data }, { on := 3, ground := Go.Ground.data }, { on := 6, ground := Go.Ground.data }], guard := none }) (v := ?v7) rfl (by kernel_rfl) (by kernel_rfl) (by kernel_rfl) (fun _ _ _ h => h) (Or.inl ⟨by rfl, ?hy7⟩) (by assumption) ?rest7
  case hy7 => (intro w hSw; obtain ⟨s0, s1, s2, s3⟩ := hSw; go_simp; try with_reducible rfl)
  try simp only [Act.put, List.setIfInBounds_toArray, List.set_cons_zero, List.set_cons_succ]
  refine wpAnyH_ready (rs := [8]) (by kernel_rfl) (by simp) ?_
  refine AllReadyH.cons (o := { dst := none, op := Go.Op.store 39 (Go.Operand.tmp 6) (Go.Operand.tmp 14), type := 0, pos := "upcast.go:77", after := #[{ on := 7, ground := Go.Ground.data }, { on := 6, ground := Go.Ground.chain }, { on := 0, ground := Go.Ground.phase }, { on := 1, ground := Go.Ground.phase }, { on := 2, ground := Go.Ground.phase }, { on := 3, ground := Go.Ground.phase }, { on := 4, ground := Go.Ground.phase }, { on := 5, ground := Go.Ground.phase }, { on := 6, ground := Go.Ground.phase }, { on := 7, ground := Go.Ground.phase }], guard := none }) rfl (fun K hK => ?_) AllReadyH.nil
  obtain ⟨p0, p1, p2, p3⟩ := HP.out
  have f0 := HPF.out.2 0
  have f1 := HPF.out.2 1
  have f2 := HPF.out.2 2
  have f3 := HPF.out.2 3
  go_simp
  clear p0 p1 p2 p3 f0 f1 f2 f3
  obtain ⟨d0, d1, d2, d3⟩ := HP.out.set4 (.int .u8 (v : Int)) (.int .u8 e.k) (.slice A1 n1 c1) (.slice C2 e.ts.length c2)
  have hx4 := Four.touch HX.out (touch4 V2 (w.heap.size + 1) (.int .u8 (v : Int)) (.int .u8 e.k) (.slice A1 n1 c1) (.slice C2 e.ts.length c2)) (Or.inl (Nat.lt_succ_self _))
  refine hK.out _ _ hx4 (fun hHeld3 => ?_)
  clear hK K hx4
  try simp only [Act.put, List.setIfInBounds_toArray, List.set_cons_zero, List.set_cons_succ]
  refine wpAnyH_done (by kernel_rfl) ?_ _
  go_wp2_with fail
  refine bodyPost_ret (v := .agg #[.int .u8 (v : Int), .int .u8 e.k, .slice A1 n1 c1, .slice C2 e.ts.length c2]) (by simp [results, Tryz.results76, go_sem, d0, d1, d2, d3]) rfl ⟨C2, c2, rfl, ?_, ?_⟩
  · exact (ownE_set4 (Or.inl HO.out : OwnE V2 D0.heap.size _ _ _) HLW.out).less (by have := HLW.out; omega)
  · exact HB.out.trans ((touch4 V2 (w.heap.size + 1) _ _ _ _).below (Nat.le_succ _) HB.out.size)

/-! ### lifted -/
def upV (ns : List Int) (r : Ru) : Int := if r.fr = -1 then r.pl else r.pl + ns.getD r.fr.toNat 0 * r.ti
def upN (l : List Ru) (ns : List Int) : List Int := l.map (upV ns)
def upE (e : Ev) : Ev := ⟨e.v + 1, e.k, upN (rulesL e.v e.k) e.ns, e.ts⟩
def RuOk (n : Nat) (r : Ru) : Prop := (r.fr = -1 ∨ ∃ f : Nat, r.fr = (f : Int) ∧ f < n) ∧ (0 ≤ r.ti ∧ r.ti ≤ 100) ∧ 0 ≤ r.pl ∧ r.pl ≤ 100
theorem kept_ok (v c j n : Nat) (h : j < n) : RuOk n (keptR v c j) := by
  unfold keptR RuOk
  refine ⟨Or.inr ⟨j, rfl, h⟩, ?_, ?_⟩
  · simp only []
    split
    · omega
    · split <;> omega
  · simp only []
    split <;> omega
theorem added_ok (c n : Nat) : RuOk n (addedR c) := by
  unfold addedR RuOk
  refine ⟨Or.inl rfl, show (0 : Int) ≤ 0 ∧ (0 : Int) ≤ 100 from by decide, ?_⟩
  simp only []
  split <;> omega
theorem fold_ok (v : Nat) (former next : ByteArray) (n : Nat) : ∀ r ∈ (foldU v former next n).2, RuOk former.size r := by
  induction n with
  | zero => intro r hr; cases hr
  | succ n ih =>
    rw [foldU_succ]
    unfold stepU
    split
    · rename_i h
      intro r hr
      rcases List.mem_append.1 hr with hr | hr
      · exact ih r hr
      · rw [List.mem_singleton.1 hr]; exact kept_ok _ _ _ _ h.1
    · intro r hr
      rcases List.mem_append.1 hr with hr | hr
      · exact ih r hr
      · rw [List.mem_singleton.1 hr]; exact added_ok _ _
theorem rules_ok (v k : Nat) : ∀ r ∈ rulesL v k, RuOk (lets v k).size r := fold_ok _ _ _ _
theorem rules_len (v k : Nat) : (rulesL v k).length = (lets (v + 1) k).size := foldU_len _ _ _ _
theorem cell_gr {w w' : World} {g b o : Nat} {v : Value} (h : w.cell? ⟨b, o, none⟩ = some v) (k : w.grownBy w' (some g)) (hne : b ≠ g) : w'.cell? ⟨b, o, none⟩ = some v := (World.cell?_of_block (k.block b (cell_lt h) (fun e => hne (Option.some.inj e)))).trans h
theorem four_gr {w w' : World} {g b : Nat} {a0 a1 a2 a3 : Value} (h : Four w b a0 a1 a2 a3) (k : w.grownBy w' (some g)) (hne : b ≠ g) : Four w' b a0 a1 a2 a3 := ⟨cell_gr h.1 k hne, cell_gr h.2.1 k hne, cell_gr h.2.2.1 k hne, cell_gr h.2.2.2 k hne⟩
theorem free_gr {w w' : World} {g b : Nat} (h : Free w b) (k : w.grownBy w' (some g)) (hne : b ≠ g) : Free w' b := ⟨Nat.lt_of_lt_of_le h.1 k.size, fun o => (World.frozen?_of_block (k.block _ h.1 (fun e => hne (Option.some.inj e)))).trans (h.2 o)⟩
theorem gr_trans {a b c : World} {g : Nat} (h : a.grownBy b (some g)) (k : b.grownBy c (some g)) : a.grownBy c (some g) := ⟨k.os.trans h.os, k.tape.trans h.tape, k.output.trans h.output, Nat.le_trans h.size k.size, fun i hi hn => (k.block i (Nat.lt_of_lt_of_le hi h.size) hn).trans (h.block i hi hn)⟩
theorem gr_below {w w' : World} {g : Nat} (h : Below w.heap.size w w') : w.grownBy w' (some g) := ⟨h.os, h.tape, h.output, h.size, fun i hi _ => h.block i hi⟩
theorem gr_set (w : World) (g j : Nat) (v : Value) : w.grownBy (w.setCell ⟨g, j, none⟩ v) (some g) := ⟨rfl, rfl, rfl, by simp [World.setCell], fun k _ hn => Below.heap_setCell w _ v k (fun e => hn (by rw [e]))⟩
theorem bel_gr {B : Nat} {w W W' : World} {g : Nat} (h : Below B w W) (hB : B ≤ W.heap.size) (k : W.grownBy W' (some g)) (hg : B ≤ g) : Below B w W' := h.trans ⟨k.os, k.tape, k.output, k.size, fun i hi => k.block i (by omega) (fun e => by have := Option.some.inj e; omega)⟩
structure LiftI (W3 : World) (g : Nat) (U : List Int) (i : Nat) (P : List Int) (wr : World) : Prop where
  len : P.length = U.length
  done : ∀ j, j < i → P.getD j 0 = U.getD j 0
  nm : Nm wr g P
  gr : W3.grownBy wr (some g)
theorem list_ext {P U : List Int} (hl : P.length = U.length) (h : ∀ j, j < U.length → P.getD j 0 = U.getD j 0) : P = U := by
  apply List.ext_getElem hl
  intro i h1 h2
  have := h i h2
  rw [List.getD_eq_getElem?_getD, List.getD_eq_getElem?_getD, List.getElem?_eq_getElem h1, List.getElem?_eq_getElem h2] at this
  simpa using this
theorem getD_set_same {P : List Int} {i : Nat} (h : i < P.length) (x : Int) : (P.set i x).getD i 0 = x := by
  rw [List.getD_eq_getElem?_getD, List.getElem?_set_self h]; rfl
theorem getD_set_other {P : List Int} {i j : Nat} (h : i ≠ j) (x : Int) : (P.set i x).getD j 0 = P.getD j 0 := by
  rw [List.getD_eq_getElem?_getD, List.getD_eq_getElem?_getD, List.getElem?_set_ne h]
theorem upN_at (l : List Ru) (ns : List Int) (i : Nat) (h : i < l.length) : (upN l ns).getD i 0 = upV ns l[i] := by
  unfold upN
  rw [List.getD_eq_getElem?_getD, List.getElem?_map, List.getElem?_eq_getElem h]; rfl
/-- an event of the call's own is told -/
def OwnV (w : World) (f : Ev) (z : Ending) (w' : World) : Prop := ∃ A1 c1 C1 c2, z = .returned (evV A1 c1 C1 c2 f) ∧ OwnE w' w.heap.size 2 (.slice A1 f.ns.length c1) (nums f.ns) ∧ OwnE w' w.heap.size 9 (.slice C1 f.ts.length c2) (texts f.ts) ∧ Below w.heap.size w w'
set_option maxRecDepth 100000 in
set_option maxHeartbeats 4000000 in
theorem lifted_any (A : Option Addr) (ca : Nat) (C : Option Addr) (cc : Nat) (e : Ev) (w : World) (hA : EvAt w A ca C cc e) (hg : goes e.v e.k = true) (hl : e.ns.length = (lets e.v e.k).size) (hr : ∀ j, 0 ≤ e.ns.getD j 0 ∧ e.ns.getD j 0 ≤ 1125899906842624) (hlt : e.ts.length ≤ 1000) (E : Env w) :
    Calls Tryz.prog 75 #[evV A ca C cc e] w (OwnV w (upE e)) := by
  have HV := Lib.hid hA.v
  have HK := Lib.hid hA.k
  have HE := Lib.hid E
  have HNs := Lib.hid hA.ns
  have HTs := Lib.hid hA.ts
  have HnC := Lib.hid hA.nB
  have HLT := Lib.hid hlt
  have HG := Lib.hid hg
  have HR := Lib.hid hr
  have HL := Lib.hid hl
  have HVV := Lib.hid (show e.v + 1 ≤ 3 from by have h := hg; unfold goes at h; simp only [Bool.and_eq_true] at h; have h1 := (tall_range h.1).1; have h2 := (tall_range h.2).1; omega)
  have HOK := Lib.hid (rules_ok e.v e.k)
  have HUN := Lib.hid (show (upN (rulesL e.v e.k) e.ns).length = (rulesL e.v e.k).length from List.length_map _)
  have HUA := Lib.hid (fun i h => upN_at (rulesL e.v e.k) e.ns i h)
  have HLS := Lib.hid (show (rulesL e.v e.k).length ≤ 10 from by rw [rules_len]; exact (lets_ok _ _).1)
  clear hA E hlt hg hr hl
  unfold evV
  have hb1 := (Below.refl w.heap.size w).alloc (Nat.le_refl _) (.cells #[.int .u8 e.v, .int .u8 e.k, .slice A e.ns.length ca, .slice C e.ts.length cc] 39)
  have hs1 : (w.alloc (.cells #[.int .u8 e.v, .int .u8 e.k, .slice A e.ns.length ca, .slice C e.ts.length cc] 39)).heap.size = w.heap.size + 1 := by simp
  have hb2 := (Below.refl (w.alloc (.cells #[.int .u8 e.v, .int .u8 e.k, .slice A e.ns.length ca, .slice C e.ts.length cc] 39)).heap.size (w.alloc (.cells #[.int .u8 e.v, .int .u8 e.k, .slice A e.ns.length ca, .slice C e.ts.length cc] 39))).alloc (Nat.le_refl _) (.cells #[.int .u8 0, .int .u8 0, .slice none 0 0, .slice none 0 0] 39)
  have hx : Four _ w.heap.size _ _ _ _ := Four.below (box4 w (.int .u8 e.v) (.int .u8 e.k) (.slice A e.ns.length ca) (.slice C e.ts.length cc) 39) hb2
  have HX := Lib.hid hx
  have hp : Four _ (w.alloc (.cells #[.int .u8 e.v, .int .u8 e.k, .slice A e.ns.length ca, .slice C e.ts.length cc] 39)).heap.size _ _ _ _ := box4 (w.alloc (.cells #[.int .u8 e.v, .int .u8 e.k, .slice A e.ns.length ca, .slice C e.ts.length cc] 39)) (.int .u8 0) (.int .u8 0) (.slice none 0 0) (.slice none 0 0) 39
  have hf := free_new (w.alloc (.cells #[.int .u8 e.v, .int .u8 e.k, .slice A e.ns.length ca, .slice C e.ts.length cc] 39)) #[.int .u8 0, .int .u8 0, .slice none 0 0, .slice none 0 0] 39
  rw [hs1] at hp hf
  have HP := Lib.hid hp
  have HPF := Lib.hid hf
  have HB := Lib.hid (below_step hb1 hb2)
  have HBV := Lib.hid hb1
  skip
  clear hb1 hb2 hs1 hx hp hf
  go_enter Tryz.func75, Tryz.ntmps75
  go_upto_region 1 with (fail)
  generalize ((w.alloc (.cells #[.int .u8 e.v, .int .u8 e.k, .slice A e.ns.length ca, .slice C e.ts.length cc] 39)).alloc (.cells #[.int .u8 0, .int .u8 0, .slice none 0 0, .slice none 0 0] 39)) = W at HX HP HPF HB ⊢
  obtain ⟨x0, x1, x2, x3⟩ := HX.out
  go_wp2_with fail
  clear x0 x1 x2 x3
  refine (Rules_any e.v e.k HV.out HK.out W (HE.out.below HB.out)).mono ?_
  rintro z W2 ⟨x, rfl, hou, hb⟩
  rw [HG.out, if_pos rfl] at hou
  rw [HG.out]
  obtain ⟨A3, c3, rfl, hrow⟩ := hou.vat
  replace HX := Lib.hid (HX.out.below hb)
  replace HP := Lib.hid (HP.out.below hb)
  replace HPF := Lib.hid (HPF.out.below hb)
  replace HB := Lib.hid (below_step HB.out hb)
  have HROW := Lib.hid hrow
  clear hou hrow hb
  generalize hl3 : rulesL e.v e.k = l at HROW HOK HUN HUA HLS ⊢
  have HL3 := Lib.hid hl3
  clear hl3
  have hmk := run_mkN l.length (by have := HLS.out; omega)
  have hl10 : l.length ≤ 10 := HLS.out
  have hb := (Below.refl W2.heap.size W2).alloc (Nat.le_refl _) (.cells (mkN l.length) 2)
  have HN := Lib.hid (nm_new W2 l.length)
  have hxg : w.heap.size + 1 < W2.heap.size := HPF.out.1
  have HX3 := Lib.hid (HX.out.below hb)
  have HP3 := Lib.hid (HP.out.below hb)
  have HPF3 := Lib.hid (HPF.out.below hb)
  have HB3 := Lib.hid (below_step HB.out hb)
  have HR3 := Lib.hid hb
  clear hb
  go_wp2_with fail
  clear hmk
  generalize W2.alloc (.cells (mkN l.length) 2) = W3 at HN HX3 HP3 HPF3 HB3 HR3 ⊢
  generalize hgg : W2.heap.size = g at HN hxg HR3 ⊢
  have HGG := Lib.hid hgg
  have HXG := Lib.hid hxg
  clear hgg hxg
  have HI : Hid (LiftI W3 g (upN l e.ns) 0 (List.replicate l.length 0) W3) := ⟨by rw [HUN.out, List.length_replicate], fun j hj => absurd hj (by omega), HN.out, gr_below (Below.refl _ _)⟩
  clear HN
  go_loopw [21] (fun t wr => ∃ (i : Nat) (P : List Int), t = .int .i64 i ∧ i ≤ l.length ∧ Hid (LiftI W3 g (upN l e.ns) i P wr)) (fun t _ => l.length - (intOf t).toNat)
  case atStart => exact ⟨0, _, rfl, Nat.zero_le _, HI⟩
  case round =>
    obtain ⟨i, P, rfl, hi, HIi⟩ := hrel
    have hgs : w.heap.size + 1 < g := HXG.out
    have HXr := Lib.hid (four_gr HX3.out HIi.out.gr (by omega))
    have HPr := Lib.hid (four_gr HP3.out HIi.out.gr (by omega))
    have HPFr := Lib.hid (free_gr HPF3.out HIi.out.gr (by omega))
    have HBr := Lib.hid (bel_gr HB3.out HB3.out.size HIi.out.gr (by omega))
    clear hgs
    by_cases hlt : i < l.length
    · have z0 : (0 : Int) ≤ (i : Int) := by omega
      have z1 : (i : Int) < (l.length : Int) := by omega
      obtain ⟨b3, o3, rfl, hbl, c0, c1, c2⟩ := HROW.out.at i hlt
      have hok := HOK.out _ (List.getElem_mem hlt)
      have hua := HUA.out i hlt
      have hne : b3 ≠ g := by have := HGG.out; omega
      have hR3 : Below W2.heap.size W2 W3 := by rw [HGG.out]; exact HR3.out
      have d0 := cell_gr (cell_kept c0 hR3) HIi.out.gr hne
      have d1 := cell_gr (cell_kept c1 hR3) HIi.out.gr hne
      have d2 := cell_gr (cell_kept c2 hR3) HIi.out.gr hne
      clear c0 c1 c2 hbl hne hR3
      generalize l[i] = r at d0 d1 d2 hok hua
      obtain ⟨fr, ti, pl⟩ := r
      simp only [] at d0 d1 d2
      have HOI := Lib.hid hok
      have HUI := Lib.hid hua
      clear hok hua
      go_upto_region 6 with (fail)
      clear d0 d1 d2
      have hb := (Below.refl wr.heap.size wr).alloc (Nat.le_refl _) (.cells #[.int .i64 fr, .int .i64 ti, .int .i64 pl] 136)
      have HT := Lib.hid (tri_new wr (.int .i64 fr) (.int .i64 ti) (.int .i64 pl) 136)
      have HNM := Lib.hid (HIi.out.nm.below hb)
      have HGR := Lib.hid (gr_trans HIi.out.gr (gr_below hb))
      have hgq : g < wr.heap.size := HIi.out.nm.lt
      replace HXr := Lib.hid (HXr.out.below hb)
      replace HBr := Lib.hid (below_step HBr.out hb)
      clear hb
      generalize wr.alloc (.cells #[.int .i64 fr, .int .i64 ti, .int .i64 pl] 136) = V1 at HT HNM HGR HXr HBr ⊢
      generalize wr.heap.size = q at HT hgq ⊢
      have HGQ := Lib.hid hgq
      clear hgq
      have hPl : i < P.length := by have := HIi.out.len; have := HUN.out; omega
      have HPL := Lib.hid hPl
      clear hPl
      obtain ⟨t0, t1, t2⟩ := HT.out
      have y0 := HNM.out.cell i HPL.out
      have fy := HNM.out.fr i
      go_upto_region 7 with (fail)
      clear t0 t1 t2 y0 fy
      have ht := Schema.Touch.set V1 g i (.int .i64 pl)
      have hgs : w.heap.size + 1 < g := HXG.out
      have hgq := HGQ.out
      replace HT := Lib.hid (HT.out.touch ht (Or.inr (by omega)))
      replace HNM := Lib.hid (HNM.out.set i pl)
      replace HGR := Lib.hid (gr_trans HGR.out (gr_set V1 g i (.int .i64 pl)))
      replace HXr := Lib.hid (HXr.out.touch ht (Or.inl (by omega)))
      replace HBr := Lib.hid (Touch.step HBr.out ht (by omega))
      clear ht hgs hgq
      generalize V1.setCell ⟨g, i, none⟩ (.int .i64 pl) = V2 at HT HNM HGR HXr HBr ⊢
      rcases HOI.out.1 with hfr | ⟨f, hfr, hfl⟩
      · simp only [] at hfr
        subst hfr
        have HI2 : Hid (LiftI W3 g (upN l e.ns) (i + 1) (P.set i pl) V2) := ⟨by rw [List.length_set]; exact HIi.out.len, fun j hj => by
          by_cases hji : j = i
          · rw [hji, getD_set_same HPL.out, HUI.out]; rfl
          · rw [getD_set_other (fun h => hji h.symm)]; exact HIi.out.done j (by omega), HNM.out, HGR.out⟩
        obtain ⟨t0, t1, t2⟩ := HT.out
        go_wp2_with fail
        clear t0 t1 t2
        go_roundw
        case rel => exact ⟨i + 1, _, by go_num, by omega, HI2⟩
        case measure => simp [intOf] <;> omega
      · simp only [] at hfr
        subst hfr
        have hfn : f < e.ns.length := by rw [HL.out]; exact hfl
        have HFN := Lib.hid hfn
        have q1 : ((f : Int) != -1) = true := by rw [bne_iff_ne]; omega
        have q0 : ¬ (f : Int) = -1 := by omega
        obtain ⟨bA, oA, rfl, cA⟩ := (vat_low HNs.out HBr.out) f _ (nums_at e.ns f hfn)
        have hrr := HR.out f
        have hti := HOI.out.2.1
        have hpl := HOI.out.2.2
        simp only [] at hti hpl
        generalize hxx : e.ns.getD f 0 = x at cA hrr
        have HXX := Lib.hid hxx
        clear hxx
        have hmb : 0 ≤ x * ti ∧ x * ti ≤ 112589990684262400 := ⟨Int.mul_nonneg hrr.1 hti.1, by have h1 := Int.mul_le_mul_of_nonneg_right hrr.2 hti.1; have h2 := Int.mul_le_mul_of_nonneg_left hti.2 (show (0 : Int) ≤ 1125899906842624 by decide); omega⟩
        have hmw : IntKind.i64.wrap (x * ti) = x * ti := IntWalk.i64_in _ (by omega)
        have haw : IntKind.i64.wrap (pl + x * ti) = pl + x * ti := IntWalk.i64_in _ (by omega)
        have HI2 : Hid (LiftI W3 g (upN l e.ns) (i + 1) ((P.set i pl).set i (pl + x * ti)) (V2.setCell ⟨g, i, none⟩ (.int .i64 (pl + x * ti)))) := ⟨by rw [List.length_set, List.length_set]; exact HIi.out.len, fun j hj => by
          by_cases hji : j = i
          · rw [hji, getD_set_same (by rw [List.length_set]; exact HPL.out), HUI.out]
            show _ = upV e.ns ⟨(f : Int), ti, pl⟩
            unfold upV
            rw [if_neg q0]
            show _ = pl + e.ns.getD (f : Int).toNat 0 * ti
            rw [Int.toNat_natCast, HXX.out]
          · rw [getD_set_other (fun h => hji h.symm), getD_set_other (fun h => hji h.symm)]; exact HIi.out.done j (by omega), HNM.out.set i _, gr_trans HGR.out (gr_set V2 g i _)⟩
        have hf0 : (0 : Int) ≤ (f : Int) := by omega
        have hf1 : (f : Int) < (e.ns.length : Int) := by omega
        skip
        obtain ⟨t0, t1, t2⟩ := HT.out
        obtain ⟨x0, x1, x2, x3⟩ := HXr.out
        have y0 := HNM.out.cell i (by rw [List.length_set]; exact HPL.out)
        rw [getD_set_same HPL.out] at y0
        have fy := HNM.out.fr i
        clear x0 x1 x3 hrr hti hpl hmb
        go_wp2_with fail
        go_region
        all_goals
          clear t0 t1 t2 x2 y0 fy cA
          have HI3 : Hid (LiftI W3 g (upN l e.ns) (i + 1) ((P.set i pl).set i (pl + x * ti)) ((V2.setCell ⟨g, i, none⟩ (.int .i64 (pl + x * ti))).drew)) := ⟨HI2.out.len, HI2.out.done, HI2.out.nm.below (below_drew _ _), gr_trans HI2.out.gr (gr_below (below_drew _ _))⟩
          go_wp2_with fail
          go_roundw
          case rel => exact ⟨i + 1, _, by go_num, by omega, HI3⟩
          case measure => simp [intOf] <;> omega
    · have z1 : ¬ (i : Int) < (l.length : Int) := by omega
      have z2 : decide ((i : Int) < (l.length : Int)) = false := decide_eq_false z1
      have hPU : P = upN l e.ns := list_ext HIi.out.len (fun j hj => HIi.out.done j (by have := HUN.out; omega))
      have HNM := Lib.hid HIi.out.nm
      rw [hPU] at HNM
      clear hPU
      have hvw : IntKind.u8.wrap ((e.v : Int) + 1) = ((e.v + 1 : Nat) : Int) := by have := HVV.out; rw [IntKind.wrap_u8]; omega
      have hown := HNM.out.own (base := w.heap.size + 2) (by have := HXG.out; omega) (by have := HUN.out; have := HLS.out; unfold maxLen; omega)
      rw [HUN.out] at hown
      have HOW := Lib.hid hown
      clear hown
      obtain ⟨x0, x1, x2, x3⟩ := HXr.out
      go_wp2_with fail
      clear x0 x1 x2 x3 z1 z2 hvw
      refine (like_any A ca C cc e (e.v + 1) (some ⟨g, 0, none⟩) l.length l.length wr (vat_low HTs.out HBr.out) HnC.out HLT.out).mono ?_
      rintro z V1 ⟨C2, c2, rfl, hoe, hb⟩
      have hsz := HBr.out.size
      have hps := HPFr.out.1
      replace HPr := Lib.hid (HPr.out.below hb)
      replace HPFr := Lib.hid (HPFr.out.below hb)
      replace HBr := Lib.hid (below_step HBr.out hb)
      have HO1 := Lib.hid (show OwnE V1 (w.heap.size + 2) _ _ _ from Or.inl (HOW.out.below hb))
      have HO2 := Lib.hid (hoe.less (show w.heap.size + 2 ≤ _ by omega))
      clear hoe hb hsz hps
      obtain ⟨p0, p1, p2, p3⟩ := HPr.out
      have f0 := HPFr.out.2 0
      have f1 := HPFr.out.2 1
      have f2 := HPFr.out.2 2
      have f3 := HPFr.out.2 3
      go_wp2_with fail
      clear p0 p1 p2 p3 f0 f1 f2 f3
      obtain ⟨d0, d1, d2, d3⟩ := HPr.out.set4 (.int .u8 ((e.v : Int) + 1)) (.int .u8 e.k) (.slice (some ⟨g, 0, none⟩) l.length l.length) (.slice C2 e.ts.length c2)
      refine bodyPost_ret (v := .agg #[.int .u8 ((e.v : Int) + 1), .int .u8 e.k, .slice (some ⟨g, 0, none⟩) l.length l.length, .slice C2 e.ts.length c2]) (by simp [results, Tryz.results75, go_sem, d0, d1, d2, d3]) rfl ⟨some ⟨g, 0, none⟩, l.length, C2, c2, ?_, ?_, ?_, ?_⟩
      · unfold upE evV; rw [HL3.out]; simp only []; rw [HUN.out]; rfl
      · unfold upE; rw [HL3.out]; simp only []; rw [HUN.out]; exact (ownE_set4 HO1.out (by omega)).less (by omega)
      · exact (ownE_set4 HO2.out (by omega)).less (by omega)
      · exact HBr.out.trans ((touch4 V1 (w.heap.size + 1) _ _ _ _).below (Nat.le_succ _) HBr.out.size)

end Go.Proofs.YtiibeemjkdipnaaGreatDoor.Upcast

/-
  letDown.
-/
namespace Go.Proofs.YtiibeemjkdipnaaGreatDoor.Upcast
open Go Go.RowKit
open Go.Proofs.YtiibeemjkdipnaaGreatDoor.Schema

theorem kept_ti (v c j : Nat) : 1 ≤ (keptR v c j).ti := by
  unfold keptR
  simp only []
  split
  · omega
  · split <;> omega
theorem fold_ti (v : Nat) (former next : ByteArray) (n : Nat) : ∀ r ∈ (foldU v former next n).2, r.fr ≠ -1 → 1 ≤ r.ti := by
  induction n with
  | zero => intro r hr; cases hr
  | succ n ih =>
    rw [foldU_succ]
    unfold stepU
    split
    · intro r hr
      rcases List.mem_append.1 hr with hr | hr
      · exact ih r hr
      · rw [List.mem_singleton.1 hr]; exact fun _ => kept_ti _ _ _
    · intro r hr
      rcases List.mem_append.1 hr with hr | hr
      · exact ih r hr
      · rw [List.mem_singleton.1 hr]; exact fun h => absurd rfl h
theorem rules_ti (v k : Nat) : ∀ r ∈ rulesL v k, r.fr ≠ -1 → 1 ≤ r.ti := fold_ti _ _ _ _

/-- whether a number is what the rule tells of one; and what it is then -/
def okD (ns : List Int) (i : Nat) (r : Ru) : Bool := if r.fr = -1 then decide (ns.getD i 0 - r.pl = 0) else decide ((ns.getD i 0 - r.pl).tmod r.ti = 0)
def setD (ns : List Int) (i : Nat) (r : Ru) (P : List Int) : List Int := if r.fr = -1 then P else P.set r.fr.toNat ((ns.getD i 0 - r.pl).tdiv r.ti)
def ru0 : Ru := ⟨-1, 0, 0⟩
def foldD (l : List Ru) (ns : List Int) (n : Nat) (P : List Int) : List Int := (List.range n).foldl (fun P i => setD ns i (l.getD i ru0) P) P
theorem foldD_succ (l : List Ru) (ns : List Int) (n : Nat) (P : List Int) : foldD l ns (n + 1) P = setD ns n (l.getD n ru0) (foldD l ns n P) := by unfold foldD; rw [List.range_succ, List.foldl_append]; rfl
def canD (l : List Ru) (ns : List Int) : Bool := (List.range l.length).all fun i => okD ns i (l.getD i ru0)
def downN (l : List Ru) (ns : List Int) (m : Nat) : List Int := foldD l ns l.length (List.replicate m 0)
theorem setD_len (ns : List Int) (i : Nat) (r : Ru) (P : List Int) : (setD ns i r P).length = P.length := by
  unfold setD
  split
  · rfl
  · rw [List.length_set]
theorem foldD_len (l : List Ru) (ns : List Int) (n : Nat) (P : List Int) : (foldD l ns n P).length = P.length := by
  induction n with
  | zero => rfl
  | succ n ih => rw [foldD_succ, setD_len, ih]
/-- an event let down, if it can be -/
def downX (e : Ev) : Except Nat Ev := if goes (e.v - 1) e.k = true ∧ canD (rulesL (e.v - 1) e.k) e.ns = true then .ok ⟨e.v - 1, e.k, downN (rulesL (e.v - 1) e.k) e.ns (lets (e.v - 1) e.k).size, e.ts⟩ else .error 43
/-- an event is told, or what is wrong -/
def ExV (o : Except Nat Ev) (w : World) (z : Ending) (w' : World) : Prop :=
  match o with
  | .ok f => ∃ A1 c1 C1 c2, z = .returned (.tuple #[evV A1 c1 C1 c2 f, .int .i64 0]) ∧ OwnE w' w.heap.size 2 (.slice A1 f.ns.length c1) (nums f.ns) ∧ OwnE w' w.heap.size 9 (.slice C1 f.ts.length c2) (texts f.ts) ∧ Below w.heap.size w w'
  | .error x => z = .returned (.tuple #[.agg #[.int .u8 0, .int .u8 0, .slice none 0 0, .slice none 0 0], .int .i64 (x : Int)]) ∧ Below w.heap.size w w'
theorem down_no {e : Ev} (h : goes (e.v - 1) e.k = false) : downX e = .error 43 := if_neg (by rw [h]; exact fun h => by cases h.1)
theorem down_not {e : Ev} (i : Nat) (hi : i < (rulesL (e.v - 1) e.k).length) (h : okD e.ns i ((rulesL (e.v - 1) e.k).getD i ru0) = false) : downX e = .error 43 := by
  refine if_neg (fun hh => ?_)
  have := List.all_eq_true.1 hh.2 i (List.mem_range.2 hi)
  rw [h] at this; cases this
theorem down_yes {e : Ev} (hg : goes (e.v - 1) e.k = true) (h : ∀ i, i < (rulesL (e.v - 1) e.k).length → okD e.ns i ((rulesL (e.v - 1) e.k).getD i ru0) = true) : downX e = .ok ⟨e.v - 1, e.k, downN (rulesL (e.v - 1) e.k) e.ns (lets (e.v - 1) e.k).size, e.ts⟩ :=
  if_pos ⟨hg, List.all_eq_true.2 fun i hi => h i (List.mem_range.1 hi)⟩
structure DownI (W3 : World) (g m : Nat) (l : List Ru) (ns : List Int) (i : Nat) (wr : World) : Prop where
  ok : ∀ j, j < i → okD ns j (l.getD j ru0) = true
  nm : Nm wr g (foldD l ns i (List.replicate m 0))
  gr : W3.grownBy wr (some g)
theorem tdiv_bound (y t : Int) (hy : -100 ≤ y ∧ y ≤ 1125899906842624) (ht : 1 ≤ t) : -1125899906842624 ≤ y.tdiv t ∧ y.tdiv t ≤ 1125899906842624 := by
  have h := Int.natAbs_tdiv y t
  have h2 : (y.tdiv t).natAbs ≤ y.natAbs := by rw [h]; exact Nat.div_le_self _ _
  omega
theorem tmod_bound (y t : Int) (hy : -100 ≤ y ∧ y ≤ 1125899906842624) (ht : 1 ≤ t) : -1125899906842624 ≤ y.tmod t ∧ y.tmod t ≤ 1125899906842624 := by
  have h := Int.natAbs_tmod y t
  have h2 : (y.tmod t).natAbs ≤ y.natAbs := by rw [h]; exact Nat.mod_le _ _
  omega

set_option maxRecDepth 100000 in
set_option maxHeartbeats 4000000 in
theorem letDown_any (A : Option Addr) (ca : Nat) (C : Option Addr) (cc : Nat) (e : Ev) (w : World) (hA : EvAt w A ca C cc e) (hv1 : 1 ≤ e.v) (hl : e.ns.length = (lets e.v e.k).size) (hr : ∀ j, 0 ≤ e.ns.getD j 0 ∧ e.ns.getD j 0 ≤ 1125899906842624) (hlt : e.ts.length ≤ 1000) (E : Env w) :
    Calls Tryz.prog 77 #[evV A ca C cc e] w (ExV (downX e) w) := by
  have HV := Lib.hid hA.v
  have HK := Lib.hid hA.k
  have HE := Lib.hid E
  have HNs := Lib.hid hA.ns
  have HTs := Lib.hid hA.ts
  have HnC := Lib.hid hA.nB
  have HLT := Lib.hid hlt
  have HR := Lib.hid hr
  have HL := Lib.hid hl
  have HV1 := Lib.hid hv1
  obtain ⟨v, hvv⟩ : ∃ v, v = e.v - 1 := ⟨_, rfl⟩
  have hve : e.v = v + 1 := by omega
  have HVE := Lib.hid hve
  have HVV := Lib.hid hvv
  have HOK := Lib.hid (rules_ok v e.k)
  have HTI := Lib.hid (rules_ti v e.k)
  have HLR := Lib.hid (show (rulesL v e.k).length = e.ns.length from by rw [rules_len, ← hve]; exact hl.symm)
  have HLS := Lib.hid (show e.ns.length ≤ 10 from by rw [hl]; exact (lets_ok _ _).1)
  have HMS := Lib.hid (lets_ok v e.k).1
  have HNO := Lib.hid (fun h => down_no (e := e) h)
  have HNT := Lib.hid (fun i h1 h2 => down_not (e := e) i h1 h2)
  have HYE := Lib.hid (fun h1 h2 => down_yes (e := e) h1 h2)
  rw [← hvv] at HNO HNT HYE
  have hvw : IntKind.u8.wrap ((e.v : Int) - 1) = (v : Int) := by have := HV.out; rw [IntKind.wrap_u8]; omega
  have hvr : v < 256 := by have := HV.out; omega
  have HVR := Lib.hid hvr
  clear hA E hlt hr hl hv1 hvv hve hvr
  unfold evV
  have hb1 := (Below.refl w.heap.size w).alloc (Nat.le_refl _) (.cells #[.int .u8 e.v, .int .u8 e.k, .slice A e.ns.length ca, .slice C e.ts.length cc] 39)
  have hs1 : (w.alloc (.cells #[.int .u8 e.v, .int .u8 e.k, .slice A e.ns.length ca, .slice C e.ts.length cc] 39)).heap.size = w.heap.size + 1 := by simp
  have hb2 := (Below.refl (w.alloc (.cells #[.int .u8 e.v, .int .u8 e.k, .slice A e.ns.length ca, .slice C e.ts.length cc] 39)).heap.size (w.alloc (.cells #[.int .u8 e.v, .int .u8 e.k, .slice A e.ns.length ca, .slice C e.ts.length cc] 39))).alloc (Nat.le_refl _) (.cells #[.int .u8 0, .int .u8 0, .slice none 0 0, .slice none 0 0] 39)
  have hx : Four _ w.heap.size _ _ _ _ := Four.below (box4 w (.int .u8 e.v) (.int .u8 e.k) (.slice A e.ns.length ca) (.slice C e.ts.length cc) 39) hb2
  have HX := Lib.hid hx
  have hp : Four _ (w.alloc (.cells #[.int .u8 e.v, .int .u8 e.k, .slice A e.ns.length ca, .slice C e.ts.length cc] 39)).heap.size _ _ _ _ := box4 (w.alloc (.cells #[.int .u8 e.v, .int .u8 e.k, .slice A e.ns.length ca, .slice C e.ts.length cc] 39)) (.int .u8 0) (.int .u8 0) (.slice none 0 0) (.slice none 0 0) 39
  have hf := free_new (w.alloc (.cells #[.int .u8 e.v, .int .u8 e.k, .slice A e.ns.length ca, .slice C e.ts.length cc] 39)) #[.int .u8 0, .int .u8 0, .slice none 0 0, .slice none 0 0] 39
  rw [hs1] at hp hf
  have HP := Lib.hid hp
  have HPF := Lib.hid hf
  have HB := Lib.hid (below_step hb1 hb2)
  clear hb1 hb2 hs1 hx hp hf
  go_enter Tryz.func77, Tryz.ntmps77
  go_upto_region 1 with (fail)
  generalize ((w.alloc (.cells #[.int .u8 e.v, .int .u8 e.k, .slice A e.ns.length ca, .slice C e.ts.length cc] 39)).alloc (.cells #[.int .u8 0, .int .u8 0, .slice none 0 0, .slice none 0 0] 39)) = W at HX HP HPF HB ⊢
  obtain ⟨x0, x1, x2, x3⟩ := HX.out
  go_wp2_with fail
  clear x0 x1 x2 x3
  refine (Rules_any v e.k HVR.out HK.out W (HE.out.below HB.out)).mono ?_
  rintro z W2 ⟨x, rfl, hou, hb⟩
  replace HX := Lib.hid (HX.out.below hb)
  replace HP := Lib.hid (HP.out.below hb)
  replace HPF := Lib.hid (HPF.out.below hb)
  replace HB := Lib.hid (below_step HB.out hb)
  clear hb
  cases hgo : goes v e.k with
  | false =>
    have HDN := Lib.hid (HNO.out hgo)
    clear hgo hou hvw
    obtain ⟨p0, p1, p2, p3⟩ := HP.out
    have f0 := HPF.out.2 0
    have f1 := HPF.out.2 1
    have f2 := HPF.out.2 2
    have f3 := HPF.out.2 3
    go_wp2_with fail
    clear p0 p1 p2 p3 f0 f1 f2 f3
    obtain ⟨d0, d1, d2, d3⟩ := HP.out.set4 (.int .u8 0) (.int .u8 0) (.slice none 0 0) (.slice none 0 0)
    refine bodyPost_ret (v := .tuple #[.agg #[.int .u8 0, .int .u8 0, .slice none 0 0, .slice none 0 0], .int .i64 43]) (by simp [results, Tryz.results77, go_sem, d0, d1, d2, d3]) rfl ?_
    rw [HDN.out]
    exact ⟨rfl, HB.out.trans ((touch4 W2 (w.heap.size + 1) _ _ _ _).below (Nat.le_succ _) HB.out.size)⟩
  | true =>
    rw [hgo, if_pos rfl] at hou
    obtain ⟨A3, c3, rfl, hrow⟩ := hou.vat
    have HROW := Lib.hid hrow
    have HGO := Lib.hid hgo
    clear hou hrow hgo
    obtain ⟨x0, x1, x2, x3⟩ := HX.out
    go_wp2_with fail
    clear x0 x1 x2 x3
    refine (Fields_any v e.k HVR.out HK.out W2 (HE.out.below HB.out)).mono ?_
    rintro z W4 ⟨xl, rfl, ho, hb⟩
    obtain ⟨A4, c4, rfl, -, -, -⟩ := ho.vat
    simp only [clsV_len]
    replace HX := Lib.hid (HX.out.below hb)
    replace HP := Lib.hid (HP.out.below hb)
    replace HPF := Lib.hid (HPF.out.below hb)
    replace HB := Lib.hid (below_step HB.out hb)
    replace HROW := Lib.hid (show RowU W4 A3 _ from VAt.below HROW.out hb)
    clear hb ho
    generalize (tall v e.k && tru e.k) = ta
    generalize tall v e.k = tb
    generalize hl3 : rulesL v e.k = l at HROW HOK HTI HLR HNT HYE ⊢
    have HL3 := Lib.hid hl3
    clear hl3
    generalize hmm : (lets v e.k).size = m at HOK HMS HYE ⊢
    have HMM := Lib.hid hmm
    clear hmm
    have hmk := run_mkN m (by have := HMS.out; omega)
    have hm10 : m ≤ 10 := HMS.out
    have hl10 : l.length ≤ 10 := by have := HLR.out; have := HLS.out; omega
    have hb := (Below.refl W4.heap.size W4).alloc (Nat.le_refl _) (.cells (mkN m) 2)
    have HN := Lib.hid (nm_new W4 m)
    have hxg : w.heap.size + 1 < W4.heap.size := HPF.out.1
    have HX3 := Lib.hid (HX.out.below hb)
    have HP3 := Lib.hid (HP.out.below hb)
    have HPF3 := Lib.hid (HPF.out.below hb)
    have HB3 := Lib.hid (below_step HB.out hb)
    have HR3 := Lib.hid hb
    clear hb
    go_wp2_with fail
    clear hmk
    generalize W4.alloc (.cells (mkN m) 2) = W3 at HN HX3 HP3 HPF3 HB3 HR3 ⊢
    generalize hgg : W4.heap.size = g at HN hxg HR3 ⊢
    have HGG := Lib.hid hgg
    have HXG := Lib.hid hxg
    clear hgg hxg
    have HI : Hid (DownI W3 g m l e.ns 0 W3) := ⟨fun j hj => absurd hj (by omega), HN.out, gr_below (Below.refl _ _)⟩
    clear HN
    go_loopw [40] (fun t wr => ∃ i : Nat, t = .int .i64 i ∧ i ≤ l.length ∧ Hid (DownI W3 g m l e.ns i wr)) (fun t _ => l.length - (intOf t).toNat)
    case atStart => exact ⟨0, rfl, Nat.zero_le _, HI⟩
    case round =>
      obtain ⟨i, rfl, hi, HIi⟩ := hrel
      have hgs : w.heap.size + 1 < g := HXG.out
      have HXr := Lib.hid (four_gr HX3.out HIi.out.gr (by omega))
      have HPr := Lib.hid (four_gr HP3.out HIi.out.gr (by omega))
      have HPFr := Lib.hid (free_gr HPF3.out HIi.out.gr (by omega))
      have HBr := Lib.hid (bel_gr HB3.out HB3.out.size HIi.out.gr (by omega))
      clear hgs
      by_cases hlt : i < l.length
      · have z0 : (0 : Int) ≤ (i : Int) := by omega
        have z1 : (i : Int) < (l.length : Int) := by omega
        obtain ⟨b3, o3, rfl, hbl, c0, c1, c2⟩ := HROW.out.at i hlt
        have hok := HOK.out _ (List.getElem_mem hlt)
        have hti := HTI.out _ (List.getElem_mem hlt)
        have hgd : l.getD i ru0 = l[i] := by rw [List.getD_eq_getElem?_getD, List.getElem?_eq_getElem hlt]; rfl
        have hne : b3 ≠ g := by have := HGG.out; omega
        have hR3 : Below W4.heap.size W4 W3 := by rw [HGG.out]; exact HR3.out
        have d0 := cell_gr (cell_kept c0 hR3) HIi.out.gr hne
        have d1 := cell_gr (cell_kept c1 hR3) HIi.out.gr hne
        have d2 := cell_gr (cell_kept c2 hR3) HIi.out.gr hne
        clear c0 c1 c2 hbl hne hR3
        have HNI := Lib.hid (HNT.out i hlt)
        have HFS := Lib.hid (foldD_succ l e.ns i (List.replicate m 0))
        rw [hgd] at HNI HFS
        have HGD := Lib.hid hgd
        clear hgd
        generalize l[i] = r at d0 d1 d2 hok hti HNI HFS HGD
        obtain ⟨fr, ti, pl⟩ := r
        simp only [] at d0 d1 d2
        have HOI := Lib.hid hok
        have HT1 := Lib.hid hti
        clear hok hti
        have hfl := foldD_len l e.ns i (List.replicate m 0)
        rw [List.length_replicate] at hfl
        have HFL := Lib.hid hfl
        clear hfl
        have HNMi := Lib.hid HIi.out.nm
        generalize foldD l e.ns i (List.replicate m 0) = P at HFS HFL HNMi
        go_upto_region 9 with (fail)
        clear d0 d1 d2
        have hb := (Below.refl wr.heap.size wr).alloc (Nat.le_refl _) (.cells #[.int .i64 fr, .int .i64 ti, .int .i64 pl] 136)
        have HT := Lib.hid (tri_new wr (.int .i64 fr) (.int .i64 ti) (.int .i64 pl) 136)
        have HNM := Lib.hid (HNMi.out.below hb)
        have HGR := Lib.hid (gr_trans HIi.out.gr (gr_below hb))
        have hgq : g < wr.heap.size := HNMi.out.lt
        replace HXr := Lib.hid (HXr.out.below hb)
        replace HPr := Lib.hid (HPr.out.below hb)
        replace HPFr := Lib.hid (HPFr.out.below hb)
        replace HBr := Lib.hid (below_step HBr.out hb)
        clear hb HNMi
        generalize wr.alloc (.cells #[.int .i64 fr, .int .i64 ti, .int .i64 pl] 136) = V1 at HT HNM HGR HXr HPr HPFr HBr ⊢
        generalize wr.heap.size = q at HT hgq ⊢
        have HGQ := Lib.hid hgq
        clear hgq
        have hin : i < e.ns.length := by have := HLR.out; omega
        obtain ⟨bA, oA, rfl, cA⟩ := (vat_low HNs.out HBr.out) i _ (nums_at e.ns i hin)
        have hrr := HR.out i
        have hti := HOI.out.2.1
        have hpl := HOI.out.2.2
        simp only [] at hti hpl
        have HDEF := Lib.hid (show okD e.ns i ⟨fr, ti, pl⟩ = if fr = -1 then decide (e.ns.getD i 0 - pl = 0) else decide ((e.ns.getD i 0 - pl).tmod ti = 0) from rfl)
        have HSET := Lib.hid (show setD e.ns i ⟨fr, ti, pl⟩ P = if fr = -1 then P else P.set fr.toNat ((e.ns.getD i 0 - pl).tdiv ti) from rfl)
        generalize e.ns.getD i 0 = x at cA hrr HDEF HSET
        obtain ⟨y, hy⟩ : ∃ y, y = x - pl := ⟨_, rfl⟩
        rw [← hy] at HDEF HSET
        have hyw : IntKind.i64.wrap (x - pl) = y := by rw [IntWalk.i64_in _ (by omega)]; exact hy.symm
        have hyb : -100 ≤ y ∧ y ≤ 1125899906842624 := by omega
        have HYB := Lib.hid (And.intro hyb hti)
        clear hy hrr hpl hyb hti
        have z2 : (i : Int) < (e.ns.length : Int) := by omega
        obtain ⟨t0, t1, t2⟩ := HT.out
        obtain ⟨x0, x1, x2, x3⟩ := HXr.out
        clear x0 x1 x3 t0 t1
        go_wp2_with fail
        go_region
        all_goals
          clear t2 x2 cA hyw z2
          have gd := below_drew V1.heap.size V1
          replace HT := Lib.hid (HT.out.below gd)
          replace HNM := Lib.hid (HNM.out.below gd)
          replace HGR := Lib.hid (gr_trans HGR.out (gr_below gd))
          replace HXr := Lib.hid (HXr.out.below gd)
          replace HPr := Lib.hid (HPr.out.below gd)
          replace HPFr := Lib.hid (HPFr.out.below gd)
          replace HBr := Lib.hid (below_step HBr.out gd)
          clear gd
          generalize V1.drew = V2 at HT HNM HGR HXr HPr HPFr HBr ⊢
          rcases HOI.out.1 with hfr | ⟨f, hfr, hfl⟩
          · simp only [] at hfr
            subst hfr
            rw [if_pos rfl] at HDEF HSET
            by_cases hy0 : y = 0
            case pos =>
              have HI2 : Hid (DownI W3 g m l e.ns (i + 1) V2) := ⟨fun j hj => by
                by_cases hji : j = i
                · rw [hji, HGD.out, HDEF.out]; exact decide_eq_true hy0
                · exact HIi.out.ok j (by omega), by rw [HFS.out, HSET.out]; exact HNM.out, HGR.out⟩
              subst hy0
              obtain ⟨t0, t1, t2⟩ := HT.out
              go_wp2_with fail
              clear t0 t1 t2
              go_roundw
              case rel => exact ⟨i + 1, by go_num, by omega, HI2⟩
              case measure => simp [intOf] <;> omega
            have HDN := Lib.hid (HNI.out (HDEF.out.trans (decide_eq_false hy0)))
            have q1 : (y == 0) = false := beq_eq_false_iff_ne.2 hy0
            clear hy0
            obtain ⟨t0, t1, t2⟩ := HT.out
            go_upto_region 10 with (fail)
            clear t0 t1 t2 q1 z0 z1
            obtain ⟨p0, p1, p2, p3⟩ := HPr.out
            have f0 := HPFr.out.2 0
            have f1 := HPFr.out.2 1
            have f2 := HPFr.out.2 2
            have f3 := HPFr.out.2 3
            go_wp2_with fail
            clear p0 p1 p2 p3 f0 f1 f2 f3
            obtain ⟨d0, d1, d2, d3⟩ := HPr.out.set4 (.int .u8 0) (.int .u8 0) (.slice none 0 0) (.slice none 0 0)
            refine bodyPost_ret (v := .tuple #[.agg #[.int .u8 0, .int .u8 0, .slice none 0 0, .slice none 0 0], .int .i64 43]) (by simp [results, Tryz.results77, go_sem, d0, d1, d2, d3]) rfl ?_
            rw [HDN.out]
            exact ⟨rfl, HBr.out.trans ((touch4 V2 (w.heap.size + 1) _ _ _ _).below (Nat.le_succ _) HBr.out.size)⟩
          · simp only [] at hfr
            subst hfr
            have hfn : ¬ (f : Int) = -1 := by omega
            rw [if_neg hfn] at HDEF HSET
            have hti1 : 1 ≤ ti := HT1.out hfn
            have hti2 : ti ≤ 100 := HYB.out.2.2
            have q1 : ((f : Int) == -1) = false := beq_eq_false_iff_ne.2 hfn
            have q2 : ((f : Int) != -1) = true := by rw [bne_iff_ne]; exact hfn
            have q3 : ¬ ti = 0 := by omega
            have q4 : (ti == 0) = false := beq_eq_false_iff_ne.2 q3
            have hyb := HYB.out.1
            skip
            have hq := tdiv_bound y ti hyb hti1
            have hm := tmod_bound y ti hyb hti1
            clear hyb
            have hqw : IntKind.i64.wrap (y.tdiv ti) = y.tdiv ti := IntWalk.i64_in _ (by omega)
            have hmw : IntKind.i64.wrap (y.tmod ti) = y.tmod ti := IntWalk.i64_in _ (by omega)
            by_cases hy0 : y.tmod ti = 0
            case neg =>
              have HDN := Lib.hid (HNI.out (HDEF.out.trans (decide_eq_false hy0)))
              have q5 : (y.tmod ti == 0) = false := beq_eq_false_iff_ne.2 hy0
              obtain ⟨t0, t1, t2⟩ := HT.out
              go_upto_region 10 with (fail)
              clear t0 t1 t2 q1 q2 q3 q4 q5 z0 z1 hq hm hqw hmw hy0 hti1 hti2 hfn
              obtain ⟨p0, p1, p2, p3⟩ := HPr.out
              have f0 := HPFr.out.2 0
              have f1 := HPFr.out.2 1
              have f2 := HPFr.out.2 2
              have f3 := HPFr.out.2 3
              go_wp2_with fail
              clear p0 p1 p2 p3 f0 f1 f2 f3
              obtain ⟨d0, d1, d2, d3⟩ := HPr.out.set4 (.int .u8 0) (.int .u8 0) (.slice none 0 0) (.slice none 0 0)
              refine bodyPost_ret (v := .tuple #[.agg #[.int .u8 0, .int .u8 0, .slice none 0 0, .slice none 0 0], .int .i64 43]) (by simp [results, Tryz.results77, go_sem, d0, d1, d2, d3]) rfl ?_
              rw [HDN.out]
              exact ⟨rfl, HBr.out.trans ((touch4 V2 (w.heap.size + 1) _ _ _ _).below (Nat.le_succ _) HBr.out.size)⟩
            have q5 : (y.tmod ti == 0) = true := by rw [hy0]; rfl
            have hPf : f < P.length := by rw [HFL.out]; exact hfl
            have y0 := HNM.out.cell f hPf
            have fy := HNM.out.fr f
            have hf0 : (0 : Int) ≤ (f : Int) := by omega
            have hf1 : (f : Int) < (m : Int) := by omega
            have HI2 : Hid (DownI W3 g m l e.ns (i + 1) ((V2.setCell ⟨g, f, none⟩ (.int .i64 (y.tdiv ti))).drew)) := ⟨fun j hj => by
              by_cases hji : j = i
              · rw [hji, HGD.out, HDEF.out]; exact decide_eq_true hy0
              · exact HIi.out.ok j (by omega), by rw [HFS.out, HSET.out, Int.toNat_natCast]; exact (HNM.out.set f _).below (below_drew _ _), gr_trans HGR.out (gr_trans (gr_set V2 g f _) (gr_below (below_drew _ _)))⟩
            obtain ⟨t0, t1, t2⟩ := HT.out
            skip
            go_wp2_with fail
            go_region
            all_goals
              clear t0 t1 t2 y0 fy
              go_wp2_with fail
              go_roundw
              case rel => exact ⟨i + 1, by go_num, by omega, HI2⟩
              case measure => simp [intOf] <;> omega
      · have z1 : ¬ (i : Int) < (l.length : Int) := by omega
        have z2 : decide ((i : Int) < (l.length : Int)) = false := decide_eq_false z1
        have hii : i = l.length := by omega
        rw [hii] at HIi
        have HOKS := Lib.hid (HYE.out HGO.out HIi.out.ok)
        have HNM := Lib.hid (show Nm wr g (downN l e.ns m) from HIi.out.nm)
        have hdl : (downN l e.ns m).length = m := by unfold downN; rw [foldD_len, List.length_replicate]
        clear hii HIi
        have hown := HNM.out.own (base := w.heap.size + 2) (by have := HXG.out; omega) (by have := HMS.out; unfold maxLen; omega)
        rw [hdl] at hown
        have HOW := Lib.hid hown
        have HDL := Lib.hid hdl
        clear hown hdl
        obtain ⟨x0, x1, x2, x3⟩ := HXr.out
        go_wp2_with fail
        clear x0 x1 x2 x3 z1 z2 hvw
        refine (like_any A ca C cc e v (some ⟨g, 0, none⟩) m m wr (vat_low HTs.out HBr.out) HnC.out HLT.out).mono ?_
        rintro z V1 ⟨C2, c2, rfl, hoe, hb⟩
        have hsz := HBr.out.size
        have hps := HPFr.out.1
        replace HPr := Lib.hid (HPr.out.below hb)
        replace HPFr := Lib.hid (HPFr.out.below hb)
        replace HBr := Lib.hid (below_step HBr.out hb)
        have HO1 := Lib.hid (show OwnE V1 (w.heap.size + 2) _ _ _ from Or.inl (HOW.out.below hb))
        have HO2 := Lib.hid (hoe.less (show w.heap.size + 2 ≤ _ by omega))
        clear hoe hb hsz hps
        obtain ⟨p0, p1, p2, p3⟩ := HPr.out
        have f0 := HPFr.out.2 0
        have f1 := HPFr.out.2 1
        have f2 := HPFr.out.2 2
        have f3 := HPFr.out.2 3
        go_wp2_with fail
        clear p0 p1 p2 p3 f0 f1 f2 f3
        obtain ⟨d0, d1, d2, d3⟩ := HPr.out.set4 (.int .u8 (v : Int)) (.int .u8 e.k) (.slice (some ⟨g, 0, none⟩) m m) (.slice C2 e.ts.length c2)
        refine bodyPost_ret (v := .tuple #[.agg #[.int .u8 (v : Int), .int .u8 e.k, .slice (some ⟨g, 0, none⟩) m m, .slice C2 e.ts.length c2], .int .i64 0]) (by simp [results, Tryz.results77, go_sem, d0, d1, d2, d3]) rfl ?_
        rw [HOKS.out]
        refine ⟨some ⟨g, 0, none⟩, m, C2, c2, ?_, ?_, ?_, ?_⟩
        · simp only [evV]; rw [HDL.out]
        · simp only []; rw [HDL.out]; exact (ownE_set4 HO1.out (by omega)).less (by omega)
        · exact (ownE_set4 HO2.out (by omega)).less (by omega)
        · exact HBr.out.trans ((touch4 V1 (w.heap.size + 1) _ _ _ _).below (Nat.le_succ _) HBr.out.size)

end Go.Proofs.YtiibeemjkdipnaaGreatDoor.Upcast
