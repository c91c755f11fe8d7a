import Derived.Deep.DeepCutAuto
import Derived.BigCall
import Derived.BigQuiet
import Derived.Deep.QuietTactic
import Derived.Deep.RegionWith
import Derived.Deep.RegionHeld3
import Derived.RegionTactic
import Derived.ChangeAlike
import Derived.Test.YtiibeemjkdipnaaDoorE22
import Derived.Test.YtiibeemjkdipnaaDoorEF
/-
  How a kind goes from a version to the next one: kept, added, Rules.
-/
namespace Go.Proofs.YtiibeemjkdipnaaDoor.Upcast
open Go Go.RowKit
open Go.Proofs.YtiibeemjkdipnaaDoor.Schema

/-- where a field comes from -/
structure Ru where
  fr : Int
  ti : Int
  pl : Int
def keptR (v c j : Nat) : Ru := ⟨(j : Int), if v = 1 ∧ (c = 109 ∨ c = 122 ∨ c = 112 ∨ c = 107 ∨ c = 98) then 100 else if v = 2 ∧ c = 116 then 10 else 1, if v = 2 ∧ c = 115 then 1 else 0⟩
def addedR (c : Nat) : Ru := ⟨-1, 0, if c = 107 ∨ c = 109 then 100 else 0⟩
def ruC (r : Ru) : List Value := [.int .i64 r.fr, .int .i64 r.ti, .int .i64 r.pl]
def ruV (r : Ru) : Value := .agg #[.int .i64 r.fr, .int .i64 r.ti, .int .i64 r.pl]
def stepU (v : Nat) (former : ByteArray) (c : Nat) (st : Nat × List Ru) : Nat × List Ru := if st.1 < former.size ∧ byteAt former st.1 = c then (st.1 + 1, st.2 ++ [keptR v c st.1]) else (st.1, st.2 ++ [addedR c])
def foldU (v : Nat) (former next : ByteArray) (n : Nat) : Nat × List Ru := (List.range n).foldl (fun st j => stepU v former (byteAt next j) st) (0, [])
theorem foldU_succ (v : Nat) (former next : ByteArray) (n : Nat) : foldU v former next (n + 1) = stepU v former (byteAt next n) (foldU v former next n) := by unfold foldU; rw [List.range_succ, List.foldl_append]; rfl
def rulesL (v k : Nat) : List Ru := (foldU v (lets v k) (lets (v + 1) k) (lets (v + 1) k).size).2
def goes (v k : Nat) : Bool := tall v k && tall ((v + 1) % 256) k
theorem foldU_len (v : Nat) (former next : ByteArray) (n : Nat) : (foldU v former next n).2.length = n := by
  induction n with
  | zero => rfl
  | succ n ih =>
    rw [foldU_succ]
    unfold stepU
    split
    · simp [ih]
    · simp [ih]
theorem foldU_fr (v : Nat) (former next : ByteArray) (n : Nat) : (foldU v former next n).1 ≤ n := by
  induction n with
  | zero => exact Nat.le_refl _
  | succ n ih =>
    rw [foldU_succ]
    unfold stepU
    split
    · simp only []; omega
    · simp only []; omega

/-! ### three cells -/
def Tri (w : World) (b : Nat) (a0 a1 a2 : Value) : Prop := w.cell? ⟨b, 0, none⟩ = some a0 ∧ w.cell? ⟨b, 1, none⟩ = some a1 ∧ w.cell? ⟨b, 2, none⟩ = some a2
theorem Tri.below {w w' : World} {b : Nat} {a0 a1 a2 : Value} (h : Tri w b a0 a1 a2) (hb : Below w.heap.size w w') : Tri w' b a0 a1 a2 := ⟨cell_kept h.1 hb, cell_kept h.2.1 hb, cell_kept h.2.2 hb⟩
theorem Tri.touch {lo hi : Nat} {w w' : World} {b : Nat} {a0 a1 a2 : Value} (h : Tri w b a0 a1 a2) (g : Schema.Touch lo hi w w') (ho : b < lo ∨ hi ≤ b) : Tri w' b a0 a1 a2 := ⟨cell_touch h.1 g ho, cell_touch h.2.1 g ho, cell_touch h.2.2 g ho⟩
theorem Tri.set0 {w : World} {b : Nat} {a0 a1 a2 : Value} (h : Tri w b a0 a1 a2) (x : Value) : Tri (w.setCell ⟨b, 0, none⟩ x) b x a1 a2 := ⟨World.cell?_setCell_same _ _ _ h.1, (World.cell?_setCell_other _ _ _ _ (by simp)).trans h.2.1, (World.cell?_setCell_other _ _ _ _ (by simp)).trans h.2.2⟩
theorem Tri.set1 {w : World} {b : Nat} {a0 a1 a2 : Value} (h : Tri w b a0 a1 a2) (x : Value) : Tri (w.setCell ⟨b, 1, none⟩ x) b a0 x a2 := ⟨(World.cell?_setCell_other _ _ _ _ (by simp)).trans h.1, World.cell?_setCell_same _ _ _ h.2.1, (World.cell?_setCell_other _ _ _ _ (by simp)).trans h.2.2⟩
theorem Tri.set2 {w : World} {b : Nat} {a0 a1 a2 : Value} (h : Tri w b a0 a1 a2) (x : Value) : Tri (w.setCell ⟨b, 2, none⟩ x) b a0 a1 x := ⟨(World.cell?_setCell_other _ _ _ _ (by simp)).trans h.1, (World.cell?_setCell_other _ _ _ _ (by simp)).trans h.2.1, World.cell?_setCell_same _ _ _ h.2.2⟩
theorem tri_new (w : World) (a b c : Value) (T : TypeId) : Tri (w.alloc (.cells #[a, b, c] T)) w.heap.size a b c := by
  have h : ∀ j, (w.alloc (.cells #[a, b, c] T)).cell? ⟨w.heap.size, j, none⟩ = #[a, b, c][j]? := fun j => by
    unfold World.cell?
    rw [show (w.alloc _).heap[(⟨w.heap.size, j, none⟩ : Addr).block]? = _ from (MapKept.heap_alloc w _).1]
    rfl
  exact ⟨h 0, h 1, h 2⟩
theorem touch3 (W : World) (b : Nat) (x0 x1 x2 : Value) : Schema.Touch b (b + 1) W (((W.setCell ⟨b, 0, none⟩ x0).setCell ⟨b, 1, none⟩ x1).setCell ⟨b, 2, none⟩ x2) := ((Schema.Touch.set W b 0 x0).trans (Schema.Touch.set _ b 1 x1)).trans (Schema.Touch.set _ b 2 x2)

set_option maxRecDepth 100000 in
set_option maxHeartbeats 4000000 in
theorem kept_any (v c j : Nat) (w : World) :
    Calls Tryd.prog 84 #[.int .u8 (v : Int), .int .u8 (c : Int), .int .i64 (j : Int)] w fun z w' => z = .returned (ruV (keptR v c j)) ∧ Below w.heap.size w w' := by
  have HX := Lib.hid (show keptR v c j = keptR v c j from rfl)
  clear HX
  have hb1 := (Below.refl w.heap.size w).alloc (Nat.le_refl _) (.cells #[.int .i64 0, .int .i64 0, .int .i64 0] 118)
  have hs1 : (w.alloc (.cells #[.int .i64 0, .int .i64 0, .int .i64 0] 118)).heap.size = w.heap.size + 1 := by simp
  have hb2 := (Below.refl (w.alloc (.cells #[.int .i64 0, .int .i64 0, .int .i64 0] 118)).heap.size (w.alloc (.cells #[.int .i64 0, .int .i64 0, .int .i64 0] 118))).alloc (Nat.le_refl _) (.cells #[.int .i64 (j : Int), .int .i64 1, .int .i64 0] 118)
  have hq := tri_new (w.alloc (.cells #[.int .i64 0, .int .i64 0, .int .i64 0] 118)) (.int .i64 (j : Int)) (.int .i64 1) (.int .i64 0) 118
  rw [hs1] at hq
  have HQ := Lib.hid hq
  have HP := Lib.hid ((tri_new w (.int .i64 0) (.int .i64 0) (.int .i64 0) 118).below hb2)
  have HPF := Lib.hid ((free_new w #[.int .i64 0, .int .i64 0, .int .i64 0] 118).below hb2)
  have hqf := free_new (w.alloc (.cells #[.int .i64 0, .int .i64 0, .int .i64 0] 118)) #[.int .i64 (j : Int), .int .i64 1, .int .i64 0] 118
  rw [hs1] at hqf
  have HQF := Lib.hid hqf
  have HB := Lib.hid (below_step hb1 hb2)
  clear hb1 hb2 hs1 hq hqf
  go_enter Tryd.func84, Tryd.ntmps84
  go_upto_region 2 with (fail)
  generalize hW : (w.alloc (.cells #[.int .i64 0, .int .i64 0, .int .i64 0] 118)).alloc (.cells #[.int .i64 (j : Int), .int .i64 1, .int .i64 0] 118) = W at HP HPF HQ HQF HB ⊢
  clear hW
  by_cases c109 : c = 109
  · subst c109
    by_cases hv1 : v = 1
    · subst hv1
      obtain ⟨x0, x1, x2⟩ := HQ.out
      have f1 := HQF.out.2 1
      have f2 := HQF.out.2 2
      go_upto_region 16 with (fail)
      clear x0 x1 x2 f1 f2
      have ht := Schema.Touch.set W (w.heap.size + 1) 1 (.int .i64 100)
      replace HQ := Lib.hid (HQ.out.set1 (.int .i64 100))
      replace HP := Lib.hid (HP.out.touch ht (Or.inl (by omega)))
      replace HPF := Lib.hid (HPF.out.touch ht (Or.inl (by omega)))
      replace HB := Lib.hid (Touch.step HB.out ht (by omega))
      clear ht
      generalize W.setCell ⟨w.heap.size + 1, 1, none⟩ (.int .i64 100) = W2 at HP HPF HQ HB ⊢
      have hr : keptR 1 109 j = ⟨(j : Int), 100, 0⟩ := by
        unfold keptR
        simp []
      have HRR := Lib.hid hr
      clear hr
      obtain ⟨x0, x1, x2⟩ := HQ.out
      obtain ⟨p0, p1, p2⟩ := HP.out
      have f0 := HPF.out.2 0
      have f1 := HPF.out.2 1
      have f2 := HPF.out.2 2
      go_wp2_with fail
      clear x0 x1 x2 p0 p1 p2 f0 f1 f2
      have hp := HP.out.set0 (.int .i64 (j : Int)) |>.set1 (.int .i64 100) |>.set2 (.int .i64 0)
      obtain ⟨d0, d1, d2⟩ := hp
      exact bodyPost_ret (v := .agg #[.int .i64 (j : Int), .int .i64 100, .int .i64 0]) (by simp [results, Tryd.results84, go_sem, d0, d1, d2]) rfl ⟨by rw [HRR.out]; rfl, HB.out.trans ((touch3 W2 w.heap.size (.int .i64 (j : Int)) (.int .i64 100) (.int .i64 0)).below (Nat.le_refl _) HB.out.size)⟩
    by_cases hv2 : v = 2
    · subst hv2
      have hr : keptR 2 109 j = ⟨(j : Int), 1, 0⟩ := by
        unfold keptR
        simp []
      have HRR := Lib.hid hr
      clear hr
      obtain ⟨x0, x1, x2⟩ := HQ.out
      obtain ⟨p0, p1, p2⟩ := HP.out
      have f0 := HPF.out.2 0
      have f1 := HPF.out.2 1
      have f2 := HPF.out.2 2
      go_wp2_with fail
      clear x0 x1 x2 p0 p1 p2 f0 f1 f2
      have hp := HP.out.set0 (.int .i64 (j : Int)) |>.set1 (.int .i64 1) |>.set2 (.int .i64 0)
      obtain ⟨d0, d1, d2⟩ := hp
      exact bodyPost_ret (v := .agg #[.int .i64 (j : Int), .int .i64 1, .int .i64 0]) (by simp [results, Tryd.results84, go_sem, d0, d1, d2]) rfl ⟨by rw [HRR.out]; rfl, HB.out.trans ((touch3 W w.heap.size (.int .i64 (j : Int)) (.int .i64 1) (.int .i64 0)).below (Nat.le_refl _) HB.out.size)⟩
    have e1 : ((v : Int) == 1) = false := beq_eq_false_iff_ne.2 (by omega)
    have e2 : ((v : Int) == 2) = false := beq_eq_false_iff_ne.2 (by omega)
    have e3 : (v == 1) = false := beq_eq_false_iff_ne.2 hv1
    have e4 : (v == 2) = false := beq_eq_false_iff_ne.2 hv2
    have hr : keptR v 109 j = ⟨(j : Int), 1, 0⟩ := by
      unfold keptR
      simp [hv1, hv2]
    have HRR := Lib.hid hr
    clear hr hv1 hv2
    obtain ⟨x0, x1, x2⟩ := HQ.out
    obtain ⟨p0, p1, p2⟩ := HP.out
    have f0 := HPF.out.2 0
    have f1 := HPF.out.2 1
    have f2 := HPF.out.2 2
    go_wp2_with fail
    clear x0 x1 x2 p0 p1 p2 f0 f1 f2
    have hp := HP.out.set0 (.int .i64 (j : Int)) |>.set1 (.int .i64 1) |>.set2 (.int .i64 0)
    obtain ⟨d0, d1, d2⟩ := hp
    exact bodyPost_ret (v := .agg #[.int .i64 (j : Int), .int .i64 1, .int .i64 0]) (by simp [results, Tryd.results84, go_sem, d0, d1, d2]) rfl ⟨by rw [HRR.out]; rfl, HB.out.trans ((touch3 W w.heap.size (.int .i64 (j : Int)) (.int .i64 1) (.int .i64 0)).below (Nat.le_refl _) HB.out.size)⟩
  by_cases c122 : c = 122
  · subst c122
    by_cases hv1 : v = 1
    · subst hv1
      obtain ⟨x0, x1, x2⟩ := HQ.out
      have f1 := HQF.out.2 1
      have f2 := HQF.out.2 2
      go_upto_region 16 with (fail)
      clear x0 x1 x2 f1 f2
      have ht := Schema.Touch.set W (w.heap.size + 1) 1 (.int .i64 100)
      replace HQ := Lib.hid (HQ.out.set1 (.int .i64 100))
      replace HP := Lib.hid (HP.out.touch ht (Or.inl (by omega)))
      replace HPF := Lib.hid (HPF.out.touch ht (Or.inl (by omega)))
      replace HB := Lib.hid (Touch.step HB.out ht (by omega))
      clear ht
      generalize W.setCell ⟨w.heap.size + 1, 1, none⟩ (.int .i64 100) = W2 at HP HPF HQ HB ⊢
      have hr : keptR 1 122 j = ⟨(j : Int), 100, 0⟩ := by
        unfold keptR
        simp []
      have HRR := Lib.hid hr
      clear hr
      obtain ⟨x0, x1, x2⟩ := HQ.out
      obtain ⟨p0, p1, p2⟩ := HP.out
      have f0 := HPF.out.2 0
      have f1 := HPF.out.2 1
      have f2 := HPF.out.2 2
      go_wp2_with fail
      clear x0 x1 x2 p0 p1 p2 f0 f1 f2
      have hp := HP.out.set0 (.int .i64 (j : Int)) |>.set1 (.int .i64 100) |>.set2 (.int .i64 0)
      obtain ⟨d0, d1, d2⟩ := hp
      exact bodyPost_ret (v := .agg #[.int .i64 (j : Int), .int .i64 100, .int .i64 0]) (by simp [results, Tryd.results84, go_sem, d0, d1, d2]) rfl ⟨by rw [HRR.out]; rfl, HB.out.trans ((touch3 W2 w.heap.size (.int .i64 (j : Int)) (.int .i64 100) (.int .i64 0)).below (Nat.le_refl _) HB.out.size)⟩
    by_cases hv2 : v = 2
    · subst hv2
      have hr : keptR 2 122 j = ⟨(j : Int), 1, 0⟩ := by
        unfold keptR
        simp []
      have HRR := Lib.hid hr
      clear hr
      obtain ⟨x0, x1, x2⟩ := HQ.out
      obtain ⟨p0, p1, p2⟩ := HP.out
      have f0 := HPF.out.2 0
      have f1 := HPF.out.2 1
      have f2 := HPF.out.2 2
      go_wp2_with fail
      clear x0 x1 x2 p0 p1 p2 f0 f1 f2
      have hp := HP.out.set0 (.int .i64 (j : Int)) |>.set1 (.int .i64 1) |>.set2 (.int .i64 0)
      obtain ⟨d0, d1, d2⟩ := hp
      exact bodyPost_ret (v := .agg #[.int .i64 (j : Int), .int .i64 1, .int .i64 0]) (by simp [results, Tryd.results84, go_sem, d0, d1, d2]) rfl ⟨by rw [HRR.out]; rfl, HB.out.trans ((touch3 W w.heap.size (.int .i64 (j : Int)) (.int .i64 1) (.int .i64 0)).below (Nat.le_refl _) HB.out.size)⟩
    have e1 : ((v : Int) == 1) = false := beq_eq_false_iff_ne.2 (by omega)
    have e2 : ((v : Int) == 2) = false := beq_eq_false_iff_ne.2 (by omega)
    have e3 : (v == 1) = false := beq_eq_false_iff_ne.2 hv1
    have e4 : (v == 2) = false := beq_eq_false_iff_ne.2 hv2
    have hr : keptR v 122 j = ⟨(j : Int), 1, 0⟩ := by
      unfold keptR
      simp [hv1, hv2]
    have HRR := Lib.hid hr
    clear hr hv1 hv2
    obtain ⟨x0, x1, x2⟩ := HQ.out
    obtain ⟨p0, p1, p2⟩ := HP.out
    have f0 := HPF.out.2 0
    have f1 := HPF.out.2 1
    have f2 := HPF.out.2 2
    go_wp2_with fail
    clear x0 x1 x2 p0 p1 p2 f0 f1 f2
    have hp := HP.out.set0 (.int .i64 (j : Int)) |>.set1 (.int .i64 1) |>.set2 (.int .i64 0)
    obtain ⟨d0, d1, d2⟩ := hp
    exact bodyPost_ret (v := .agg #[.int .i64 (j : Int), .int .i64 1, .int .i64 0]) (by simp [results, Tryd.results84, go_sem, d0, d1, d2]) rfl ⟨by rw [HRR.out]; rfl, HB.out.trans ((touch3 W w.heap.size (.int .i64 (j : Int)) (.int .i64 1) (.int .i64 0)).below (Nat.le_refl _) HB.out.size)⟩
  by_cases c112 : c = 112
  · subst c112
    by_cases hv1 : v = 1
    · subst hv1
      obtain ⟨x0, x1, x2⟩ := HQ.out
      have f1 := HQF.out.2 1
      have f2 := HQF.out.2 2
      go_upto_region 16 with (fail)
      clear x0 x1 x2 f1 f2
      have ht := Schema.Touch.set W (w.heap.size + 1) 1 (.int .i64 100)
      replace HQ := Lib.hid (HQ.out.set1 (.int .i64 100))
      replace HP := Lib.hid (HP.out.touch ht (Or.inl (by omega)))
      replace HPF := Lib.hid (HPF.out.touch ht (Or.inl (by omega)))
      replace HB := Lib.hid (Touch.step HB.out ht (by omega))
      clear ht
      generalize W.setCell ⟨w.heap.size + 1, 1, none⟩ (.int .i64 100) = W2 at HP HPF HQ HB ⊢
      have hr : keptR 1 112 j = ⟨(j : Int), 100, 0⟩ := by
        unfold keptR
        simp []
      have HRR := Lib.hid hr
      clear hr
      obtain ⟨x0, x1, x2⟩ := HQ.out
      obtain ⟨p0, p1, p2⟩ := HP.out
      have f0 := HPF.out.2 0
      have f1 := HPF.out.2 1
      have f2 := HPF.out.2 2
      go_wp2_with fail
      clear x0 x1 x2 p0 p1 p2 f0 f1 f2
      have hp := HP.out.set0 (.int .i64 (j : Int)) |>.set1 (.int .i64 100) |>.set2 (.int .i64 0)
      obtain ⟨d0, d1, d2⟩ := hp
      exact bodyPost_ret (v := .agg #[.int .i64 (j : Int), .int .i64 100, .int .i64 0]) (by simp [results, Tryd.results84, go_sem, d0, d1, d2]) rfl ⟨by rw [HRR.out]; rfl, HB.out.trans ((touch3 W2 w.heap.size (.int .i64 (j : Int)) (.int .i64 100) (.int .i64 0)).below (Nat.le_refl _) HB.out.size)⟩
    by_cases hv2 : v = 2
    · subst hv2
      have hr : keptR 2 112 j = ⟨(j : Int), 1, 0⟩ := by
        unfold keptR
        simp []
      have HRR := Lib.hid hr
      clear hr
      obtain ⟨x0, x1, x2⟩ := HQ.out
      obtain ⟨p0, p1, p2⟩ := HP.out
      have f0 := HPF.out.2 0
      have f1 := HPF.out.2 1
      have f2 := HPF.out.2 2
      go_wp2_with fail
      clear x0 x1 x2 p0 p1 p2 f0 f1 f2
      have hp := HP.out.set0 (.int .i64 (j : Int)) |>.set1 (.int .i64 1) |>.set2 (.int .i64 0)
      obtain ⟨d0, d1, d2⟩ := hp
      exact bodyPost_ret (v := .agg #[.int .i64 (j : Int), .int .i64 1, .int .i64 0]) (by simp [results, Tryd.results84, go_sem, d0, d1, d2]) rfl ⟨by rw [HRR.out]; rfl, HB.out.trans ((touch3 W w.heap.size (.int .i64 (j : Int)) (.int .i64 1) (.int .i64 0)).below (Nat.le_refl _) HB.out.size)⟩
    have e1 : ((v : Int) == 1) = false := beq_eq_false_iff_ne.2 (by omega)
    have e2 : ((v : Int) == 2) = false := beq_eq_false_iff_ne.2 (by omega)
    have e3 : (v == 1) = false := beq_eq_false_iff_ne.2 hv1
    have e4 : (v == 2) = false := beq_eq_false_iff_ne.2 hv2
    have hr : keptR v 112 j = ⟨(j : Int), 1, 0⟩ := by
      unfold keptR
      simp [hv1, hv2]
    have HRR := Lib.hid hr
    clear hr hv1 hv2
    obtain ⟨x0, x1, x2⟩ := HQ.out
    obtain ⟨p0, p1, p2⟩ := HP.out
    have f0 := HPF.out.2 0
    have f1 := HPF.out.2 1
    have f2 := HPF.out.2 2
    go_wp2_with fail
    clear x0 x1 x2 p0 p1 p2 f0 f1 f2
    have hp := HP.out.set0 (.int .i64 (j : Int)) |>.set1 (.int .i64 1) |>.set2 (.int .i64 0)
    obtain ⟨d0, d1, d2⟩ := hp
    exact bodyPost_ret (v := .agg #[.int .i64 (j : Int), .int .i64 1, .int .i64 0]) (by simp [results, Tryd.results84, go_sem, d0, d1, d2]) rfl ⟨by rw [HRR.out]; rfl, HB.out.trans ((touch3 W w.heap.size (.int .i64 (j : Int)) (.int .i64 1) (.int .i64 0)).below (Nat.le_refl _) HB.out.size)⟩
  by_cases c107 : c = 107
  · subst c107
    by_cases hv1 : v = 1
    · subst hv1
      obtain ⟨x0, x1, x2⟩ := HQ.out
      have f1 := HQF.out.2 1
      have f2 := HQF.out.2 2
      go_upto_region 16 with (fail)
      clear x0 x1 x2 f1 f2
      have ht := Schema.Touch.set W (w.heap.size + 1) 1 (.int .i64 100)
      replace HQ := Lib.hid (HQ.out.set1 (.int .i64 100))
      replace HP := Lib.hid (HP.out.touch ht (Or.inl (by omega)))
      replace HPF := Lib.hid (HPF.out.touch ht (Or.inl (by omega)))
      replace HB := Lib.hid (Touch.step HB.out ht (by omega))
      clear ht
      generalize W.setCell ⟨w.heap.size + 1, 1, none⟩ (.int .i64 100) = W2 at HP HPF HQ HB ⊢
      have hr : keptR 1 107 j = ⟨(j : Int), 100, 0⟩ := by
        unfold keptR
        simp []
      have HRR := Lib.hid hr
      clear hr
      obtain ⟨x0, x1, x2⟩ := HQ.out
      obtain ⟨p0, p1, p2⟩ := HP.out
      have f0 := HPF.out.2 0
      have f1 := HPF.out.2 1
      have f2 := HPF.out.2 2
      go_wp2_with fail
      clear x0 x1 x2 p0 p1 p2 f0 f1 f2
      have hp := HP.out.set0 (.int .i64 (j : Int)) |>.set1 (.int .i64 100) |>.set2 (.int .i64 0)
      obtain ⟨d0, d1, d2⟩ := hp
      exact bodyPost_ret (v := .agg #[.int .i64 (j : Int), .int .i64 100, .int .i64 0]) (by simp [results, Tryd.results84, go_sem, d0, d1, d2]) rfl ⟨by rw [HRR.out]; rfl, HB.out.trans ((touch3 W2 w.heap.size (.int .i64 (j : Int)) (.int .i64 100) (.int .i64 0)).below (Nat.le_refl _) HB.out.size)⟩
    by_cases hv2 : v = 2
    · subst hv2
      have hr : keptR 2 107 j = ⟨(j : Int), 1, 0⟩ := by
        unfold keptR
        simp []
      have HRR := Lib.hid hr
      clear hr
      obtain ⟨x0, x1, x2⟩ := HQ.out
      obtain ⟨p0, p1, p2⟩ := HP.out
      have f0 := HPF.out.2 0
      have f1 := HPF.out.2 1
      have f2 := HPF.out.2 2
      go_wp2_with fail
      clear x0 x1 x2 p0 p1 p2 f0 f1 f2
      have hp := HP.out.set0 (.int .i64 (j : Int)) |>.set1 (.int .i64 1) |>.set2 (.int .i64 0)
      obtain ⟨d0, d1, d2⟩ := hp
      exact bodyPost_ret (v := .agg #[.int .i64 (j : Int), .int .i64 1, .int .i64 0]) (by simp [results, Tryd.results84, go_sem, d0, d1, d2]) rfl ⟨by rw [HRR.out]; rfl, HB.out.trans ((touch3 W w.heap.size (.int .i64 (j : Int)) (.int .i64 1) (.int .i64 0)).below (Nat.le_refl _) HB.out.size)⟩
    have e1 : ((v : Int) == 1) = false := beq_eq_false_iff_ne.2 (by omega)
    have e2 : ((v : Int) == 2) = false := beq_eq_false_iff_ne.2 (by omega)
    have e3 : (v == 1) = false := beq_eq_false_iff_ne.2 hv1
    have e4 : (v == 2) = false := beq_eq_false_iff_ne.2 hv2
    have hr : keptR v 107 j = ⟨(j : Int), 1, 0⟩ := by
      unfold keptR
      simp [hv1, hv2]
    have HRR := Lib.hid hr
    clear hr hv1 hv2
    obtain ⟨x0, x1, x2⟩ := HQ.out
    obtain ⟨p0, p1, p2⟩ := HP.out
    have f0 := HPF.out.2 0
    have f1 := HPF.out.2 1
    have f2 := HPF.out.2 2
    go_wp2_with fail
    clear x0 x1 x2 p0 p1 p2 f0 f1 f2
    have hp := HP.out.set0 (.int .i64 (j : Int)) |>.set1 (.int .i64 1) |>.set2 (.int .i64 0)
    obtain ⟨d0, d1, d2⟩ := hp
    exact bodyPost_ret (v := .agg #[.int .i64 (j : Int), .int .i64 1, .int .i64 0]) (by simp [results, Tryd.results84, go_sem, d0, d1, d2]) rfl ⟨by rw [HRR.out]; rfl, HB.out.trans ((touch3 W w.heap.size (.int .i64 (j : Int)) (.int .i64 1) (.int .i64 0)).below (Nat.le_refl _) HB.out.size)⟩
  by_cases c98 : c = 98
  · subst c98
    by_cases hv1 : v = 1
    · subst hv1
      obtain ⟨x0, x1, x2⟩ := HQ.out
      have f1 := HQF.out.2 1
      have f2 := HQF.out.2 2
      go_upto_region 16 with (fail)
      clear x0 x1 x2 f1 f2
      have ht := Schema.Touch.set W (w.heap.size + 1) 1 (.int .i64 100)
      replace HQ := Lib.hid (HQ.out.set1 (.int .i64 100))
      replace HP := Lib.hid (HP.out.touch ht (Or.inl (by omega)))
      replace HPF := Lib.hid (HPF.out.touch ht (Or.inl (by omega)))
      replace HB := Lib.hid (Touch.step HB.out ht (by omega))
      clear ht
      generalize W.setCell ⟨w.heap.size + 1, 1, none⟩ (.int .i64 100) = W2 at HP HPF HQ HB ⊢
      have hr : keptR 1 98 j = ⟨(j : Int), 100, 0⟩ := by
        unfold keptR
        simp []
      have HRR := Lib.hid hr
      clear hr
      obtain ⟨x0, x1, x2⟩ := HQ.out
      obtain ⟨p0, p1, p2⟩ := HP.out
      have f0 := HPF.out.2 0
      have f1 := HPF.out.2 1
      have f2 := HPF.out.2 2
      go_wp2_with fail
      clear x0 x1 x2 p0 p1 p2 f0 f1 f2
      have hp := HP.out.set0 (.int .i64 (j : Int)) |>.set1 (.int .i64 100) |>.set2 (.int .i64 0)
      obtain ⟨d0, d1, d2⟩ := hp
      exact bodyPost_ret (v := .agg #[.int .i64 (j : Int), .int .i64 100, .int .i64 0]) (by simp [results, Tryd.results84, go_sem, d0, d1, d2]) rfl ⟨by rw [HRR.out]; rfl, HB.out.trans ((touch3 W2 w.heap.size (.int .i64 (j : Int)) (.int .i64 100) (.int .i64 0)).below (Nat.le_refl _) HB.out.size)⟩
    by_cases hv2 : v = 2
    · subst hv2
      have hr : keptR 2 98 j = ⟨(j : Int), 1, 0⟩ := by
        unfold keptR
        simp []
      have HRR := Lib.hid hr
      clear hr
      obtain ⟨x0, x1, x2⟩ := HQ.out
      obtain ⟨p0, p1, p2⟩ := HP.out
      have f0 := HPF.out.2 0
      have f1 := HPF.out.2 1
      have f2 := HPF.out.2 2
      go_wp2_with fail
      clear x0 x1 x2 p0 p1 p2 f0 f1 f2
      have hp := HP.out.set0 (.int .i64 (j : Int)) |>.set1 (.int .i64 1) |>.set2 (.int .i64 0)
      obtain ⟨d0, d1, d2⟩ := hp
      exact bodyPost_ret (v := .agg #[.int .i64 (j : Int), .int .i64 1, .int .i64 0]) (by simp [results, Tryd.results84, go_sem, d0, d1, d2]) rfl ⟨by rw [HRR.out]; rfl, HB.out.trans ((touch3 W w.heap.size (.int .i64 (j : Int)) (.int .i64 1) (.int .i64 0)).below (Nat.le_refl _) HB.out.size)⟩
    have e1 : ((v : Int) == 1) = false := beq_eq_false_iff_ne.2 (by omega)
    have e2 : ((v : Int) == 2) = false := beq_eq_false_iff_ne.2 (by omega)
    have e3 : (v == 1) = false := beq_eq_false_iff_ne.2 hv1
    have e4 : (v == 2) = false := beq_eq_false_iff_ne.2 hv2
    have hr : keptR v 98 j = ⟨(j : Int), 1, 0⟩ := by
      unfold keptR
      simp [hv1, hv2]
    have HRR := Lib.hid hr
    clear hr hv1 hv2
    obtain ⟨x0, x1, x2⟩ := HQ.out
    obtain ⟨p0, p1, p2⟩ := HP.out
    have f0 := HPF.out.2 0
    have f1 := HPF.out.2 1
    have f2 := HPF.out.2 2
    go_wp2_with fail
    clear x0 x1 x2 p0 p1 p2 f0 f1 f2
    have hp := HP.out.set0 (.int .i64 (j : Int)) |>.set1 (.int .i64 1) |>.set2 (.int .i64 0)
    obtain ⟨d0, d1, d2⟩ := hp
    exact bodyPost_ret (v := .agg #[.int .i64 (j : Int), .int .i64 1, .int .i64 0]) (by simp [results, Tryd.results84, go_sem, d0, d1, d2]) rfl ⟨by rw [HRR.out]; rfl, HB.out.trans ((touch3 W w.heap.size (.int .i64 (j : Int)) (.int .i64 1) (.int .i64 0)).below (Nat.le_refl _) HB.out.size)⟩
  by_cases c116 : c = 116
  · subst c116
    by_cases hv1 : v = 1
    · subst hv1
      have hr : keptR 1 116 j = ⟨(j : Int), 1, 0⟩ := by
        unfold keptR
        simp []
      have HRR := Lib.hid hr
      clear hr
      obtain ⟨x0, x1, x2⟩ := HQ.out
      obtain ⟨p0, p1, p2⟩ := HP.out
      have f0 := HPF.out.2 0
      have f1 := HPF.out.2 1
      have f2 := HPF.out.2 2
      go_wp2_with fail
      clear x0 x1 x2 p0 p1 p2 f0 f1 f2
      have hp := HP.out.set0 (.int .i64 (j : Int)) |>.set1 (.int .i64 1) |>.set2 (.int .i64 0)
      obtain ⟨d0, d1, d2⟩ := hp
      exact bodyPost_ret (v := .agg #[.int .i64 (j : Int), .int .i64 1, .int .i64 0]) (by simp [results, Tryd.results84, go_sem, d0, d1, d2]) rfl ⟨by rw [HRR.out]; rfl, HB.out.trans ((touch3 W w.heap.size (.int .i64 (j : Int)) (.int .i64 1) (.int .i64 0)).below (Nat.le_refl _) HB.out.size)⟩
    by_cases hv2 : v = 2
    · subst hv2
      obtain ⟨x0, x1, x2⟩ := HQ.out
      have f1 := HQF.out.2 1
      have f2 := HQF.out.2 2
      go_upto_region 16 with (fail)
      clear x0 x1 x2 f1 f2
      have ht := Schema.Touch.set W (w.heap.size + 1) 1 (.int .i64 10)
      replace HQ := Lib.hid (HQ.out.set1 (.int .i64 10))
      replace HP := Lib.hid (HP.out.touch ht (Or.inl (by omega)))
      replace HPF := Lib.hid (HPF.out.touch ht (Or.inl (by omega)))
      replace HB := Lib.hid (Touch.step HB.out ht (by omega))
      clear ht
      generalize W.setCell ⟨w.heap.size + 1, 1, none⟩ (.int .i64 10) = W2 at HP HPF HQ HB ⊢
      have hr : keptR 2 116 j = ⟨(j : Int), 10, 0⟩ := by
        unfold keptR
        simp []
      have HRR := Lib.hid hr
      clear hr
      obtain ⟨x0, x1, x2⟩ := HQ.out
      obtain ⟨p0, p1, p2⟩ := HP.out
      have f0 := HPF.out.2 0
      have f1 := HPF.out.2 1
      have f2 := HPF.out.2 2
      go_wp2_with fail
      clear x0 x1 x2 p0 p1 p2 f0 f1 f2
      have hp := HP.out.set0 (.int .i64 (j : Int)) |>.set1 (.int .i64 10) |>.set2 (.int .i64 0)
      obtain ⟨d0, d1, d2⟩ := hp
      exact bodyPost_ret (v := .agg #[.int .i64 (j : Int), .int .i64 10, .int .i64 0]) (by simp [results, Tryd.results84, go_sem, d0, d1, d2]) rfl ⟨by rw [HRR.out]; rfl, HB.out.trans ((touch3 W2 w.heap.size (.int .i64 (j : Int)) (.int .i64 10) (.int .i64 0)).below (Nat.le_refl _) HB.out.size)⟩
    have e1 : ((v : Int) == 1) = false := beq_eq_false_iff_ne.2 (by omega)
    have e2 : ((v : Int) == 2) = false := beq_eq_false_iff_ne.2 (by omega)
    have e3 : (v == 1) = false := beq_eq_false_iff_ne.2 hv1
    have e4 : (v == 2) = false := beq_eq_false_iff_ne.2 hv2
    have hr : keptR v 116 j = ⟨(j : Int), 1, 0⟩ := by
      unfold keptR
      simp [hv1, hv2]
    have HRR := Lib.hid hr
    clear hr hv1 hv2
    obtain ⟨x0, x1, x2⟩ := HQ.out
    obtain ⟨p0, p1, p2⟩ := HP.out
    have f0 := HPF.out.2 0
    have f1 := HPF.out.2 1
    have f2 := HPF.out.2 2
    go_wp2_with fail
    clear x0 x1 x2 p0 p1 p2 f0 f1 f2
    have hp := HP.out.set0 (.int .i64 (j : Int)) |>.set1 (.int .i64 1) |>.set2 (.int .i64 0)
    obtain ⟨d0, d1, d2⟩ := hp
    exact bodyPost_ret (v := .agg #[.int .i64 (j : Int), .int .i64 1, .int .i64 0]) (by simp [results, Tryd.results84, go_sem, d0, d1, d2]) rfl ⟨by rw [HRR.out]; rfl, HB.out.trans ((touch3 W w.heap.size (.int .i64 (j : Int)) (.int .i64 1) (.int .i64 0)).below (Nat.le_refl _) HB.out.size)⟩
  by_cases c115 : c = 115
  · subst c115
    by_cases hv1 : v = 1
    · subst hv1
      have hr : keptR 1 115 j = ⟨(j : Int), 1, 0⟩ := by
        unfold keptR
        simp []
      have HRR := Lib.hid hr
      clear hr
      obtain ⟨x0, x1, x2⟩ := HQ.out
      obtain ⟨p0, p1, p2⟩ := HP.out
      have f0 := HPF.out.2 0
      have f1 := HPF.out.2 1
      have f2 := HPF.out.2 2
      go_wp2_with fail
      clear x0 x1 x2 p0 p1 p2 f0 f1 f2
      have hp := HP.out.set0 (.int .i64 (j : Int)) |>.set1 (.int .i64 1) |>.set2 (.int .i64 0)
      obtain ⟨d0, d1, d2⟩ := hp
      exact bodyPost_ret (v := .agg #[.int .i64 (j : Int), .int .i64 1, .int .i64 0]) (by simp [results, Tryd.results84, go_sem, d0, d1, d2]) rfl ⟨by rw [HRR.out]; rfl, HB.out.trans ((touch3 W w.heap.size (.int .i64 (j : Int)) (.int .i64 1) (.int .i64 0)).below (Nat.le_refl _) HB.out.size)⟩
    by_cases hv2 : v = 2
    · subst hv2
      obtain ⟨x0, x1, x2⟩ := HQ.out
      have f1 := HQF.out.2 1
      have f2 := HQF.out.2 2
      go_upto_region 16 with (fail)
      clear x0 x1 x2 f1 f2
      have ht := Schema.Touch.set W (w.heap.size + 1) 2 (.int .i64 1)
      replace HQ := Lib.hid (HQ.out.set2 (.int .i64 1))
      replace HP := Lib.hid (HP.out.touch ht (Or.inl (by omega)))
      replace HPF := Lib.hid (HPF.out.touch ht (Or.inl (by omega)))
      replace HB := Lib.hid (Touch.step HB.out ht (by omega))
      clear ht
      generalize W.setCell ⟨w.heap.size + 1, 2, none⟩ (.int .i64 1) = W2 at HP HPF HQ HB ⊢
      have hr : keptR 2 115 j = ⟨(j : Int), 1, 1⟩ := by
        unfold keptR
        simp []
      have HRR := Lib.hid hr
      clear hr
      obtain ⟨x0, x1, x2⟩ := HQ.out
      obtain ⟨p0, p1, p2⟩ := HP.out
      have f0 := HPF.out.2 0
      have f1 := HPF.out.2 1
      have f2 := HPF.out.2 2
      go_wp2_with fail
      clear x0 x1 x2 p0 p1 p2 f0 f1 f2
      have hp := HP.out.set0 (.int .i64 (j : Int)) |>.set1 (.int .i64 1) |>.set2 (.int .i64 1)
      obtain ⟨d0, d1, d2⟩ := hp
      exact bodyPost_ret (v := .agg #[.int .i64 (j : Int), .int .i64 1, .int .i64 1]) (by simp [results, Tryd.results84, go_sem, d0, d1, d2]) rfl ⟨by rw [HRR.out]; rfl, HB.out.trans ((touch3 W2 w.heap.size (.int .i64 (j : Int)) (.int .i64 1) (.int .i64 1)).below (Nat.le_refl _) HB.out.size)⟩
    have e1 : ((v : Int) == 1) = false := beq_eq_false_iff_ne.2 (by omega)
    have e2 : ((v : Int) == 2) = false := beq_eq_false_iff_ne.2 (by omega)
    have e3 : (v == 1) = false := beq_eq_false_iff_ne.2 hv1
    have e4 : (v == 2) = false := beq_eq_false_iff_ne.2 hv2
    have hr : keptR v 115 j = ⟨(j : Int), 1, 0⟩ := by
      unfold keptR
      simp [hv1, hv2]
    have HRR := Lib.hid hr
    clear hr hv1 hv2
    obtain ⟨x0, x1, x2⟩ := HQ.out
    obtain ⟨p0, p1, p2⟩ := HP.out
    have f0 := HPF.out.2 0
    have f1 := HPF.out.2 1
    have f2 := HPF.out.2 2
    go_wp2_with fail
    clear x0 x1 x2 p0 p1 p2 f0 f1 f2
    have hp := HP.out.set0 (.int .i64 (j : Int)) |>.set1 (.int .i64 1) |>.set2 (.int .i64 0)
    obtain ⟨d0, d1, d2⟩ := hp
    exact bodyPost_ret (v := .agg #[.int .i64 (j : Int), .int .i64 1, .int .i64 0]) (by simp [results, Tryd.results84, go_sem, d0, d1, d2]) rfl ⟨by rw [HRR.out]; rfl, HB.out.trans ((touch3 W w.heap.size (.int .i64 (j : Int)) (.int .i64 1) (.int .i64 0)).below (Nat.le_refl _) HB.out.size)⟩
  have g109 : ((c : Int) == 109) = false := beq_eq_false_iff_ne.2 (by omega)
  have h109 : (c == 109) = false := beq_eq_false_iff_ne.2 c109
  have g122 : ((c : Int) == 122) = false := beq_eq_false_iff_ne.2 (by omega)
  have h122 : (c == 122) = false := beq_eq_false_iff_ne.2 c122
  have g112 : ((c : Int) == 112) = false := beq_eq_false_iff_ne.2 (by omega)
  have h112 : (c == 112) = false := beq_eq_false_iff_ne.2 c112
  have g107 : ((c : Int) == 107) = false := beq_eq_false_iff_ne.2 (by omega)
  have h107 : (c == 107) = false := beq_eq_false_iff_ne.2 c107
  have g98 : ((c : Int) == 98) = false := beq_eq_false_iff_ne.2 (by omega)
  have h98 : (c == 98) = false := beq_eq_false_iff_ne.2 c98
  have g116 : ((c : Int) == 116) = false := beq_eq_false_iff_ne.2 (by omega)
  have h116 : (c == 116) = false := beq_eq_false_iff_ne.2 c116
  have g115 : ((c : Int) == 115) = false := beq_eq_false_iff_ne.2 (by omega)
  have h115 : (c == 115) = false := beq_eq_false_iff_ne.2 c115
  by_cases hv1 : v = 1
  · subst hv1
    have hr : keptR 1 c j = ⟨(j : Int), 1, 0⟩ := by
      unfold keptR
      simp [c109, c122, c112, c107, c98, c116, c115]
    have HRR := Lib.hid hr
    clear hr
    obtain ⟨x0, x1, x2⟩ := HQ.out
    obtain ⟨p0, p1, p2⟩ := HP.out
    have f0 := HPF.out.2 0
    have f1 := HPF.out.2 1
    have f2 := HPF.out.2 2
    go_wp2_with fail
    clear x0 x1 x2 p0 p1 p2 f0 f1 f2
    have hp := HP.out.set0 (.int .i64 (j : Int)) |>.set1 (.int .i64 1) |>.set2 (.int .i64 0)
    obtain ⟨d0, d1, d2⟩ := hp
    exact bodyPost_ret (v := .agg #[.int .i64 (j : Int), .int .i64 1, .int .i64 0]) (by simp [results, Tryd.results84, go_sem, d0, d1, d2]) rfl ⟨by rw [HRR.out]; rfl, HB.out.trans ((touch3 W w.heap.size (.int .i64 (j : Int)) (.int .i64 1) (.int .i64 0)).below (Nat.le_refl _) HB.out.size)⟩
  by_cases hv2 : v = 2
  · subst hv2
    have hr : keptR 2 c j = ⟨(j : Int), 1, 0⟩ := by
      unfold keptR
      simp [c109, c122, c112, c107, c98, c116, c115]
    have HRR := Lib.hid hr
    clear hr
    obtain ⟨x0, x1, x2⟩ := HQ.out
    obtain ⟨p0, p1, p2⟩ := HP.out
    have f0 := HPF.out.2 0
    have f1 := HPF.out.2 1
    have f2 := HPF.out.2 2
    go_wp2_with fail
    clear x0 x1 x2 p0 p1 p2 f0 f1 f2
    have hp := HP.out.set0 (.int .i64 (j : Int)) |>.set1 (.int .i64 1) |>.set2 (.int .i64 0)
    obtain ⟨d0, d1, d2⟩ := hp
    exact bodyPost_ret (v := .agg #[.int .i64 (j : Int), .int .i64 1, .int .i64 0]) (by simp [results, Tryd.results84, go_sem, d0, d1, d2]) rfl ⟨by rw [HRR.out]; rfl, HB.out.trans ((touch3 W w.heap.size (.int .i64 (j : Int)) (.int .i64 1) (.int .i64 0)).below (Nat.le_refl _) HB.out.size)⟩
  have e1 : ((v : Int) == 1) = false := beq_eq_false_iff_ne.2 (by omega)
  have e2 : ((v : Int) == 2) = false := beq_eq_false_iff_ne.2 (by omega)
  have e3 : (v == 1) = false := beq_eq_false_iff_ne.2 hv1
  have e4 : (v == 2) = false := beq_eq_false_iff_ne.2 hv2
  have hr : keptR v c j = ⟨(j : Int), 1, 0⟩ := by
    unfold keptR
    simp [hv1, hv2, c109, c122, c112, c107, c98, c116, c115]
  have HRR := Lib.hid hr
  clear hr hv1 hv2
  obtain ⟨x0, x1, x2⟩ := HQ.out
  obtain ⟨p0, p1, p2⟩ := HP.out
  have f0 := HPF.out.2 0
  have f1 := HPF.out.2 1
  have f2 := HPF.out.2 2
  go_wp2_with fail
  clear x0 x1 x2 p0 p1 p2 f0 f1 f2
  have hp := HP.out.set0 (.int .i64 (j : Int)) |>.set1 (.int .i64 1) |>.set2 (.int .i64 0)
  obtain ⟨d0, d1, d2⟩ := hp
  exact bodyPost_ret (v := .agg #[.int .i64 (j : Int), .int .i64 1, .int .i64 0]) (by simp [results, Tryd.results84, go_sem, d0, d1, d2]) rfl ⟨by rw [HRR.out]; rfl, HB.out.trans ((touch3 W w.heap.size (.int .i64 (j : Int)) (.int .i64 1) (.int .i64 0)).below (Nat.le_refl _) HB.out.size)⟩

set_option maxRecDepth 100000 in
set_option maxHeartbeats 4000000 in
theorem added_any (c : Nat) (w : World) :
    Calls Tryd.prog 85 #[.int .u8 (c : Int)] w fun z w' => z = .returned (ruV (addedR c)) ∧ Below w.heap.size w w' := by
  have hb1 := (Below.refl w.heap.size w).alloc (Nat.le_refl _) (.cells #[.int .i64 0, .int .i64 0, .int .i64 0] 118)
  have hs1 : (w.alloc (.cells #[.int .i64 0, .int .i64 0, .int .i64 0] 118)).heap.size = w.heap.size + 1 := by simp
  have hb2 := (Below.refl (w.alloc (.cells #[.int .i64 0, .int .i64 0, .int .i64 0] 118)).heap.size (w.alloc (.cells #[.int .i64 0, .int .i64 0, .int .i64 0] 118))).alloc (Nat.le_refl _) (.cells #[.int .i64 (-1), .int .i64 0, .int .i64 0] 118)
  have hq := tri_new (w.alloc (.cells #[.int .i64 0, .int .i64 0, .int .i64 0] 118)) (.int .i64 (-1)) (.int .i64 0) (.int .i64 0) 118
  rw [hs1] at hq
  have HQ := Lib.hid hq
  have HP := Lib.hid ((tri_new w (.int .i64 0) (.int .i64 0) (.int .i64 0) 118).below hb2)
  have HPF := Lib.hid ((free_new w #[.int .i64 0, .int .i64 0, .int .i64 0] 118).below hb2)
  have hqf := free_new (w.alloc (.cells #[.int .i64 0, .int .i64 0, .int .i64 0] 118)) #[.int .i64 (-1), .int .i64 0, .int .i64 0] 118
  rw [hs1] at hqf
  have HQF := Lib.hid hqf
  have HB := Lib.hid (below_step hb1 hb2)
  clear hb1 hb2 hs1 hq hqf
  go_enter Tryd.func85, Tryd.ntmps85
  go_upto_region 2 with (fail)
  generalize hW : (w.alloc (.cells #[.int .i64 0, .int .i64 0, .int .i64 0] 118)).alloc (.cells #[.int .i64 (-1), .int .i64 0, .int .i64 0] 118) = W at HP HPF HQ HQF HB ⊢
  clear hW
  by_cases c107 : c = 107
  · subst c107
    obtain ⟨x0, x1, x2⟩ := HQ.out
    have f2 := HQF.out.2 2
    go_upto_region 4 with (fail)
    clear x0 x1 x2 f2
    have ht := Schema.Touch.set W (w.heap.size + 1) 2 (.int .i64 100)
    replace HQ := Lib.hid (HQ.out.set2 (.int .i64 100))
    replace HP := Lib.hid (HP.out.touch ht (Or.inl (by omega)))
    replace HPF := Lib.hid (HPF.out.touch ht (Or.inl (by omega)))
    replace HB := Lib.hid (Touch.step HB.out ht (by omega))
    clear ht
    generalize W.setCell ⟨w.heap.size + 1, 2, none⟩ (.int .i64 100) = W2 at HP HPF HQ HB ⊢
    have hr : addedR 107 = ⟨-1, 0, 100⟩ := by
      unfold addedR
      simp []
    have HRR := Lib.hid hr
    clear hr
    obtain ⟨x0, x1, x2⟩ := HQ.out
    obtain ⟨p0, p1, p2⟩ := HP.out
    have f0 := HPF.out.2 0
    have f1 := HPF.out.2 1
    have f2 := HPF.out.2 2
    go_wp2_with fail
    clear x0 x1 x2 p0 p1 p2 f0 f1 f2
    have hp := HP.out.set0 (.int .i64 (-1)) |>.set1 (.int .i64 0) |>.set2 (.int .i64 100)
    obtain ⟨d0, d1, d2⟩ := hp
    exact bodyPost_ret (v := .agg #[.int .i64 (-1), .int .i64 0, .int .i64 100]) (by simp [results, Tryd.results85, go_sem, d0, d1, d2]) rfl ⟨by rw [HRR.out]; rfl, HB.out.trans ((touch3 W2 w.heap.size (.int .i64 (-1)) (.int .i64 0) (.int .i64 100)).below (Nat.le_refl _) HB.out.size)⟩
  by_cases c109 : c = 109
  · subst c109
    obtain ⟨x0, x1, x2⟩ := HQ.out
    have f2 := HQF.out.2 2
    go_upto_region 4 with (fail)
    clear x0 x1 x2 f2
    have ht := Schema.Touch.set W (w.heap.size + 1) 2 (.int .i64 100)
    replace HQ := Lib.hid (HQ.out.set2 (.int .i64 100))
    replace HP := Lib.hid (HP.out.touch ht (Or.inl (by omega)))
    replace HPF := Lib.hid (HPF.out.touch ht (Or.inl (by omega)))
    replace HB := Lib.hid (Touch.step HB.out ht (by omega))
    clear ht
    generalize W.setCell ⟨w.heap.size + 1, 2, none⟩ (.int .i64 100) = W2 at HP HPF HQ HB ⊢
    have hr : addedR 109 = ⟨-1, 0, 100⟩ := by
      unfold addedR
      simp []
    have HRR := Lib.hid hr
    clear hr
    obtain ⟨x0, x1, x2⟩ := HQ.out
    obtain ⟨p0, p1, p2⟩ := HP.out
    have f0 := HPF.out.2 0
    have f1 := HPF.out.2 1
    have f2 := HPF.out.2 2
    go_wp2_with fail
    clear x0 x1 x2 p0 p1 p2 f0 f1 f2
    have hp := HP.out.set0 (.int .i64 (-1)) |>.set1 (.int .i64 0) |>.set2 (.int .i64 100)
    obtain ⟨d0, d1, d2⟩ := hp
    exact bodyPost_ret (v := .agg #[.int .i64 (-1), .int .i64 0, .int .i64 100]) (by simp [results, Tryd.results85, go_sem, d0, d1, d2]) rfl ⟨by rw [HRR.out]; rfl, HB.out.trans ((touch3 W2 w.heap.size (.int .i64 (-1)) (.int .i64 0) (.int .i64 100)).below (Nat.le_refl _) HB.out.size)⟩
  have g107 : ((c : Int) == 107) = false := beq_eq_false_iff_ne.2 (by omega)
  have h107 : (c == 107) = false := beq_eq_false_iff_ne.2 c107
  have g109 : ((c : Int) == 109) = false := beq_eq_false_iff_ne.2 (by omega)
  have h109 : (c == 109) = false := beq_eq_false_iff_ne.2 c109
  have hr : addedR c = ⟨-1, 0, 0⟩ := by
    unfold addedR
    simp [c107, c109]
  have HRR := Lib.hid hr
  clear hr
  obtain ⟨x0, x1, x2⟩ := HQ.out
  obtain ⟨p0, p1, p2⟩ := HP.out
  have f0 := HPF.out.2 0
  have f1 := HPF.out.2 1
  have f2 := HPF.out.2 2
  go_wp2_with fail
  clear x0 x1 x2 p0 p1 p2 f0 f1 f2
  have hp := HP.out.set0 (.int .i64 (-1)) |>.set1 (.int .i64 0) |>.set2 (.int .i64 0)
  obtain ⟨d0, d1, d2⟩ := hp
  exact bodyPost_ret (v := .agg #[.int .i64 (-1), .int .i64 0, .int .i64 0]) (by simp [results, Tryd.results85, go_sem, d0, d1, d2]) rfl ⟨by rw [HRR.out]; rfl, HB.out.trans ((touch3 W w.heap.size (.int .i64 (-1)) (.int .i64 0) (.int .i64 0)).below (Nat.le_refl _) HB.out.size)⟩

end Go.Proofs.YtiibeemjkdipnaaDoor.Upcast
