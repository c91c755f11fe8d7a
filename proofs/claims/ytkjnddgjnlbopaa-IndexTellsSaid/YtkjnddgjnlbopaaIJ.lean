import Derived.Test.YtkjnddgjnlbopaaII
/-
  The mark from which on a frame is found; Steps.
-/
namespace Go.Proofs.Ytkjnddgjnlbopaa.Index
open Go Go.RowKit
open Go.Proofs.Ytkjnddgjnlbopaa.Wire (S S_list S_size cell_row frozen_row row_lt heap_set heap_far)
open Go.Proofs.Ytkjnddgjnlbopaa.Frame Go.Proofs.Ytkjnddgjnlbopaa.Seg

theorem nm_ge {ev n : Nat} (h : 1 ≤ ev) : n ≤ nm ev n * ev := by
  by_cases hd : n % ev = 0
  · exact Nat.le_of_eq (nm_due h hd).2
  · exact Nat.le_of_lt (nm_not h hd).2.1
/-- which mark a frame is found from -/
theorem from_k {ev n a q : Nat} (h : 1 ≤ ev) (hq : a ≤ q ∧ q < a + n) : (q - a) / ev + 1 ≤ nm ev n ∧ ∀ i, i < nm ev n → (q < a + i * ev ↔ (q - a) / ev + 1 ≤ i) := by
  refine ⟨?_, fun i _ => ?_⟩
  · have h1 := nm_ge (n := n) h
    have h2 : (q - a) / ev < nm ev n := (Nat.div_lt_iff_lt_mul (by omega)).2 (by omega)
    omega
  · have h2 : (q - a) / ev < i ↔ q - a < i * ev := Nat.div_lt_iff_lt_mul (by omega)
    omega
theorem cut3_m (A : Option Addr) (n cap k : Nat) (hk : k ≤ n) (hc : n ≤ cap) (W : World) :
    (Instr.slice 30 (.slice A n cap) none (some (.int .i64 (k : Int))) (some (.int .i64 (k : Int)))).run Try.prog W = .ok (.slice A k k) W := by
  obtain ⟨i0, hi, hz0, hz1, hz2⟩ := info_parts infoM
  rw [run_slice_hm W 30 A n cap (by kernel_rfl) .i64 .i64 (k : Int) (k : Int) (by omega) (by omega) (by omega)]
  have he : Try.prog.elem 30 = 46 := by kernel_rfl
  cases A with
  | none => simp [he, sizeOf, typeInfo, hi, hz1, Result.andThen, sliced]
  | some ad => simp [he, sizeOf, typeInfo, hi, hz1, Result.andThen, sliced, Addr.add]
set_option maxRecDepth 100000 in
set_option maxHeartbeats 1000000 in
/-- **upTo** -/
theorem upTo_any (w : World) (base b ev a : Nat) (ats : List Nat) (g q : Nat) (h : Ix w base b ev a ats g) (hev : 1 ≤ ev) (hq : a ≤ q ∧ q < a + ats.length) (hl : ats.length ≤ 900000) :
    Calls Try.prog 67 #[.pointer (some ⟨b, 0, none⟩), .int .i64 (q : Int)] w fun e w' => ∃ A, e = .returned (.slice A ((q - a) / ev + 1) ((q - a) / ev + 1)) ∧ RowM w' A (mks ev a ats) ∧ Below w.heap.size w w' := by
  obtain ⟨hk1, hk2⟩ := from_k hev hq
  obtain ⟨w1, hw1⟩ : ∃ w1, (w.alloc (.cells #[.pointer (some ⟨b, 0, none⟩)] 27)).alloc (.cells #[.int .i64 (q : Int)] 2) = w1 := ⟨_, rfl⟩
  have hb1 : Below w.heap.size w w1 := by rw [← hw1]; exact ((Below.refl _ _).alloc (Nat.le_refl _) _).alloc (by simp) _
  have hI1 := h.below hb1
  have e1 : (w.alloc (.cells #[.pointer (some ⟨b, 0, none⟩)] 27)).heap.size = w.heap.size + 1 := by simp
  have hX : Boxed w1 w.heap.size 27 (.pointer (some ⟨b, 0, none⟩)) := by
    rw [← hw1]
    show ((w.alloc _).alloc _).heap[w.heap.size]? = _
    exact (Below.heap_alloc _ _ _ (by rw [e1]; omega)).trans (heap_alloc_new w _)
  have hY : Boxed w1 (w.heap.size + 1) 2 (.int .i64 (q : Int)) := by
    rw [← hw1, ← e1]
    exact heap_alloc_new _ _
  obtain ⟨N, hN⟩ : ∃ N, nm ev ats.length = N := ⟨_, rfl⟩
  have hNl : N ≤ 1000000 := by rw [← hN]; have := nm_le (n := ats.length) hev; omega
  rw [hN] at hk1 hk2
  obtain ⟨k, hk⟩ : ∃ k, (q - a) / ev + 1 = k := ⟨_, rfl⟩
  rw [hk] at hk1 hk2 ⊢
  have HSE := Lib.hid (search_x w1 base b ev a ats g w.heap.size (w.heap.size + 1) q k N hI1 hX hY hN hk1 hk2 hNl)
  obtain ⟨v, h1, h2⟩ := hI1
  obtain ⟨A, c, rfl, hcm, hcl, hrow, -⟩ := h2.row
  rw [mks_len, hN] at h1 hcl
  have HCT := Lib.hid (fun W => cut3_m A N c k hk1 hcl W)
  have HRW := Lib.hid hrow
  have HB1 := Lib.hid hb1
  have HX1 := Lib.hid h1
  have HXX := Lib.hid hX
  have HW1 := Lib.hid hw1
  obtain ⟨⟨c0, c1, c2, c3, c4⟩, -⟩ := h1.facts
  have x0 : w1.cell? ⟨w.heap.size, 0, none⟩ = some (.pointer (some ⟨b, 0, none⟩)) := cell_row hX 0
  have D3 := Lib.hid (And.intro c3 x0)
  rw [← hw1] at c3 x0
  clear h hev hq hl hb1 e1 hX hY hN hNl hk hk1 hk2 h1 h2 hcm hcl hrow hw1 c0 c1 c2 c4
  go_enter Try.func67, Try.ntmps67
  have hmf : ∀ (fn : Fn) (first cap : Array Value) (w : World), (Instr.makeFunc fn first cap).run Try.prog w = .ok (.func fn first cap) w := fun _ _ _ _ => rfl
  go_wp2_with fail
  rw [HW1.out]
  clear c3 x0
  refine HSE.out.mono ?_
  rintro e w2 ⟨rfl, m, rfl⟩
  obtain ⟨c3, x0⟩ := D3.out
  have hct := HCT.out
  go_wp2_with fail
  go_ret
  exact ⟨A, rfl, HRW.out.below (below_dn _ _ _), HB1.out.trans ((below_dn _ _ _).mono HB1.out.size)⟩
end Go.Proofs.Ytkjnddgjnlbopaa.Index
