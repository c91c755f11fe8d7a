import Derived.Test.YthaafniahkejkaaRG
import Derived.Test.YthaafniahkejkaaLOne
/-
  The walk of the statement FrameReads.
-/
namespace Go.Proofs.Ythaafniahkejkaa.Frame
open Go Go.RowKit
open Go.Proofs.Ythaafniahkejkaa.Wire (S S_list S_size cell_row frozen_row row_lt)

theorem rdV_form (s : ByteArray) (i : Int) : ∃ (x : Fr) (n : Int) (e : Nat), rdV s i = .tuple #[.agg #[.int .i64 (x.q : Int), .string (S x.p), .int .i64 (x.i : Int)], .int .i64 n, .int .i64 (e : Int)] := by
  unfold rdV
  split
  · rename_i h
    split
    · exact ⟨⟨rdQ (s.data.toList.drop i.toNat), rdP (s.data.toList.drop i.toNat), i.toNat⟩, _, 0, by unfold frV; rw [Int.toNat_of_nonneg h.1]; rfl⟩
    · exact ⟨⟨0, [], 0⟩, 0, _, rfl⟩
  · exact ⟨⟨0, [], 0⟩, 0, 1, rfl⟩
theorem one_row {w : World} {b : Nat} {x : Fr} (h : w.heap[b]? = some (.cells #[.int .i64 (x.q : Int), .string (S x.p), .int .i64 (x.i : Int)] 26 (0, 0))) : RowFr w (some ⟨b, 0, none⟩) [x] := fun i hi => by
  obtain rfl : i = 0 := by simpa using hi
  exact ⟨b, 0, rfl, row_lt h, cell_row h 0, cell_row h 1, cell_row h 2⟩
theorem RowRf.below' {w w' : World} {A : Option Addr} {xs : List Fr} (h : RowRf w A xs) (hb : Below w.heap.size w w') : RowRf w' A xs := h.below hb
theorem one_rowR {w : World} {b : Nat} {x : Fr} (h : w.heap[b]? = some (.cells #[.int .i64 (x.q : Int), .string (S x.p), .int .i64 (x.i : Int)] 38 (0, 0))) : RowRf w (some ⟨b, 0, none⟩) [x] := fun i hi => by
  obtain rfl : i = 0 := by simpa using hi
  exact ⟨b, 0, rfl, row_lt h, cell_row h 0, cell_row h 1, cell_row h 2⟩

set_option maxRecDepth 100000 in
set_option maxHeartbeats 8000000 in
theorem reads_law (s : ByteArray) (a first : Int) (_w0 : s.size ≤ maxLen) (_w1 : (Lit.int .i64 a).wf = true) (w2 : (Lit.int .i64 first).wf = true) (w : World) :
    Calls Try.prog 5 #[.string s, .int .i64 a, .int .i64 first] w fun e w' => e = .returned (.bool true) ∧ Below w.heap.size w w' := by
  have HW := Lib.hid (fun W => works_any W)
  by_cases hs : s.size ≤ 12000
  · have z0 : decide ((12000 : Int) < (s.size : Int)) = false := decide_eq_false (by omega)
    have z1 : decide (12000 < s.size) = false := decide_eq_false (by omega)
    obtain ⟨x, n, e, hform⟩ := rdV_form s a
    have h1 := fun W => Read_any s a (by omega) W
    have h2 := fun W => refRead_any s a (by omega) W
    rw [hform] at h1 h2
    have H1 := Lib.hid h1
    have H2 := Lib.hid h2
    obtain ⟨L, g, hln, h3, h4⟩ : ∃ (L : List Fr) (g : Int), L.length ≤ 1000000 ∧ (∀ W, Calls Try.prog 16 #[.string s, .int .i64 a, .int .i64 first] W fun z w' => ∃ v, z = .returned (.tuple #[v, .int .i64 g]) ∧ OwnFr w' W.heap.size v L ∧ Below W.heap.size W w') ∧ (∀ W, Calls Try.prog 19 #[.string s, .int .i64 a, .int .i64 first] W fun z w' => ∃ v, z = .returned (.tuple #[v, .int .i64 g]) ∧ OwnRf w' W.heap.size v L ∧ Below W.heap.size W w') := by
      by_cases hp : 0 ≤ a ∧ a ≤ s.size
      · obtain ⟨k, rfl⟩ : ∃ k : Nat, a = (k : Int) := ⟨a.toNat, by omega⟩
        refine ⟨scanF (s.data.toList.drop k) k first, _, ?_, fun W => Scan_any s k (by omega) (by omega) first w2 W, fun W => refScan_any s k (by omega) (by omega) first w2 W⟩
        have q1 : (scanF (s.data.toList.drop k) k first).length ≤ (allS s k).length := pref_len _ _
        have q2 := allS_len s k
        omega
      · refine ⟨[], 0, Nat.zero_le _, fun W => (Scan_no s a first hp W).mono ?_, fun W => (refScan_no s a first hp W).mono ?_⟩
        · rintro z w' ⟨rfl, hb⟩; exact ⟨_, rfl, OwnFr.nil _ _, hb⟩
        · rintro z w' ⟨rfl, hb⟩; exact ⟨_, rfl, OwnRf.nil _ _, hb⟩
    have H3 := Lib.hid h3
    have H4 := Lib.hid h4
    have HL := Lib.hid hln
    clear h1 h2 h3 h4 hform hs w2 hln
    go_enter Try.func5, Try.ntmps5
    go_wp2_with fail
    refine (H1.out _).mono ?_
    rintro z w1 ⟨rfl, hb⟩
    have HB1 := Lib.hid (hb.alloc hb.size (.cells #[.int .i64 (x.q : Int), .string (S x.p), .int .i64 (x.i : Int)] 26))
    have HX1 := Lib.hid (heap_alloc_new w1 (.cells #[.int .i64 (x.q : Int), .string (S x.p), .int .i64 (x.i : Int)] 26))
    clear hb
    go_wp2_with fail
    refine (H2.out _).mono ?_
    rintro z w2 ⟨rfl, hb⟩
    have HX2 := Lib.hid ((hb.block w1.heap.size (by simp)).trans HX1.out)
    have HLT := Lib.hid (row_lt HX2.out)
    have HB2 := Lib.hid (HB1.out.trans (hb.mono HB1.out.size))
    have HB3 := Lib.hid (HB2.out.alloc HB2.out.size (.cells #[.int .i64 (x.q : Int), .string (S x.p), .int .i64 (x.i : Int)] 38))
    have HY2 := Lib.hid (heap_alloc_new w2 (.cells #[.int .i64 (x.q : Int), .string (S x.p), .int .i64 (x.i : Int)] 38))
    have HX3 := Lib.hid ((((Below.refl w2.heap.size w2).alloc (Nat.le_refl _) (.cells #[.int .i64 (x.q : Int), .string (S x.p), .int .i64 (x.i : Int)] 38)).block w1.heap.size HLT.out).trans HX2.out)
    clear hb HB1 HX1 HX2 HB2
    generalize hb2 : w1.heap.size = b1 at *
    go_wp2_with fail
    refine (H3.out _).mono ?_
    rintro z w3 ⟨v, rfl, ho, hb⟩
    obtain ⟨A, ca, rfl, -, -, hr, -⟩ := ho.row
    have HR3 := Lib.hid hr
    have HX4 := Lib.hid ((hb.block b1 (row_lt HX3.out)).trans HX3.out)
    have HY4 := Lib.hid ((hb.block w2.heap.size (row_lt HY2.out)).trans HY2.out)
    have HB4 := Lib.hid (HB3.out.trans (hb.mono HB3.out.size))
    clear ho hr hb HX3 HY2 HB3
    go_wp2_with fail
    refine (H4.out _).mono ?_
    rintro z w4 ⟨v, rfl, ho, hb⟩
    obtain ⟨B, cb, rfl, -, -, hr, -⟩ := ho.row
    have HR4 := Lib.hid hr
    have HR5 := Lib.hid (HR3.out.below hb)
    have hx5 := (hb.block b1 (row_lt HX4.out)).trans HX4.out
    have hy5 := (hb.block w2.heap.size (row_lt HY4.out)).trans HY4.out
    have HB5 := Lib.hid (HB4.out.trans (hb.mono HB4.out.size))
    have c0 : w4.cell? ⟨b1, 0, none⟩ = some (.int .i64 (x.q : Int)) := cell_row hx5 0
    have c1 : w4.cell? ⟨b1, 1, none⟩ = some (.string (S x.p)) := cell_row hx5 1
    have c2 : w4.cell? ⟨b1, 2, none⟩ = some (.int .i64 (x.i : Int)) := cell_row hx5 2
    have hbn : Below w4.heap.size w4 (w4.alloc (.cells #[.int .i64 (x.q : Int), .string (S x.p), .int .i64 (x.i : Int)] 26)) := (Below.refl _ _).alloc (Nat.le_refl _) _
    have hy6 := (hbn.block w2.heap.size (row_lt hy5)).trans hy5
    have d0 : (w4.alloc (.cells #[.int .i64 (x.q : Int), .string (S x.p), .int .i64 (x.i : Int)] 26)).cell? ⟨w2.heap.size, 0, none⟩ = some (.int .i64 (x.q : Int)) := cell_row hy6 0
    have d1 : (w4.alloc (.cells #[.int .i64 (x.q : Int), .string (S x.p), .int .i64 (x.i : Int)] 26)).cell? ⟨w2.heap.size, 1, none⟩ = some (.string (S x.p)) := cell_row hy6 1
    have d2 : (w4.alloc (.cells #[.int .i64 (x.q : Int), .string (S x.p), .int .i64 (x.i : Int)] 26)).cell? ⟨w2.heap.size, 2, none⟩ = some (.int .i64 (x.i : Int)) := cell_row hy6 2
    clear ho hr hb HR3 HX4 HY4 HB4 hx5 hy5 hy6 hbn
    go_wp2_with fail
    have hbn := (Below.refl w4.heap.size w4).alloc (Nat.le_refl _) (.cells #[.int .i64 (x.q : Int), .string (S x.p), .int .i64 (x.i : Int)] 26)
    obtain ⟨W5, hW5⟩ : ∃ W5, w4.alloc (.cells #[.int .i64 (x.q : Int), .string (S x.p), .int .i64 (x.i : Int)] 26) = W5 := ⟨_, rfl⟩
    have hz5 : W5.heap.size = w4.heap.size + 1 := by rw [← hW5]; simp
    have h5 : W5.heap[w4.heap.size]? = some (.cells #[.int .i64 (x.q : Int), .string (S x.p), .int .i64 (x.i : Int)] 26 (0, 0)) := by rw [← hW5]; exact heap_alloc_new w4 _
    rw [hW5] at hbn ⊢
    have hbm := (Below.refl W5.heap.size W5).alloc (Nat.le_refl _) (.cells #[.int .i64 (x.q : Int), .string (S x.p), .int .i64 (x.i : Int)] 38)
    have h6 := heap_alloc_new W5 (.cells #[.int .i64 (x.q : Int), .string (S x.p), .int .i64 (x.i : Int)] 38)
    have h56 := (hbm.block w4.heap.size (by omega)).trans h5
    rw [hz5] at h6
    have hb46 := hbn.trans (hbm.mono (by omega))
    refine (same_any (some ⟨w4.heap.size, 0, none⟩) (some ⟨w4.heap.size + 1, 0, none⟩) 1 1 [x] (by simp) _ (one_row h56) (one_rowR h6)).mono ?_
    rintro z w7 ⟨rfl, hb⟩
    have hb47 := hb46.trans (hb.mono hb46.size)
    have HB7 := Lib.hid (HB5.out.trans (hb47.mono HB5.out.size))
    have HR7 := Lib.hid (HR5.out.below hb47)
    have HR8 := Lib.hid (HR4.out.below hb47)
    clear hb hb46 hb47 hbn hbm h5 h6 h56 hz5 hW5 c0 c1 c2 d0 d1 d2
    go_wp2_with fail
    refine (same_any A B ca cb L HL.out _ HR7.out HR8.out).mono ?_
    rintro z w8 ⟨rfl, hb⟩
    have HB8 := Lib.hid (HB7.out.trans (hb.mono HB7.out.size))
    clear hb
    go_wp2_with fail
    refine (HW.out _).mono ?_
    rintro z w9 ⟨rfl, hb⟩
    have HB9 := Lib.hid (HB8.out.trans (hb.mono HB8.out.size))
    clear hb
    go_wp2_with fail
    go_ret
    exact ⟨rfl, HB9.out⟩
  · have z0 : (12000 : Int) < (s.size : Int) := by omega
    have z1 : 12000 < s.size := by omega
    clear hs w2
    go_enter Try.func5, Try.ntmps5
    go_wp2_with fail
    refine (HW.out _).mono ?_
    rintro e w1 ⟨rfl, hb⟩
    have HB := Lib.hid hb; clear hb
    go_wp2_with fail
    go_ret
    exact ⟨rfl, HB.out⟩
end Go.Proofs.Ythaafniahkejkaa.Frame
