import Derived.Test.YtkjnddgjnlbopaaRF
import Derived.Test.YtkjnddgjnlbopaaRH
/-
  The document's own Scan and Fits; the statement's comparison of two segments.
-/
namespace Go.Proofs.Ytkjnddgjnlbopaa.Seg
open Go Go.RowKit
open Go.Proofs.Ytkjnddgjnlbopaa.Wire (S S_list S_size S_append cell_row frozen_row row_lt heap_set heap_far U)
open Go.Proofs.Ytkjnddgjnlbopaa.Frame Go.Proofs.Ytkjnddgjnlbopaa.Ranges

def SBr (w : World) (b : Nat) (q : Int) (v : Value) (g : Int) (x : Bool) : Prop := w.heap[b]? = some (.cells #[.int .i64 q, v, .int .i64 g, .bool x] 86 (0, 0))
theorem SBr.facts {w : World} {b : Nat} {q : Int} {v : Value} {g : Int} {x : Bool} (h : SBr w b q v g x) :
    (w.cell? ⟨b, 0, none⟩ = some (.int .i64 q) ∧ w.cell? ⟨b, 1, none⟩ = some v ∧ w.cell? ⟨b, 2, none⟩ = some (.int .i64 g) ∧ w.cell? ⟨b, 3, none⟩ = some (.bool x)) ∧
      w.frozen? ⟨b, 0, none⟩ = false ∧ w.frozen? ⟨b, 1, none⟩ = false ∧ w.frozen? ⟨b, 2, none⟩ = false ∧ w.frozen? ⟨b, 3, none⟩ = false :=
  ⟨⟨cell_row h 0, cell_row h 1, cell_row h 2, cell_row h 3⟩, frozen_row h 0, frozen_row h 1, frozen_row h 2, frozen_row h 3⟩
theorem SBr.store {w : World} {b : Nat} {q0 : Int} {v0 : Value} {g0 : Int} {x0 : Bool} (h : SBr w b q0 v0 g0 x0) (q : Int) (v : Value) (g : Int) (x : Bool) :
    SBr ((((w.setCell ⟨b, 0, none⟩ (.int .i64 q)).setCell ⟨b, 1, none⟩ v).setCell ⟨b, 2, none⟩ (.int .i64 g)).setCell ⟨b, 3, none⟩ (.bool x)) b q v g x := by
  have h1 := heap_set h 0 (.int .i64 q)
  have h2 := heap_set h1 1 v
  have h3 := heap_set h2 2 (.int .i64 g)
  have h4 := heap_set h3 3 (.bool x)
  exact h4
theorem below_set4r {n b : Nat} {a w : World} (h : Below n a w) (hb : n ≤ b) (v0 v1 v2 v3 : Value) : Below n a ((((w.setCell ⟨b, 0, none⟩ v0).setCell ⟨b, 1, none⟩ v1).setCell ⟨b, 2, none⟩ v2).setCell ⟨b, 3, none⟩ v3) :=
  (((h.setCell (p := ⟨b, 0, none⟩) hb _).setCell (p := ⟨b, 1, none⟩) hb _).setCell (p := ⟨b, 2, none⟩) hb _).setCell (p := ⟨b, 3, none⟩) hb _
/-- a row of the call's own frames stays -/
theorem ownRf_grw {T : Nat → Prop} {w w' : World} {base : Nat} {v : Value} {xs : List Fr} (h : OwnRf w base v xs) (g : Grw T w w') (hT : ∀ r, base ≤ r → ¬ T r) : OwnRf w' base v xs := by
  obtain ⟨h1, h2⟩ := h
  refine ⟨h1, ?_⟩
  rcases h2 with h2 | ⟨b, cap, cur, e, hbg, hh, r⟩
  · exact Or.inl h2
  · exact Or.inr ⟨b, cap, cur, e, hbg, (g.block b (row_lt hh) (hT b hbg)).trans hh, r⟩
set_option maxRecDepth 100000 in
set_option maxHeartbeats 1000000 in
/-- **the document's Scan** -/
theorem refSScan_any (s : ByteArray) (hs : s.size ≤ 10000000) (w : World) :
    Calls Try.prog 42 #[.string s] w fun e w' => ∃ A cap, e = .returned (.tuple #[.agg #[.int .i64 (fiQ s.data.toList : Int), .slice A (scL s.data.toList).length cap, .int .i64 (scG s.data.toList : Int), .bool (scW s.data.toList)], .int .i64 (fiE s.data.toList : Int)]) ∧
      OwnRf w' w.heap.size (.slice A (scL s.data.toList).length cap) (scL s.data.toList) ∧ Below w.heap.size w w' := by
  have hz : s.data.toList.length = s.size := by simp
  have HFI := Lib.hid (fun W => refFirst_any s (by omega) W)
  obtain ⟨W0, hW0⟩ : ∃ W0, w.alloc (.cells #[.int .i64 0, .slice none 0 0, .int .i64 0, .bool false] 86) = W0 := ⟨_, rfl⟩
  have HX := Lib.hid (show SBr W0 w.heap.size 0 (.slice none 0 0) 0 false by rw [← hW0]; exact heap_alloc_new w _)
  have HB := Lib.hid (show Below w.heap.size w W0 by rw [← hW0]; exact (Below.refl _ _).alloc (Nat.le_refl _) _)
  have HZ := Lib.hid (show W0.heap.size = w.heap.size + 1 by rw [← hW0]; simp)
  by_cases h0 : fiE s.data.toList = 0
  · obtain ⟨h16, _, _, hq⟩ := fi_parts h0
    have eQ : fiQ s.data.toList = fiN s.data.toList := if_pos h0
    have eL : scL s.data.toList = scanF (s.data.toList.drop 16) 16 (fiN s.data.toList : Int) := if_pos h0
    have eG : scG s.data.toList = 16 + bytesOf (scL s.data.toList) := if_pos h0
    have eW : scW s.data.toList = decide (scG s.data.toList = s.data.toList.length) := if_pos h0
    have hsc := fun W => refScan_any s 16 (by omega) hs (fiN s.data.toList : Int) (by simp [Lit.wf, IntKind.min, IntKind.max, IntKind.bits, IntKind.signed]; omega) W
    unfold RsR at hsc
    rw [← eL] at hsc
    have eG2 : ((16 : Nat) : Int) + (bytesOf (scL s.data.toList) : Int) = (scG s.data.toList : Int) := by rw [eG]; omega
    rw [eG2] at hsc
    have HSC := Lib.hid hsc
    change Hid (∀ W, Calls Try.prog 69 #[.string s, .int .i64 16, .int .i64 (fiN s.data.toList : Int)] W fun z w' => ∃ v, z = .returned (.tuple #[v, .int .i64 (scG s.data.toList : Int)]) ∧ OwnRf w' W.heap.size v (scL s.data.toList) ∧ Below W.heap.size W w') at HSC
    rw [h0, eQ, eW, hz]
    rw [h0, eQ] at HFI
    have hw2 : ((scG s.data.toList : Int) == (s.size : Int)) = decide (scG s.data.toList = s.size) := by
      by_cases e : scG s.data.toList = s.size
      · rw [decide_eq_true e, beq_iff_eq]; omega
      · rw [decide_eq_false e, beq_eq_false_iff_ne]; omega
    clear hsc eG2 eG eL eW eQ hq h16 h0 hz hs
    generalize scL s.data.toList = L at *
    generalize fiN s.data.toList = N at *
    generalize scG s.data.toList = G at *
    generalize decide (G = s.size) = D at *
    go_enter Try.func42, Try.ntmps42
    go_wp2_with fail
    refine (HFI.out W0).mono ?_
    rintro e w1 ⟨rfl, hb⟩
    have HX1 := Lib.hid (show SBr w1 w.heap.size 0 (.slice none 0 0) 0 false from (hb.block _ (by have := HZ.out; omega)).trans HX.out)
    have HB1 := Lib.hid (HB.out.trans (hb.mono HB.out.size))
    have HZ1 := Lib.hid (show w.heap.size < w1.heap.size by have := hb.size; have := HZ.out; omega)
    clear hb HX HB HZ hW0
    go_wp2_with fail
    refine (HSC.out w1).mono ?_
    rintro e w2 ⟨v, rfl, ho, hb⟩
    obtain ⟨A, cap, rfl, -, -, -, -⟩ := ho.row
    have HO := Lib.hid ho
    have HX2 := Lib.hid (show SBr w2 w.heap.size 0 (.slice none 0 0) 0 false from (hb.block _ HZ1.out).trans HX1.out)
    have HB2 := Lib.hid (HB1.out.trans (hb.mono HB1.out.size))
    clear hb HX1 HB1 ho
    obtain ⟨W4, hW4⟩ : ∃ W4, (((w2.setCell ⟨w.heap.size, 0, none⟩ (.int .i64 (N : Int))).setCell ⟨w.heap.size, 1, none⟩ (.slice A L.length cap)).setCell ⟨w.heap.size, 2, none⟩ (.int .i64 (G : Int))).setCell ⟨w.heap.size, 3, none⟩ (.bool D) = W4 := ⟨_, rfl⟩
    obtain ⟨⟨c0, c1, c2, c3⟩, f0, f1, f2, f3⟩ := HX2.out.facts
    have HX4 := HX2.out.store (N : Int) (.slice A L.length cap) (G : Int) D
    have HB4 := Lib.hid (below_set4 HB2.out (Nat.le_refl w.heap.size) (.int .i64 (N : Int)) (.slice A L.length cap) (.int .i64 (G : Int)) (.bool D))
    have hg4 := grw_set4 w2 w.heap.size (.int .i64 (N : Int)) (.slice A L.length cap) (.int .i64 (G : Int)) (.bool D)
    rw [hW4] at HX4 HB4 hg4
    have HO4 := Lib.hid ((ownRf_grw HO.out hg4 (fun r hr e => by have := HZ1.out; omega)).less (Nat.le_of_lt HZ1.out))
    clear hg4 HO
    obtain ⟨⟨d0, d1, d2, d3⟩, -⟩ := HX4.facts
    have HX5 := Lib.hid HX4
    clear HX4
    go_wp2_with fail
    refine bodyPost_ret (v := .tuple #[.agg #[.int .i64 (N : Int), .slice A L.length cap, .int .i64 (G : Int), .bool D], .int .i64 0]) (by simp [results, Try.results42, go_sem, d0, d1, d2, d3]) rfl ⟨A, cap, rfl, HO4.out, HB4.out⟩
  · have eQ : fiQ s.data.toList = 0 := if_neg h0
    have eL : scL s.data.toList = [] := if_neg h0
    have eG : scG s.data.toList = 0 := if_neg h0
    have eW : scW s.data.toList = false := if_neg h0
    rw [eQ, eL, eG, eW]
    rw [eQ] at HFI
    obtain ⟨q1, q2, q3, q4, q5⟩ := nat_ne h0
    clear eQ eL eG eW h0 hz hs
    generalize fiE s.data.toList = x at *
    go_enter Try.func42, Try.ntmps42
    go_wp2_with fail
    refine (HFI.out W0).mono ?_
    rintro e w1 ⟨rfl, hb⟩
    have HX1 := Lib.hid (show SBr w1 w.heap.size 0 (.slice none 0 0) 0 false from (hb.block _ (by have := HZ.out; omega)).trans HX.out)
    have HB1 := Lib.hid (HB.out.trans (hb.mono HB.out.size))
    clear hb HX HB HZ hW0
    obtain ⟨W4, hW4⟩ : ∃ W4, (((w1.setCell ⟨w.heap.size, 0, none⟩ (.int .i64 0)).setCell ⟨w.heap.size, 1, none⟩ (.slice none 0 0)).setCell ⟨w.heap.size, 2, none⟩ (.int .i64 0)).setCell ⟨w.heap.size, 3, none⟩ (.bool false) = W4 := ⟨_, rfl⟩
    obtain ⟨⟨c0, c1, c2, c3⟩, f0, f1, f2, f3⟩ := HX1.out.facts
    have HX4 := HX1.out.store 0 (.slice none 0 0) 0 false
    have HB4 := Lib.hid (below_set4 HB1.out (Nat.le_refl w.heap.size) (.int .i64 0) (.slice none 0 0) (.int .i64 0) (.bool false))
    rw [hW4] at HX4 HB4
    obtain ⟨⟨d0, d1, d2, d3⟩, -⟩ := HX4.facts
    clear HX4
    go_wp2_with fail
    refine bodyPost_ret (v := .tuple #[.agg #[.int .i64 0, .slice none 0 0, .int .i64 0, .bool false], .int .i64 (x : Int)]) (by simp [results, Try.results42, go_sem, d0, d1, d2, d3]) rfl ⟨none, 0, rfl, OwnRf.nil _ _, HB4.out⟩

/-! ### the comparison -/
/-- frames from j on stand as they stood, in a block of the call's own -/
def RowX (w : World) (A : Option Addr) (L : List Fr) (j : Nat) : Prop := L.length = 0 ∨ ∃ g cur, A = some ⟨g, 0, none⟩ ∧ w.heap[g]? = some (.cells cur 51 (0, 0)) ∧ ∀ i (h : i < L.length), j ≤ i → cur[i * 3]? = some (.int .i64 (L[i].q : Int)) ∧ cur[i * 3 + 1]? = some (.string (S L[i].p)) ∧ cur[i * 3 + 2]? = some (.int .i64 (L[i].i : Int))
theorem ownFr_rowX {w : World} {base cap : Nat} {A : Option Addr} {L : List Fr} (h : OwnFr w base (.slice A L.length cap) L) : RowX w A L 0 := by
  rcases h.2 with ⟨e, hn⟩ | ⟨g, cap', cur, e, hb, hg, h1, h2, h3, h4⟩
  · exact Or.inl hn
  · cases e
    refine Or.inr ⟨g, cur, rfl, hg, fun i hi _ => ?_⟩
    have key : ∀ j, j < 3 → cur[i * 3 + j]? = (frC L[i])[j]? := fun j hj => by
      rw [← cellsFr_at L i j hi hj, ← h4, List.getElem?_take, if_pos (by omega), ← Array.getElem?_toList]
    exact ⟨key 0 (by omega), key 1 (by omega), key 2 (by omega)⟩
theorem RowX.over {w w' : World} {A : Option Addr} {L : List Fr} {j : Nat} (h : RowX w A L j) (hk : ∀ a, A = some a → w'.heap[a.block]? = w.heap[a.block]?) : RowX w' A L j := by
  rcases h with h | ⟨g, cur, rfl, hg, hc⟩
  · exact Or.inl h
  · exact Or.inr ⟨g, cur, rfl, (hk _ rfl).trans hg, hc⟩
theorem RowX.set {w : World} {g : Nat} {L : List Fr} {j : Nat} (h : RowX w (some ⟨g, 0, none⟩) L j) (v : Value) : RowX (w.setCell ⟨g, j * 3 + 1, none⟩ v) (some ⟨g, 0, none⟩) L (j + 1) := by
  rcases h with h | ⟨g', cur, e, hg, hc⟩
  · exact Or.inl h
  · cases e
    refine Or.inr ⟨g, _, rfl, heap_set hg (j * 3 + 1) v, fun i hi hj => ?_⟩
    rw [Array.getElem?_setIfInBounds_ne (by omega), Array.getElem?_setIfInBounds_ne (by omega), Array.getElem?_setIfInBounds_ne (by omega)]
    exact hc i hi (by omega)
theorem rowRf_over {w w' : World} {B : Option Addr} {L : List Fr} (h : RowRf w B L) (hz : w.heap.size ≤ w'.heap.size) (hk : ∀ b, B = some b → w'.heap[b.block]? = w.heap[b.block]?) : RowRf w' B L := fun i hi => by
  obtain ⟨b, o, rfl, hb, c0, c1, c2⟩ := h i hi
  have hk2 := hk _ rfl
  exact ⟨b, o, rfl, Nat.lt_of_lt_of_le hb hz, (World.cell?_of_block (w := w) (a := ⟨b, o + i * 3, none⟩) hk2).trans c0, (World.cell?_of_block (w := w) (a := ⟨b, o + i * 3 + 1, none⟩) hk2).trans c1, (World.cell?_of_block (w := w) (a := ⟨b, o + i * 3 + 2, none⟩) hk2).trans c2⟩

end Go.Proofs.Ytkjnddgjnlbopaa.Seg
