import Derived.Test.YtkccdffccjgajaaGreatDoorRF
import Derived.Test.YtkccdffccjgajaaGreatDoorRH
/-
  The document's own Scan and Fits; the statement's comparison of two segments.
-/
namespace Go.Proofs.YtkccdffccjgajaaGreatDoor.Seg
open Go Go.RowKit
open Go.Proofs.YtkccdffccjgajaaGreatDoor.Wire (S S_list S_size S_append cell_row frozen_row row_lt heap_set heap_far U)
open Go.Proofs.YtkccdffccjgajaaGreatDoor.Frame Go.Proofs.YtkccdffccjgajaaGreatDoor.Ranges

def SBr (w : World) (b : Nat) (q : Int) (v : Value) (g : Int) (x : Bool) : Prop := w.heap[b]? = some (.cells #[.int .i64 q, v, .int .i64 g, .bool x] 41 (0, 0))
theorem SBr.facts {w : World} {b : Nat} {q : Int} {v : Value} {g : Int} {x : Bool} (h : SBr w b q v g x) :
    (w.cell? ⟨b, 0, none⟩ = some (.int .i64 q) ∧ w.cell? ⟨b, 1, none⟩ = some v ∧ w.cell? ⟨b, 2, none⟩ = some (.int .i64 g) ∧ w.cell? ⟨b, 3, none⟩ = some (.bool x)) ∧
      w.frozen? ⟨b, 0, none⟩ = false ∧ w.frozen? ⟨b, 1, none⟩ = false ∧ w.frozen? ⟨b, 2, none⟩ = false ∧ w.frozen? ⟨b, 3, none⟩ = false :=
  ⟨⟨cell_row h 0, cell_row h 1, cell_row h 2, cell_row h 3⟩, frozen_row h 0, frozen_row h 1, frozen_row h 2, frozen_row h 3⟩
theorem SBr.store {w : World} {b : Nat} {q0 : Int} {v0 : Value} {g0 : Int} {x0 : Bool} (h : SBr w b q0 v0 g0 x0) (q : Int) (v : Value) (g : Int) (x : Bool) :
    SBr ((((w.setCell ⟨b, 0, none⟩ (.int .i64 q)).setCell ⟨b, 1, none⟩ v).setCell ⟨b, 2, none⟩ (.int .i64 g)).setCell ⟨b, 3, none⟩ (.bool x)) b q v g x := by
  have h1 := heap_set h 0 (.int .i64 q)
  have h2 := heap_set h1 1 v
  have h3 := heap_set h2 2 (.int .i64 g)
  have h4 := heap_set h3 3 (.bool x)
  exact h4
theorem below_set4r {n b : Nat} {a w : World} (h : Below n a w) (hb : n ≤ b) (v0 v1 v2 v3 : Value) : Below n a ((((w.setCell ⟨b, 0, none⟩ v0).setCell ⟨b, 1, none⟩ v1).setCell ⟨b, 2, none⟩ v2).setCell ⟨b, 3, none⟩ v3) :=
  (((h.setCell (p := ⟨b, 0, none⟩) hb _).setCell (p := ⟨b, 1, none⟩) hb _).setCell (p := ⟨b, 2, none⟩) hb _).setCell (p := ⟨b, 3, none⟩) hb _
/-- a row of the call's own frames stays -/
theorem ownRf_grw {T : Nat → Prop} {w w' : World} {base : Nat} {v : Value} {xs : List Fr} (h : OwnRf w base v xs) (g : Grw T w w') (hT : ∀ r, base ≤ r → ¬ T r) : OwnRf w' base v xs := by
  obtain ⟨h1, h2⟩ := h
  refine ⟨h1, ?_⟩
  rcases h2 with h2 | ⟨b, cap, cur, e, hbg, hh, r⟩
  · exact Or.inl h2
  · exact Or.inr ⟨b, cap, cur, e, hbg, (g.block b (row_lt hh) (hT b hbg)).trans hh, r⟩
set_option maxRecDepth 100000 in
set_option maxHeartbeats 1000000 in
/-- **the document's Scan** -/
theorem refSScan_any (s : ByteArray) (hs : s.size ≤ 10000000) (w : World) :
    Calls Tryz.prog 25 #[.string s] w fun e w' => ∃ A cap, e = .returned (.tuple #[.agg #[.int .i64 (fiQ s.data.toList : Int), .slice A (scL s.data.toList).length cap, .int .i64 (scG s.data.toList : Int), .bool (scW s.data.toList)], .int .i64 (fiE s.data.toList : Int)]) ∧
      OwnRf w' w.heap.size (.slice A (scL s.data.toList).length cap) (scL s.data.toList) ∧ Below w.heap.size w w' := by
  have hz : s.data.toList.length = s.size := by simp
  have HFI := Lib.hid (fun W => refFirst_any s (by omega) W)
  obtain ⟨W0, hW0⟩ : ∃ W0, w.alloc (.cells #[.int .i64 0, .slice none 0 0, .int .i64 0, .bool false] 41) = W0 := ⟨_, rfl⟩
  have HX := Lib.hid (show SBr W0 w.heap.size 0 (.slice none 0 0) 0 false by rw [← hW0]; exact heap_alloc_new w _)
  have HB := Lib.hid (show Below w.heap.size w W0 by rw [← hW0]; exact (Below.refl _ _).alloc (Nat.le_refl _) _)
  have HZ := Lib.hid (show W0.heap.size = w.heap.size + 1 by rw [← hW0]; simp)
  by_cases h0 : fiE s.data.toList = 0
  · obtain ⟨h16, _, _, hq⟩ := fi_parts h0
    have eQ : fiQ s.data.toList = fiN s.data.toList := if_pos h0
    have eL : scL s.data.toList = scanF (s.data.toList.drop 16) 16 (fiN s.data.toList : Int) := if_pos h0
    have eG : scG s.data.toList = 16 + bytesOf (scL s.data.toList) := if_pos h0
    have eW : scW s.data.toList = decide (scG s.data.toList = s.data.toList.length) := if_pos h0
    have hsc := fun W => refScan_any s 16 (by omega) hs (fiN s.data.toList : Int) (by simp [Lit.wf, IntKind.min, IntKind.max, IntKind.bits, IntKind.signed]; omega) W
    unfold RsR at hsc
    rw [← eL] at hsc
    have eG2 : ((16 : Nat) : Int) + (bytesOf (scL s.data.toList) : Int) = (scG s.data.toList : Int) := by rw [eG]; omega
    rw [eG2] at hsc
    have HSC := Lib.hid hsc
    change Hid (∀ W, Calls Tryz.prog 59 #[.string s, .int .i64 16, .int .i64 (fiN s.data.toList : Int)] W fun z w' => ∃ v, z = .returned (.tuple #[v, .int .i64 (scG s.data.toList : Int)]) ∧ OwnRf w' W.heap.size v (scL s.data.toList) ∧ Below W.heap.size W w') at HSC
    rw [h0, eQ, eW, hz]
    rw [h0, eQ] at HFI
    have hw2 : ((scG s.data.toList : Int) == (s.size : Int)) = decide (scG s.data.toList = s.size) := by
      by_cases e : scG s.data.toList = s.size
      · rw [decide_eq_true e, beq_iff_eq]; omega
      · rw [decide_eq_false e, beq_eq_false_iff_ne]; omega
    clear hsc eG2 eG eL eW eQ hq h16 h0 hz hs
    generalize scL s.data.toList = L at *
    generalize fiN s.data.toList = N at *
    generalize scG s.data.toList = G at *
    generalize decide (G = s.size) = D at *
    go_enter Tryz.func25, Tryz.ntmps25
    go_wp2_with fail
    refine (HFI.out W0).mono ?_
    rintro e w1 ⟨rfl, hb⟩
    have HX1 := Lib.hid (show SBr w1 w.heap.size 0 (.slice none 0 0) 0 false from (hb.block _ (by have := HZ.out; omega)).trans HX.out)
    have HB1 := Lib.hid (HB.out.trans (hb.mono HB.out.size))
    have HZ1 := Lib.hid (show w.heap.size < w1.heap.size by have := hb.size; have := HZ.out; omega)
    clear hb HX HB HZ hW0
    go_wp2_with fail
    refine (HSC.out w1).mono ?_
    rintro e w2 ⟨v, rfl, ho, hb⟩
    obtain ⟨A, cap, rfl, -, -, -, -⟩ := ho.row
    have HO := Lib.hid ho
    have HX2 := Lib.hid (show SBr w2 w.heap.size 0 (.slice none 0 0) 0 false from (hb.block _ HZ1.out).trans HX1.out)
    have HB2 := Lib.hid (HB1.out.trans (hb.mono HB1.out.size))
    clear hb HX1 HB1 ho
    obtain ⟨W4, hW4⟩ : ∃ W4, (((w2.setCell ⟨w.heap.size, 0, none⟩ (.int .i64 (N : Int))).setCell ⟨w.heap.size, 1, none⟩ (.slice A L.length cap)).setCell ⟨w.heap.size, 2, none⟩ (.int .i64 (G : Int))).setCell ⟨w.heap.size, 3, none⟩ (.bool D) = W4 := ⟨_, rfl⟩
    obtain ⟨⟨c0, c1, c2, c3⟩, f0, f1, f2, f3⟩ := HX2.out.facts
    have HX4 := HX2.out.store (N : Int) (.slice A L.length cap) (G : Int) D
    have HB4 := Lib.hid (below_set4 HB2.out (Nat.le_refl w.heap.size) (.int .i64 (N : Int)) (.slice A L.length cap) (.int .i64 (G : Int)) (.bool D))
    have hg4 := grw_set4 w2 w.heap.size (.int .i64 (N : Int)) (.slice A L.length cap) (.int .i64 (G : Int)) (.bool D)
    rw [hW4] at HX4 HB4 hg4
    have HO4 := Lib.hid ((ownRf_grw HO.out hg4 (fun r hr e => by have := HZ1.out; omega)).less (Nat.le_of_lt HZ1.out))
    clear hg4 HO
    obtain ⟨⟨d0, d1, d2, d3⟩, -⟩ := HX4.facts
    have HX5 := Lib.hid HX4
    clear HX4
    go_wp2_with fail
    refine bodyPost_ret (v := .tuple #[.agg #[.int .i64 (N : Int), .slice A L.length cap, .int .i64 (G : Int), .bool D], .int .i64 0]) (by simp [results, Tryz.results25, go_sem, d0, d1, d2, d3]) rfl ⟨A, cap, rfl, HO4.out, HB4.out⟩
  · have eQ : fiQ s.data.toList = 0 := if_neg h0
    have eL : scL s.data.toList = [] := if_neg h0
    have eG : scG s.data.toList = 0 := if_neg h0
    have eW : scW s.data.toList = false := if_neg h0
    rw [eQ, eL, eG, eW]
    rw [eQ] at HFI
    obtain ⟨q1, q2, q3, q4, q5⟩ := nat_ne h0
    clear eQ eL eG eW h0 hz hs
    generalize fiE s.data.toList = x at *
    go_enter Tryz.func25, Tryz.ntmps25
    go_wp2_with fail
    refine (HFI.out W0).mono ?_
    rintro e w1 ⟨rfl, hb⟩
    have HX1 := Lib.hid (show SBr w1 w.heap.size 0 (.slice none 0 0) 0 false from (hb.block _ (by have := HZ.out; omega)).trans HX.out)
    have HB1 := Lib.hid (HB.out.trans (hb.mono HB.out.size))
    clear hb HX HB HZ hW0
    obtain ⟨W4, hW4⟩ : ∃ W4, (((w1.setCell ⟨w.heap.size, 0, none⟩ (.int .i64 0)).setCell ⟨w.heap.size, 1, none⟩ (.slice none 0 0)).setCell ⟨w.heap.size, 2, none⟩ (.int .i64 0)).setCell ⟨w.heap.size, 3, none⟩ (.bool false) = W4 := ⟨_, rfl⟩
    obtain ⟨⟨c0, c1, c2, c3⟩, f0, f1, f2, f3⟩ := HX1.out.facts
    have HX4 := HX1.out.store 0 (.slice none 0 0) 0 false
    have HB4 := Lib.hid (below_set4 HB1.out (Nat.le_refl w.heap.size) (.int .i64 0) (.slice none 0 0) (.int .i64 0) (.bool false))
    rw [hW4] at HX4 HB4
    obtain ⟨⟨d0, d1, d2, d3⟩, -⟩ := HX4.facts
    clear HX4
    go_wp2_with fail
    refine bodyPost_ret (v := .tuple #[.agg #[.int .i64 0, .slice none 0 0, .int .i64 0, .bool false], .int .i64 (x : Int)]) (by simp [results, Tryz.results25, go_sem, d0, d1, d2, d3]) rfl ⟨none, 0, rfl, OwnRf.nil _ _, HB4.out⟩

/-- **the document's Fits** -/
theorem refFits_any (size n most : Int) (h0 : (Lit.int .i64 size).wf = true) (h2 : (Lit.int .i64 most).wf = true) (w : World) :
    Calls Tryz.prog 29 #[.int .i64 size, .int .i64 n, .int .i64 most] w fun e w' => e = .returned (.bool (fitsB size n most)) ∧ w = w' := by
  have b0 := i64_b h0
  have b2 := i64_b h2
  clear h0 h2
  by_cases hn : 1 ≤ n ∧ n ≤ 4096
  · obtain ⟨n1, n2⟩ := hn
    have d1 : decide (n < 1) = false := decide_eq_false (by omega)
    have d2 : decide (4096 < n) = false := decide_eq_false (by omega)
    have d3 : ¬ n < 1 := by omega
    have d4 : ¬ 4096 < n := by omega
    by_cases hs : size = 16
    · subst hs
      rw [fits_16 ⟨n1, n2⟩]
      clear b0 b2
      go_enter Tryz.func29, Tryz.ntmps29
      go_wp2_with fail
      go_ret
      exact ⟨rfl, rfl⟩
    · rw [fits_is ⟨n1, n2⟩ hs]
      have e1 : (size == 16) = false := beq_eq_false_iff_ne.2 hs
      by_cases hp : size ≤ 0
      · have e2 : decide (size ≤ 0) = true := decide_eq_true hp
        have e3 : wrap64 (size + 16) = size + 16 := IntWalk.wrap64_in _ ⟨by omega, by omega⟩
        have e4 : wrap64 (size + 16 + n) = size + (16 + n) := by rw [IntWalk.wrap64_in _ ⟨by omega, by omega⟩]; omega
        clear b0 b2
        by_cases hle : size + (16 + n) ≤ most
        · rw [decide_eq_true hle]
          go_enter Tryz.func29, Tryz.ntmps29
          go_wp2_with fail
          go_ret
          exact ⟨rfl, rfl⟩
        · rw [decide_eq_false hle]
          have e5 : decide (size + (16 + n) ≤ most) = false := decide_eq_false hle
          go_enter Tryz.func29, Tryz.ntmps29
          go_wp2_with fail
          go_ret
          exact ⟨rfl, rfl⟩
      · have e2 : decide (size ≤ 0) = false := decide_eq_false hp
        by_cases hm : 0 < most
        · have e3 : wrap64 (most - 16) = most - 16 := IntWalk.wrap64_in _ ⟨by omega, by omega⟩
          have e4 : wrap64 (most - 16 - n) = most - 16 - n := IntWalk.wrap64_in _ ⟨by omega, by omega⟩
          clear b0 b2
          by_cases hle : size ≤ most - 16 - n
          · rw [decide_eq_true (by omega)]
            go_enter Tryz.func29, Tryz.ntmps29
            go_wp2_with fail
            go_ret
            exact ⟨rfl, rfl⟩
          · rw [decide_eq_false (by omega)]
            have e5 : decide (size ≤ most - 16 - n) = false := decide_eq_false hle
            go_enter Tryz.func29, Tryz.ntmps29
            go_wp2_with fail
            go_ret
            exact ⟨rfl, rfl⟩
        · rw [decide_eq_false (by omega)]
          have e5 : decide (0 < most) = false := decide_eq_false hm
          clear b0 b2
          go_enter Tryz.func29, Tryz.ntmps29
          go_wp2_with fail
          go_ret
          exact ⟨rfl, rfl⟩
  · rw [fits_no hn]
    by_cases h1 : n < 1
    · clear b0 b2 hn
      go_enter Tryz.func29, Tryz.ntmps29
      go_wp2_with fail
      go_ret
      exact ⟨rfl, rfl⟩
    · have h3 : 4096 < n := by omega
      have e3 : decide (n < 1) = false := decide_eq_false h1
      clear b0 b2 hn
      go_enter Tryz.func29, Tryz.ntmps29
      go_wp2_with fail
      go_ret
      exact ⟨rfl, rfl⟩

/-! ### the comparison -/
/-- frames from j on stand as they stood, in a block of the call's own -/
def RowX (w : World) (A : Option Addr) (L : List Fr) (j : Nat) : Prop := L.length = 0 ∨ ∃ g cur, A = some ⟨g, 0, none⟩ ∧ w.heap[g]? = some (.cells cur 60 (0, 0)) ∧ ∀ i (h : i < L.length), j ≤ i → cur[i * 3]? = some (.int .i64 (L[i].q : Int)) ∧ cur[i * 3 + 1]? = some (.string (S L[i].p)) ∧ cur[i * 3 + 2]? = some (.int .i64 (L[i].i : Int))
theorem ownFr_rowX {w : World} {base cap : Nat} {A : Option Addr} {L : List Fr} (h : OwnFr w base (.slice A L.length cap) L) : RowX w A L 0 := by
  rcases h.2 with ⟨e, hn⟩ | ⟨g, cap', cur, e, hb, hg, h1, h2, h3, h4⟩
  · exact Or.inl hn
  · cases e
    refine Or.inr ⟨g, cur, rfl, hg, fun i hi _ => ?_⟩
    have key : ∀ j, j < 3 → cur[i * 3 + j]? = (frC L[i])[j]? := fun j hj => by
      rw [← cellsFr_at L i j hi hj, ← h4, List.getElem?_take, if_pos (by omega), ← Array.getElem?_toList]
    exact ⟨key 0 (by omega), key 1 (by omega), key 2 (by omega)⟩
theorem RowX.over {w w' : World} {A : Option Addr} {L : List Fr} {j : Nat} (h : RowX w A L j) (hk : ∀ a, A = some a → w'.heap[a.block]? = w.heap[a.block]?) : RowX w' A L j := by
  rcases h with h | ⟨g, cur, rfl, hg, hc⟩
  · exact Or.inl h
  · exact Or.inr ⟨g, cur, rfl, (hk _ rfl).trans hg, hc⟩
theorem RowX.set {w : World} {g : Nat} {L : List Fr} {j : Nat} (h : RowX w (some ⟨g, 0, none⟩) L j) (v : Value) : RowX (w.setCell ⟨g, j * 3 + 1, none⟩ v) (some ⟨g, 0, none⟩) L (j + 1) := by
  rcases h with h | ⟨g', cur, e, hg, hc⟩
  · exact Or.inl h
  · cases e
    refine Or.inr ⟨g, _, rfl, heap_set hg (j * 3 + 1) v, fun i hi hj => ?_⟩
    rw [Array.getElem?_setIfInBounds_ne (by omega), Array.getElem?_setIfInBounds_ne (by omega), Array.getElem?_setIfInBounds_ne (by omega)]
    exact hc i hi (by omega)
theorem rowRf_over {w w' : World} {B : Option Addr} {L : List Fr} (h : RowRf w B L) (hz : w.heap.size ≤ w'.heap.size) (hk : ∀ b, B = some b → w'.heap[b.block]? = w.heap[b.block]?) : RowRf w' B L := fun i hi => by
  obtain ⟨b, o, rfl, hb, c0, c1, c2⟩ := h i hi
  have hk2 := hk _ rfl
  exact ⟨b, o, rfl, Nat.lt_of_lt_of_le hb hz, (World.cell?_of_block (w := w) (a := ⟨b, o + i * 3, none⟩) hk2).trans c0, (World.cell?_of_block (w := w) (a := ⟨b, o + i * 3 + 1, none⟩) hk2).trans c1, (World.cell?_of_block (w := w) (a := ⟨b, o + i * 3 + 2, none⟩) hk2).trans c2⟩

set_option maxRecDepth 100000 in
set_option maxHeartbeats 4000000 in
theorem is_any (base : Nat) (A B : Option Addr) (ca cb : Nat) (q g : Int) (x : Bool) (L : List Fr) (hl : L.length ≤ 1000000) (w : World) (hA : OwnFr w base (.slice A L.length ca) L) (hB : RowRf w B L) (hne : ∀ a b, A = some a → B = some b → 0 < L.length → a.block ≠ b.block) :
    Calls Tryz.prog 28 #[.agg #[.int .i64 q, .slice A L.length ca, .int .i64 g, .bool x], .agg #[.int .i64 q, .slice B L.length cb, .int .i64 g, .bool x]] w fun e w' => e = .returned (.bool true) ∧ Grw (fun r => (Value.slice A L.length ca).ownBlock = some r) w w' := by
  have hlt0 : ∀ r, (Value.slice A L.length ca).ownBlock = some r → r < w.heap.size := fun r hr => hA.lt r hr
  obtain ⟨W1, hW1⟩ : ∃ W1, w.alloc (.cells #[.int .i64 q, .slice A L.length ca, .int .i64 g, .bool x] 46) = W1 := ⟨_, rfl⟩
  have hz1 : W1.heap.size = w.heap.size + 1 := by rw [← hW1]; simp
  have hx1 : SBx W1 w.heap.size q (.slice A L.length ca) g x := by rw [← hW1]; exact heap_alloc_new w _
  have hb1 : Below w.heap.size w W1 := by rw [← hW1]; exact (Below.refl _ _).alloc (Nat.le_refl _) _
  obtain ⟨W2, hW2⟩ : ∃ W2, W1.alloc (.cells #[.int .i64 q, .slice B L.length cb, .int .i64 g, .bool x] 41) = W2 := ⟨_, rfl⟩
  have hz2 : W2.heap.size = w.heap.size + 2 := by rw [← hW2]; simp [hz1]
  have hy2 : SBr W2 W1.heap.size q (.slice B L.length cb) g x := by rw [← hW2]; exact heap_alloc_new W1 _
  have hb12 : Below W1.heap.size W1 W2 := by rw [← hW2]; exact (Below.refl _ _).alloc (Nat.le_refl _) _
  have hx2 : SBx W2 w.heap.size q (.slice A L.length ca) g x := (hb12.block _ (by omega)).trans hx1
  have hb2 : Below w.heap.size w W2 := hb1.trans (hb12.mono (by omega))
  rw [hz1] at hy2
  have hX0 : RowX W2 A L 0 := (ownFr_rowX hA).over fun a ha => hb2.block _ (hlt0 _ (by subst ha; rfl))
  have HR := Lib.hid hX0
  have HB := Lib.hid (hB.below hb2)
  have HX := Lib.hid hx2
  have HY := Lib.hid hy2
  have HG := Lib.hid (grw_below (T := fun r => (Value.slice A L.length ca).ownBlock = some r) hb2)
  have HLT := Lib.hid hlt0
  have HN := Lib.hid hne
  have HL := Lib.hid hl
  have HZ := Lib.hid hz2
  clear hA hB hne hl hX0 hx1 hb1 hb12 hb2 hz2 hlt0
  obtain ⟨⟨c0, c1, c2, c3⟩, f0, f1, f2, f3⟩ := hx2.facts
  obtain ⟨⟨d0, d1, d2, d3⟩, -⟩ := hy2.facts
  clear hx2 hy2
  go_enter Tryz.func28, Tryz.ntmps28
  go_wp2_with fail
  clear c0 c1 c2 c3 d0 d1 d2 d3 f0 f1 f2 f3
  go_loopw [5] (fun y wr => ∃ j : Nat, j ≤ L.length ∧ y = .int .i64 (j : Int) ∧ Hid (RowX wr A L j) ∧ Hid (RowRf wr B L) ∧ Hid (SBx wr w.heap.size q (.slice A L.length ca) g x) ∧ Hid (SBr wr (w.heap.size + 1) q (.slice B L.length cb) g x) ∧ Hid (Grw (fun r => (Value.slice A L.length ca).ownBlock = some r) w wr) ∧ Hid (w.heap.size + 2 ≤ wr.heap.size)) (fun y _ => L.length - (intOf y).toNat)
  case atStart => exact ⟨0, Nat.zero_le _, rfl, HR, HB, HX, HY, HG, Lib.hid (by have := HZ.out; omega)⟩
  case round =>
    clear HR HB HX HY HG HZ
    obtain ⟨j, hj, rfl, HR, HB, HX, HY, HG, HZ⟩ := hrel
    have c1 := HX.out.facts.1.2.1
    have d1 := HY.out.facts.1.2.1
    by_cases hlt : j < L.length
    · rcases HR.out with h | ⟨G, cur, rfl, hg, hc⟩
      · omega
      · obtain ⟨k0, k1, k2⟩ := hc j hlt (Nat.le_refl _)
        have t0 := (cell_row hg (j * 3)).trans k0
        have t1 := (cell_row hg (j * 3 + 1)).trans k1
        have t2 := (cell_row hg (j * 3 + 2)).trans k2
        have t3 := frozen_row hg (j * 3 + 1)
        obtain ⟨b, o, rfl, hb, u0, u1, u2⟩ := HB.out j hlt
        have HLT2 := Lib.hid hlt
        have hG := HLT.out G rfl
        have hGb : G ≠ b := HN.out _ _ rfl rfl (by omega)
        have HW1 := Lib.hid (small64 j (by have := HL.out; omega))
        have e1 : (j : Int) < (L.length : Int) := by omega
        have e2 : decide ((j : Int) < (L.length : Int)) = true := decide_eq_true e1
        have e3 : (0 : Int) ≤ (j : Int) := by omega
        have HR2 := Lib.hid (HR.out.set (.string spoilt))
        have HB2 := Lib.hid (rowRf_over (w' := wr.setCell ⟨G, j * 3 + 1, none⟩ (.string spoilt)) HB.out (by simp [World.setCell]) (fun a ha => by injection ha with ha; subst ha; exact heap_far _ _ (fun e => hGb e.symm)))
        have HX2 := Lib.hid (show SBx (wr.setCell ⟨G, j * 3 + 1, none⟩ (.string spoilt)) w.heap.size q (.slice (some ⟨G, 0, none⟩) L.length ca) g x from (heap_far _ _ (by omega)).trans HX.out)
        have HY2 := Lib.hid (show SBr (wr.setCell ⟨G, j * 3 + 1, none⟩ (.string spoilt)) (w.heap.size + 1) q (.slice (some ⟨b, o, none⟩) L.length cb) g x from (heap_far _ _ (by omega)).trans HY.out)
        have HG2 := Lib.hid (HG.out.trans (grw_grown (T := fun r => (Value.slice (some ⟨G, 0, none⟩) L.length ca).ownBlock = some r) (grownBy_any wr G (j * 3 + 1) (.string spoilt)) (fun r h => by rw [← h]; rfl)))
        have HZ2 := Lib.hid (show w.heap.size + 2 ≤ (wr.setCell ⟨G, j * 3 + 1, none⟩ (.string spoilt)).heap.size by have := HZ.out; simpa [World.setCell] using this)
        generalize L[j].q = q1 at *
        generalize L[j].p = p1 at *
        generalize L[j].i = i1 at *
        have hmx : Tryz.prog.follows .mixedOrders = true := by kernel_rfl
        clear hc k0 k1 k2 hg hb hGb hG
        go_wp2_with fail
        go_big_quiet (fail)
        have c1' : (wr.drewN nq).cell? ⟨w.heap.size, 1, none⟩ = some (.slice (some ⟨G, 0, none⟩) L.length ca) := c1
        have t1' : (wr.drewN nq).cell? ⟨G, j * 3 + 1, none⟩ = some (.string (S p1)) := t1
        have t3' : (wr.drewN nq).frozen? ⟨G, j * 3 + 1, none⟩ = false := t3
        go_wp2_with fail
        go_roundw
        case rel => exact ⟨j + 1, HLT2.out, by rw [HW1.out]; rfl, HR2.out, HB2.out, HX2.out, HY2.out, ⟨HG2.out.os, HG2.out.tape, HG2.out.output, HG2.out.size, HG2.out.block⟩, HZ2.out⟩
        case measure =>
          rw [HW1.out]
          show L.length - ((j : Int) + 1).toNat < L.length - (j : Int).toNat
          have := HLT2.out; omega
    · obtain rfl : j = L.length := by omega
      go_wp2_with fail
      go_ret
      exact ⟨rfl, HG.out⟩
end Go.Proofs.YtkccdffccjgajaaGreatDoor.Seg
