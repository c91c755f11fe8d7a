import Derived.Test.YtkjnddgjnlbopaaIN
/-
  Get of a frame that is in the index.
-/
namespace Go.Proofs.Ytkjnddgjnlbopaa.Index
open Go Go.RowKit
open Go.Proofs.Ytkjnddgjnlbopaa.Wire (S S_list S_size cell_row frozen_row row_lt heap_set heap_far)
open Go.Proofs.Ytkjnddgjnlbopaa.Frame Go.Proofs.Ytkjnddgjnlbopaa.Seg Go.Proofs.Ytkjnddgjnlbopaa.Ranges
attribute [local go_sem] Oper.semAt_some

/-- the act's slots -/
def acG (b n b0 q0 p0 : Nat) (s : ByteArray) (q : Nat) (t21 t22 : Value) : Array Value :=
  #[.pointer (some ⟨b, 0, none⟩), .string s, .int .i64 (q : Int), undef, undef, .pointer (some ⟨n, 0, none⟩), .string ⟨#[]⟩, .int .i64 0, .pointer (some ⟨n + 1, 0, none⟩), .pointer (some ⟨n + 1 + 1, 0, none⟩), .pointer (some ⟨b, 0, none⟩), .bool false, .pointer (some ⟨b, 0, none⟩), .int .i64 (q : Int), .bool true, .bool false, .string s, .pointer (some ⟨b, 0, none⟩), .int .i64 (q : Int), .agg #[.int .i64 (q0 : Int), .int .i64 (p0 : Int)], .func (.func 65) #[] #[.pointer (some ⟨b0 + 1, 0, none⟩), .pointer (some ⟨b0, 0, none⟩)], t21, t22, undef, undef, undef, undef, undef, undef, undef]
/-- what Get tells of a frame so many steps ahead -/
def gtP (s : ByteArray) (p q D : Nat) : List UInt8 := if D < (isL s p q).length then ((isL s p q).getD D fr0).p else []
def gtE (s : ByteArray) (p q D : Nat) : Nat := if D < (isL s p q).length then 0 else exE s p q
/-- what stands between two rounds -/
def GtI (s : ByteArray) (p0 q0 D : Nat) (w : World) (q : Nat) (i : Nat) (Z : World) : Prop :=
  ∃ (fq : Int) (fp : ByteArray) (fi : Int) (e : Nat), FrB Z (w.heap.size + 1) fq fp fi ∧ Boxed Z (w.heap.size + 2) 23 (.int .i64 (e : Int)) ∧ Boxed Z w.heap.size 2 (.int .i64 (q : Int)) ∧ Below w.heap.size w Z ∧ (D < (isL s p0 q0).length → i ≤ D) ∧ (i = (isL s p0 q0).length + 1 → fp = S [] ∧ e = exE s p0 q0)
def GtM (s : ByteArray) (p0 q0 D : Nat) (w : World) (q b b0 : Nat) (i : Nat) (a' : Act) (Z : World) : Prop :=
  ∃ (x : Fr) (e : Nat), FrB Z (w.heap.size + 1) (x.q : Int) (S x.p) (x.i : Int) ∧ Boxed Z (w.heap.size + 2) 23 (.int .i64 (e : Int)) ∧ Boxed Z w.heap.size 2 (.int .i64 (q : Int)) ∧ Below w.heap.size w Z ∧ (D < (isL s p0 q0).length → i ≤ D) ∧
    a' = { tmps := acG b w.heap.size b0 q0 p0 s q (.agg (frC x).toArray) (.int .i64 (e : Int)), defers := [] } ∧ ((i < (isL s p0 q0).length ∧ e = 0 ∧ x = (isL s p0 q0).getD i fr0) ∨ (i = (isL s p0 q0).length ∧ e = exE s p0 q0 ∧ ¬ exE s p0 q0 = 0 ∧ x = fr0))
def GtX (s : ByteArray) (p0 q0 D : Nat) (w : World) (c : Code) (Z : World) : Prop :=
  c = .exit 0 ∧ ∃ fq fi : Int, FrB Z (w.heap.size + 1) fq (S (gtP s p0 q0 D)) fi ∧ Boxed Z (w.heap.size + 2) 23 (.int .i64 (gtE s p0 q0 D : Int)) ∧ Below w.heap.size w Z
theorem grw_set3 (X : World) (b : Nat) (q : Int) (p : ByteArray) (i : Int) : Grw (fun r => r = b) X (set3 X b q p i) :=
  ⟨rfl, rfl, rfl, by unfold set3; simp [World.setCell], fun k _ hne => by unfold set3; rw [heap_far 2 _ hne, heap_far 1 _ hne, heap_far 0 _ hne]⟩
theorem kp_set {o m c B hi q j : Nat} {W : World} (hh : hi ≤ W.heap.size) (h1 : o ≤ q) (h2 : q < m) (h3 : m ≤ c) (h4 : c ≤ B) (v : Value) : Kp o m c B hi W (W.setCell ⟨q, j, none⟩ v) :=
  Kp.grown (Wire.grown_set W q j v) hh (fun r hr => by injection hr with hr; right; omega)
theorem set_size (W : World) (a : Addr) (v : Value) : (W.setCell a v).heap.size = W.heap.size := by simp [World.setCell]
theorem kp_set3 {o m c B hi b : Nat} {W : World} (hh : hi ≤ W.heap.size) (h1 : o ≤ b) (h2 : b < m) (h3 : m ≤ c) (h4 : c ≤ B) (q : Int) (p : ByteArray) (i : Int) : Kp o m c B hi W (set3 W b q p i) := by
  unfold set3
  exact ((kp_set hh h1 h2 h3 h4 _).trans (kp_set (by rw [set_size]; exact hh) h1 h2 h3 h4 _)).trans (kp_set (by rw [set_size, set_size]; exact hh) h1 h2 h3 h4 _)
theorem frb_grw {T : Nat → Prop} {X X' : World} {b : Nat} {q : Int} {p : ByteArray} {i : Int} (h : FrB X b q p i) (g : Grw T X X') (hb : ¬ T b) : FrB X' b q p i := (g.block b (row_lt h) hb).trans h
theorem GtI.grw {s : ByteArray} {p0 q0 D : Nat} {w : World} {q i : Nat} {X X' : World} {T : Nat → Prop} (h : GtI s p0 q0 D w q i X) (g : Grw T X X') (hT : ∀ r, T r → w.heap.size + 3 ≤ r) : GtI s p0 q0 D w q i X' := by
  obtain ⟨fq, fp, fi, e, h1, h2, h3, h4, h5, h6⟩ := h
  exact ⟨fq, fp, fi, e, frb_grw h1 g (fun hh => by have := hT _ hh; omega), boxed_grw h2 g (fun hh => by have := hT _ hh; omega), boxed_grw h3 g (fun hh => by have := hT _ hh; omega), g.below h4 (Nat.le_refl _) (fun r hr => by have := hT _ hr; omega), h5, h6⟩
theorem GtM.grw {s : ByteArray} {p0 q0 D : Nat} {w : World} {q b b0 i : Nat} {a' : Act} {X X' : World} {T : Nat → Prop} (h : GtM s p0 q0 D w q b b0 i a' X) (g : Grw T X X') (hT : ∀ r, T r → w.heap.size + 3 ≤ r) : GtM s p0 q0 D w q b b0 i a' X' := by
  obtain ⟨x, e, h1, h2, h3, h4, h5, h6⟩ := h
  exact ⟨x, e, frb_grw h1 g (fun hh => by have := hT _ hh; omega), boxed_grw h2 g (fun hh => by have := hT _ hh; omega), boxed_grw h3 g (fun hh => by have := hT _ hh; omega), g.below h4 (Nat.le_refl _) (fun r hr => by have := hT _ hr; omega), h5, h6⟩
theorem GtX.grw {s : ByteArray} {p0 q0 D : Nat} {w : World} {c : Code} {X X' : World} {T : Nat → Prop} (h : GtX s p0 q0 D w c X) (g : Grw T X X') (hT : ∀ r, T r → w.heap.size + 3 ≤ r) : GtX s p0 q0 D w c X' := by
  obtain ⟨h0, fq, fi, h1, h2, h4⟩ := h
  exact ⟨h0, fq, fi, frb_grw h1 g (fun hh => by have := hT _ hh; omega), boxed_grw h2 g (fun hh => by have := hT _ hh; omega), g.below h4 (Nat.le_refl _) (fun r hr => by have := hT _ hr; omega)⟩
set_option maxRecDepth 100000 in
set_option maxHeartbeats 2000000 in
theorem get_at (w : World) (base b ev a : Nat) (ats : List Nat) (g : Nat) (s : ByteArray) (q : Nat) (h : Ix w base b ev a ats g) (hev : 1 ≤ ev) (hq : a ≤ q ∧ q < a + ats.length) (hl : ats.length ≤ 900000) (hsm : a + ats.length ≤ 1048576) (hs : s.size ≤ 1000000000000) (q0 p0 D : Nat) (hq0e : frS ev a q = q0) (hp0e : frA ev a q ats = p0) (hD : q - q0 = D) :
    CallsIn Fence.wide 0 Try.prog 15 #[.pointer (some ⟨b, 0, none⟩), .string s, .int .i64 (q : Int)] w fun e w' => e = .returned (.tuple #[.string (S (gtP s p0 q0 D)), .int .i64 (gtE s p0 q0 D : Int)]) ∧ Below w.heap.size w w' := by
  have hb := (Below.refl w.heap.size w).alloc (Nat.le_refl _) (.cells #[.int .i64 (q : Int)] 2)
  have hi := h.below hb
  obtain ⟨v, h1, -⟩ := hi
  have HH := Lib.hid (has_x (w.alloc (.cells #[.int .i64 (q : Int)] 2)) b ev a (a + ats.length) v g (q : Int) h1)
  rw [decide_eq_true (show (a : Int) ≤ (q : Int) ∧ (q : Int) < ((a + ats.length : Nat) : Int) by omega)] at HH
  have c0 : (w.alloc (.cells #[.int .i64 (q : Int)] 2)).cell? ⟨w.heap.size, 0, none⟩ = some (.int .i64 (q : Int)) := cell_row (heap_alloc_new w (.cells #[.int .i64 (q : Int)] 2)) 0
  have HF := Lib.hid (show ∀ W (hW : Below w.heap.size w W), Calls Try.prog 40 #[.pointer (some ⟨b, 0, none⟩), .int .i64 (q : Int)] W fun e w' => e = .returned (.agg #[.int .i64 (q0 : Int), .int .i64 (p0 : Int)]) ∧ Below W.heap.size W w' from fun W hW => by
    have hf := from_any W base b ev a ats g q (h.below hW) hev hq hl
    rw [hq0e, hp0e] at hf; exact hf)
  have HB := Lib.hid hb
  clear h1 hb
  refine callsIn_of_wp_marks Try.func15 rfl trivial ?_ rfl
  simp only [Try.ntmps15, List.size_toArray, List.length_cons, List.length_nil, Nat.reduceAdd, Nat.reduceSub, Array.replicate_succ, Array.replicate_zero, List.push_toArray, List.append_toArray, List.nil_append, List.cons_append]
  gi_wp2
  refine ⟨trivial, rfl, ?_⟩
  refine (callsIn_wide.2 HH.out).mono ?_
  rintro ev1 w1 ⟨rfl, rfl⟩
  gi_wp2
  obtain ⟨w2, hw2⟩ : ∃ w2, ((w.alloc (.cells #[.int .i64 (q : Int)] 2)).alloc (.cells #[.int .i64 0, .string ⟨#[]⟩, .int .i64 0] 51)).alloc (.cells #[.int .i64 0] 23) = w2 := ⟨_, rfl⟩
  have hz2 : w2.heap.size = w.heap.size + 3 := by rw [← hw2]; simp
  have hb2 : Below w.heap.size w w2 := by rw [← hw2]; exact (((Below.refl _ w).alloc (Nat.le_refl _) _).alloc (by simp) _).alloc (by simp; omega) _
  have bQ : Boxed w2 w.heap.size 2 (.int .i64 (q : Int)) := by rw [← hw2]; exact ((Boxed.new w _ _).alloc _).alloc _
  have bE : Boxed w2 (w.heap.size + 2) 23 (.int .i64 ((0 : Nat) : Int)) := by
    rw [← hw2]; have := Boxed.new ((w.alloc (.cells #[.int .i64 (q : Int)] 2)).alloc (.cells #[.int .i64 0, .string ⟨#[]⟩, .int .i64 0] 51)) 23 (.int .i64 0); simpa using this
  have bF : FrB w2 (w.heap.size + 1) 0 (S []) 0 := by
    rw [← hw2]
    have h5 := heap_alloc_new (w.alloc (.cells #[.int .i64 (q : Int)] 2)) (.cells #[.int .i64 0, .string ⟨#[]⟩, .int .i64 0] 51)
    have e5 : (w.alloc (.cells #[.int .i64 (q : Int)] 2)).heap.size = w.heap.size + 1 := by simp
    rw [e5] at h5
    exact (Below.heap_alloc _ _ _ (by simp)).trans h5
  rw [hw2]
  refine ⟨trivial, rfl, ?_⟩
  refine (callsIn_wide.2 (HF.out w2 hb2)).mono ?_
  rintro ev2 w3 ⟨rfl, hb3⟩
  gi_wp2_with (refine ⟨trivial, rfl, ?_⟩; gi_at_call 39; refine (iframes_in 0 s _ _ _).mono ?_; rintro ev3 w' ⟨rfl, rfl⟩)
  have hq0 : frS ev a q ≤ q ∧ q < frS ev a q + ev := by
    have h1 := Nat.div_add_mod (q - a) ev
    have h2 := Nat.mod_lt (q - a) (show 0 < ev by omega)
    unfold frS; rw [Nat.mul_comm]; omega
  rw [hq0e] at hq0
  have HQ := Lib.hid (show q = q0 + D ∧ q0 ≤ 1048576 by omega)
  obtain ⟨W0, hW0⟩ : ∃ W0, (w3.alloc (.cells #[.string s] 9)).alloc (.cells #[.int .i64 (q0 : Int), .int .i64 (p0 : Int)] 46) = W0 := ⟨_, rfl⟩
  have hz0 : W0.heap.size = w3.heap.size + 2 := by rw [← hW0]; simp
  have hz3 := hb3.size
  have hb0 : Below w3.heap.size w3 W0 := by rw [← hW0]; exact ((Below.refl _ w3).alloc (Nat.le_refl _) _).alloc (by simp) _
  have bS : Boxed W0 w3.heap.size 9 (.string s) := by rw [← hW0]; exact (Boxed.new w3 _ _).alloc _
  have bI : W0.heap[w3.heap.size + 1]? = some (.cells #[.int .i64 (q0 : Int), .int .i64 (p0 : Int)] 46 (0, 0)) := by
    rw [← hW0]
    have h5 := heap_alloc_new (w3.alloc (.cells #[.string s] 9)) (.cells #[.int .i64 (q0 : Int), .int .i64 (p0 : Int)] 46)
    have e5 : (w3.alloc (.cells #[.string s] 9)).heap.size = w3.heap.size + 1 := by simp
    rw [e5] at h5; exact h5
  have hb20 := hb3.trans (hb0.mono hz3)
  have HI0 := Lib.hid (show GtI s p0 q0 D w q 0 W0 from ⟨0, S [], 0, 0, (hb20.block _ (by omega)).trans bF, (hb20.block _ (by omega)).trans bE, (hb20.block _ (by omega)).trans bQ, hb2.trans (hb20.mono (by omega)), fun _ => Nat.zero_le _, fun h => by omega⟩)
  have HBS := Lib.hid bS
  have HBI := Lib.hid bI
  have HSZ := Lib.hid (And.intro hz0 (show w.heap.size + 3 ≤ w3.heap.size by omega))
  have HS := Lib.hid hs
  rw [hW0]
  clear h hev hq hl hsm HH HF HB c0 hw2 hz2 hb2 bQ bE bF hb3 hq0 hD hq0e hp0e hW0 hz0 hz3 hb0 bS bI hb20 hs
  refine ranged (gf := 65) (lb := #[.pointer (some ⟨w3.heap.size + 1, 0, none⟩), .pointer (some ⟨w3.heap.size, 0, none⟩)]) (N := (isL s p0 q0).length + 1) (o := w.heap.size + 1) (m := w.heap.size + 3) ?hg (enters_of Try.func65 (by kernel_rfl) rfl) ?ho ?hmm ?ps
    (iframes_seq (w.heap.size + 1) (w.heap.size + 3) w3.heap.size s p0 q0 HS.out W0 HBS.out HBI.out (by omega) HSZ.out.2)
    (fun hi i X => GtI s p0 q0 D w q i X) (fun c hi X => GtX s p0 q0 D w c X) (fun hi i a' X => GtM s p0 q0 D w q b w3.heap.size i a' X) ?sI ?sX ?sM ?h0 ?assign ?body ?done ?stop
  case hg => rfl
  case ho => have := HSZ.out; omega
  case hmm => have := HSZ.out; omega
  case ps => rintro i sz args X (⟨_, rfl⟩ | ⟨_, _, rfl⟩) <;> rfl
  case sI =>
    rintro hi i hh X X' h g
    exact h.grw g (fun r hr => by have := HSZ.out; omega)
  case sX =>
    rintro c hi hh X X' h g
    exact h.grw g (fun r hr => by have := HSZ.out; omega)
  case sM =>
    rintro hi i a' hh X X' h g
    exact h.grw g (fun r hr => by have := HSZ.out; omega)
  case h0 =>
    intro X hb hx
    exact HI0.out.grw (grw_below (T := fun _ => False) (hb.mono (Nat.le_refl _))) (fun _ h => h.elim)
  case assign =>
    rintro l hi i args X0 X K hh1 hh2 hi' hI hgrw hrel hK
    have hz := HSZ.out
    have hI2 := hI.grw hgrw (fun r hr => by omega)
    have hge : hi ≤ X.heap.size := Nat.le_trans hh2 hgrw.size
    obtain ⟨x, e, rfl, hx⟩ : ∃ (x : Fr) (e : Nat), args = #[.agg (frC x).toArray, .int .i64 (e : Int)] ∧ ((i < (isL s p0 q0).length ∧ e = 0 ∧ x = (isL s p0 q0).getD i fr0) ∨ (i = (isL s p0 q0).length ∧ e = exE s p0 q0 ∧ ¬ exE s p0 q0 = 0 ∧ x = fr0)) := by
      rcases hrel with ⟨r1, rfl⟩ | ⟨r1, r2, rfl⟩
      · exact ⟨(isL s p0 q0).getD i fr0, 0, rfl, Or.inl ⟨r1, rfl, rfl⟩⟩
      · exact ⟨fr0, exE s p0 q0, rfl, Or.inr ⟨r1, rfl, r2, rfl⟩⟩
    obtain ⟨fq, fp, fi, e0, f1, f2, f3, f4, f5, f6⟩ := hI2
    have g3 := grw_set3 X (w.heap.size + 1) (x.q : Int) (S x.p) (x.i : Int)
    have x1 := f1.store (x.q : Int) (S x.p) (x.i : Int)
    have x2 := boxed_grw f2 g3 (by omega)
    have x3 := boxed_grw f3 g3 (by omega)
    have k1 : Kp (w.heap.size + 1) (w.heap.size + 3) W0.heap.size W0.heap.size hi X ((set3 X (w.heap.size + 1) (x.q : Int) (S x.p) (x.i : Int)).setCell ⟨w.heap.size + 2, 0, none⟩ (.int .i64 (e : Int))) :=
      (kp_set3 hge (Nat.le_refl _) (by omega) (by omega) (Nat.le_refl _) _ _ _).trans (kp_set (Nat.le_trans hge g3.size) (by omega) (by omega) (by omega) (Nat.le_refl _) _)
    have g4 : Grw (fun r => r = w.heap.size + 2) (set3 X (w.heap.size + 1) (x.q : Int) (S x.p) (x.i : Int)) ((set3 X (w.heap.size + 1) (x.q : Int) (S x.p) (x.i : Int)).setCell ⟨w.heap.size + 2, 0, none⟩ (.int .i64 (e : Int))) := grw_grown (grownBy_setCell' _ (w.heap.size + 2) _) (fun r e => by injection e with e; exact e.symm)
    have y1 := frb_grw x1 g4 (by omega)
    have y2 := x2.set (.int .i64 (e : Int))
    have y3 := boxed_grw x3 g4 (by omega)
    have y4 := g4.below (g3.below f4 (Nat.le_refl _) (fun r hr => by omega)) (Nat.le_refl _) (fun r hr => by omega)
    obtain ⟨⟨c0, c1, c2⟩, z0, z1, z2⟩ := f1.facts
    have cE := x2.cell
    have fE := x2.frozen
    have HFIN := Lib.hid (hK { tmps := acG b w.heap.size w3.heap.size q0 p0 s q (.agg (frC x).toArray) (.int .i64 (e : Int)), defers := [] } _ ⟨x, e, y1, y2, y3, y4, f5, rfl, hx⟩ k1)
    clear hK hx hI hgrw hrel f1 f2 f3 f4 f5 f6 g3 g4 x1 x2 x3 k1 y1 y2 y3 y4 hz hge hh1 hh2
    unfold set3 acG at *
    simp only [frC] at *
    gi_wp2
    exact HFIN.out
  case body =>
    rintro l hi i a' X hh1 hh2 hi' ⟨x, e, f1, f2, f3, f4, f5, rfl, hx⟩
    have hqd := HQ.out
    have hxv : (x.q = q → S x.p = S (gtP s p0 q0 D) ∧ e = gtE s p0 q0 D) ∧ (¬ x.q = q → (D < (isL s p0 q0).length → i + 1 ≤ D)) ∧ (i + 1 = (isL s p0 q0).length + 1 → S x.p = S [] ∧ e = exE s p0 q0) := by
      rcases hx with ⟨r1, rfl, r3⟩ | ⟨r1, rfl, r2, rfl⟩
      · have hxq := isL_q s p0 q0 hqd.2 i r1
        rw [← r3] at hxq
        refine ⟨fun hh => ?_, fun hh hd => ?_, fun hh => by omega⟩
        · have hiD : i = D := by omega
          subst hiD
          unfold gtP gtE
          rw [if_pos r1, if_pos r1, ← r3]
          exact ⟨rfl, rfl⟩
        · have := f5 hd
          omega
      · have hnd : ¬ D < (isL s p0 q0).length := fun hd => by have := f5 hd; omega
        refine ⟨fun hh => ?_, fun hh hd => absurd hd hnd, fun hh => ⟨rfl, rfl⟩⟩
        unfold gtP gtE
        rw [if_neg hnd, if_neg hnd]
        exact ⟨rfl, rfl⟩
    obtain ⟨⟨c0, c1, c2⟩, -⟩ := f1.facts
    have cQ := f3.cell
    have HV := Lib.hid hxv
    have HFF := Lib.hid (And.intro f1 (And.intro f2 (And.intro f3 f4)))
    clear hxv hx f5 hh1 hh2 hi' f1 f2 f3 f4 hqd
    simp only [acG]
    by_cases hxq : x.q = q
    · have e1 : ((x.q : Int) == (q : Int)) = true := by rw [hxq]; simp
      have HXQ := Lib.hid hxq
      clear hxq
      gi_wp2
      obtain ⟨v1, v2⟩ := HV.out.1 HXQ.out
      obtain ⟨f1, f2, f3, f4⟩ := HFF.out
      rw [v1] at f1
      rw [v2] at f2
      exact ⟨Kp.refl _ _ _ _ _ _, rfl, (x.q : Int), (x.i : Int), f1, f2, f4⟩
    · have e1 : ((x.q : Int) == (q : Int)) = false := beq_eq_false_iff_ne.2 (by omega)
      have HXQ := Lib.hid hxq
      have e2 : ¬ (x.q : Int) = (q : Int) := by omega
      clear hxq
      gi_wp2
      obtain ⟨f1, f2, f3, f4⟩ := HFF.out
      exact ⟨Kp.refl _ _ _ _ _ _, (x.q : Int), S x.p, (x.i : Int), e, f1, f2, f3, f4, HV.out.2.1 HXQ.out, HV.out.2.2⟩
  case done =>
    rintro hi X hh1 hh2 ⟨fq, fp, fi, e, f1, f2, f3, f4, f5, f6⟩ hK
    obtain ⟨rfl, rfl⟩ := f6 rfl
    have hnd : ¬ D < (isL s p0 q0).length := fun hd => by have := f5 hd; omega
    have hp : S [] = S (gtP s p0 q0 D) := by unfold gtP; rw [if_neg hnd]
    have he : exE s p0 q0 = gtE s p0 q0 D := by unfold gtE; rw [if_neg hnd]
    rw [hp] at f1
    rw [he] at f2
    clear hp he hnd f3 f5 f6
    obtain ⟨⟨c0, c1, c2⟩, -⟩ := f1.facts
    have cE := f2.cell
    have k1 : X.drew.heap[W0.heap.size]? = some (.deferred (some [])) := hK
    have hbl : Below w.heap.size w (X.drew.putObj W0.heap.size (.deferred none)) :=
      (grw_grown (T := fun r => r = W0.heap.size) (grownBy_putObj' X.drew W0.heap.size (.deferred none)) (fun r e => by injection e with e; exact e.symm)).below f4.drew (Nat.le_refl _) (fun r hr => by have := HSZ.out; omega)
    have HBL := Lib.hid hbl
    clear f1 f2 f4 hK hbl
    gi_wp2
    gi_region
    all_goals gi_wp2
    all_goals refine ⟨by simp, .inl ⟨_, _, rfl, run_takeDeferred k1, ?_⟩⟩
    all_goals refine ⟨.tuple #[.string (S (gtP s p0 q0 D)), .int .i64 (gtE s p0 q0 D : Int)], ?_, ⟨rfl, HBL.out⟩⟩
    all_goals (simp [results, Try.results15, go_sem])
  case stop =>
    rintro hi c X hh1 hh2 ⟨rfl, fq, fi, f1, f2, f4⟩ hK
    obtain ⟨⟨c0, c1, c2⟩, -⟩ := f1.facts
    have cE := f2.cell
    have k1 : X.drew.heap[W0.heap.size]? = some (.deferred (some [])) := hK
    have hbl : Below w.heap.size w (X.drew.putObj W0.heap.size (.deferred none)) :=
      (grw_grown (T := fun r => r = W0.heap.size) (grownBy_putObj' X.drew W0.heap.size (.deferred none)) (fun r e => by injection e with e; exact e.symm)).below f4.drew (Nat.le_refl _) (fun r hr => by have := HSZ.out; omega)
    have HBL := Lib.hid hbl
    clear f1 f2 f4 hK hbl
    gi_wp2
    gi_region
    all_goals gi_wp2
    all_goals refine ⟨by simp, .inl ⟨_, _, rfl, run_takeDeferred k1, ?_⟩⟩
    all_goals refine ⟨.tuple #[.string (S (gtP s p0 q0 D)), .int .i64 (gtE s p0 q0 D : Int)], ?_, ⟨rfl, HBL.out⟩⟩
    all_goals (simp [results, Try.results15, go_sem])
/-- **Get** of a frame that is in the index -/
theorem get_some (w : World) (base b ev a : Nat) (ats : List Nat) (g : Nat) (s : ByteArray) (q : Nat) (h : Ix w base b ev a ats g) (hev : 1 ≤ ev) (hq : a ≤ q ∧ q < a + ats.length) (hl : ats.length ≤ 900000) (hsm : a + ats.length ≤ 1048576) (hs : s.size ≤ 1000000000000) :
    Calls Try.prog 15 #[.pointer (some ⟨b, 0, none⟩), .string s, .int .i64 (q : Int)] w fun e w' => e = .returned (.tuple #[.string (S (gtP s (frA ev a q ats) (frS ev a q) (q - frS ev a q))), .int .i64 (gtE s (frA ev a q ats) (frS ev a q) (q - frS ev a q) : Int)]) ∧ Below w.heap.size w w' :=
  callsIn_wide.1 (get_at w base b ev a ats g s q h hev hq hl hsm hs _ _ _ rfl rfl rfl)
end Go.Proofs.Ytkjnddgjnlbopaa.Index
