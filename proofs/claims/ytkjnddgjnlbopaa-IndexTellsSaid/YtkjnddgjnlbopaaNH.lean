import Derived.Test.YtkjnddgjnlbopaaFE
import Derived.Test.YtkjnddgjnlbopaaNI
import Derived.BigFrameIn
import Derived.WalkSpells
import Derived.Deep.RegionHeld3
/-
  Ranges over a function that goes on to use, behind a round, what it laid ahead of it: which blocks are the loop's own is told by a set, so all others stay. Its rounds never stop it.
-/
namespace Go.Proofs.Ytkjnddgjnlbopaa.Ranges
open Go Go.RowKit

def Low (b : Nat) (R : Nat → Prop) : Prop := ∀ r, R r → b ≤ r
def In (R : Nat → Prop) (W : World) : Prop := ∀ r, R r → r < W.heap.size
/-- what a round keeps: all but the ranger's own blocks, which are those from o on, below m, the loop's, from c on, below B, and R's -/
structure Kq (o m c B : Nat) (R : Nat → Prop) (W W' : World) : Prop where
  size : W.heap.size ≤ W'.heap.size
  same : ∀ r, r < W.heap.size → ¬ R r → (r < o ∨ (m ≤ r ∧ r < c) ∨ B ≤ r) → W'.heap[r]? = W.heap[r]?
  os : W'.os = W.os
  tape : W'.tape = W.tape
  output : W'.output = W.output
theorem Kq.refl (o m c B : Nat) (R : Nat → Prop) (W : World) : Kq o m c B R W W := ⟨Nat.le_refl _, fun _ _ _ _ => rfl, rfl, rfl, rfl⟩
theorem Kq.trans {o m c B : Nat} {R : Nat → Prop} {X Y Z : World} (h : Kq o m c B R X Y) (k : Kq o m c B R Y Z) : Kq o m c B R X Z :=
  ⟨Nat.le_trans h.size k.size, fun r h1 h2 h3 => (k.same r (Nat.lt_of_lt_of_le h1 h.size) h2 h3).trans (h.same r h1 h2 h3), k.os.trans h.os, k.tape.trans h.tape, k.output.trans h.output⟩
theorem Kq.grw {o m c B : Nat} {R T : Nat → Prop} {X Y : World} (h : Grw T X Y) (hT : ∀ r, T r → R r ∨ (o ≤ r ∧ r < m ∧ m ≤ c ∧ c ≤ B)) : Kq o m c B R X Y :=
  ⟨h.size, fun r h1 h2 h3 => h.block r h1 (fun k => by rcases hT r k with e | ⟨e1, e2, e3, e4⟩ <;> first | exact h2 e | omega), h.os, h.tape, h.output⟩

/-- **what a function that is ranged over promises** -/
def Seq2 (P : Program) (gf : FuncId) (lb : Array Value) (Rel : Nat → Nat → Array Value → World → Prop) (N o m : Nat) (w : World) : Prop :=
  ∀ (l : Nat) (J : (Nat → Prop) → Nat → World → Prop) (W : World),
    Below w.heap.size w W → W.heap.size = w.heap.size + 2 →
    (∀ R i, Low W.heap.size R → Stays (fun r => W.heap.size ≤ r ∧ ¬ R r) (J R i)) →
    (∀ R i args W0 W1, Low W.heap.size R → In R W0 → i < N → J R i W0 → Grw (fun r => W.heap.size ≤ r ∧ ¬ R r) W0 W1 → Rel i W0.heap.size args W1 → YieldAt Fence.wide 0 P l args W1 fun e W' =>
      e = .returned (.bool true) ∧ ∃ R', Low W.heap.size R' ∧ (∀ r, R' r → R r ∨ W1.heap.size ≤ r) ∧ In R' W' ∧ J R' (i + 1) W' ∧ Kq o m w.heap.size W.heap.size R W1 W') →
    (∀ W', Below W.heap.size W W' → J (fun _ => False) 0 W') →
    CallsIn Fence.wide 0 P gf (#[.func (.yield l) #[] #[]] ++ lb) W fun e W' => (∃ v, e = .returned v) ∧ ∃ R, Low W.heap.size R ∧ In R W' ∧ J R N W'

/-- how a round's body is left -/
def roundQ (o m B : Nat) (R : Nat → Prop) (I : (Nat → Prop) → World → Prop) (W : World) : Exit → Act → World → Prop
  | .normal, _, W' => ∃ R', Low (B + 2) R' ∧ (∀ r, R' r → R r ∨ W.heap.size ≤ r) ∧ In R' W' ∧ Kq o m B B R W W' ∧ I R' W'
  | .ret, _, _ => False
  | .exit _, _, _ => False
  | .goto _, _, _ => False
  | .panic _, _, _ => False
  | .outgrown, _, _ => False

theorem ranged2 {P : Program} {g : Operand} {ps : Array Tmp} {assign body : Code} {Q : Exit → Act → World → Prop} {a : Act} {w : World} {gf : FuncId} {lb : Array Value} {Rel : Nat → Nat → Array Value → World → Prop} {N o m : Nat}
    (hg : a.eval g = .func (.func gf) #[] lb) (eg : ∀ args w, (callFunc gf args).run P w = .ok (.enter gf args) w) (ho : o ≤ w.heap.size) (hmm : m ≤ w.heap.size) (hps : ∀ i s args W, Rel i s args W → args.size = ps.size) (hseq : Seq2 P gf lb Rel N o m w)
    (I : (Nat → Prop) → Nat → World → Prop) (M : (Nat → Prop) → Nat → Act → World → Prop)
    (hI : ∀ R i, Low (w.heap.size + 2) R → Stays (fun r => w.heap.size ≤ r ∧ ¬ R r) (I R i))
    (hM : ∀ R i a', Low (w.heap.size + 2) R → Stays (fun r => w.heap.size ≤ r ∧ ¬ R r) (M R i a'))
    (h0 : ∀ W', Below w.heap.size w W' → w.heap.size + 2 ≤ W'.heap.size → I (fun _ => False) 0 W')
    (hassign : ∀ (l : Nat) (R : Nat → Prop) (i : Nat) (args : Array Value) (W0 W : World) (K : Act → World → Prop), Low (w.heap.size + 2) R → In R W0 → i < N → I R i W0 → Grw (fun r => w.heap.size ≤ r ∧ ¬ R r) W0 W → Rel i W0.heap.size args W →
      (∀ a' W', M R i a' W' → Kq o m w.heap.size w.heap.size R W W' → K a' W') →
      assign.wpIn (Fence.wide.inRound l) 0 P (Exit.then K (fun _ _ _ => False)) { tmps := (ps.zip args).foldl (fun t (p, v) => t.setIfInBounds p v) a.tmps, defers := [] } W)
    (hbody : ∀ (l : Nat) (R : Nat → Prop) (i : Nat) (a' : Act) (W : World), Low (w.heap.size + 2) R → In R W → w.heap.size + 2 ≤ W.heap.size → i < N → M R i a' W → body.wpIn (Fence.wide.inRound l) 0 P (roundQ o m w.heap.size R (fun R' => I R' (i + 1)) W) a' W)
    (hdone : ∀ (R : Nat → Prop) (W : World), Low (w.heap.size + 2) R → In R W → I R N W → W.heap[w.heap.size]? = some (.deferred (some [])) → Q .normal { a with defers := { target := .collected w.heap.size, args := #[] } :: a.defers } W) :
    (Code.rangeFunc g ps assign body).wpIn Fence.wide 0 P Q a w := by
  refine wpIn_rangeFunc ?_
  intro fn hfn
  obtain ⟨B, hB⟩ : ∃ B, w.heap.size = B := ⟨_, rfl⟩
  obtain ⟨rec, hrec⟩ : ∃ rec : LoopState → Option Code → Loop, rec = fun st pe => { state := st, pending := pe, fn, tmps := a.tmps, params := ps, assign, body, defers := B } := ⟨_, rfl⟩
  obtain ⟨W1, hW1⟩ : ∃ W1, (w.alloc (.deferred (some []))).alloc (.loop (rec .ready none)) = W1 := ⟨_, rfl⟩
  have hs1 : W1.heap.size = B + 2 := by rw [← hW1, ← hB]; simp
  have hL1 : W1.heap[B + 1]? = some (.loop (rec .ready none)) := by
    have := World.alloc_heap_new (w.alloc (.deferred (some []))) (.loop (rec .ready none))
    rw [World.size_alloc, hB, hW1] at this; exact this
  have hK1 : W1.heap[B]? = some (.deferred (some [])) := by
    rw [← hW1, ← hB]; exact (Below.heap_alloc _ _ _ (by simp)).trans (World.alloc_heap_new w _)
  have hb1 : Below B w W1 := by
    rw [← hW1]; exact ((Below.refl _ w).alloc (by omega) _).alloc (by simp; omega) _
  rw [hB] at ho hmm hI hM h0 hassign hbody hdone
  refine ⟨B + 1, [{ target := .collected B, args := #[] }], W1, { target := .fn (.func gf) lb, args := #[.func (.yield (B + 1)) #[] #[]] }, W1, gf,
    #[.func (.yield (B + 1)) #[] #[]] ++ lb, W1, ?_, ?_, ?_, ?_, fun h => by simp [Fence.wide] at h, ?_⟩
  · rw [← hW1, hrec, ← hB]; exact run_enterLoop_outer _ _ _ _ _
  · simp only [resolve, hg]
    simp [go_sem]
  · intro f' _; trivial
  · simp [invoke, go_sem, eg]
  · have nR : ∀ {R : Nat → Prop}, Low (B + 2) R → ¬ R B ∧ ¬ R (B + 1) := fun h => ⟨fun k => by have := h _ k; omega, fun k => by have := h _ k; omega⟩
    have lT : ∀ {R : Nat → Prop}, Low (B + 2) R → (B ≤ B + 1 ∧ ¬ R (B + 1)) := fun h => ⟨by omega, (nR h).2⟩
    have nB : ∀ (R : Nat → Prop) (r : Nat), (W1.heap.size ≤ r ∧ ¬ R r) → ¬ r = B ∧ ¬ r = B + 1 := fun R r h => by rw [hs1] at h; have := h.1; omega
    have tT : ∀ (R : Nat → Prop) (r : Nat), (W1.heap.size ≤ r ∧ ¬ R r) → (B ≤ r ∧ ¬ R r) := fun R r h => by rw [hs1] at h; exact ⟨by omega, h.2⟩
    refine (hseq (B + 1)
      (fun R i W => I R i W ∧ W.heap[B + 1]? = some (.loop (rec .ready none)) ∧ W.heap[B]? = some (.deferred (some [])))
      W1 (by rw [hB]; exact hb1) (by omega)
      (fun R i hh => ((hI R i (by rw [hs1] at hh; exact hh)).mono (tT R)).and ((stays_obj (fun h => (nB R _ h).2 rfl) _).and (stays_obj (fun h => (nB R _ h).1 rfl) _)))
      ?_ (fun W' hbW => ⟨h0 W' (hb1.trans (hbW.mono (by omega))) (by have := hbW.size; omega), (hbW.block _ (by omega)).trans hL1, (hbW.block _ (by omega)).trans hK1⟩)).mono ?_
    · -- one round
      rintro R i args W0 W hlow hin hi' ⟨hI1, hl0, hk0⟩ hgrw hrel
      have hl := stays_obj (fun h => (nB R _ h).2 rfl) _ W0 W hl0 hgrw
      have hk := stays_obj (fun h => (nB R _ h).1 rfl) _ W0 W hk0 hgrw
      have hin2 : In R W := fun r hr => Nat.lt_of_lt_of_le (hin r hr) hgrw.size
      replace hgrw := hgrw.mono (tT R)
      rw [hs1, hB] at *
      have hlt : B + 1 < W.heap.size := (Array.getElem?_eq_some_iff.1 hl).1
      have hy := run_yield (P := P) (args := args) hl (by rw [hrec]; exact hps i _ args W hrel)
      rw [hrec] at hy
      refine ⟨fn, _, assign, body, hy, roundIn_of_wpIn hfn (hassign _ R i args W0 W _ hlow hin hi' hI1 hgrw hrel (fun a' W2 hm2 hkp2 => ?_))⟩
      have hla := (hkp2.same (B + 1) hlt (nR hlow).2 (by omega)).trans hl
      have hka := (hkp2.same B (by omega) (nR hlow).1 (by omega)).trans hk
      have hin3 : In R W2 := fun r hr => Nat.lt_of_lt_of_le (hin2 r hr) hkp2.size
      have hlt2 : B + 1 < W2.heap.size := (Array.getElem?_eq_some_iff.1 hla).1
      refine ⟨_, run_beginRound hla (by rw [hrec]), ?_⟩
      have hl2 : (W2.putObj (B + 1) (.loop { rec .ready none with state := .busy })).heap[B + 1]? = some (.loop { rec .ready none with state := .busy }) := World.putObj_heap_same hlt2
      have hk2 : (W2.putObj (B + 1) (.loop { rec .ready none with state := .busy })).heap[B]? = some (.deferred (some [])) := (World.putObj_heap_other (by omega)).trans hka
      refine wpIn_mono (hbody _ R i a' _ hlow (fun r hr => by simp; exact hin3 r hr) (by simp; omega) hi' ((hM R i a' hlow).put hm2 (lT hlow) _)) ?_
      rintro e a3 W3 hp
      cases e with
      | normal =>
        obtain ⟨R', hlow', hnew, hin', hk3, hi3⟩ := hp
        have hsz2 : (W2.putObj (B + 1) (.loop { rec .ready none with state := .busy })).heap.size = W2.heap.size := by simp
        have hl3 := (hk3.same (B + 1) (by rw [hsz2]; exact hlt2) (nR hlow).2 (by omega)).trans hl2
        have hk4 := (hk3.same B (by rw [hsz2]; omega) (nR hlow).1 (by omega)).trans hk2
        have hend := run_endRound (P := P) none hl3
        rw [hrec] at hend
        have g1 := grownBy_putObj' W2 (B + 1) (.loop { rec .ready none with state := .busy })
        have g2 := grownBy_putObj' W3 (B + 1) (.loop (rec .ready none))
        rw [hrec] at g1 g2 hk3 hsz2
        refine ⟨_, _, hend, rfl, R', hlow', fun r hr => ?_, fun r hr => by simp; exact hin' r hr, ⟨?_, ?_, (World.putObj_heap_other (by omega)).trans hk4⟩, ?_⟩
        · rcases hnew r hr with h | h
          · exact Or.inl h
          · have := hkp2.size; simp at h; exact Or.inr (by omega)
        · have := (hI R' _ hlow').put hi3 (lT hlow') (.loop (rec .ready none))
          rw [hrec] at this; exact this
        · rw [hrec]; exact World.putObj_heap_same (Array.getElem?_eq_some_iff.1 hl3).1
        · refine ⟨?_, ?_, ?_, ?_, ?_⟩
          · have := hk3.size; have := hkp2.size; simp at *; omega
          · intro r h1 h2 h3
            have hne : r ≠ B + 1 := by omega
            have hr2 : r < W2.heap.size := Nat.lt_of_lt_of_le h1 hkp2.size
            exact (World.putObj_heap_other hne).trans ((hk3.same r (by rw [hsz2]; exact hr2) h2 (by omega)).trans ((World.putObj_heap_other hne).trans (hkp2.same r h1 h2 (by omega))))
          · exact g2.os.trans (hk3.os.trans (g1.os.trans hkp2.os))
          · exact g2.tape.trans (hk3.tape.trans (g1.tape.trans hkp2.tape))
          · exact g2.output.trans (hk3.output.trans (g1.output.trans hkp2.output))
      | ret => exact hp.elim
      | exit id => exact hp.elim
      | goto t => exact hp.elim
      | panic ch => exact hp.elim
      | outgrown => exact hp.elim
    · -- behind the function
      rintro e W2 ⟨⟨v, rfl⟩, R, hlow, hin, hi1, hl, hk⟩
      rw [hs1] at hlow
      exact ⟨none, _, by have := run_endLoop (P := P) hl (by rw [hrec]; simp); rw [hrec] at this; exact this, hdone R _ hlow (fun r hr => by simp; exact hin r hr) ((hI R N hlow).put hi1 (lT hlow) _) ((World.putObj_heap_other (by omega)).trans hk)⟩

end Go.Proofs.Ytkjnddgjnlbopaa.Ranges

/-
  The walk of what slices.Values tells.
-/
namespace Go.Proofs.Ytkjnddgjnlbopaa.Seg
open Go Go.RowKit
open Go.Proofs.Ytkjnddgjnlbopaa.Wire (S S_list S_size cell_row frozen_row row_lt heap_set U)
open Go.Proofs.Ytkjnddgjnlbopaa.Frame Go.Proofs.Ytkjnddgjnlbopaa.Ranges
attribute [local go_sem] Oper.semAt_some

end Go.Proofs.Ytkjnddgjnlbopaa.Seg
