import Derived.RangeFuncNested
import Derived.RangeFuncBound
import Derived.RangeFuncCalls
import Derived.RangeFuncLeaves
import Derived.RangeFuncBox
import Derived.Shelf.Abstract
import Derived.Shelf.RegionOpen
import Derived.WalkKit
import Derived.OwnWalkIn
import Derived.TacticsInMore
import Derived.LoopNIn
import Derived.LoopIn
import Derived.Test.YtkjnddgjnlbopaaFC
import Derived.ScopeJumps
/-
  Ranges over a function that tells what it lays anew in each round: what the function promises, and a law for who ranges.
-/
namespace Go.Proofs.Ytkjnddgjnlbopaa.Ranges
open Go Go.RowKit

/-- nothing that lay there turns but T's blocks -/
structure Grw (T : Nat → Prop) (w w' : World) : Prop where
  os : w'.os = w.os
  tape : w'.tape = w.tape
  output : w'.output = w.output
  size : w.heap.size ≤ w'.heap.size
  block : ∀ k, k < w.heap.size → ¬ T k → w'.heap[k]? = w.heap[k]?
theorem Grw.refl (T : Nat → Prop) (w : World) : Grw T w w := ⟨rfl, rfl, rfl, Nat.le_refl _, fun _ _ _ => rfl⟩
theorem Grw.trans {T : Nat → Prop} {a b c : World} (h : Grw T a b) (k : Grw T b c) : Grw T a c :=
  ⟨k.os.trans h.os, k.tape.trans h.tape, k.output.trans h.output, Nat.le_trans h.size k.size, fun r h1 h2 => (k.block r (Nat.lt_of_lt_of_le h1 h.size) h2).trans (h.block r h1 h2)⟩
theorem Grw.mono {T T' : Nat → Prop} {a b : World} (h : Grw T a b) (hT : ∀ r, T r → T' r) : Grw T' a b := ⟨h.os, h.tape, h.output, h.size, fun r h1 h2 => h.block r h1 (fun h3 => h2 (hT r h3))⟩
theorem grw_below {T : Nat → Prop} {w w' : World} (h : Below w.heap.size w w') : Grw T w w' := ⟨h.os, h.tape, h.output, h.size, fun k hk _ => h.block k hk⟩
theorem grw_grown {T : Nat → Prop} {w w' : World} {row : Option Nat} (h : w.grownBy w' row) (hr : ∀ r, row = some r → T r) : Grw T w w' := ⟨h.os, h.tape, h.output, h.size, fun k hk hT => h.block k hk (fun e => hT (hr k e.symm))⟩
theorem Grw.below {T : Nat → Prop} {n : Nat} {w0 w w' : World} (h : Below n w0 w) (g : Grw T w w') (hn : n ≤ w0.heap.size) (hT : ∀ r, T r → n ≤ r) : Below n w0 w' :=
  ⟨g.os.trans h.os, g.tape.trans h.tape, g.output.trans h.output, Nat.le_trans h.size g.size, fun k hk => (g.block k (Nat.lt_of_lt_of_le hk (Nat.le_trans hn h.size)) (fun h3 => absurd (hT k h3) (by omega))).trans (h.block k hk)⟩

/-- it goes on to hold where blocks are laid, and where T's turn -/
def Stays (T : Nat → Prop) (X : World → Prop) : Prop := ∀ W W', X W → Grw T W W' → X W'
theorem Stays.put {T : Nat → Prop} {X : World → Prop} (h : Stays T X) {W : World} (hs : X W) {l : Nat} (hT : T l) (o' : Obj) : X (W.putObj l o') :=
  h W _ hs (grw_grown (grownBy_putObj' W l o') (fun r e => by cases e; exact hT))
theorem Stays.below {T : Nat → Prop} {X : World → Prop} (h : Stays T X) {W W' : World} (hs : X W) (hb : Below W.heap.size W W') : X W' := h W W' hs (grw_below hb)
theorem Stays.and {T : Nat → Prop} {X Y : World → Prop} (h : Stays T X) (k : Stays T Y) : Stays T (fun W => X W ∧ Y W) := fun W W' hs hg => ⟨h W W' hs.1 hg, k W W' hs.2 hg⟩
theorem stays_pure (T : Nat → Prop) (p : Prop) : Stays T (fun _ => p) := fun _ _ hs _ => hs
theorem stays_obj {T : Nat → Prop} {c : Nat} (hc : ¬ T c) (o : Obj) : Stays T (fun W => W.heap[c]? = some o) := fun W W' hs hg =>
  (hg.block c (Array.getElem?_eq_some_iff.1 hs).1 hc).trans hs
theorem stays_boxed {T : Nat → Prop} {c : Nat} (hc : ¬ T c) (t : TypeId) (v : Value) : Stays T (fun W => Boxed W c t v) := stays_obj hc _
theorem stays_below {T : Nat → Prop} {n : Nat} {w : World} (hn : n ≤ w.heap.size) (hT : ∀ r, T r → n ≤ r) : Stays T (fun W => Below n w W) := fun _ _ hs hg => hg.below hs hn hT
theorem Stays.mono {T T' : Nat → Prop} {X : World → Prop} (h : Stays T X) (hT : ∀ r, T' r → T r) : Stays T' X := fun W W' hs hg => h W W' hs (hg.mono hT)

/-- what a round keeps below hi: all but the ranger's own blocks, which are those from o on, below m, and the loop's, from c on, below B -/
structure Kp (o m c B hi : Nat) (W W' : World) : Prop where
  size : W.heap.size ≤ W'.heap.size
  same : ∀ r, r < hi → (r < o ∨ (m ≤ r ∧ r < c) ∨ B ≤ r) → W'.heap[r]? = W.heap[r]?
  os : W'.os = W.os
  tape : W'.tape = W.tape
  output : W'.output = W.output
theorem Kp.refl (o m c B hi : Nat) (W : World) : Kp o m c B hi W W := ⟨Nat.le_refl _, fun _ _ _ => rfl, rfl, rfl, rfl⟩
theorem Kp.trans {o m c B hi : Nat} {X Y Z : World} (h : Kp o m c B hi X Y) (k : Kp o m c B hi Y Z) : Kp o m c B hi X Z := ⟨Nat.le_trans h.size k.size, fun r h1 h2 => (k.same r h1 h2).trans (h.same r h1 h2), k.os.trans h.os, k.tape.trans h.tape, k.output.trans h.output⟩
theorem Kp.grown {o m c B hi : Nat} {W W' : World} {row : Option Nat} (hg : W.grownBy W' row) (hh : hi ≤ W.heap.size) (hrow : ∀ r, row = some r → hi ≤ r ∨ (o ≤ r ∧ r < m ∧ m ≤ c ∧ c ≤ B)) : Kp o m c B hi W W' :=
  ⟨hg.size, fun r h1 h2 => hg.block r (by omega) (fun e => by rcases hrow r e.symm with h | ⟨h3, h4, h5, h6⟩ <;> omega), hg.os, hg.tape, hg.output⟩
theorem Kp.below {o m c B hi : Nat} {W W' : World} (hb : Below W.heap.size W W') (hh : hi ≤ W.heap.size) : Kp o m c B hi W W' := ⟨hb.size, fun r h1 _ => hb.block r (by omega), hb.os, hb.tape, hb.output⟩
theorem Kp.set {o m c B hi q : Nat} {W : World} (hh : hi ≤ W.heap.size) (h1 : o ≤ q) (h2 : q < m) (h3 : m ≤ c) (h4 : c ≤ B) (v : Value) : Kp o m c B hi W (W.setCell ⟨q, 0, none⟩ v) :=
  .grown (grownBy_setCell' W q v) hh (fun r e => by cases e; exact .inr ⟨h1, h2, h3, h4⟩)

/-- **what a function that is ranged over promises**, the loop begun in the world w: it hands over N times, in their row, what Rel says (of the world then, and of how many blocks there were when the round began); it turns only what it lays ahead of the first round -/
def Seq (P : Program) (gf : FuncId) (lb : Array Value) (Rel : Nat → Nat → Array Value → World → Prop) (N o m : Nat) (w : World) : Prop :=
  ∀ (l : Nat) (J : Nat → Nat → World → Prop) (Jx : Nat → World → Prop) (W : World),
    Below w.heap.size w W → W.heap.size = w.heap.size + 2 →
    (∀ hi i, W.heap.size ≤ hi → Stays (fun r => W.heap.size ≤ r ∧ r < hi) (J hi i)) → (∀ hi, W.heap.size ≤ hi → Stays (fun r => W.heap.size ≤ r ∧ r < hi) (Jx hi)) →
    (∀ hi i args W0 W1, W.heap.size ≤ hi → hi ≤ W0.heap.size → i < N → J hi i W0 → Grw (fun r => W.heap.size ≤ r ∧ r < hi) W0 W1 → Rel i W0.heap.size args W1 → YieldAt Fence.wide 0 P l args W1 fun e W' =>
      (e = .returned (.bool true) ∧ J hi (i + 1) W' ∧ Kp o m w.heap.size W.heap.size hi W1 W') ∨ (e = .returned (.bool false) ∧ Jx hi W' ∧ Kp o m w.heap.size W.heap.size hi W1 W')) →
    (∀ W', Below W.heap.size W W' → J W'.heap.size 0 W') →
    CallsIn Fence.wide 0 P gf (#[.func (.yield l) #[] #[]] ++ lb) W fun e W' => (∃ v, e = .returned v) ∧ ∃ hi, W.heap.size ≤ hi ∧ hi ≤ W'.heap.size ∧ (J hi N W' ∨ Jx hi W')

/-- how a round's body may be left -/
def roundP (o m B hi : Nat) (I : World → Prop) (Ix : Code → World → Prop) (W : World) : Exit → Act → World → Prop
  | .normal, _, W' => Kp o m B B hi W W' ∧ I W'
  | .ret, _, W' => Kp o m B B hi W W' ∧ Ix .ret W'
  | .exit id, _, W' => Kp o m B B hi W W' ∧ Ix (.exit id) W'
  | .goto t, _, W' => Kp o m B B hi W W' ∧ Ix (.goto t) W'
  | .panic _, _, _ => False
  | .outgrown, _, _ => False

theorem ranged {P : Program} {g : Operand} {ps : Array Tmp} {assign body : Code} {Q : Exit → Act → World → Prop} {a : Act} {w : World} {gf : FuncId} {lb : Array Value} {Rel : Nat → Nat → Array Value → World → Prop} {N o m : Nat}
    (hg : a.eval g = .func (.func gf) #[] lb) (eg : ∀ args w, (callFunc gf args).run P w = .ok (.enter gf args) w) (ho : o ≤ w.heap.size) (hmm : m ≤ w.heap.size) (hps : ∀ i s args W, Rel i s args W → args.size = ps.size) (hseq : Seq P gf lb Rel N o m w)
    (I : Nat → Nat → World → Prop) (Ix : Code → Nat → World → Prop) (M : Nat → Nat → Act → World → Prop)
    (hI : ∀ hi i, w.heap.size + 2 ≤ hi → Stays (fun r => w.heap.size ≤ r ∧ r < hi) (I hi i)) (hIx : ∀ c hi, w.heap.size + 2 ≤ hi → Stays (fun r => w.heap.size ≤ r ∧ r < hi) (Ix c hi))
    (hM : ∀ hi i a', w.heap.size + 2 ≤ hi → Stays (fun r => w.heap.size ≤ r ∧ r < hi) (M hi i a'))
    (h0 : ∀ W', Below w.heap.size w W' → w.heap.size + 2 ≤ W'.heap.size → I W'.heap.size 0 W')
    (hassign : ∀ (l hi i : Nat) (args : Array Value) (W0 W : World) (K : Act → World → Prop), w.heap.size + 2 ≤ hi → hi ≤ W0.heap.size → i < N → I hi i W0 → Grw (fun r => w.heap.size ≤ r ∧ r < hi) W0 W → Rel i W0.heap.size args W →
      (∀ a' W', M hi i a' W' → Kp o m w.heap.size w.heap.size hi W W' → K a' W') →
      assign.wpIn (Fence.wide.inRound l) 0 P (Exit.then K (fun _ _ _ => False)) { tmps := (ps.zip args).foldl (fun t (p, v) => t.setIfInBounds p v) a.tmps, defers := [] } W)
    (hbody : ∀ (l hi i : Nat) (a' : Act) (W : World), w.heap.size + 2 ≤ hi → hi ≤ W.heap.size → i < N → M hi i a' W → body.wpIn (Fence.wide.inRound l) 0 P (roundP o m w.heap.size hi (I hi (i + 1)) (fun c => Ix c hi) W) a' W)
    (hdone : ∀ (hi : Nat) (W : World), w.heap.size + 2 ≤ hi → hi ≤ W.heap.size → I hi N W → W.heap[w.heap.size]? = some (.deferred (some [])) → Q .normal { a with defers := { target := .collected w.heap.size, args := #[] } :: a.defers } W)
    (hstop : ∀ (hi : Nat) (c : Code) (W : World), w.heap.size + 2 ≤ hi → hi ≤ W.heap.size → Ix c hi W → W.heap[w.heap.size]? = some (.deferred (some [])) → c.wpIn Fence.wide 0 P Q { a with defers := { target := .collected w.heap.size, args := #[] } :: a.defers } W) :
    (Code.rangeFunc g ps assign body).wpIn Fence.wide 0 P Q a w := by
  refine wpIn_rangeFunc ?_
  intro fn hfn
  obtain ⟨B, hB⟩ : ∃ B, w.heap.size = B := ⟨_, rfl⟩
  obtain ⟨rec, hrec⟩ : ∃ rec : LoopState → Option Code → Loop, rec = fun st pe => { state := st, pending := pe, fn, tmps := a.tmps, params := ps, assign, body, defers := B } := ⟨_, rfl⟩
  obtain ⟨W1, hW1⟩ : ∃ W1, (w.alloc (.deferred (some []))).alloc (.loop (rec .ready none)) = W1 := ⟨_, rfl⟩
  have hs1 : W1.heap.size = B + 2 := by rw [← hW1, ← hB]; simp
  have hL1 : W1.heap[B + 1]? = some (.loop (rec .ready none)) := by
    have := World.alloc_heap_new (w.alloc (.deferred (some []))) (.loop (rec .ready none))
    rw [World.size_alloc, hB, hW1] at this; exact this
  have hK1 : W1.heap[B]? = some (.deferred (some [])) := by
    rw [← hW1, ← hB]; exact (Below.heap_alloc _ _ _ (by simp)).trans (World.alloc_heap_new w _)
  have hb1 : Below B w W1 := by
    rw [← hW1]; exact ((Below.refl _ w).alloc (by omega) _).alloc (by simp; omega) _
  rw [hB] at ho hmm hI hIx hM h0 hassign hbody hdone hstop
  refine ⟨B + 1, [{ target := .collected B, args := #[] }], W1, { target := .fn (.func gf) lb, args := #[.func (.yield (B + 1)) #[] #[]] }, W1, gf,
    #[.func (.yield (B + 1)) #[] #[]] ++ lb, W1, ?_, ?_, ?_, ?_, fun h => by simp [Fence.wide] at h, ?_⟩
  · rw [← hW1, hrec, ← hB]; exact run_enterLoop_outer _ _ _ _ _
  · simp only [resolve, hg]
    simp [go_sem]
  · intro f' _; trivial
  · simp [invoke, go_sem, eg]
  · have lT : ∀ {hi : Nat}, B + 2 ≤ hi → (B ≤ B + 1 ∧ B + 1 < hi) := fun h => ⟨by omega, by omega⟩
    have nB : ∀ (hi r : Nat), (W1.heap.size ≤ r ∧ r < hi) → ¬ r = B ∧ ¬ r = B + 1 := fun hi r h => by rw [hs1] at h; omega
    have tT : ∀ (hi r : Nat), (W1.heap.size ≤ r ∧ r < hi) → (B ≤ r ∧ r < hi) := fun hi r h => by rw [hs1] at h; omega
    refine (hseq (B + 1)
      (fun hi i W => I hi i W ∧ W.heap[B + 1]? = some (.loop (rec .ready none)) ∧ W.heap[B]? = some (.deferred (some [])))
      (fun hi W => ∃ c, Ix c hi W ∧ W.heap[B + 1]? = some (.loop (rec .done (some c))) ∧ W.heap[B]? = some (.deferred (some [])))
      W1 (by rw [hB]; exact hb1) (by omega)
      (fun hi i hh => ((hI hi i (by omega)).mono (tT hi)).and ((stays_obj (fun h => (nB hi _ h).2 rfl) _).and (stays_obj (fun h => (nB hi _ h).1 rfl) _)))
      (fun hi hh W W' hs hg' => by
        obtain ⟨c, hc, hl, hk⟩ := hs
        exact ⟨c, (hIx c hi (by omega)).mono (tT hi) W W' hc hg', stays_obj (fun h => (nB hi _ h).2 rfl) _ W W' hl hg', stays_obj (fun h => (nB hi _ h).1 rfl) _ W W' hk hg'⟩)
      ?_ (fun W' hbW => ⟨h0 W' (hb1.trans (hbW.mono (by omega))) (by have := hbW.size; omega), (hbW.block _ (by omega)).trans hL1, (hbW.block _ (by omega)).trans hK1⟩)).mono ?_
    · -- one round
      rintro hi i args W0 W hhi hhW hi' ⟨hI1, hl0, hk0⟩ hgrw hrel
      have hl := stays_obj (fun h => (nB hi _ h).2 rfl) _ W0 W hl0 hgrw
      have hk := stays_obj (fun h => (nB hi _ h).1 rfl) _ W0 W hk0 hgrw
      have hhW2 : hi ≤ W.heap.size := Nat.le_trans hhW hgrw.size
      replace hgrw := hgrw.mono (tT hi)
      rw [hs1, hB] at *
      have hlt : B + 1 < W.heap.size := (Array.getElem?_eq_some_iff.1 hl).1
      have hy := run_yield (P := P) (args := args) hl (by rw [hrec]; exact hps i _ args W hrel)
      rw [hrec] at hy
      refine ⟨fn, _, assign, body, hy, roundIn_of_wpIn hfn (hassign _ hi i args W0 W _ hhi hhW hi' hI1 hgrw hrel (fun a' W2 hm2 hkp2 => ?_))⟩
      have hla := (hkp2.same (B + 1) (by omega) (by omega)).trans hl
      have hka := (hkp2.same B (by omega) (by omega)).trans hk
      have hhW3 : hi ≤ W2.heap.size := Nat.le_trans hhW2 hkp2.size
      have hlt2 : B + 1 < W2.heap.size := (Array.getElem?_eq_some_iff.1 hla).1
      refine ⟨_, run_beginRound hla (by rw [hrec]), ?_⟩
      have hl2 : (W2.putObj (B + 1) (.loop { rec .ready none with state := .busy })).heap[B + 1]? = some (.loop { rec .ready none with state := .busy }) := World.putObj_heap_same hlt2
      have hk2 : (W2.putObj (B + 1) (.loop { rec .ready none with state := .busy })).heap[B]? = some (.deferred (some [])) := (World.putObj_heap_other (by omega)).trans hka
      refine wpIn_mono (hbody _ hi i a' _ hhi (by simp; exact hhW3) hi' ((hM hi i a' hhi).put hm2 (lT hhi) _)) ?_
      have fin : ∀ (jump : Option Code) (W3 : World), Kp o m B B hi (W2.putObj (B + 1) (.loop { rec .ready none with state := .busy })) W3 →
          (Instr.endRound (B + 1) jump).run P W3 = .ok (.bool jump.isNone) (W3.putObj (B + 1) (.loop (rec (if jump.isNone then .ready else .done) jump))) ∧
          (W3.putObj (B + 1) (.loop (rec (if jump.isNone then .ready else .done) jump))).heap[B + 1]? = some (.loop (rec (if jump.isNone then .ready else .done) jump)) ∧
          (W3.putObj (B + 1) (.loop (rec (if jump.isNone then .ready else .done) jump))).heap[B]? = some (.deferred (some [])) ∧
          Kp o m B (B + 2) hi W (W3.putObj (B + 1) (.loop (rec (if jump.isNone then .ready else .done) jump))) := fun jump W3 hk3 => by
        have hl3 := (hk3.same (B + 1) (by omega) (by omega)).trans hl2
        have hk4 := (hk3.same B (by omega) (by omega)).trans hk2
        have := run_endRound (P := P) jump hl3
        rw [hrec] at this ⊢
        have g1 := grownBy_putObj' W2 (B + 1) (.loop { rec .ready none with state := .busy })
        have g2 := grownBy_putObj' W3 (B + 1) (.loop (rec (if jump.isNone then .ready else .done) jump))
        rw [hrec] at g1 g2
        rw [hrec] at hk3
        refine ⟨this, World.putObj_heap_same (Array.getElem?_eq_some_iff.1 hl3).1, (World.putObj_heap_other (by omega)).trans hk4, ?_, ?_, ?_, ?_, ?_⟩
        · have := hk3.size; have := hkp2.size; simp at *; omega
        · intro r h1 h2
          have hne : r ≠ B + 1 := by omega
          exact (World.putObj_heap_other hne).trans ((hk3.same r h1 (by omega)).trans ((World.putObj_heap_other hne).trans (hkp2.same r h1 (by omega))))
        · exact g2.os.trans (hk3.os.trans (g1.os.trans hkp2.os))
        · exact g2.tape.trans (hk3.tape.trans (g1.tape.trans hkp2.tape))
        · exact g2.output.trans (hk3.output.trans (g1.output.trans hkp2.output))
      rintro e a3 W3 hp
      cases e with
      | normal =>
        obtain ⟨hk3, hi3⟩ := hp
        obtain ⟨hr, hl4, hk4, hkk⟩ := fin none W3 hk3
        exact ⟨_, _, hr, .inl ⟨rfl, ⟨(hI hi _ hhi).put hi3 (lT hhi) _, hl4, hk4⟩, hkk⟩⟩
      | ret =>
        obtain ⟨hk3, hi3⟩ := hp
        obtain ⟨hr, hl4, hk4, hkk⟩ := fin (some .ret) W3 hk3
        exact ⟨_, _, hr, .inr ⟨rfl, ⟨.ret, (hIx _ hi hhi).put hi3 (lT hhi) _, hl4, hk4⟩, hkk⟩⟩
      | exit id =>
        obtain ⟨hk3, hi3⟩ := hp
        obtain ⟨hr, hl4, hk4, hkk⟩ := fin (some (.exit id)) W3 hk3
        exact ⟨_, _, hr, .inr ⟨rfl, ⟨.exit id, (hIx _ hi hhi).put hi3 (lT hhi) _, hl4, hk4⟩, hkk⟩⟩
      | goto t =>
        obtain ⟨hk3, hi3⟩ := hp
        obtain ⟨hr, hl4, hk4, hkk⟩ := fin (some (.goto t)) W3 hk3
        exact ⟨_, _, hr, .inr ⟨rfl, ⟨.goto t, (hIx _ hi hhi).put hi3 (lT hhi) _, hl4, hk4⟩, hkk⟩⟩
      | panic ch => exact hp.elim
      | outgrown => exact hp.elim
    · -- behind the function
      rintro e W2 ⟨⟨v, rfl⟩, hi, hh1, hh2, (⟨hi1, hl, hk⟩ | ⟨c, hi1, hl, hk⟩)⟩
      · rw [hs1] at hh1
        exact ⟨none, _, by have := run_endLoop (P := P) hl (by rw [hrec]; simp); rw [hrec] at this; exact this, hdone hi _ hh1 (by simp; exact hh2) ((hI hi N hh1).put hi1 (lT hh1) _) ((World.putObj_heap_other (by omega)).trans hk)⟩
      · rw [hs1] at hh1
        exact ⟨some c, _, by have := run_endLoop (P := P) hl (by rw [hrec]; simp); rw [hrec] at this; exact this, hstop hi c _ hh1 (by simp; exact hh2) ((hIx c hi hh1).put hi1 (lT hh1) _) ((World.putObj_heap_other (by omega)).trans hk)⟩

end Go.Proofs.Ytkjnddgjnlbopaa.Ranges

/-
  The function that tells a scan's frames one by one.
-/
namespace Go.Proofs.Ytkjnddgjnlbopaa.Frame
open Go Go.RowKit
open Go.Proofs.Ytkjnddgjnlbopaa.Wire (S S_list S_size cell_row frozen_row)
open Go.Proofs.Ytkjnddgjnlbopaa.Ranges
attribute [local go_sem] Oper.semAt_some

/-- all frames from a place on -/
def allS (s : ByteArray) (k : Nat) : List Fr := allF (s.data.toList.drop k).length (s.data.toList.drop k) k
theorem allS_yes {s : ByteArray} {k : Nat} (h : rdE (s.data.toList.drop k) = 0) : allS s k = ⟨rdQ (s.data.toList.drop k), rdP (s.data.toList.drop k), k⟩ :: allS s (k + rdK (s.data.toList.drop k)) := by
  unfold allS; rw [all_step h, List.drop_drop]
theorem allS_no {s : ByteArray} {k : Nat} (h : ¬ rdE (s.data.toList.drop k) = 0) : allS s k = [] := all_none h
def fr0 : Fr := ⟨0, [], 0⟩
/-- what is handed over -/
def RelF (s : ByteArray) (k : Nat) (i _sz : Nat) (args : Array Value) (_W : World) : Prop :=
  (i < (allS s k).length ∧ args = #[frV (((allS s k).getD i fr0).q : Int) ((allS s k).getD i fr0).p (((allS s k).getD i fr0).i : Int), .int .i64 0]) ∨
  (i = (allS s k).length ∧ ∃ e : Nat, ¬ e = 0 ∧ args = #[frV 0 [] 0, .int .i64 (e : Int)])
/-- where the reading stands -/
def AtF (s : ByteArray) (k i p x : Nat) : Prop := (x = 0 ∧ p ≤ s.size ∧ i ≤ (allS s k).length ∧ allS s p = (allS s k).drop i) ∨ (¬ x = 0 ∧ i = (allS s k).length + 1)
theorem frames_in (n : Nat) (s : ByteArray) (i : Int) (w : World) :
    CallsIn Fence.wide n Try.prog 85 #[.string s, .int .i64 i] w fun e w' => e = .returned (.func (.func 99) #[] #[.pointer (some ⟨w.heap.size + 1, 0, none⟩), .pointer (some ⟨w.heap.size, 0, none⟩)]) ∧ w' = (w.alloc (.cells #[.string s] 9)).alloc (.cells #[.int .i64 i] 3) := by
  refine callsIn_of_wp Try.func85 rfl trivial ?_ rfl
  simp only [Try.ntmps85, List.size_toArray, List.length_cons, List.length_nil, Nat.reduceAdd, Nat.reduceSub, Array.replicate_succ, Array.replicate_zero, List.push_toArray, List.append_toArray, List.nil_append, List.cons_append]
  have hmf : ∀ (fn : Fn) (first cap : Array Value) (w : World), (Instr.makeFunc fn first cap).run Try.prog w = .ok (.func fn first cap) w := fun _ _ _ _ => rfl
  gi_wp2
  go_ret
  exact ⟨rfl, rfl⟩
theorem drop_at {l : List Fr} {i : Nat} {e : Fr} {m : List Fr} (h : l.drop i = e :: m) : i < l.length ∧ l.getD i fr0 = e ∧ l.drop (i + 1) = m := by
  have hi : i < l.length := by
    by_cases hq : i < l.length
    · exact hq
    · rw [List.drop_of_length_le (by omega)] at h; cases h
  rw [List.drop_eq_getElem_cons hi] at h
  injection h with h1 h2
  exact ⟨hi, by rw [List.getD_eq_getElem?_getD, List.getElem?_eq_getElem hi, Option.getD_some, h1], h2⟩

set_option maxRecDepth 100000 in
set_option maxHeartbeats 4000000 in
/-- **frames**: what it hands over -/
theorem frames_seq (o m b : Nat) (s : ByteArray) (k : Nat) (hk : k ≤ s.size) (hs : s.size ≤ 1000000000000) (w : World) (hS : Boxed w b 9 (.string s)) (hI : Boxed w (b + 1) 3 (.int .i64 (k : Int))) (how : o ≤ m) (hm : m ≤ b) :
    Seq Try.prog 99 #[.pointer (some ⟨b + 1, 0, none⟩), .pointer (some ⟨b, 0, none⟩)] (RelF s k) ((allS s k).length + 1) o m w := by
  intro l J Jx W hW hsz hJ hJx hY h0
  have hbw := hS.lt
  have hS0 : Boxed W b 9 (.string s) := (hW.block b hbw).trans hS
  have hI0 : Boxed W (b + 1) 3 (.int .i64 (k : Int)) := (hW.block (b + 1) hI.lt).trans hI
  have HBO := Lib.hid hS0
  have hci := hI0.cell
  have HBL := Lib.hid hbw
  have HSZ := Lib.hid hsz
  have HMB := Lib.hid hm
  have HOM := Lib.hid how
  have HK := Lib.hid hk
  have HS := Lib.hid hs
  have HJ := Lib.hid hJ
  have HJX := Lib.hid hJx
  have HY := Lib.hid hY
  have HJ0 := Lib.hid (h0 W (Below.refl _ _))
  have HAT := Lib.hid (show AtF s k 0 k 0 from Or.inl ⟨rfl, hk, Nat.zero_le _, rfl⟩)
  clear hS hI hS0 hI0 hW hJ hJx hY h0 hbw hsz hm how hk hs
  refine callsIn_of_wp Try.func99 rfl trivial ?_ rfl
  simp only [Try.ntmps99, List.size_toArray, List.length_cons, List.length_nil, Nat.reduceAdd, Nat.reduceSub, Array.replicate_succ, Array.replicate_zero, List.push_toArray, List.append_toArray, List.nil_append, List.cons_append]
  generalize hhi : W.heap.size = hi at *
  have HHW := Lib.hid (show hi ≤ W.heap.size by omega)
  clear hhi
  gi_wp2
  gi_loopw [4, 5] (fun nx ee wr => ∃ i p x : Nat, nx = .int .i64 (p : Int) ∧ ee = .int .i64 (x : Int) ∧ Hid (AtF s k i p x) ∧ Hid (J hi i wr) ∧ Hid (hi ≤ wr.heap.size) ∧ Hid (Boxed wr b 9 (.string s))) (fun nx ee _ => if intOf ee = 0 then s.size + 1 - (intOf nx).toNat else 0)
  case atStart => exact ⟨0, k, 0, rfl, rfl, HAT, HJ0, HHW, HBO⟩
  case round =>
    clear HAT HJ0 HHW HBO
    obtain ⟨i, p, x, rfl, rfl, HA, HJ2, HW2, HB2⟩ := hrel
    rcases HA.out with ⟨rfl, hp, hi', hd⟩ | ⟨hx, hi'⟩
    · have HP := Lib.hid hp
      have HI := Lib.hid hi'
      have HD := Lib.hid hd
      have cS := (HB2.out.alloc (.cells #[.int .i64 0, .string ⟨#[]⟩, .int .i64 0] 51)).cell
      have HRD := Lib.hid (fun W => Read_at s p hp HS.out _ rfl W)
      have HFB := Lib.hid (show FBx (wr.alloc (.cells #[.int .i64 0, .string ⟨#[]⟩, .int .i64 0] 51)) wr.heap.size from heap_alloc_new wr _)
      have HBA := Lib.hid ((Below.refl wr.heap.size wr).alloc (Nat.le_refl _) (.cells #[.int .i64 0, .string ⟨#[]⟩, .int .i64 0] 51))
      have HBB := Lib.hid (HB2.out.lt)
      clear hp hi' hd HA
      gi_wp2_with fail
      refine ⟨trivial, rfl, ?_⟩
      refine (callsIn_wide.2 (HRD.out _)).mono ?_
      rintro ev W3 ⟨he, hb⟩
      have hsz1 : (wr.alloc (.cells #[.int .i64 0, .string ⟨#[]⟩, .int .i64 0] 51)).heap.size = wr.heap.size + 1 := by simp
      have HF3 := Lib.hid (show FBx W3 wr.heap.size from (hb.block _ (by rw [hsz1]; omega)).trans HFB.out)
      have HB3 := Lib.hid (HBA.out.trans (hb.mono (by rw [hsz1]; omega)))
      clear hb hsz1 HFB HBA HRD
      obtain ⟨⟨c0, c1, c2⟩, f0, f1, f2⟩ := HF3.out.facts
      rcases he with ⟨h0, rfl⟩ | ⟨h0, rfl⟩
      · have hl := HD.out
        rw [allS_yes h0] at hl
        obtain ⟨g1, g2, g3⟩ := drop_at hl.symm
        have hkl := rdK_le h0
        rw [List.length_drop] at hkl
        generalize hT : s.data.toList.drop p = T at *
        obtain ⟨d0, d1, d2, d3, d4⟩ := HF3.out.store (rdQ T : Int) (S (rdP T)) (p : Int)
        obtain ⟨W4, hW4⟩ : ∃ W4, ((W3.setCell ⟨wr.heap.size, 0, none⟩ (.int .i64 (rdQ T : Int))).setCell ⟨wr.heap.size, 1, none⟩ (.string (S (rdP T)))).setCell ⟨wr.heap.size, 2, none⟩ (.int .i64 (p : Int)) = W4 := ⟨_, rfl⟩
        rw [hW4] at d0 d1 d2
        have hb4 : Below wr.heap.size wr W4 := by
          rw [← hW4]
          exact ((HB3.out.setCell (p := ⟨wr.heap.size, 0, none⟩) (Nat.le_refl _) _).setCell (p := ⟨wr.heap.size, 1, none⟩) (Nat.le_refl _) _).setCell (p := ⟨wr.heap.size, 2, none⟩) (Nat.le_refl _) _
        have hgr : Grw (fun r => hi ≤ r ∧ r < hi) wr W4 := grw_below hb4
        have HB4 := Lib.hid (show Boxed W4 b 9 (.string s) from (hb4.block b HBB.out).trans HB2.out)
        have HW4 := Lib.hid (Nat.le_trans HW2.out hgr.size)
        obtain ⟨fn, tmps, assign, body, hy, hR⟩ := HY.out hi i #[.agg #[.int .i64 (rdQ T : Int), .string (S (rdP T)), .int .i64 (p : Int)], .int .i64 0] wr W4 (Nat.le_refl _) HW2.out (by omega) HJ2.out hgr (Or.inl ⟨g1, by rw [g2]; rfl⟩)
        have HPK := Lib.hid (show p + rdK T ≤ s.size by have := HP.out; simp at hkl; omega)
        have HPI := Lib.hid (And.intro hkl.1 (show i + 1 ≤ (allS s k).length by omega))
        have HG3 := Lib.hid g3
        have hpk : (p : Int) + (rdK T : Int) = ((p + rdK T : Nat) : Int) := by omega
        have HPP := Lib.hid hpk
        clear hl g1 g2 g3 hkl hb4 hgr hpk
        gi_wp2
        refine ⟨rfl, hR.mono ?_⟩
        clear c0 c1 c2 f0 f1 f2 d0 d1 d2 d3 d4 hW4 hy hR
        rintro ev W5 (⟨rfl, hj, hkp⟩ | ⟨rfl, hjx, hkp⟩)
        · have HJ5 := Lib.hid hj
          have HW5 := Lib.hid (Nat.le_trans HW4.out hkp.size)
          have HB5 := Lib.hid (show Boxed W5 b 9 (.string s) from (hkp.same b (by have := HBL.out; have := HSZ.out; omega) (by have := HBL.out; have := HMB.out; omega)).trans HB4.out)
          have HA5 := Lib.hid (show AtF s k (i + 1) (p + rdK T) 0 from Or.inl ⟨rfl, HPK.out, HPI.out.2, HG3.out.symm⟩)
          have HM := Lib.hid (show s.size + 1 - (p + rdK T) < s.size + 1 - p by have := HPI.out; have := HPK.out; omega)
          clear hj hkp
          gi_wp2
          exact ⟨⟨i + 1, p + rdK T, 0, by rw [HPP.out], rfl, HA5, HJ5, HW5, HB5⟩, by rw [HPP.out]; simp [intOf]; have := HM.out; omega⟩
        · gi_wp2
          refine bodyPost_ret (results_none rfl _ _ _) rfl ?_
          exact ⟨⟨_, rfl⟩, hi, Nat.le_refl _, Nat.le_trans HW4.out hkp.size, .inr hjx⟩
      · have hl := HD.out
        rw [allS_no h0] at hl
        have hil : i = (allS s k).length := by
          have := congrArg List.length hl
          rw [List.length_drop, List.length_nil] at this
          have := HI.out; omega
        generalize hT : s.data.toList.drop p = T at *
        obtain ⟨d0, d1, d2, d3, d4⟩ := HF3.out.store 0 ⟨#[]⟩ 0
        obtain ⟨W4, hW4⟩ : ∃ W4, ((W3.setCell ⟨wr.heap.size, 0, none⟩ (.int .i64 0)).setCell ⟨wr.heap.size, 1, none⟩ (.string ⟨#[]⟩)).setCell ⟨wr.heap.size, 2, none⟩ (.int .i64 0) = W4 := ⟨_, rfl⟩
        rw [hW4] at d0 d1 d2
        have hb4 : Below wr.heap.size wr W4 := by
          rw [← hW4]
          exact ((HB3.out.setCell (p := ⟨wr.heap.size, 0, none⟩) (Nat.le_refl _) _).setCell (p := ⟨wr.heap.size, 1, none⟩) (Nat.le_refl _) _).setCell (p := ⟨wr.heap.size, 2, none⟩) (Nat.le_refl _) _
        have hgr : Grw (fun r => hi ≤ r ∧ r < hi) wr W4 := grw_below hb4
        have HB4 := Lib.hid (show Boxed W4 b 9 (.string s) from (hb4.block b HBB.out).trans HB2.out)
        have HW4 := Lib.hid (Nat.le_trans HW2.out hgr.size)
        obtain ⟨fn, tmps, assign, body, hy, hR⟩ := HY.out hi i #[.agg #[.int .i64 0, .string ⟨#[]⟩, .int .i64 0], .int .i64 (rdE T : Int)] wr W4 (Nat.le_refl _) HW2.out (by omega) HJ2.out hgr (Or.inr ⟨hil, rdE T, h0, rfl⟩)
        have HIL := Lib.hid (And.intro hil h0)
        obtain ⟨q1, q2, q3, q4, q5⟩ := nat_ne h0
        generalize rdE T = x at HIL hy hR q1 q2 q3 q4 q5 ⊢
        clear hl hb4 hgr hil h0
        gi_wp2
        refine ⟨rfl, hR.mono ?_⟩
        clear c0 c1 c2 f0 f1 f2 d0 d1 d2 d3 d4 hW4 hy hR
        rintro ev W5 (⟨rfl, hj, hkp⟩ | ⟨rfl, hjx, hkp⟩)
        · have HJ5 := Lib.hid hj
          have HW5 := Lib.hid (Nat.le_trans HW4.out hkp.size)
          have HB5 := Lib.hid (show Boxed W5 b 9 (.string s) from (hkp.same b (by have := HBL.out; have := HSZ.out; omega) (by have := HBL.out; have := HMB.out; omega)).trans HB4.out)
          have HA5 := Lib.hid (show AtF s k (i + 1) 0 x from Or.inr ⟨HIL.out.2, by have := HIL.out.1; omega⟩)
          have HM := Lib.hid (show p ≤ s.size from HP.out)
          have HX := Lib.hid q5
          clear hj hkp
          gi_wp2
          exact ⟨⟨i + 1, 0, x, rfl, rfl, HA5, HJ5, HW5, HB5⟩, by simp [intOf]; have := HM.out; have h5 := HIL.out.2; rw [if_neg h5]; omega⟩
        · gi_wp2
          refine bodyPost_ret (results_none rfl _ _ _) rfl ?_
          exact ⟨⟨_, rfl⟩, hi, Nat.le_refl _, Nat.le_trans HW4.out hkp.size, .inr hjx⟩
    · obtain ⟨q1, q2, q3, q4, q5⟩ := nat_ne hx
      have HIL := Lib.hid hi'
      clear hx hi' HA
      gi_wp2
      go_end0
      exact ⟨⟨_, rfl⟩, hi, Nat.le_refl _, HW2.out, .inl (by rw [← HIL.out]; exact HJ2.out)⟩
end Go.Proofs.Ytkjnddgjnlbopaa.Frame

/-
  Scan: the frames that are numbered on, gathered from the function that tells them one by one; rows of frames in memory.
-/
namespace Go.Proofs.Ytkjnddgjnlbopaa.Frame
open Go Go.RowKit
open Go.Proofs.Ytkjnddgjnlbopaa.Wire (S S_list S_size cell_row frozen_row row_lt)
open Go.Proofs.Ytkjnddgjnlbopaa.Ranges
attribute [local go_sem] Oper.semAt_some

/-! ### rows of frames in memory -/
def frC (x : Fr) : List Value := [.int .i64 (x.q : Int), .string (S x.p), .int .i64 (x.i : Int)]
def cellsFr : List Fr → List Value
  | [] => []
  | x :: r => frC x ++ cellsFr r
theorem cellsFr_snoc (l : List Fr) (x : Fr) : cellsFr (l ++ [x]) = cellsFr l ++ frC x := by
  induction l with
  | nil => simp [cellsFr]
  | cons y r ih => simp only [List.cons_append, cellsFr, ih, List.append_assoc]
theorem cellsFr_at (l : List Fr) (k j : Nat) (hk : k < l.length) (hj : j < 3) : (cellsFr l)[k * 3 + j]? = (frC l[k])[j]? := by
  induction l generalizing k with
  | nil => simp at hk
  | cons x r ih =>
    cases k with
    | zero =>
      have : j < (frC x).length := by simpa [frC] using hj
      simp only [cellsFr, Nat.zero_mul, Nat.zero_add, List.getElem_cons_zero]
      rw [List.getElem?_append_left this]
    | succ k =>
      have h := ih k (by simpa using hk)
      have : (k + 1) * 3 + j = (frC x).length + (k * 3 + j) := by simp [frC]; omega
      simp only [cellsFr, List.getElem_cons_succ]
      rw [this, List.getElem?_append_right (Nat.le_add_right _ _), Nat.add_sub_cancel_left]
      exact h
theorem frC_cell (x : Fr) : ∀ u ∈ frC x, u.oneCell' = true := by
  intro u hu
  simp only [frC, List.mem_cons, List.mem_nil_iff, or_false] at hu
  rcases hu with rfl | rfl | rfl <;> rfl
/-- a row of frames that the call itself has made -/
def OwnFr (w : World) (base : Nat) (v : Value) (xs : List Fr) : Prop := w.ownsRow base 51 3 v xs.length (cellsFr xs)
/-- a row of frames, wherever it lies -/
def RowFr (w : World) (A : Option Addr) (xs : List Fr) : Prop := ∀ i (h : i < xs.length), ∃ b o, A = some ⟨b, o, none⟩ ∧ b < w.heap.size ∧ w.cell? ⟨b, o + i * 3, none⟩ = some (.int .i64 (xs[i].q : Int)) ∧ w.cell? ⟨b, o + i * 3 + 1, none⟩ = some (.string (S xs[i].p)) ∧ w.cell? ⟨b, o + i * 3 + 2, none⟩ = some (.int .i64 (xs[i].i : Int))
theorem RowFr.below {w w' : World} {A : Option Addr} {xs : List Fr} (h : RowFr w A xs) (hb : Below w.heap.size w w') : RowFr w' A xs := fun i hi => by
  obtain ⟨b, o, e, h1, h2, h3, h4⟩ := h i hi
  exact ⟨b, o, e, Nat.lt_of_lt_of_le h1 hb.size, (hb.cell h1).trans h2, (hb.cell h1).trans h3, (hb.cell h1).trans h4⟩
theorem OwnFr.row {w : World} {base : Nat} {v : Value} {xs : List Fr} (h : OwnFr w base v xs) : ∃ A cap, v = .slice A xs.length cap ∧ cap ≤ maxLen ∧ xs.length ≤ cap ∧ RowFr w A xs ∧ (∀ a, A = some a → base ≤ a.block) := by
  rcases h.2 with ⟨rfl, hn⟩ | ⟨g, cap, cur, rfl, hb, hg, h1, h2, h3, h4⟩
  · have hx : xs = [] := List.eq_nil_of_length_eq_zero hn
    subst hx
    exact ⟨none, 0, rfl, Nat.zero_le _, Nat.zero_le _, fun i hi => absurd hi (Nat.not_lt_zero _), fun a e => by cases e⟩
  · refine ⟨some ⟨g, 0, none⟩, cap, rfl, h2, h1, fun i hi => ?_, fun a e => by injection e with e; subst e; exact hb⟩
    have key : ∀ j, j < 3 → w.cell? ⟨g, 0 + (i * 3 + j), none⟩ = (frC xs[i])[j]? := fun j hj => by
      rw [cell_row hg, Nat.zero_add, ← cellsFr_at xs i j hi hj, ← h4, List.getElem?_take, if_pos (by omega), ← Array.getElem?_toList]
    have k0 := key 0 (by omega)
    have k1 := key 1 (by omega)
    have k2 := key 2 (by omega)
    exact ⟨g, 0, rfl, row_lt hg, k0, k1, k2⟩
theorem infoFr : (Try.prog.info? 51).map (fun i => (i.zero, i.size, i.bytes)) = some (some (.agg #[.int .i64 0, .string ⟨#[]⟩, .int .i64 0]), 3, 32) := by kernel_rfl
theorem addr_add0 (g j : Nat) : (Addr.mk g 0 none).add j = ⟨g, j, none⟩ := by
  cases j <;> simp [Addr.add]
theorem wpList_append_fr {ops : Array Oper} {rest : List Oper} {o : Oper} {a : Act} {w : World} {Q : Exit → Act → World → Prop} (hgd : o.guard = none) (s x : Operand)
    (ho : o.op = .call { callee := .builtin .append, args := #[s, x], argTypes := #[69, 69] })
    (base : Nat) (v : Value) (xs : List Fr) (hs : a.eval s = v) (hown : OwnFr w base v xs)
    (g : Nat) (cap : Nat) (y : Fr) (hx : a.eval x = .slice (some ⟨g, 0, none⟩) 1 cap) (hn : w.heap[g]? = some (.cells (frC y).toArray 51 (0, 0)))
    (hlen : xs.length ≤ 1000000) (hbase : base ≤ w.heap.size)
    (h : ∀ v' w', OwnFr w' base v' (xs ++ [y]) → w.grownBy w' v.ownBlock → wpList Try.prog ops Q rest (a.put o.dst v') w') : wpList Try.prog ops Q (o :: rest) a w := by
  obtain ⟨i0, hi, hz0, hz1, hz2⟩ := info_parts infoFr
  refine wpList_append_own w hgd s x 69 ho base 51 i0 _ 3 32 Try.underlying69 hi hz0 hz1 hz2 rfl (by decide) v xs.length (cellsFr xs) hs hown ⟨g, 0, none⟩ 1 cap (frC y) hx rfl ?_ (frC_cell y) (by unfold maxLen; omega) (by omega) hbase ?_
  · intro j u hj
    rw [addr_add0, cell_row hn]
    simpa using hj
  · intro v' w' hown' hg _
    exact h v' w' (by unfold OwnFr; rw [cellsFr_snoc, List.length_append]; exact hown') hg
theorem wpListIn_append_fr {F : Fence} {n : Nat} {ops : Array Oper} {rest : List Oper} {o : Oper} {a : Act} {w : World} {Q : Exit → Act → World → Prop} (hgd : o.guard = none) (s x : Operand)
    (ho : o.op = .call { callee := .builtin .append, args := #[s, x], argTypes := #[69, 69] })
    (base : Nat) (v : Value) (xs : List Fr) (hs : a.eval s = v) (hown : OwnFr w base v xs)
    (g : Nat) (cap : Nat) (y : Fr) (hx : a.eval x = .slice (some ⟨g, 0, none⟩) 1 cap) (hn : w.heap[g]? = some (.cells (frC y).toArray 51 (0, 0)))
    (hlen : xs.length ≤ 1000000) (hbase : base ≤ w.heap.size)
    (h : ∀ v' w', OwnFr w' base v' (xs ++ [y]) → w.grownBy w' v.ownBlock → wpListIn F n Try.prog ops Q rest (a.put o.dst v') w') : wpListIn F n Try.prog ops Q (o :: rest) a w := by
  obtain ⟨i0, hi, hz0, hz1, hz2⟩ := info_parts infoFr
  refine wpListIn_append_own w hgd s x 69 ho base 51 i0 _ 3 32 Try.underlying69 hi hz0 hz1 hz2 rfl (by decide) v xs.length (cellsFr xs) hs hown ⟨g, 0, none⟩ 1 cap (frC y) hx rfl ?_ (frC_cell y) (by unfold maxLen; omega) (by omega) hbase ?_
  · intro j u hj
    rw [addr_add0, cell_row hn]
    simpa using hj
  · intro v' w' hown' hg _
    exact h v' w' (by unfold OwnFr; rw [cellsFr_snoc, List.length_append]; exact hown') hg
theorem OwnFr.nil (w : World) (base : Nat) : OwnFr w base (.slice none 0 0) [] := ⟨rfl, Or.inl ⟨rfl, rfl⟩⟩
theorem OwnFr.grw {T : Nat → Prop} {w w' : World} {base : Nat} {v : Value} {xs : List Fr} (h : OwnFr w base v xs) (g : Grw T w w') (hT : ∀ r, base ≤ r → ¬ T r) : OwnFr w' base v xs := by
  obtain ⟨h1, h2⟩ := h
  refine ⟨h1, ?_⟩
  rcases h2 with h2 | ⟨b, cap, cur, e, hbg, hh, r⟩
  · exact Or.inl h2
  · exact Or.inr ⟨b, cap, cur, e, hbg, (g.block b (row_lt hh) (hT b hbg)).trans hh, r⟩
theorem OwnFr.less {w : World} {base base' : Nat} {v : Value} {xs : List Fr} (h : OwnFr w base v xs) (hb : base' ≤ base) : OwnFr w base' v xs := by
  obtain ⟨h1, h2⟩ := h
  refine ⟨h1, ?_⟩
  rcases h2 with h2 | ⟨b, cap, cur, e, hbg, r⟩
  · exact Or.inl h2
  · exact Or.inr ⟨b, cap, cur, e, Nat.le_trans hb hbg, r⟩
theorem OwnFr.lt {w : World} {base : Nat} {v : Value} {xs : List Fr} (h : OwnFr w base v xs) (g : Nat) (hg : v.ownBlock = some g) : g < w.heap.size := by
  rcases h.2 with ⟨rfl, _⟩ | ⟨b, cap, cur, rfl, _, hh, _⟩
  · cases hg
  · have : b = g := by simpa [Value.ownBlock] using hg
    subst this; exact row_lt hh
theorem OwnFr.ge {w : World} {base : Nat} {v : Value} {xs : List Fr} (h : OwnFr w base v xs) (g : Nat) (hg : v.ownBlock = some g) : base ≤ g := by
  rcases h.2 with ⟨rfl, _⟩ | ⟨b, cap, cur, rfl, hbg, _⟩
  · cases hg
  · have : b = g := by simpa [Value.ownBlock] using hg
    omega
theorem boxed_grw {T : Nat → Prop} {w w' : World} {b : Nat} {t : TypeId} {v : Value} (h : Boxed w b t v) (g : Grw T w w') (hT : ¬ T b) : Boxed w' b t v := (g.block b h.lt hT).trans h

/-! ### mathematics of a scan's rounds -/
theorem allF_all : ∀ (n : Nat) (l : List UInt8) (i : Nat), ∀ j (h : j < (allF n l i).length), ((allF n l i)[j]).q < 1048576 ∧ 1 ≤ ((allF n l i)[j]).p.length ∧ ((allF n l i)[j]).p.length ≤ 4096 ∧ bytesOf ((allF n l i).take (j + 1)) ≤ l.length ∧ ((allF n l i)[j]).i = i + bytesOf ((allF n l i).take j)
  | 0, _, _, j, h => by simp [allF] at h
  | n + 1, l, i, j, h => by
    by_cases h0 : rdE l = 0
    · have he : allF (n + 1) l i = ⟨rdQ l, rdP l, i⟩ :: allF n (l.drop (rdK l)) (i + rdK l) := by rw [allF, if_pos h0]
      obtain ⟨z1, z2, z3, z4, _⟩ := rd_zero h0
      have hp := rdP_length z1
      have hk : rdK l = 16 + (rdP l).length := by unfold rdK; rw [hp]
      cases j with
      | zero =>
        simp only [he, List.getElem_cons_zero, List.take_succ_cons, List.take_zero, bytesOf]
        refine ⟨z4, by omega, by omega, by omega, by omega⟩
      | succ j =>
        have hj : j < (allF n (l.drop (rdK l)) (i + rdK l)).length := by rw [he] at h; simpa using h
        obtain ⟨a1, a2, a3, a4, a5⟩ := allF_all n (l.drop (rdK l)) (i + rdK l) j hj
        simp only [he, List.getElem_cons_succ, List.take_succ_cons, bytesOf]
        rw [List.length_drop] at a4
        refine ⟨a1, a2, a3, by omega, by omega⟩
    · have : allF (n + 1) l i = [] := by rw [allF, if_neg h0]
      rw [this] at h; simp at h
theorem allS_len (s : ByteArray) (k : Nat) : (allS s k).length * 17 ≤ s.size := by
  have key : ∀ (n : Nat) (l : List UInt8) (i : Nat), (allF n l i).length * 17 ≤ l.length := by
    intro n
    induction n with
    | zero => intro l i; simp [allF]
    | succ n ih =>
      intro l i
      by_cases h0 : rdE l = 0
      · have h := ih (l.drop (rdK l)) (i + rdK l)
        have hk := rdK_le h0
        rw [List.length_drop] at h
        rw [allF, if_pos h0, List.length_cons]; omega
      · rw [allF, if_neg h0]; simp
  have := key (s.data.toList.drop k).length (s.data.toList.drop k) k
  rw [List.length_drop] at this
  unfold allS
  simp at this ⊢; omega
/-- the frames that a scan tells, in the row of all -/
theorem pref_more (first : Int) (L : List Fr) (i : Nat) (h : i < L.length) (hp : ((L.getD i fr0).q : Int) = first + i) (he : pref first L = L.take i ++ pref (first + i) (L.drop i)) : pref first L = L.take (i + 1) ++ pref (first + (i + 1 : Nat)) (L.drop (i + 1)) := by
  rw [he, List.drop_eq_getElem_cons h, pref]
  rw [List.getD_eq_getElem?_getD, List.getElem?_eq_getElem h, Option.getD_some] at hp
  rw [if_pos hp, List.take_succ_eq_append_getElem h, List.append_assoc]
  have : first + (i : Int) + 1 = first + ((i + 1 : Nat) : Int) := by omega
  rw [this]; rfl
theorem pref_stop (first : Int) (L : List Fr) (i : Nat) (h : i < L.length) (hp : ¬ ((L.getD i fr0).q : Int) = first + i) (he : pref first L = L.take i ++ pref (first + i) (L.drop i)) : pref first L = L.take i := by
  rw [he, List.drop_eq_getElem_cons h, pref]
  rw [List.getD_eq_getElem?_getD, List.getElem?_eq_getElem h, Option.getD_some] at hp
  rw [if_neg hp, List.append_nil]
theorem pref_end (first : Int) (L : List Fr) (he : pref first L = L.take L.length ++ pref (first + L.length) (L.drop L.length)) : pref first L = L.take L.length := by
  rw [he, List.drop_length, pref, List.append_nil]
end Go.Proofs.Ytkjnddgjnlbopaa.Frame
