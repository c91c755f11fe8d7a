import Derived.RangeFuncNested
import Derived.RangeFuncBound
import Derived.RangeFuncCalls
import Derived.RangeFuncLeaves
import Derived.RangeFuncBox
import Derived.Shelf.Abstract
import Derived.Shelf.RegionOpen
import Derived.WalkKit
import Derived.OwnWalkIn
import Derived.TacticsInMore
import Derived.LoopNIn
import Derived.LoopIn
import Derived.Test.YticfnfekkmkclaaGreatDoorMR
import Derived.BigFrameIn
import Derived.WalkSpells
import Derived.Deep.RegionHeld3
import Derived.ScopeJumps
import Derived.Test.YticfnfekkmkclaaGreatDoorMF
/-
  Ranges over a function that tells what it lays anew in each round: what the function promises, and a law for who ranges.
-/
namespace Go.Proofs.YticfnfekkmkclaaGreatDoor.Ranges
open Go Go.RowKit

/-- nothing that lay there turns but T's blocks -/
structure Grw (T : Nat → Prop) (w w' : World) : Prop where
  os : w'.os = w.os
  tape : w'.tape = w.tape
  output : w'.output = w.output
  size : w.heap.size ≤ w'.heap.size
  block : ∀ k, k < w.heap.size → ¬ T k → w'.heap[k]? = w.heap[k]?
theorem Grw.refl (T : Nat → Prop) (w : World) : Grw T w w := ⟨rfl, rfl, rfl, Nat.le_refl _, fun _ _ _ => rfl⟩
theorem Grw.trans {T : Nat → Prop} {a b c : World} (h : Grw T a b) (k : Grw T b c) : Grw T a c :=
  ⟨k.os.trans h.os, k.tape.trans h.tape, k.output.trans h.output, Nat.le_trans h.size k.size, fun r h1 h2 => (k.block r (Nat.lt_of_lt_of_le h1 h.size) h2).trans (h.block r h1 h2)⟩
theorem Grw.mono {T T' : Nat → Prop} {a b : World} (h : Grw T a b) (hT : ∀ r, T r → T' r) : Grw T' a b := ⟨h.os, h.tape, h.output, h.size, fun r h1 h2 => h.block r h1 (fun h3 => h2 (hT r h3))⟩
theorem grw_below {T : Nat → Prop} {w w' : World} (h : Below w.heap.size w w') : Grw T w w' := ⟨h.os, h.tape, h.output, h.size, fun k hk _ => h.block k hk⟩
theorem grw_grown {T : Nat → Prop} {w w' : World} {row : Option Nat} (h : w.grownBy w' row) (hr : ∀ r, row = some r → T r) : Grw T w w' := ⟨h.os, h.tape, h.output, h.size, fun k hk hT => h.block k hk (fun e => hT (hr k e.symm))⟩
theorem Grw.below {T : Nat → Prop} {n : Nat} {w0 w w' : World} (h : Below n w0 w) (g : Grw T w w') (hn : n ≤ w0.heap.size) (hT : ∀ r, T r → n ≤ r) : Below n w0 w' :=
  ⟨g.os.trans h.os, g.tape.trans h.tape, g.output.trans h.output, Nat.le_trans h.size g.size, fun k hk => (g.block k (Nat.lt_of_lt_of_le hk (Nat.le_trans hn h.size)) (fun h3 => absurd (hT k h3) (by omega))).trans (h.block k hk)⟩

/-- it goes on to hold where blocks are laid, and where T's turn -/
def Stays (T : Nat → Prop) (X : World → Prop) : Prop := ∀ W W', X W → Grw T W W' → X W'
theorem Stays.put {T : Nat → Prop} {X : World → Prop} (h : Stays T X) {W : World} (hs : X W) {l : Nat} (hT : T l) (o' : Obj) : X (W.putObj l o') :=
  h W _ hs (grw_grown (grownBy_putObj' W l o') (fun r e => by cases e; exact hT))
theorem Stays.below {T : Nat → Prop} {X : World → Prop} (h : Stays T X) {W W' : World} (hs : X W) (hb : Below W.heap.size W W') : X W' := h W W' hs (grw_below hb)
theorem Stays.and {T : Nat → Prop} {X Y : World → Prop} (h : Stays T X) (k : Stays T Y) : Stays T (fun W => X W ∧ Y W) := fun W W' hs hg => ⟨h W W' hs.1 hg, k W W' hs.2 hg⟩
theorem stays_pure (T : Nat → Prop) (p : Prop) : Stays T (fun _ => p) := fun _ _ hs _ => hs
theorem stays_obj {T : Nat → Prop} {c : Nat} (hc : ¬ T c) (o : Obj) : Stays T (fun W => W.heap[c]? = some o) := fun W W' hs hg =>
  (hg.block c (Array.getElem?_eq_some_iff.1 hs).1 hc).trans hs
theorem stays_boxed {T : Nat → Prop} {c : Nat} (hc : ¬ T c) (t : TypeId) (v : Value) : Stays T (fun W => Boxed W c t v) := stays_obj hc _
theorem stays_below {T : Nat → Prop} {n : Nat} {w : World} (hn : n ≤ w.heap.size) (hT : ∀ r, T r → n ≤ r) : Stays T (fun W => Below n w W) := fun _ _ hs hg => hg.below hs hn hT
theorem Stays.mono {T T' : Nat → Prop} {X : World → Prop} (h : Stays T X) (hT : ∀ r, T' r → T r) : Stays T' X := fun W W' hs hg => h W W' hs (hg.mono hT)

/-- what a round keeps below hi: all but the ranger's own blocks, which are those from o on, below m, and the loop's, from c on, below B -/
structure Kp (o m c B hi : Nat) (W W' : World) : Prop where
  size : W.heap.size ≤ W'.heap.size
  same : ∀ r, r < hi → (r < o ∨ (m ≤ r ∧ r < c) ∨ B ≤ r) → W'.heap[r]? = W.heap[r]?
  os : W'.os = W.os
  tape : W'.tape = W.tape
  output : W'.output = W.output
theorem Kp.refl (o m c B hi : Nat) (W : World) : Kp o m c B hi W W := ⟨Nat.le_refl _, fun _ _ _ => rfl, rfl, rfl, rfl⟩
theorem Kp.trans {o m c B hi : Nat} {X Y Z : World} (h : Kp o m c B hi X Y) (k : Kp o m c B hi Y Z) : Kp o m c B hi X Z := ⟨Nat.le_trans h.size k.size, fun r h1 h2 => (k.same r h1 h2).trans (h.same r h1 h2), k.os.trans h.os, k.tape.trans h.tape, k.output.trans h.output⟩
theorem Kp.grown {o m c B hi : Nat} {W W' : World} {row : Option Nat} (hg : W.grownBy W' row) (hh : hi ≤ W.heap.size) (hrow : ∀ r, row = some r → hi ≤ r ∨ (o ≤ r ∧ r < m ∧ m ≤ c ∧ c ≤ B)) : Kp o m c B hi W W' :=
  ⟨hg.size, fun r h1 h2 => hg.block r (by omega) (fun e => by rcases hrow r e.symm with h | ⟨h3, h4, h5, h6⟩ <;> omega), hg.os, hg.tape, hg.output⟩
theorem Kp.below {o m c B hi : Nat} {W W' : World} (hb : Below W.heap.size W W') (hh : hi ≤ W.heap.size) : Kp o m c B hi W W' := ⟨hb.size, fun r h1 _ => hb.block r (by omega), hb.os, hb.tape, hb.output⟩
theorem Kp.set {o m c B hi q : Nat} {W : World} (hh : hi ≤ W.heap.size) (h1 : o ≤ q) (h2 : q < m) (h3 : m ≤ c) (h4 : c ≤ B) (v : Value) : Kp o m c B hi W (W.setCell ⟨q, 0, none⟩ v) :=
  .grown (grownBy_setCell' W q v) hh (fun r e => by cases e; exact .inr ⟨h1, h2, h3, h4⟩)

/-- **what a function that is ranged over promises**, the loop begun in the world w: it hands over N times, in their row, what Rel says (of the world then, and of how many blocks there were when the round began); it turns only what it lays ahead of the first round -/
def Seq (P : Program) (gf : FuncId) (lb : Array Value) (Rel : Nat → Nat → Array Value → World → Prop) (N o m : Nat) (w : World) : Prop :=
  ∀ (l : Nat) (J : Nat → Nat → World → Prop) (Jx : Nat → World → Prop) (W : World),
    Below w.heap.size w W → W.heap.size = w.heap.size + 2 →
    (∀ hi i, W.heap.size ≤ hi → Stays (fun r => W.heap.size ≤ r ∧ r < hi) (J hi i)) → (∀ hi, W.heap.size ≤ hi → Stays (fun r => W.heap.size ≤ r ∧ r < hi) (Jx hi)) →
    (∀ hi i args W0 W1, W.heap.size ≤ hi → hi ≤ W0.heap.size → i < N → J hi i W0 → Grw (fun r => W.heap.size ≤ r ∧ r < hi) W0 W1 → Rel i W0.heap.size args W1 → YieldAt Fence.wide 0 P l args W1 fun e W' =>
      (e = .returned (.bool true) ∧ J hi (i + 1) W' ∧ Kp o m w.heap.size W.heap.size hi W1 W') ∨ (e = .returned (.bool false) ∧ Jx hi W' ∧ Kp o m w.heap.size W.heap.size hi W1 W')) →
    (∀ W', Below W.heap.size W W' → J W'.heap.size 0 W') →
    CallsIn Fence.wide 0 P gf (#[.func (.yield l) #[] #[]] ++ lb) W fun e W' => (∃ v, e = .returned v) ∧ ∃ hi, W.heap.size ≤ hi ∧ hi ≤ W'.heap.size ∧ (J hi N W' ∨ Jx hi W')

/-- how a round's body may be left -/
def roundP (o m B hi : Nat) (I : World → Prop) (Ix : Code → World → Prop) (W : World) : Exit → Act → World → Prop
  | .normal, _, W' => Kp o m B B hi W W' ∧ I W'
  | .ret, _, W' => Kp o m B B hi W W' ∧ Ix .ret W'
  | .exit id, _, W' => Kp o m B B hi W W' ∧ Ix (.exit id) W'
  | .goto t, _, W' => Kp o m B B hi W W' ∧ Ix (.goto t) W'
  | .panic _, _, _ => False
  | .outgrown, _, _ => False

theorem ranged {P : Program} {g : Operand} {ps : Array Tmp} {assign body : Code} {Q : Exit → Act → World → Prop} {a : Act} {w : World} {gf : FuncId} {lb : Array Value} {Rel : Nat → Nat → Array Value → World → Prop} {N o m : Nat}
    (hg : a.eval g = .func (.func gf) #[] lb) (eg : ∀ args w, (callFunc gf args).run P w = .ok (.enter gf args) w) (ho : o ≤ w.heap.size) (hmm : m ≤ w.heap.size) (hps : ∀ i s args W, Rel i s args W → args.size = ps.size) (hseq : Seq P gf lb Rel N o m w)
    (I : Nat → Nat → World → Prop) (Ix : Code → Nat → World → Prop) (M : Nat → Nat → Act → World → Prop)
    (hI : ∀ hi i, w.heap.size + 2 ≤ hi → Stays (fun r => w.heap.size ≤ r ∧ r < hi) (I hi i)) (hIx : ∀ c hi, w.heap.size + 2 ≤ hi → Stays (fun r => w.heap.size ≤ r ∧ r < hi) (Ix c hi))
    (hM : ∀ hi i a', w.heap.size + 2 ≤ hi → Stays (fun r => w.heap.size ≤ r ∧ r < hi) (M hi i a'))
    (h0 : ∀ W', Below w.heap.size w W' → w.heap.size + 2 ≤ W'.heap.size → I W'.heap.size 0 W')
    (hassign : ∀ (l hi i : Nat) (args : Array Value) (W0 W : World) (K : Act → World → Prop), w.heap.size + 2 ≤ hi → hi ≤ W0.heap.size → i < N → I hi i W0 → Grw (fun r => w.heap.size ≤ r ∧ r < hi) W0 W → Rel i W0.heap.size args W →
      (∀ a' W', M hi i a' W' → Kp o m w.heap.size w.heap.size hi W W' → K a' W') →
      assign.wpIn (Fence.wide.inRound l) 0 P (Exit.then K (fun _ _ _ => False)) { tmps := (ps.zip args).foldl (fun t (p, v) => t.setIfInBounds p v) a.tmps, defers := [] } W)
    (hbody : ∀ (l hi i : Nat) (a' : Act) (W : World), w.heap.size + 2 ≤ hi → hi ≤ W.heap.size → i < N → M hi i a' W → body.wpIn (Fence.wide.inRound l) 0 P (roundP o m w.heap.size hi (I hi (i + 1)) (fun c => Ix c hi) W) a' W)
    (hdone : ∀ (hi : Nat) (W : World), w.heap.size + 2 ≤ hi → hi ≤ W.heap.size → I hi N W → W.heap[w.heap.size]? = some (.deferred (some [])) → Q .normal { a with defers := { target := .collected w.heap.size, args := #[] } :: a.defers } W)
    (hstop : ∀ (hi : Nat) (c : Code) (W : World), w.heap.size + 2 ≤ hi → hi ≤ W.heap.size → Ix c hi W → W.heap[w.heap.size]? = some (.deferred (some [])) → c.wpIn Fence.wide 0 P Q { a with defers := { target := .collected w.heap.size, args := #[] } :: a.defers } W) :
    (Code.rangeFunc g ps assign body).wpIn Fence.wide 0 P Q a w := by
  refine wpIn_rangeFunc ?_
  intro fn hfn
  obtain ⟨B, hB⟩ : ∃ B, w.heap.size = B := ⟨_, rfl⟩
  obtain ⟨rec, hrec⟩ : ∃ rec : LoopState → Option Code → Loop, rec = fun st pe => { state := st, pending := pe, fn, tmps := a.tmps, params := ps, assign, body, defers := B } := ⟨_, rfl⟩
  obtain ⟨W1, hW1⟩ : ∃ W1, (w.alloc (.deferred (some []))).alloc (.loop (rec .ready none)) = W1 := ⟨_, rfl⟩
  have hs1 : W1.heap.size = B + 2 := by rw [← hW1, ← hB]; simp
  have hL1 : W1.heap[B + 1]? = some (.loop (rec .ready none)) := by
    have := World.alloc_heap_new (w.alloc (.deferred (some []))) (.loop (rec .ready none))
    rw [World.size_alloc, hB, hW1] at this; exact this
  have hK1 : W1.heap[B]? = some (.deferred (some [])) := by
    rw [← hW1, ← hB]; exact (Below.heap_alloc _ _ _ (by simp)).trans (World.alloc_heap_new w _)
  have hb1 : Below B w W1 := by
    rw [← hW1]; exact ((Below.refl _ w).alloc (by omega) _).alloc (by simp; omega) _
  rw [hB] at ho hmm hI hIx hM h0 hassign hbody hdone hstop
  refine ⟨B + 1, [{ target := .collected B, args := #[] }], W1, { target := .fn (.func gf) lb, args := #[.func (.yield (B + 1)) #[] #[]] }, W1, gf,
    #[.func (.yield (B + 1)) #[] #[]] ++ lb, W1, ?_, ?_, ?_, ?_, fun h => by simp [Fence.wide] at h, ?_⟩
  · rw [← hW1, hrec, ← hB]; exact run_enterLoop_outer _ _ _ _ _
  · simp only [resolve, hg]
    simp [go_sem]
  · intro f' _; trivial
  · simp [invoke, go_sem, eg]
  · have lT : ∀ {hi : Nat}, B + 2 ≤ hi → (B ≤ B + 1 ∧ B + 1 < hi) := fun h => ⟨by omega, by omega⟩
    have nB : ∀ (hi r : Nat), (W1.heap.size ≤ r ∧ r < hi) → ¬ r = B ∧ ¬ r = B + 1 := fun hi r h => by rw [hs1] at h; omega
    have tT : ∀ (hi r : Nat), (W1.heap.size ≤ r ∧ r < hi) → (B ≤ r ∧ r < hi) := fun hi r h => by rw [hs1] at h; omega
    refine (hseq (B + 1)
      (fun hi i W => I hi i W ∧ W.heap[B + 1]? = some (.loop (rec .ready none)) ∧ W.heap[B]? = some (.deferred (some [])))
      (fun hi W => ∃ c, Ix c hi W ∧ W.heap[B + 1]? = some (.loop (rec .done (some c))) ∧ W.heap[B]? = some (.deferred (some [])))
      W1 (by rw [hB]; exact hb1) (by omega)
      (fun hi i hh => ((hI hi i (by omega)).mono (tT hi)).and ((stays_obj (fun h => (nB hi _ h).2 rfl) _).and (stays_obj (fun h => (nB hi _ h).1 rfl) _)))
      (fun hi hh W W' hs hg' => by
        obtain ⟨c, hc, hl, hk⟩ := hs
        exact ⟨c, (hIx c hi (by omega)).mono (tT hi) W W' hc hg', stays_obj (fun h => (nB hi _ h).2 rfl) _ W W' hl hg', stays_obj (fun h => (nB hi _ h).1 rfl) _ W W' hk hg'⟩)
      ?_ (fun W' hbW => ⟨h0 W' (hb1.trans (hbW.mono (by omega))) (by have := hbW.size; omega), (hbW.block _ (by omega)).trans hL1, (hbW.block _ (by omega)).trans hK1⟩)).mono ?_
    · -- one round
      rintro hi i args W0 W hhi hhW hi' ⟨hI1, hl0, hk0⟩ hgrw hrel
      have hl := stays_obj (fun h => (nB hi _ h).2 rfl) _ W0 W hl0 hgrw
      have hk := stays_obj (fun h => (nB hi _ h).1 rfl) _ W0 W hk0 hgrw
      have hhW2 : hi ≤ W.heap.size := Nat.le_trans hhW hgrw.size
      replace hgrw := hgrw.mono (tT hi)
      rw [hs1, hB] at *
      have hlt : B + 1 < W.heap.size := (Array.getElem?_eq_some_iff.1 hl).1
      have hy := run_yield (P := P) (args := args) hl (by rw [hrec]; exact hps i _ args W hrel)
      rw [hrec] at hy
      refine ⟨fn, _, assign, body, hy, roundIn_of_wpIn hfn (hassign _ hi i args W0 W _ hhi hhW hi' hI1 hgrw hrel (fun a' W2 hm2 hkp2 => ?_))⟩
      have hla := (hkp2.same (B + 1) (by omega) (by omega)).trans hl
      have hka := (hkp2.same B (by omega) (by omega)).trans hk
      have hhW3 : hi ≤ W2.heap.size := Nat.le_trans hhW2 hkp2.size
      have hlt2 : B + 1 < W2.heap.size := (Array.getElem?_eq_some_iff.1 hla).1
      refine ⟨_, run_beginRound hla (by rw [hrec]), ?_⟩
      have hl2 : (W2.putObj (B + 1) (.loop { rec .ready none with state := .busy })).heap[B + 1]? = some (.loop { rec .ready none with state := .busy }) := World.putObj_heap_same hlt2
      have hk2 : (W2.putObj (B + 1) (.loop { rec .ready none with state := .busy })).heap[B]? = some (.deferred (some [])) := (World.putObj_heap_other (by omega)).trans hka
      refine wpIn_mono (hbody _ hi i a' _ hhi (by simp; exact hhW3) hi' ((hM hi i a' hhi).put hm2 (lT hhi) _)) ?_
      have fin : ∀ (jump : Option Code) (W3 : World), Kp o m B B hi (W2.putObj (B + 1) (.loop { rec .ready none with state := .busy })) W3 →
          (Instr.endRound (B + 1) jump).run P W3 = .ok (.bool jump.isNone) (W3.putObj (B + 1) (.loop (rec (if jump.isNone then .ready else .done) jump))) ∧
          (W3.putObj (B + 1) (.loop (rec (if jump.isNone then .ready else .done) jump))).heap[B + 1]? = some (.loop (rec (if jump.isNone then .ready else .done) jump)) ∧
          (W3.putObj (B + 1) (.loop (rec (if jump.isNone then .ready else .done) jump))).heap[B]? = some (.deferred (some [])) ∧
          Kp o m B (B + 2) hi W (W3.putObj (B + 1) (.loop (rec (if jump.isNone then .ready else .done) jump))) := fun jump W3 hk3 => by
        have hl3 := (hk3.same (B + 1) (by omega) (by omega)).trans hl2
        have hk4 := (hk3.same B (by omega) (by omega)).trans hk2
        have := run_endRound (P := P) jump hl3
        rw [hrec] at this ⊢
        have g1 := grownBy_putObj' W2 (B + 1) (.loop { rec .ready none with state := .busy })
        have g2 := grownBy_putObj' W3 (B + 1) (.loop (rec (if jump.isNone then .ready else .done) jump))
        rw [hrec] at g1 g2
        rw [hrec] at hk3
        refine ⟨this, World.putObj_heap_same (Array.getElem?_eq_some_iff.1 hl3).1, (World.putObj_heap_other (by omega)).trans hk4, ?_, ?_, ?_, ?_, ?_⟩
        · have := hk3.size; have := hkp2.size; simp at *; omega
        · intro r h1 h2
          have hne : r ≠ B + 1 := by omega
          exact (World.putObj_heap_other hne).trans ((hk3.same r h1 (by omega)).trans ((World.putObj_heap_other hne).trans (hkp2.same r h1 (by omega))))
        · exact g2.os.trans (hk3.os.trans (g1.os.trans hkp2.os))
        · exact g2.tape.trans (hk3.tape.trans (g1.tape.trans hkp2.tape))
        · exact g2.output.trans (hk3.output.trans (g1.output.trans hkp2.output))
      rintro e a3 W3 hp
      cases e with
      | normal =>
        obtain ⟨hk3, hi3⟩ := hp
        obtain ⟨hr, hl4, hk4, hkk⟩ := fin none W3 hk3
        exact ⟨_, _, hr, .inl ⟨rfl, ⟨(hI hi _ hhi).put hi3 (lT hhi) _, hl4, hk4⟩, hkk⟩⟩
      | ret =>
        obtain ⟨hk3, hi3⟩ := hp
        obtain ⟨hr, hl4, hk4, hkk⟩ := fin (some .ret) W3 hk3
        exact ⟨_, _, hr, .inr ⟨rfl, ⟨.ret, (hIx _ hi hhi).put hi3 (lT hhi) _, hl4, hk4⟩, hkk⟩⟩
      | exit id =>
        obtain ⟨hk3, hi3⟩ := hp
        obtain ⟨hr, hl4, hk4, hkk⟩ := fin (some (.exit id)) W3 hk3
        exact ⟨_, _, hr, .inr ⟨rfl, ⟨.exit id, (hIx _ hi hhi).put hi3 (lT hhi) _, hl4, hk4⟩, hkk⟩⟩
      | goto t =>
        obtain ⟨hk3, hi3⟩ := hp
        obtain ⟨hr, hl4, hk4, hkk⟩ := fin (some (.goto t)) W3 hk3
        exact ⟨_, _, hr, .inr ⟨rfl, ⟨.goto t, (hIx _ hi hhi).put hi3 (lT hhi) _, hl4, hk4⟩, hkk⟩⟩
      | panic ch => exact hp.elim
      | outgrown => exact hp.elim
    · -- behind the function
      rintro e W2 ⟨⟨v, rfl⟩, hi, hh1, hh2, (⟨hi1, hl, hk⟩ | ⟨c, hi1, hl, hk⟩)⟩
      · rw [hs1] at hh1
        exact ⟨none, _, by have := run_endLoop (P := P) hl (by rw [hrec]; simp); rw [hrec] at this; exact this, hdone hi _ hh1 (by simp; exact hh2) ((hI hi N hh1).put hi1 (lT hh1) _) ((World.putObj_heap_other (by omega)).trans hk)⟩
      · rw [hs1] at hh1
        exact ⟨some c, _, by have := run_endLoop (P := P) hl (by rw [hrec]; simp); rw [hrec] at this; exact this, hstop hi c _ hh1 (by simp; exact hh2) ((hIx c hi hh1).put hi1 (lT hh1) _) ((World.putObj_heap_other (by omega)).trans hk)⟩

end Go.Proofs.YticfnfekkmkclaaGreatDoor.Ranges

/-
  Manifests: segments handed over from the last one on.
-/
namespace Go.Proofs.YticfnfekkmkclaaGreatDoor.Manif
open Go Go.RowKit
open Go.Proofs.YticfnfekkmkclaaGreatDoor.Wire (S S_list S_size cell_row frozen_row row_lt heap_set heap_far)
open Go.Proofs.YticfnfekkmkclaaGreatDoor.Ranges
attribute [local go_sem] Oper.semAt_some

theorem RowE.same {w w' : World} {A : Option Addr} {l : List (Int × Int)} (h : RowE w A l) (hs : ∀ a, A = some a → w'.heap[a.block]? = w.heap[a.block]? ∧ a.block < w'.heap.size) : RowE w' A l := fun k hk => by
  obtain ⟨b, o, e, h1, h2, h3⟩ := h k hk
  obtain ⟨s1, s2⟩ := hs _ e
  exact ⟨b, o, e, s2, (World.cell?_of_block (show w'.heap[(⟨b, o + k * 2, none⟩ : Addr).block]? = w.heap[(⟨b, o + k * 2, none⟩ : Addr).block]? from s1)).trans h2, (World.cell?_of_block (show w'.heap[(⟨b, o + k * 2 + 1, none⟩ : Addr).block]? = w.heap[(⟨b, o + k * 2 + 1, none⟩ : Addr).block]? from s1)).trans h3⟩
/-- what is handed over -/
def RelB (l : List (Int × Int)) (i _sz : Nat) (args : Array Value) (_W : World) : Prop :=
  ∃ (k : Nat) (h : k < l.length), k + i + 1 = l.length ∧ args = #[.int .i64 (k : Int), .agg #[.int .i64 (l[k]).1, .int .i64 (l[k]).2]]
set_option maxRecDepth 100000 in
set_option maxHeartbeats 2000000 in
/-- **slices.Backward** of segments: what it hands over -/
theorem back_seq (o m b : Nat) (A : Option Addr) (cap : Nat) (l : List (Int × Int)) (hl : l.length ≤ maxLen) (w : World) (hS : Boxed w b 23 (.slice A l.length cap)) (hx : RowE w A l) (hA : ∀ a, A = some a → a.block < o ∨ m ≤ a.block) (hm : m ≤ b) :
    Seq Tryz.prog 122 #[.pointer (some ⟨b, 0, none⟩)] (RelB l) l.length o m w := by
  intro lo J Jx W hW hsz hJ hJx hY h0
  have hbw := hS.lt
  have hS0 : Boxed W b 23 (.slice A l.length cap) := (hW.block b hbw).trans hS
  have HBO := Lib.hid hS0
  have HRO := Lib.hid (hx.below hW)
  have HRW := Lib.hid hx
  have hc0 := hS0.cell
  have HBL := Lib.hid hbw
  have HSZ := Lib.hid hsz
  have HMB := Lib.hid hm
  have HAK := Lib.hid hA
  have HY := Lib.hid hY
  have HJ0 := Lib.hid (h0 W (Below.refl _ _))
  have HN0 : Hid (wrap64 ((l.length : Int) - 1) = (l.length : Int) - 1) := Lib.hid (IntWalk.wrap64_in _ ⟨by omega, by unfold maxLen at hl; omega⟩)
  have HL := Lib.hid hl
  clear hS hS0 hW hJ hJx hY h0 hbw hsz hm hx hA hl
  refine callsIn_of_wp Tryz.func122 rfl trivial ?_ rfl
  simp only [Tryz.ntmps122, List.size_toArray, List.length_cons, List.length_nil, Nat.reduceAdd, Nat.reduceSub, Array.replicate_succ, Array.replicate_zero, List.push_toArray, List.append_toArray, List.nil_append, List.cons_append]
  generalize hhi : W.heap.size = hi at *
  have HHW := Lib.hid (show hi ≤ W.heap.size by omega)
  clear hhi
  gi_wp2
  gi_loopw [3] (fun y wr => ∃ (r i : Nat) (z : Int), y = .int .i64 z ∧ Hid (z = (r : Int) - 1 ∧ r + i = l.length) ∧ Hid (J hi i wr) ∧ Hid (hi ≤ wr.heap.size) ∧ Hid (Boxed wr b 23 (.slice A l.length cap)) ∧ Hid (RowE wr A l)) (fun y _ => (intOf y + 1).toNat)
  case atStart => exact ⟨l.length, 0, _, rfl, Lib.hid ⟨HN0.out, rfl⟩, HJ0, HHW, HBO, HRO⟩
  case round =>
    clear HJ0 HHW HBO HRO hc0
    obtain ⟨r, i, z, rfl, HZ, HJ2, HW2, HB2, HR2⟩ := hrel
    obtain ⟨hz, hri⟩ := HZ.out
    by_cases hr : r = 0
    · have e1 : decide (z ≥ 0) = false := decide_eq_false (by omega)
      have e2 : decide (0 ≤ z) = false := decide_eq_false (by omega)
      have hil : i = l.length := by omega
      clear HZ hz hri hr
      gi_wp2
      go_end0
      exact ⟨⟨_, rfl⟩, hi, Nat.le_refl _, HW2.out, .inl (by rw [← hil]; exact HJ2.out)⟩
    · obtain ⟨k, rfl⟩ : ∃ k, r = k + 1 := ⟨r - 1, by omega⟩
      obtain rfl : z = (k : Int) := by omega
      have hk : k < l.length := by omega
      have e1 : decide ((k : Int) ≥ 0) = true := decide_eq_true (by omega)
      have e2 : decide (0 ≤ (k : Int)) = true := decide_eq_true (by omega)
      have c0 := HB2.out.cell
      obtain ⟨B, off, rfl, hbb, d0, d1⟩ := HR2.out k hk
      have HRL := Lib.hid (show RelB l i wr.heap.size #[.int .i64 (k : Int), .agg #[.int .i64 (l[k]).1, .int .i64 (l[k]).2]] wr from ⟨k, hk, by omega, rfl⟩)
      obtain ⟨fn, tmps, assign, body, hy, hR⟩ := HY.out hi i #[.int .i64 (k : Int), .agg #[.int .i64 (l[k]).1, .int .i64 (l[k]).2]] wr wr (Nat.le_refl _) HW2.out (by omega) HJ2.out (Grw.refl _ _) HRL.out
      have HK := Lib.hid hk
      have HRI := Lib.hid hri
      have HW1 := Lib.hid (show wrap64 ((k : Int) - 1) = (k : Int) - 1 from IntWalk.wrap64_in _ ⟨by omega, by have := HL.out; unfold maxLen at this; omega⟩)
      generalize (l[k]'hk).1 = x at *
      generalize (l[k]'hk).2 = y at *
      clear HZ hz hri hr hk hbb
      gi_wp2
      refine ⟨rfl, hR.mono ?_⟩
      clear hy hR c0 d0 d1 e1 e2
      rintro ev W5 (⟨rfl, hj, hkp⟩ | ⟨rfl, hjx, hkp⟩)
      · have HJ5 := Lib.hid hj
        have HW5 := Lib.hid (Nat.le_trans HW2.out hkp.size)
        have HB5 := Lib.hid (show Boxed W5 b 23 (.slice (some ⟨B, off, none⟩) l.length cap) from (hkp.same b (by have := HBL.out; have := HSZ.out; omega) (by have := HBL.out; have := HMB.out; omega)).trans HB2.out)
        have HR5 := Lib.hid (HR2.out.same (w' := W5) (fun a ha => by
          obtain ⟨b2, o2, h1, h2, -⟩ := HRW.out k HK.out
          rw [h1] at ha
          injection ha with ha
          subst ha
          have h3 := HAK.out _ h1
          have h4 := HSZ.out
          exact ⟨hkp.same b2 (by omega) (by simp only at h3; omega), Nat.lt_of_lt_of_le h2 (by have := HW5.out; omega)⟩))
        have HZ5 := Lib.hid (show wrap64 ((k : Int) - 1) = (k : Int) - 1 ∧ k + (i + 1) = l.length from ⟨HW1.out, by have := HRI.out; omega⟩)
        clear hj hkp
        gi_wp2
        exact ⟨⟨k, i + 1, _, rfl, HZ5, HJ5, HW5, HB5, HR5⟩, by rw [HW1.out]; show ((k : Int) - 1 + 1).toNat < ((k : Int) + 1).toNat; omega⟩
      · have HW5 := Lib.hid (Nat.le_trans HW2.out hkp.size)
        clear hkp
        gi_wp2
        refine bodyPost_ret (results_none rfl _ _ _) rfl ?_
        exact ⟨⟨_, rfl⟩, hi, Nat.le_refl _, HW5.out, .inr hjx⟩
end Go.Proofs.YticfnfekkmkclaaGreatDoor.Manif

/-
  Manifests: Find.
-/
namespace Go.Proofs.YticfnfekkmkclaaGreatDoor.Manif
open Go Go.RowKit
open Go.Proofs.YticfnfekkmkclaaGreatDoor.Wire (S S_list S_size cell_row frozen_row row_lt heap_set heap_far)
open Go.Proofs.YticfnfekkmkclaaGreatDoor.Ranges
attribute [local go_sem] Oper.semAt_some

/-- the last one of so many segments that begins at a number at most -/
def fdN (l : List (Int × Int)) (q : Int) : Nat → Int
  | 0 => -1
  | n + 1 => if (l.getD n (0, 0)).2 ≤ q then (n : Int) else fdN l q n
def fdI (l : List (Int × Int)) (q : Int) : Int := fdN l q l.length
theorem boxed_grw {T : Nat → Prop} {w w' : World} {b : Nat} {t : TypeId} {v : Value} (h : Boxed w b t v) (g : Grw T w w') (hT : ¬ T b) : Boxed w' b t v := (g.block b h.lt hT).trans h
theorem backward_in (n : Nat) (A : Option Addr) (len cap : Nat) (w : World) :
    CallsIn Fence.wide n Tryz.prog 89 #[.slice A len cap] w fun e w' => e = .returned (.func (.func 122) #[] #[.pointer (some ⟨w.heap.size, 0, none⟩)]) ∧ w' = w.alloc (.cells #[.slice A len cap] 23) := by
  refine callsIn_of_wp Tryz.func89 rfl trivial ?_ rfl
  simp only [Tryz.ntmps89, List.size_toArray, List.length_cons, List.length_nil, Nat.reduceAdd, Nat.reduceSub, Array.replicate_succ, Array.replicate_zero, List.push_toArray, List.append_toArray, List.nil_append, List.cons_append]
  have hmf : ∀ (fn : Fn) (first cap : Array Value) (w : World), (Instr.makeFunc fn first cap).run Tryz.prog w = .ok (.func fn first cap) w := fun _ _ _ _ => rfl
  gi_wp2
  go_ret
  exact ⟨rfl, rfl⟩
/-- the act's slots -/
def acF (b : Nat) (g : Int) (A : Option Addr) (len cap : Nat) (q : Int) (t5 t6 t10 t11 : Value) : Array Value :=
  #[.agg #[.int .i64 g, .slice A len cap], .int .i64 q, .pointer (some ⟨b, 0, none⟩), .pointer (some ⟨b + 1, 0, none⟩), .pointer (some ⟨b + 1 + 1, 0, none⟩), t5, t6, .pointer (some ⟨b, 1, none⟩), .slice A len cap, .func (.func 122) #[] #[.pointer (some ⟨b + 3, 0, none⟩)], t10, t11, undef, undef, undef, undef, undef]
/-- what stands between two rounds -/
def FdI (w : World) (l : List (Int × Int)) (q : Int) (i : Nat) (Z : World) : Prop :=
  (∃ v, Boxed Z (w.heap.size + 2) 3 v) ∧ Boxed Z (w.heap.size + 1) 2 (.int .i64 q) ∧ Below w.heap.size w Z ∧ fdI l q = fdN l q (l.length - i)
def FdM (hi : Nat) (w : World) (g : Int) (A : Option Addr) (cap : Nat) (l : List (Int × Int)) (q : Int) (i : Nat) (a' : Act) (Z : World) : Prop :=
  (∃ v, Boxed Z (w.heap.size + 2) 3 v) ∧ Boxed Z (w.heap.size + 1) 2 (.int .i64 q) ∧ Below w.heap.size w Z ∧ fdI l q = fdN l q (l.length - i) ∧
    ∃ (k eb : Nat) (h : k < l.length), k + i + 1 = l.length ∧ w.heap.size + 3 ≤ eb ∧ hi ≤ eb ∧ Z.heap[eb]? = some (.cells #[.int .i64 (l[k]).1, .int .i64 (l[k]).2] 27 (0, 0)) ∧
      a' = { tmps := acF w.heap.size g A l.length cap q (.int .i64 (k : Int)) (.pointer (some ⟨eb, 0, none⟩)) (.int .i64 (k : Int)) (.agg #[.int .i64 (l[k]).1, .int .i64 (l[k]).2]), defers := [] }
def FdX (w : World) (l : List (Int × Int)) (q : Int) (c : Code) (Z : World) : Prop :=
  c = .ret ∧ Boxed Z (w.heap.size + 2) 3 (.int .i64 (fdI l q)) ∧ Below w.heap.size w Z
theorem FdI.grw {w : World} {l : List (Int × Int)} {q : Int} {i : Nat} {X X' : World} {T : Nat → Prop} (h : FdI w l q i X) (g : Grw T X X') (hT : ∀ r, T r → w.heap.size + 3 ≤ r) : FdI w l q i X' := by
  obtain ⟨⟨v, h1⟩, h2, h3, h4⟩ := h
  exact ⟨⟨v, boxed_grw h1 g (fun hh => by have := hT _ hh; omega)⟩, boxed_grw h2 g (fun hh => by have := hT _ hh; omega), g.below h3 (Nat.le_refl _) (fun r hr => by have := hT _ hr; omega), h4⟩
theorem FdX.grw {w : World} {l : List (Int × Int)} {q : Int} {c : Code} {X X' : World} {T : Nat → Prop} (h : FdX w l q c X) (g : Grw T X X') (hT : ∀ r, T r → w.heap.size + 3 ≤ r) : FdX w l q c X' := by
  obtain ⟨h0, h1, h3⟩ := h
  exact ⟨h0, boxed_grw h1 g (fun hh => by have := hT _ hh; omega), g.below h3 (Nat.le_refl _) (fun r hr => by have := hT _ hr; omega)⟩
set_option maxRecDepth 100000 in
set_option maxHeartbeats 2000000 in
theorem Find_in (w : World) (g : Int) (A : Option Addr) (cap : Nat) (l : List (Int × Int)) (hl : l.length ≤ maxLen) (hx : RowE w A l) (hA : ∀ a, A = some a → a.block < w.heap.size) (q : Int) :
    CallsIn Fence.wide 0 Tryz.prog 41 #[.agg #[.int .i64 g, .slice A l.length cap], .int .i64 q] w fun e w' => e = .returned (.int .i64 (fdI l q)) ∧ Below w.heap.size w w' := by
  obtain ⟨w2, hw2⟩ : ∃ w2, ((w.alloc (.cells #[.int .i64 g, .slice A l.length cap] 25)).alloc (.cells #[.int .i64 q] 2)).alloc (.cells #[.int .i64 0] 3) = w2 := ⟨_, rfl⟩
  have hz2 : w2.heap.size = w.heap.size + 3 := by rw [← hw2]; simp
  have hb2 : Below w.heap.size w w2 := by rw [← hw2]; exact (((Below.refl _ w).alloc (Nat.le_refl _) _).alloc (by simp) _).alloc (by simp; omega) _
  have hm2 : w2.heap[w.heap.size]? = some (.cells #[.int .i64 g, .slice A l.length cap] 25 (0, 0)) := by
    rw [← hw2]
    exact (Below.heap_alloc _ _ _ (by simp; omega)).trans ((Below.heap_alloc _ _ _ (by simp)).trans (heap_alloc_new w _))
  have bQ : Boxed w2 (w.heap.size + 1) 2 (.int .i64 q) := by
    rw [← hw2]; have := (Boxed.new (w.alloc (.cells #[.int .i64 g, .slice A l.length cap] 25)) 2 (.int .i64 q)).alloc (.cells #[.int .i64 0] 3); simpa using this
  have bR : Boxed w2 (w.heap.size + 2) 3 (.int .i64 0) := by
    rw [← hw2]; have := Boxed.new ((w.alloc (.cells #[.int .i64 g, .slice A l.length cap] 25)).alloc (.cells #[.int .i64 q] 2)) 3 (.int .i64 0); simpa using this
  have c1 : w2.cell? ⟨w.heap.size, 1, none⟩ = some (.slice A l.length cap) := cell_row hm2 1
  obtain ⟨W0, hW0⟩ : ∃ W0, w2.alloc (.cells #[.slice A l.length cap] 23) = W0 := ⟨_, rfl⟩
  have hz0 : W0.heap.size = w.heap.size + 4 := by rw [← hW0]; simp; omega
  have hb0 : Below w2.heap.size w2 W0 := by rw [← hW0]; exact (Below.refl _ _).alloc (Nat.le_refl _) _
  have bS : Boxed W0 (w.heap.size + 3) 23 (.slice A l.length cap) := by rw [← hW0, ← hz2]; exact Boxed.new _ _ _
  have HBS := Lib.hid bS
  have HX0 := Lib.hid ((hx.below hb2).below hb0)
  have HI0 := Lib.hid (show FdI w l q 0 W0 from ⟨⟨_, (hb0.block _ (by omega)).trans bR⟩, (hb0.block _ (by omega)).trans bQ, hb2.trans (hb0.mono (by omega)), rfl⟩)
  have HSZ := Lib.hid hz0
  have HA := Lib.hid hA
  have HL := Lib.hid hl
  have HZ2 := Lib.hid hz2
  clear hb2 hm2 bQ bR hz0 hb0 bS hx hA hl
  refine callsIn_of_wp_marks Tryz.func41 rfl trivial ?_ rfl
  simp only [Tryz.ntmps41, List.size_toArray, List.length_cons, List.length_nil, Nat.reduceAdd, Nat.reduceSub, Array.replicate_succ, Array.replicate_zero, List.push_toArray, List.append_toArray, List.nil_append, List.cons_append]
  gi_wp2_with (refine ⟨trivial, rfl, ?_⟩; gi_at_call 89; refine (backward_in 0 A l.length cap _).mono ?_; rintro ev3 w' ⟨rfl, rfl⟩)
  clear hW0 hw2 c1
  refine ranged (gf := 122) (lb := #[.pointer (some ⟨w.heap.size + 3, 0, none⟩)]) (N := l.length) (o := w.heap.size + 2) (m := w.heap.size + 3) ?hg (enters_of Tryz.func122 (by kernel_rfl) rfl) ?ho ?hmm ?ps
    (back_seq (w.heap.size + 2) (w.heap.size + 3) (w.heap.size + 3) A cap l HL.out W0 HBS.out HX0.out (fun a ha => Or.inl (by have := HA.out a ha; omega)) (Nat.le_refl _))
    (fun hi i X => FdI w l q i X) (fun c hi X => FdX w l q c X) (fun hi i a' X => FdM hi w g A cap l q i a' X) ?sI ?sX ?sM ?h0 ?assign ?body ?done ?stop
  case hg => rfl
  case ho => have := HSZ.out; omega
  case hmm => have := HSZ.out; omega
  case ps => rintro i sz args X ⟨k, hk, h1, rfl⟩; rfl
  case sI =>
    rintro hi i hh X X' h g
    exact h.grw g (fun r hr => by have := HSZ.out; omega)
  case sX =>
    rintro c hi hh X X' h g
    exact h.grw g (fun r hr => by have := HSZ.out; omega)
  case sM =>
    rintro hi i a' hh X X' ⟨⟨v, h1⟩, h2, h3, h4, k, eb, hk, hki, heb, heh, h5, rfl⟩ g
    have hz := HSZ.out
    exact ⟨⟨v, boxed_grw h1 g (fun hh => by omega)⟩, boxed_grw h2 g (fun hh => by omega), g.below h3 (Nat.le_refl _) (fun r hr => by omega), h4, k, eb, hk, hki, heb, heh, (g.block eb (row_lt h5) (fun hh => by omega)).trans h5, rfl⟩
  case h0 =>
    intro X hb hx
    exact HI0.out.grw (grw_below (T := fun _ => False) (hb.mono (Nat.le_refl _))) (fun _ h => h.elim)
  case assign =>
    rintro lo hi i args X0 X K hh1 hh2 hi' hI hgrw ⟨k, hk, hki, rfl⟩ hK
    have hz := HSZ.out
    have hI2 := hI.grw hgrw (fun r hr => by omega)
    have hge : hi ≤ X.heap.size := Nat.le_trans hh2 hgrw.size
    obtain ⟨⟨v, h1⟩, h2, h3, h4⟩ := hI2
    obtain ⟨X1, hX1⟩ : ∃ X1, X.alloc (.cells #[.int .i64 0, .int .i64 0] 27) = X1 := ⟨_, rfl⟩
    have ha1 : X1.heap[X.heap.size]? = some (.cells #[.int .i64 0, .int .i64 0] 27 (0, 0)) := by rw [← hX1]; exact heap_alloc_new X _
    have hb1 : Below X.heap.size X X1 := by rw [← hX1]; exact (Below.refl _ _).alloc (Nat.le_refl _) _
    have a5 := heap_set ha1 0 (.int .i64 (l[k]).1)
    have a6 := heap_set a5 1 (.int .i64 (l[k]).2)
    have hb3 := (hb1.setCell (p := ⟨X.heap.size, 0, none⟩) (Nat.le_refl _) (.int .i64 (l[k]).1)).setCell (p := ⟨X.heap.size, 1, none⟩) (Nat.le_refl _) (.int .i64 (l[k]).2)
    have b0 : X1.cell? ⟨X.heap.size, 0, none⟩ = some (.int .i64 0) := cell_row ha1 0
    have f0 := frozen_row ha1 0
    have b1 : (X1.setCell ⟨X.heap.size, 0, none⟩ (.int .i64 (l[k]).1)).cell? ⟨X.heap.size, 1, none⟩ = some (.int .i64 0) := cell_row a5 1
    have f1 := frozen_row a5 1
    have g3 := grw_below (T := fun _ => False) hb3
    have HFIN := Lib.hid (hK { tmps := acF w.heap.size g A l.length cap q (.int .i64 (k : Int)) (.pointer (some ⟨X.heap.size, 0, none⟩)) (.int .i64 (k : Int)) (.agg #[.int .i64 (l[k]).1, .int .i64 (l[k]).2]), defers := [] } _
      ⟨⟨v, boxed_grw h1 g3 (fun h => h)⟩, boxed_grw h2 g3 (fun h => h), g3.below h3 (Nat.le_refl _) (fun r hr => hr.elim), h4, k, X.heap.size, hk, hki, by omega, hge, a6, rfl⟩ (Kp.below hb3 hge))
    clear hK hI hgrw h1 h2 h3 h4 ha1 hb1 a5 a6 hb3 g3 hh1 hh2 hi' hge hz
    unfold acF at *
    gi_wp2
    exact HFIN.out
  case body =>
    rintro lo hi i a' X hh1 hh2 hi' ⟨⟨v, h1⟩, h2, h3, h4, k, eb, hk, hki, heb, heh, h5, rfl⟩
    have hz := HSZ.out
    have c1 : X.cell? ⟨eb, 1, none⟩ = some (.int .i64 (l[k]).2) := cell_row h5 1
    have cQ := h2.cell
    have hfd : fdI l q = if (l[k]).2 ≤ q then (k : Int) else fdN l q k := by
      rw [h4, show l.length - i = k + 1 by omega, fdN, List.getD_eq_getElem?_getD, List.getElem?_eq_getElem hk, Option.getD_some]
    simp only [acF]
    by_cases hq : (l[k]).2 ≤ q
    · rw [if_pos hq] at hfd
      have e1 : decide ((l[k]).2 ≤ q) = true := decide_eq_true hq
      have cE := h1.cell
      have fE := h1.frozen
      have HFIN := Lib.hid (show Kp (w.heap.size + 2) (w.heap.size + 3) W0.heap.size W0.heap.size hi X (X.setCell ⟨w.heap.size + 2, 0, none⟩ (.int .i64 (k : Int))) ∧ FdX w l q .ret (X.setCell ⟨w.heap.size + 2, 0, none⟩ (.int .i64 (k : Int))) from
        ⟨Kp.set hh2 (Nat.le_refl _) (by omega) (by omega) (Nat.le_refl _) _, rfl, by rw [hfd]; exact h1.set _, h3.setCell (p := ⟨w.heap.size + 2, 0, none⟩) (show w.heap.size ≤ w.heap.size + 2 by omega) _⟩)
      clear h1 h2 h3 h4 h5 hfd hq hki heb heh hh1 hh2 hi' hz
      gi_wp2
      exact HFIN.out
    · rw [if_neg hq] at hfd
      have e1 : decide ((l[k]).2 ≤ q) = false := decide_eq_false hq
      have HFIN := Lib.hid (show FdI w l q (i + 1) X from ⟨⟨v, h1⟩, h2, h3, by rw [hfd, show l.length - (i + 1) = k by omega]⟩)
      clear h1 h2 h3 h4 h5 hfd hq hki heb heh hh1 hh2 hi' hz
      gi_wp2
      exact ⟨Kp.refl _ _ _ _ _ _, HFIN.out⟩
  case done =>
    rintro hi X hh1 hh2 ⟨⟨v, h1⟩, h2, h3, h4⟩ hK
    rw [Nat.sub_self, fdN] at h4
    have cE := h1.cell
    have fE := h1.frozen
    have hz := HSZ.out
    have g5 : Grw (fun r => r = W0.heap.size) (X.setCell ⟨w.heap.size + 2, 0, none⟩ (.int .i64 (-1))) ((X.setCell ⟨w.heap.size + 2, 0, none⟩ (.int .i64 (-1))).putObj W0.heap.size (.deferred none)) := grw_grown (grownBy_putObj' _ W0.heap.size (.deferred none)) (fun r e => by injection e with e; exact e.symm)
    have k1 : (X.setCell ⟨w.heap.size + 2, 0, none⟩ (.int .i64 (-1))).heap[W0.heap.size]? = some (.deferred (some [])) := (heap_far 0 _ (by omega)).trans hK
    have HBL := Lib.hid (g5.below (h3.setCell (p := ⟨w.heap.size + 2, 0, none⟩) (show w.heap.size ≤ w.heap.size + 2 by omega) (.int .i64 (-1))) (Nat.le_refl _) (fun r hr => by omega))
    have HDC := Lib.hid (boxed_grw (h1.set (.int .i64 (-1))) g5 (by omega)).cell
    have HV := Lib.hid h4
    clear h1 h2 h3 h4 hK hh1 hh2 g5 hz
    gi_wp2
    refine ⟨by simp, .inl ⟨_, _, rfl, run_takeDeferred k1, ?_⟩⟩
    refine ⟨.int .i64 (-1), ?_, ⟨by rw [HV.out], HBL.out⟩⟩
    have hd := HDC.out
    simp [results, Tryz.results41, go_sem, hd]
  case stop =>
    rintro hi c X hh1 hh2 ⟨rfl, h1, h3⟩ hK
    have hz := HSZ.out
    have g5 : Grw (fun r => r = W0.heap.size) X (X.putObj W0.heap.size (.deferred none)) := grw_grown (grownBy_putObj' _ W0.heap.size (.deferred none)) (fun r e => by injection e with e; exact e.symm)
    have HBL := Lib.hid (g5.below h3 (Nat.le_refl _) (fun r hr => by omega))
    have HDC := Lib.hid (boxed_grw h1 g5 (by omega)).cell
    clear h1 h3 hh1 hh2 g5 hz
    gi_wp2
    refine ⟨by simp, .inl ⟨_, _, rfl, run_takeDeferred hK, ?_⟩⟩
    refine ⟨.int .i64 (fdI l q), ?_, ⟨rfl, HBL.out⟩⟩
    have hd := HDC.out
    simp [results, Tryz.results41, go_sem, hd]
/-- **Find** -/
theorem Find_any (w : World) (g : Int) (A : Option Addr) (cap : Nat) (l : List (Int × Int)) (hl : l.length ≤ maxLen) (hx : RowE w A l) (hA : ∀ a, A = some a → a.block < w.heap.size) (q : Int) :
    Calls Tryz.prog 41 #[.agg #[.int .i64 g, .slice A l.length cap], .int .i64 q] w fun e w' => e = .returned (.int .i64 (fdI l q)) ∧ Below w.heap.size w w' :=
  callsIn_wide.1 (Find_in w g A cap l hl hx hA q)
end Go.Proofs.YticfnfekkmkclaaGreatDoor.Manif
