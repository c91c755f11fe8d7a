/-
  Ranges over a function that tells what it lays anew in each round: what the function promises, and a law for who ranges.
-/
import Derived.RangeFuncNested
import Derived.RangeFuncBound
import Derived.RangeFuncCalls
import Derived.RangeFuncLeaves
import Derived.RangeFuncBox
import Derived.Shelf.Abstract
import Derived.Shelf.RegionOpen
import Derived.WalkKit
import Derived.OwnWalkIn
import Derived.TacticsInMore
import Derived.LoopNIn
import Derived.LoopIn
namespace Go.Proofs.Ythaafniahkejkaa.Ranges
open Go Go.RowKit

/-- nothing that lay there turns but T's blocks -/
structure Grw (T : Nat → Prop) (w w' : World) : Prop where
  os : w'.os = w.os
  tape : w'.tape = w.tape
  output : w'.output = w.output
  size : w.heap.size ≤ w'.heap.size
  block : ∀ k, k < w.heap.size → ¬ T k → w'.heap[k]? = w.heap[k]?
theorem Grw.refl (T : Nat → Prop) (w : World) : Grw T w w := ⟨rfl, rfl, rfl, Nat.le_refl _, fun _ _ _ => rfl⟩
theorem Grw.trans {T : Nat → Prop} {a b c : World} (h : Grw T a b) (k : Grw T b c) : Grw T a c :=
  ⟨k.os.trans h.os, k.tape.trans h.tape, k.output.trans h.output, Nat.le_trans h.size k.size, fun r h1 h2 => (k.block r (Nat.lt_of_lt_of_le h1 h.size) h2).trans (h.block r h1 h2)⟩
theorem Grw.mono {T T' : Nat → Prop} {a b : World} (h : Grw T a b) (hT : ∀ r, T r → T' r) : Grw T' a b := ⟨h.os, h.tape, h.output, h.size, fun r h1 h2 => h.block r h1 (fun h3 => h2 (hT r h3))⟩
theorem grw_below {T : Nat → Prop} {w w' : World} (h : Below w.heap.size w w') : Grw T w w' := ⟨h.os, h.tape, h.output, h.size, fun k hk _ => h.block k hk⟩
theorem grw_grown {T : Nat → Prop} {w w' : World} {row : Option Nat} (h : w.grownBy w' row) (hr : ∀ r, row = some r → T r) : Grw T w w' := ⟨h.os, h.tape, h.output, h.size, fun k hk hT => h.block k hk (fun e => hT (hr k e.symm))⟩
theorem Grw.below {T : Nat → Prop} {n : Nat} {w0 w w' : World} (h : Below n w0 w) (g : Grw T w w') (hn : n ≤ w0.heap.size) (hT : ∀ r, T r → n ≤ r) : Below n w0 w' :=
  ⟨g.os.trans h.os, g.tape.trans h.tape, g.output.trans h.output, Nat.le_trans h.size g.size, fun k hk => (g.block k (Nat.lt_of_lt_of_le hk (Nat.le_trans hn h.size)) (fun h3 => absurd (hT k h3) (by omega))).trans (h.block k hk)⟩

/-- it goes on to hold where blocks are laid, and where T's turn -/
def Stays (T : Nat → Prop) (X : World → Prop) : Prop := ∀ W W', X W → Grw T W W' → X W'
theorem Stays.put {T : Nat → Prop} {X : World → Prop} (h : Stays T X) {W : World} (hs : X W) {l : Nat} (hT : T l) (o' : Obj) : X (W.putObj l o') :=
  h W _ hs (grw_grown (grownBy_putObj' W l o') (fun r e => by cases e; exact hT))
theorem Stays.below {T : Nat → Prop} {X : World → Prop} (h : Stays T X) {W W' : World} (hs : X W) (hb : Below W.heap.size W W') : X W' := h W W' hs (grw_below hb)
theorem Stays.and {T : Nat → Prop} {X Y : World → Prop} (h : Stays T X) (k : Stays T Y) : Stays T (fun W => X W ∧ Y W) := fun W W' hs hg => ⟨h W W' hs.1 hg, k W W' hs.2 hg⟩
theorem stays_pure (T : Nat → Prop) (p : Prop) : Stays T (fun _ => p) := fun _ _ hs _ => hs
theorem stays_obj {T : Nat → Prop} {c : Nat} (hc : ¬ T c) (o : Obj) : Stays T (fun W => W.heap[c]? = some o) := fun W W' hs hg =>
  (hg.block c (Array.getElem?_eq_some_iff.1 hs).1 hc).trans hs
theorem stays_boxed {T : Nat → Prop} {c : Nat} (hc : ¬ T c) (t : TypeId) (v : Value) : Stays T (fun W => Boxed W c t v) := stays_obj hc _
theorem stays_below {T : Nat → Prop} {n : Nat} {w : World} (hn : n ≤ w.heap.size) (hT : ∀ r, T r → n ≤ r) : Stays T (fun W => Below n w W) := fun _ _ hs hg => hg.below hs hn hT
theorem Stays.mono {T T' : Nat → Prop} {X : World → Prop} (h : Stays T X) (hT : ∀ r, T' r → T r) : Stays T' X := fun W W' hs hg => h W W' hs (hg.mono hT)

/-- what a round keeps below hi: all but the ranger's own blocks, which are those from o on, below m, and the loop's, from c on, below B -/
structure Kp (o m c B hi : Nat) (W W' : World) : Prop where
  size : W.heap.size ≤ W'.heap.size
  same : ∀ r, r < hi → (r < o ∨ (m ≤ r ∧ r < c) ∨ B ≤ r) → W'.heap[r]? = W.heap[r]?
  os : W'.os = W.os
  tape : W'.tape = W.tape
  output : W'.output = W.output
theorem Kp.refl (o m c B hi : Nat) (W : World) : Kp o m c B hi W W := ⟨Nat.le_refl _, fun _ _ _ => rfl, rfl, rfl, rfl⟩
theorem Kp.trans {o m c B hi : Nat} {X Y Z : World} (h : Kp o m c B hi X Y) (k : Kp o m c B hi Y Z) : Kp o m c B hi X Z := ⟨Nat.le_trans h.size k.size, fun r h1 h2 => (k.same r h1 h2).trans (h.same r h1 h2), k.os.trans h.os, k.tape.trans h.tape, k.output.trans h.output⟩
theorem Kp.grown {o m c B hi : Nat} {W W' : World} {row : Option Nat} (hg : W.grownBy W' row) (hh : hi ≤ W.heap.size) (hrow : ∀ r, row = some r → hi ≤ r ∨ (o ≤ r ∧ r < m ∧ m ≤ c ∧ c ≤ B)) : Kp o m c B hi W W' :=
  ⟨hg.size, fun r h1 h2 => hg.block r (by omega) (fun e => by rcases hrow r e.symm with h | ⟨h3, h4, h5, h6⟩ <;> omega), hg.os, hg.tape, hg.output⟩
theorem Kp.below {o m c B hi : Nat} {W W' : World} (hb : Below W.heap.size W W') (hh : hi ≤ W.heap.size) : Kp o m c B hi W W' := ⟨hb.size, fun r h1 _ => hb.block r (by omega), hb.os, hb.tape, hb.output⟩
theorem Kp.set {o m c B hi q : Nat} {W : World} (hh : hi ≤ W.heap.size) (h1 : o ≤ q) (h2 : q < m) (h3 : m ≤ c) (h4 : c ≤ B) (v : Value) : Kp o m c B hi W (W.setCell ⟨q, 0, none⟩ v) :=
  .grown (grownBy_setCell' W q v) hh (fun r e => by cases e; exact .inr ⟨h1, h2, h3, h4⟩)

/-- **what a function that is ranged over promises**, the loop begun in the world w: it hands over N times, in their row, what Rel says (of the world then, and of how many blocks there were when the round began); it turns only what it lays ahead of the first round -/
def Seq (P : Program) (gf : FuncId) (lb : Array Value) (Rel : Nat → Nat → Array Value → World → Prop) (N o m : Nat) (w : World) : Prop :=
  ∀ (l : Nat) (J : Nat → Nat → World → Prop) (Jx : Nat → World → Prop) (W : World),
    Below w.heap.size w W → W.heap.size = w.heap.size + 2 →
    (∀ hi i, W.heap.size ≤ hi → Stays (fun r => W.heap.size ≤ r ∧ r < hi) (J hi i)) → (∀ hi, W.heap.size ≤ hi → Stays (fun r => W.heap.size ≤ r ∧ r < hi) (Jx hi)) →
    (∀ hi i args W0 W1, W.heap.size ≤ hi → hi ≤ W0.heap.size → i < N → J hi i W0 → Grw (fun r => W.heap.size ≤ r ∧ r < hi) W0 W1 → Rel i W0.heap.size args W1 → YieldAt Fence.wide 0 P l args W1 fun e W' =>
      (e = .returned (.bool true) ∧ J hi (i + 1) W' ∧ Kp o m w.heap.size W.heap.size hi W1 W') ∨ (e = .returned (.bool false) ∧ Jx hi W' ∧ Kp o m w.heap.size W.heap.size hi W1 W')) →
    (∀ W', Below W.heap.size W W' → J W'.heap.size 0 W') →
    CallsIn Fence.wide 0 P gf (#[.func (.yield l) #[] #[]] ++ lb) W fun e W' => (∃ v, e = .returned v) ∧ ∃ hi, W.heap.size ≤ hi ∧ hi ≤ W'.heap.size ∧ (J hi N W' ∨ Jx hi W')

/-- how a round's body may be left -/
def roundP (o m B hi : Nat) (I : World → Prop) (Ix : Code → World → Prop) (W : World) : Exit → Act → World → Prop
  | .normal, _, W' => Kp o m B B hi W W' ∧ I W'
  | .ret, _, W' => Kp o m B B hi W W' ∧ Ix .ret W'
  | .exit id, _, W' => Kp o m B B hi W W' ∧ Ix (.exit id) W'
  | .goto t, _, W' => Kp o m B B hi W W' ∧ Ix (.goto t) W'
  | .panic _, _, _ => False
  | .outgrown, _, _ => False

theorem ranged {P : Program} {g : Operand} {ps : Array Tmp} {assign body : Code} {Q : Exit → Act → World → Prop} {a : Act} {w : World} {gf : FuncId} {lb : Array Value} {Rel : Nat → Nat → Array Value → World → Prop} {N o m : Nat}
    (hg : a.eval g = .func (.func gf) #[] lb) (eg : ∀ args w, (callFunc gf args).run P w = .ok (.enter gf args) w) (ho : o ≤ w.heap.size) (hmm : m ≤ w.heap.size) (hps : ∀ i s args W, Rel i s args W → args.size = ps.size) (hseq : Seq P gf lb Rel N o m w)
    (I : Nat → Nat → World → Prop) (Ix : Code → Nat → World → Prop) (M : Nat → Nat → Act → World → Prop)
    (hI : ∀ hi i, w.heap.size + 2 ≤ hi → Stays (fun r => w.heap.size ≤ r ∧ r < hi) (I hi i)) (hIx : ∀ c hi, w.heap.size + 2 ≤ hi → Stays (fun r => w.heap.size ≤ r ∧ r < hi) (Ix c hi))
    (hM : ∀ hi i a', w.heap.size + 2 ≤ hi → Stays (fun r => w.heap.size ≤ r ∧ r < hi) (M hi i a'))
    (h0 : ∀ W', Below w.heap.size w W' → w.heap.size + 2 ≤ W'.heap.size → I W'.heap.size 0 W')
    (hassign : ∀ (l hi i : Nat) (args : Array Value) (W0 W : World) (K : Act → World → Prop), w.heap.size + 2 ≤ hi → hi ≤ W0.heap.size → i < N → I hi i W0 → Grw (fun r => w.heap.size ≤ r ∧ r < hi) W0 W → Rel i W0.heap.size args W →
      (∀ a' W', M hi i a' W' → Kp o m w.heap.size w.heap.size hi W W' → K a' W') →
      assign.wpIn (Fence.wide.inRound l) 0 P (Exit.then K (fun _ _ _ => False)) { tmps := (ps.zip args).foldl (fun t (p, v) => t.setIfInBounds p v) a.tmps, defers := [] } W)
    (hbody : ∀ (l hi i : Nat) (a' : Act) (W : World), w.heap.size + 2 ≤ hi → hi ≤ W.heap.size → i < N → M hi i a' W → body.wpIn (Fence.wide.inRound l) 0 P (roundP o m w.heap.size hi (I hi (i + 1)) (fun c => Ix c hi) W) a' W)
    (hdone : ∀ (hi : Nat) (W : World), w.heap.size + 2 ≤ hi → hi ≤ W.heap.size → I hi N W → W.heap[w.heap.size]? = some (.deferred (some [])) → Q .normal { a with defers := { target := .collected w.heap.size, args := #[] } :: a.defers } W)
    (hstop : ∀ (hi : Nat) (c : Code) (W : World), w.heap.size + 2 ≤ hi → hi ≤ W.heap.size → Ix c hi W → W.heap[w.heap.size]? = some (.deferred (some [])) → c.wpIn Fence.wide 0 P Q { a with defers := { target := .collected w.heap.size, args := #[] } :: a.defers } W) :
    (Code.rangeFunc g ps assign body).wpIn Fence.wide 0 P Q a w := by
  refine wpIn_rangeFunc ?_
  intro fn hfn
  obtain ⟨B, hB⟩ : ∃ B, w.heap.size = B := ⟨_, rfl⟩
  obtain ⟨rec, hrec⟩ : ∃ rec : LoopState → Option Code → Loop, rec = fun st pe => { state := st, pending := pe, fn, tmps := a.tmps, params := ps, assign, body, defers := B } := ⟨_, rfl⟩
  obtain ⟨W1, hW1⟩ : ∃ W1, (w.alloc (.deferred (some []))).alloc (.loop (rec .ready none)) = W1 := ⟨_, rfl⟩
  have hs1 : W1.heap.size = B + 2 := by rw [← hW1, ← hB]; simp
  have hL1 : W1.heap[B + 1]? = some (.loop (rec .ready none)) := by
    have := World.alloc_heap_new (w.alloc (.deferred (some []))) (.loop (rec .ready none))
    rw [World.size_alloc, hB, hW1] at this; exact this
  have hK1 : W1.heap[B]? = some (.deferred (some [])) := by
    rw [← hW1, ← hB]; exact (Below.heap_alloc _ _ _ (by simp)).trans (World.alloc_heap_new w _)
  have hb1 : Below B w W1 := by
    rw [← hW1]; exact ((Below.refl _ w).alloc (by omega) _).alloc (by simp; omega) _
  rw [hB] at ho hmm hI hIx hM h0 hassign hbody hdone hstop
  refine ⟨B + 1, [{ target := .collected B, args := #[] }], W1, { target := .fn (.func gf) lb, args := #[.func (.yield (B + 1)) #[] #[]] }, W1, gf,
    #[.func (.yield (B + 1)) #[] #[]] ++ lb, W1, ?_, ?_, ?_, ?_, fun h => by simp [Fence.wide] at h, ?_⟩
  · rw [← hW1, hrec, ← hB]; exact run_enterLoop_outer _ _ _ _ _
  · simp only [resolve, hg]
    simp [go_sem]
  · intro f' _; trivial
  · simp [invoke, go_sem, eg]
  · have lT : ∀ {hi : Nat}, B + 2 ≤ hi → (B ≤ B + 1 ∧ B + 1 < hi) := fun h => ⟨by omega, by omega⟩
    have nB : ∀ (hi r : Nat), (W1.heap.size ≤ r ∧ r < hi) → ¬ r = B ∧ ¬ r = B + 1 := fun hi r h => by rw [hs1] at h; omega
    have tT : ∀ (hi r : Nat), (W1.heap.size ≤ r ∧ r < hi) → (B ≤ r ∧ r < hi) := fun hi r h => by rw [hs1] at h; omega
    refine (hseq (B + 1)
      (fun hi i W => I hi i W ∧ W.heap[B + 1]? = some (.loop (rec .ready none)) ∧ W.heap[B]? = some (.deferred (some [])))
      (fun hi W => ∃ c, Ix c hi W ∧ W.heap[B + 1]? = some (.loop (rec .done (some c))) ∧ W.heap[B]? = some (.deferred (some [])))
      W1 (by rw [hB]; exact hb1) (by omega)
      (fun hi i hh => ((hI hi i (by omega)).mono (tT hi)).and ((stays_obj (fun h => (nB hi _ h).2 rfl) _).and (stays_obj (fun h => (nB hi _ h).1 rfl) _)))
      (fun hi hh W W' hs hg' => by
        obtain ⟨c, hc, hl, hk⟩ := hs
        exact ⟨c, (hIx c hi (by omega)).mono (tT hi) W W' hc hg', stays_obj (fun h => (nB hi _ h).2 rfl) _ W W' hl hg', stays_obj (fun h => (nB hi _ h).1 rfl) _ W W' hk hg'⟩)
      ?_ (fun W' hbW => ⟨h0 W' (hb1.trans (hbW.mono (by omega))) (by have := hbW.size; omega), (hbW.block _ (by omega)).trans hL1, (hbW.block _ (by omega)).trans hK1⟩)).mono ?_
    · -- one round
      rintro hi i args W0 W hhi hhW hi' ⟨hI1, hl0, hk0⟩ hgrw hrel
      have hl := stays_obj (fun h => (nB hi _ h).2 rfl) _ W0 W hl0 hgrw
      have hk := stays_obj (fun h => (nB hi _ h).1 rfl) _ W0 W hk0 hgrw
      have hhW2 : hi ≤ W.heap.size := Nat.le_trans hhW hgrw.size
      replace hgrw := hgrw.mono (tT hi)
      rw [hs1, hB] at *
      have hlt : B + 1 < W.heap.size := (Array.getElem?_eq_some_iff.1 hl).1
      have hy := run_yield (P := P) (args := args) hl (by rw [hrec]; exact hps i _ args W hrel)
      rw [hrec] at hy
      refine ⟨fn, _, assign, body, hy, roundIn_of_wpIn hfn (hassign _ hi i args W0 W _ hhi hhW hi' hI1 hgrw hrel (fun a' W2 hm2 hkp2 => ?_))⟩
      have hla := (hkp2.same (B + 1) (by omega) (by omega)).trans hl
      have hka := (hkp2.same B (by omega) (by omega)).trans hk
      have hhW3 : hi ≤ W2.heap.size := Nat.le_trans hhW2 hkp2.size
      have hlt2 : B + 1 < W2.heap.size := (Array.getElem?_eq_some_iff.1 hla).1
      refine ⟨_, run_beginRound hla (by rw [hrec]), ?_⟩
      have hl2 : (W2.putObj (B + 1) (.loop { rec .ready none with state := .busy })).heap[B + 1]? = some (.loop { rec .ready none with state := .busy }) := World.putObj_heap_same hlt2
      have hk2 : (W2.putObj (B + 1) (.loop { rec .ready none with state := .busy })).heap[B]? = some (.deferred (some [])) := (World.putObj_heap_other (by omega)).trans hka
      refine wpIn_mono (hbody _ hi i a' _ hhi (by simp; exact hhW3) hi' ((hM hi i a' hhi).put hm2 (lT hhi) _)) ?_
      have fin : ∀ (jump : Option Code) (W3 : World), Kp o m B B hi (W2.putObj (B + 1) (.loop { rec .ready none with state := .busy })) W3 →
          (Instr.endRound (B + 1) jump).run P W3 = .ok (.bool jump.isNone) (W3.putObj (B + 1) (.loop (rec (if jump.isNone then .ready else .done) jump))) ∧
          (W3.putObj (B + 1) (.loop (rec (if jump.isNone then .ready else .done) jump))).heap[B + 1]? = some (.loop (rec (if jump.isNone then .ready else .done) jump)) ∧
          (W3.putObj (B + 1) (.loop (rec (if jump.isNone then .ready else .done) jump))).heap[B]? = some (.deferred (some [])) ∧
          Kp o m B (B + 2) hi W (W3.putObj (B + 1) (.loop (rec (if jump.isNone then .ready else .done) jump))) := fun jump W3 hk3 => by
        have hl3 := (hk3.same (B + 1) (by omega) (by omega)).trans hl2
        have hk4 := (hk3.same B (by omega) (by omega)).trans hk2
        have := run_endRound (P := P) jump hl3
        rw [hrec] at this ⊢
        have g1 := grownBy_putObj' W2 (B + 1) (.loop { rec .ready none with state := .busy })
        have g2 := grownBy_putObj' W3 (B + 1) (.loop (rec (if jump.isNone then .ready else .done) jump))
        rw [hrec] at g1 g2
        rw [hrec] at hk3
        refine ⟨this, World.putObj_heap_same (Array.getElem?_eq_some_iff.1 hl3).1, (World.putObj_heap_other (by omega)).trans hk4, ?_, ?_, ?_, ?_, ?_⟩
        · have := hk3.size; have := hkp2.size; simp at *; omega
        · intro r h1 h2
          have hne : r ≠ B + 1 := by omega
          exact (World.putObj_heap_other hne).trans ((hk3.same r h1 (by omega)).trans ((World.putObj_heap_other hne).trans (hkp2.same r h1 (by omega))))
        · exact g2.os.trans (hk3.os.trans (g1.os.trans hkp2.os))
        · exact g2.tape.trans (hk3.tape.trans (g1.tape.trans hkp2.tape))
        · exact g2.output.trans (hk3.output.trans (g1.output.trans hkp2.output))
      rintro e a3 W3 hp
      cases e with
      | normal =>
        obtain ⟨hk3, hi3⟩ := hp
        obtain ⟨hr, hl4, hk4, hkk⟩ := fin none W3 hk3
        exact ⟨_, _, hr, .inl ⟨rfl, ⟨(hI hi _ hhi).put hi3 (lT hhi) _, hl4, hk4⟩, hkk⟩⟩
      | ret =>
        obtain ⟨hk3, hi3⟩ := hp
        obtain ⟨hr, hl4, hk4, hkk⟩ := fin (some .ret) W3 hk3
        exact ⟨_, _, hr, .inr ⟨rfl, ⟨.ret, (hIx _ hi hhi).put hi3 (lT hhi) _, hl4, hk4⟩, hkk⟩⟩
      | exit id =>
        obtain ⟨hk3, hi3⟩ := hp
        obtain ⟨hr, hl4, hk4, hkk⟩ := fin (some (.exit id)) W3 hk3
        exact ⟨_, _, hr, .inr ⟨rfl, ⟨.exit id, (hIx _ hi hhi).put hi3 (lT hhi) _, hl4, hk4⟩, hkk⟩⟩
      | goto t =>
        obtain ⟨hk3, hi3⟩ := hp
        obtain ⟨hr, hl4, hk4, hkk⟩ := fin (some (.goto t)) W3 hk3
        exact ⟨_, _, hr, .inr ⟨rfl, ⟨.goto t, (hIx _ hi hhi).put hi3 (lT hhi) _, hl4, hk4⟩, hkk⟩⟩
      | panic ch => exact hp.elim
      | outgrown => exact hp.elim
    · -- behind the function
      rintro e W2 ⟨⟨v, rfl⟩, hi, hh1, hh2, (⟨hi1, hl, hk⟩ | ⟨c, hi1, hl, hk⟩)⟩
      · rw [hs1] at hh1
        exact ⟨none, _, by have := run_endLoop (P := P) hl (by rw [hrec]; simp); rw [hrec] at this; exact this, hdone hi _ hh1 (by simp; exact hh2) ((hI hi N hh1).put hi1 (lT hh1) _) ((World.putObj_heap_other (by omega)).trans hk)⟩
      · rw [hs1] at hh1
        exact ⟨some c, _, by have := run_endLoop (P := P) hl (by rw [hrec]; simp); rw [hrec] at this; exact this, hstop hi c _ hh1 (by simp; exact hh2) ((hIx c hi hh1).put hi1 (lT hh1) _) ((World.putObj_heap_other (by omega)).trans hk)⟩

end Go.Proofs.Ythaafniahkejkaa.Ranges
