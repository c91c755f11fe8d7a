import Derived.Test.YtkjnddgjnlbopaaNF
import Derived.Test.YtkjnddgjnlbopaaSA
/-
  The Writer's calls, where it is the first field of another struct: put, Raw, Len, Bytes.
-/
namespace Go.Proofs.Ytkjnddgjnlbopaa.Opn
open Go.RowKit
open Go.Proofs.Ytkjnddgjnlbopaa.Wire

/-- a Writer's struct, its buffer's -/
def wrS (N : Int) (q : Nat) (n : Nat) : Array Value := #[.pointer (some ⟨q, 0, none⟩), .int .i64 (n : Int), .int .i64 N]
/-- l has become l ++ m -/
structure PutB (N : Int) (p q g : Nat) (l m : List UInt8) (w w' : World) (g' cap' : Nat) : Prop where
  hp : w'.heap[p]? = some (.cells (wrS N q (l ++ m).length) 67 (0, 0))
  hq : w'.heap[q]? = some (.cells (bfS g' (l ++ m).length cap') 112 (0, 0))
  row : BRow w' g' cap' (l ++ m)
  new : g' = g ∨ w.heap.size ≤ g'
  os : w'.os = w.os
  tape : w'.tape = w.tape
  output : w'.output = w.output
  size : w.heap.size ≤ w'.heap.size
  far : ∀ k, k < w.heap.size → k ≠ p → k ≠ q → k ≠ g → w'.heap[k]? = w.heap[k]?
variable {N : Int}
theorem putB_of {p q g g' cap cap' n : Nat} {l m : List UInt8} {w w1 : World} (hp : w.heap[p]? = some (.cells (wrS N q l.length) 67 (0, 0))) (hq : w.heap[q]? = some (.cells (bfS g l.length cap) 112 (0, 0)))
    (hpq : p ≠ q) (hpg : p ≠ g) (hqg : q ≠ g) (hrow : BRow w1 g' cap' (l ++ m)) (hgrow : (w.drewN n).grownBy w1 (some g)) (hg' : g' = g ∨ (w.drewN n).heap.size ≤ g') :
    PutB N p q g l m w ((w1.setCell ⟨q, 0, none⟩ (.slice (some ⟨g', 0, none⟩) (l.length + m.length) cap')).setCell ⟨p, 1, none⟩ (.int .i64 ((l.length : Int) + (m.length : Int)))) g' cap' := by
  have hp1 : w1.heap[p]? = _ := (hgrow.block p (row_lt hp) (fun e => hpg (by injection e))).trans hp
  have hq1 : w1.heap[q]? = _ := (hgrow.block q (row_lt hq) (fun e => hqg (by injection e))).trans hq
  have hgp : g' ≠ p := by
    rcases hg' with e | e
    · exact fun e2 => hpg (by omega)
    · have : p < w.heap.size := row_lt hp
      have e' : w.heap.size ≤ g' := e
      omega
  have hgq : g' ≠ q := by
    rcases hg' with e | e
    · exact fun e2 => hqg (by omega)
    · have : q < w.heap.size := row_lt hq
      have e' : w.heap.size ≤ g' := e
      omega
  have el : (l ++ m).length = l.length + m.length := List.length_append
  refine ⟨?_, ?_, ?_, hg', hgrow.os, hgrow.tape, hgrow.output, Nat.le_trans hgrow.size (by simp [World.setCell]), ?_⟩
  · rw [heap_set ((heap_far 0 _ hpq).trans hp1), el]; rfl
  · rw [heap_far 1 _ (Ne.symm hpq), heap_set hq1, el]; rfl
  · exact hrow.same ((heap_far 1 _ hgp).trans (heap_far 0 _ hgq))
  · intro k hk h1 h2 h3
    rw [heap_far 1 _ h1, heap_far 0 _ h2]
    exact hgrow.block k hk (fun e => h3 (by injection e))

set_option maxRecDepth 100000 in
set_option maxHeartbeats 400000 in
theorem put_more (w : World) (p q g cap : Nat) (l m : List UInt8) (a : Addr) (c : Nat)
    (hp : w.heap[p]? = some (.cells (wrS N q l.length) 67 (0, 0)))
    (hq : w.heap[q]? = some (.cells (bfS g l.length cap) 112 (0, 0)))
    (hrow : BRow w g cap l) (hsrc : Src w a m) (hs : l.length + m.length ≤ 1000000000000) :
    Calls Try.prog 81 #[.pointer (some ⟨p, 0, none⟩), .slice (some a) m.length c] w fun e w' => e = .returned (.tuple #[]) ∧ ∃ g' cap', PutB N p q g l m w w' g' cap' := by
  have p0 : w.cell? ⟨p, 0, none⟩ = some (.pointer (some ⟨q, 0, none⟩)) := cell_row hp 0
  have p1 : w.cell? ⟨p, 1, none⟩ = some (.int .i64 (l.length : Int)) := cell_row hp 1
  have q0 : w.cell? ⟨q, 0, none⟩ = some (.slice (some ⟨g, 0, none⟩) l.length cap) := cell_row hq 0
  have fp0 := frozen_row hp 0
  have fp1 := frozen_row hp 1
  have fq0 := frozen_row hq 0
  have hpg : p ≠ g := by
    rintro rfl
    obtain ⟨cur, lo, hi, h1, _⟩ := hrow
    rw [h1] at hp; injection hp with hp; injection hp with _ ht; cases ht
  have hpq : p ≠ q := by
    rintro rfl
    rw [hp] at hq; injection hq with hq; injection hq with _ ht; cases ht
  have hqg : q ≠ g := by
    rintro rfl
    obtain ⟨cur, lo, hi, h1, _⟩ := hrow
    rw [h1] at hq; injection hq with hq; injection hq with _ ht; cases ht
  go_enter Try.func81, Try.ntmps81
  go_wp2_with fail
  go_quiet (fail)
  go_wp2_with fail
  have hrow' : BRow (w.drewN nq).drew g cap l := hrow
  have hsrc' : Src (w.drewN nq).drew a m := hsrc
  have hpl : p < ((w.drewN nq).drew).heap.size := row_lt hp
  have hql : q < ((w.drewN nq).drew).heap.size := row_lt hq
  go_region_law ((refine step_append_row (by rfl) (.tmp 44) (.tmp 45) (by rfl) g cap l (by rfl) hrow' a c m (by rfl) hsrc' hs ?_; intro g' cap' w1 hrow1 hgrow hg'; (have hq0 := grown_frozen hgrow q 0 hql hqg); (have hq1 := (grown_cell hgrow q 0 hql hqg).trans q0); (have hp0 := (grown_cell hgrow p 0 hpl hpg).trans p0); (have hp1 := (grown_cell hgrow p 1 hpl hpg).trans p1); (have gp0 := (grown_frozen hgrow p 0 hpl hpg).trans fp0); (have gp1 := (grown_frozen hgrow p 1 hpl hpg).trans fp1)))
  all_goals
    have h0 := hq0.trans fq0
    go_wp2
    go_end0
    exact ⟨rfl, _, _, putB_of hp hq hpq hpg hqg hrow1 hgrow hg'⟩

/-! ### what a Writer has, and what stays beside it -/
/-- below B all is as it was; of what there was nothing has changed but Writers, their buffers, and rows of bytes -/
structure Only (B : Nat) (w w' : World) : Prop where
  below : Below B w w'
  same : ∀ (k : Nat) (cs : Array Value) (t : TypeId) (fr : Nat × Nat), w.heap[k]? = some (.cells cs t fr) → t ≠ 67 → t ≠ 112 → t ≠ 5 → w'.heap[k]? = some (.cells cs t fr)
theorem Only.refl (B : Nat) (w : World) : Only B w w := ⟨Below.refl _ _, fun _ _ _ _ h _ _ _ => h⟩
theorem Only.trans {B : Nat} {a b c : World} (h : Only B a b) (k : Only B b c) : Only B a c :=
  ⟨h.below.trans k.below, fun i cs t fr hi h1 h2 h3 => k.same i cs t fr (h.same i cs t fr hi h1 h2 h3) h1 h2 h3⟩
theorem Only.of_below {B : Nat} {w w' : World} (h : Below w.heap.size w w') (hB : B ≤ w.heap.size) : Only B w w' :=
  ⟨h.mono hB, fun k cs t fr hk _ _ _ => (h.block k (row_lt hk)).trans hk⟩
theorem Only.alloc {B : Nat} {a w : World} (h : Only B a w) (hB : B ≤ w.heap.size) (o : Obj) : Only B a (w.alloc o) :=
  h.trans (Only.of_below ((Below.refl _ _).alloc (Nat.le_refl _) _) hB)
theorem Only.drewN {B : Nat} {a w : World} (h : Only B a w) (n : Nat) : Only B a (w.drewN n) := ⟨⟨h.below.os, h.below.tape, h.below.output, h.below.size, h.below.block⟩, h.same⟩

/-- the Writer at p has l; what it has lies from B on -/
def Wr (N : Int) (B : Nat) (w : World) (p : Nat) (l : List UInt8) : Prop :=
  B ≤ p ∧ ((w.heap[p]? = some (.cells #[.pointer none, .int .i64 0, .int .i64 N] 67 (0, 0)) ∧ l = []) ∨
    ∃ q g cap, B ≤ q ∧ B ≤ g ∧ w.heap[p]? = some (.cells (wrS N q l.length) 67 (0, 0)) ∧ w.heap[q]? = some (.cells (bfS g l.length cap) 112 (0, 0)) ∧ BRow w g cap l)
theorem Wr.lt {B : Nat} {w : World} {p : Nat} {l : List UInt8} (h : Wr N B w p l) : p < w.heap.size := by
  rcases h.2 with ⟨h, _⟩ | ⟨q, g, cap, _, _, h, _⟩ <;> exact row_lt h
theorem Wr.low {B : Nat} {w : World} {p : Nat} {l : List UInt8} (h : Wr N B w p l) : B ≤ w.heap.size := Nat.le_trans h.1 (Nat.le_of_lt h.lt)
theorem Wr.keep {B : Nat} {w w' : World} {p : Nat} {l : List UInt8} (h : Wr N B w p l) (hk : ∀ k, k < w.heap.size → w'.heap[k]? = w.heap[k]?) : Wr N B w' p l := by
  obtain ⟨hB, h⟩ := h
  refine ⟨hB, ?_⟩
  rcases h with ⟨h, e⟩ | ⟨q, g, cap, h1, h2, h3, h4, h5⟩
  · exact Or.inl ⟨(hk p (row_lt h)).trans h, e⟩
  · exact Or.inr ⟨q, g, cap, h1, h2, (hk p (row_lt h3)).trans h3, (hk q (row_lt h4)).trans h4, h5.same (hk g h5.lt)⟩
theorem Wr.below {B : Nat} {w w' : World} {p : Nat} {l : List UInt8} (h : Wr N B w p l) (hb : Below w.heap.size w w') : Wr N B w' p l := h.keep hb.block
theorem Wr.alloc {B : Nat} {w : World} {p : Nat} {l : List UInt8} (h : Wr N B w p l) (o : Obj) : Wr N B (w.alloc o) p l := h.keep fun k hk => Below.heap_alloc w o k hk
theorem Wr.drewN {B : Nat} {w : World} {p : Nat} {l : List UInt8} (h : Wr N B w p l) (n : Nat) : Wr N B (w.drewN n) p l := h
theorem Wr.new {B : Nat} {w : World} (hB : B ≤ w.heap.size) : Wr N B (w.alloc (.cells #[.pointer none, .int .i64 0, .int .i64 N] 67)) w.heap.size [] :=
  ⟨hB, Or.inl ⟨heap_alloc_new w _, rfl⟩⟩
/-- other blocks than a Writer's have changed -/
theorem Wr.beside {B : Nat} {w w' : World} {p r : Nat} {l : List UInt8} {cs : Array Value} {t : TypeId} {fr : Nat × Nat} (h : Wr N B w p l) (hg : w.grownBy w' (some r)) (hr : w.heap[r]? = some (.cells cs t fr))
    (h1 : t ≠ 67) (h2 : t ≠ 112) (h3 : t ≠ 5) : Wr N B w' p l := by
  obtain ⟨hB, h⟩ := h
  refine ⟨hB, ?_⟩
  have ne : ∀ {k : Nat} {cs' : Array Value} {t' : TypeId} {fr' : Nat × Nat}, w.heap[k]? = some (.cells cs' t' fr') → t ≠ t' → w'.heap[k]? = w.heap[k]? := by
    intro k cs' t' fr' hk ht
    refine hg.block k (row_lt hk) ?_
    intro e
    injection e with e
    subst e
    rw [hr] at hk; injection hk with hk; injection hk with _ e; exact ht e
  rcases h with ⟨h, e⟩ | ⟨q, g, cap, k1, k2, k3, k4, k5⟩
  · exact Or.inl ⟨(ne h h1).trans h, e⟩
  · obtain ⟨cur, lo, hi, k6, k7⟩ := k5
    exact Or.inr ⟨q, g, cap, k1, k2, (ne k3 h1).trans k3, (ne k4 h2).trans k4, cur, lo, hi, (ne k6 h3).trans k6, k7⟩

theorem putB_wr {B p q g : Nat} {l m : List UInt8} {w w' : World} {g' cap' : Nat} (h : PutB N p q g l m w w' g' cap') (hp : B ≤ p) (hq : B ≤ q) (hg : B ≤ g) (hB : B ≤ w.heap.size) : Wr N B w' p (l ++ m) :=
  ⟨hp, Or.inr ⟨q, g', cap', hq, by rcases h.new with e | e <;> omega, h.hp, h.hq, h.row⟩⟩
theorem putB_only {B p q g : Nat} {l m : List UInt8} {w w' : World} {g' cap' : Nat} {cp cq cg : Array Value} {f1 f2 f3 : Nat × Nat} (h : PutB N p q g l m w w' g' cap') (hp : B ≤ p) (hq : B ≤ q) (hg : B ≤ g)
    (kp : w.heap[p]? = some (.cells cp 67 f1)) (kq : w.heap[q]? = some (.cells cq 112 f2)) (kg : w.heap[g]? = some (.cells cg 5 f3)) : Only B w w' := by
  refine ⟨⟨h.os, h.tape, h.output, h.size, fun k hk => h.far k (by have := row_lt kp; omega) (by omega) (by omega) (by omega)⟩, fun k cs t fr hk h1 h2 h3 => ?_⟩
  refine (h.far k (row_lt hk) ?_ ?_ ?_).trans hk
  · rintro rfl; rw [kp] at hk; injection hk with hk; injection hk with _ e; exact h1 e.symm
  · rintro rfl; rw [kq] at hk; injection hk with hk; injection hk with _ e; exact h2 e.symm
  · rintro rfl; rw [kg] at hk; injection hk with hk; injection hk with _ e; exact h3 e.symm

/-! ### Bytes, of a Writer without a buffer, and of nobody's -/
set_option maxHeartbeats 400000 in
theorem bytes_none (p : Nat) (w : World) (hp : w.heap[p]? = some (.cells #[.pointer none, .int .i64 0, .int .i64 N] 67 (0, 0))) :
    Calls Try.prog 33 #[.pointer (some ⟨p, 0, none⟩)] w fun e w' => e = .returned (.string ⟨#[]⟩) ∧ w = w' := by
  have p0 : w.cell? ⟨p, 0, none⟩ = some (.pointer none) := cell_row hp 0
  go_enter Try.func33, Try.ntmps33
  go_wp2
  go_ret
  exact ⟨rfl, rfl⟩

/-! ### put -/
theorem first_world (w : World) (p cap n : Nat) (R : Array Value) (hR : R.size = cap) (hp : w.heap[p]? = some (.cells #[.pointer none, .int .i64 0, .int .i64 N] 67 (0, 0))) :
    ∀ W, W = (((w.drewN n).alloc (Obj.cells R 5 (R.size, R.size + 1))).setCell ⟨p, 0, none⟩ (.pointer (some ⟨w.heap.size + 1, 0, none⟩))).alloc (Obj.cells #[Value.slice (some ⟨w.heap.size, 0, none⟩) 0 cap] 112) →
    W.heap[p]? = some (.cells (wrS N (w.heap.size + 1) 0) 67 (0, 0)) ∧ W.heap[w.heap.size + 1]? = some (.cells (bfS w.heap.size 0 cap) 112 (0, 0)) ∧ BRow W w.heap.size cap [] ∧
      (∀ k, k < w.heap.size → k ≠ p → W.heap[k]? = w.heap[k]?) ∧ W.os = w.os ∧ W.tape = w.tape ∧ W.output = w.output ∧ W.heap.size = w.heap.size + 2 := by
  rintro W rfl
  have hpl := row_lt hp
  have h1 : ((w.drewN n).alloc (Obj.cells R 5 (R.size, R.size + 1))).heap[p]? = some (.cells #[.pointer none, .int .i64 0, .int .i64 N] 67 (0, 0)) := (Below.heap_alloc _ _ p hpl).trans hp
  have hs : (((w.drewN n).alloc (Obj.cells R 5 (R.size, R.size + 1))).setCell ⟨p, 0, none⟩ (.pointer (some ⟨w.heap.size + 1, 0, none⟩))).heap.size = w.heap.size + 1 := by simp [World.setCell]
  refine ⟨?_, ?_, ?_, ?_, rfl, rfl, rfl, ?_⟩
  · rw [Below.heap_alloc _ _ p (by rw [hs]; omega), heap_set h1]; rfl
  · have := heap_alloc_new (((w.drewN n).alloc (Obj.cells R 5 (R.size, R.size + 1))).setCell ⟨p, 0, none⟩ (.pointer (some ⟨w.heap.size + 1, 0, none⟩))) (Obj.cells #[Value.slice (some ⟨w.heap.size, 0, none⟩) 0 cap] 112)
    rw [hs] at this; exact this
  · refine ⟨R, R.size, R.size + 1, ?_, hR, Or.inl (by omega), Nat.zero_le _, rfl⟩
    rw [Below.heap_alloc _ _ _ (by rw [hs]; omega), heap_far 0 _ (by omega)]
    exact heap_alloc_new (w.drewN n) _
  · intro k hk hne
    rw [Below.heap_alloc _ _ k (by rw [hs]; omega), heap_far 0 _ hne]
    exact Below.heap_alloc (w.drewN n) _ k hk
  · simp [World.setCell]
theorem putB_of0 {p q g g' cap cap' : Nat} {m : List UInt8} {w w1 : World} (hp : w.heap[p]? = some (.cells (wrS N q 0) 67 (0, 0))) (hq : w.heap[q]? = some (.cells (bfS g 0 cap) 112 (0, 0)))
    (hpq : p ≠ q) (hpg : p ≠ g) (hqg : q ≠ g) (hrow : BRow w1 g' cap' ([] ++ m)) (hgrow : w.drew.grownBy w1 (some g)) (hg' : g' = g ∨ w.drew.heap.size ≤ g') :
    PutB N p q g [] m w ((w1.setCell ⟨q, 0, none⟩ (.slice (some ⟨g', 0, none⟩) m.length cap')).setCell ⟨p, 1, none⟩ (.int .i64 (m.length : Int))) g' cap' := by
  have h := putB_of (l := []) (n := 1) hp hq hpq hpg hqg hrow hgrow hg'
  have e : (([] : List UInt8).length : Int) + (m.length : Int) = (m.length : Int) := by simp
  rw [e, List.length_nil, Nat.zero_add] at h
  exact h
set_option maxRecDepth 100000 in
set_option maxHeartbeats 400000 in
theorem put_first (w : World) (B p : Nat) (m : List UInt8) (a : Addr) (c : Nat) (hB : B ≤ p)
    (hp : w.heap[p]? = some (.cells #[.pointer none, .int .i64 0, .int .i64 N] 67 (0, 0)))
    (ha : m ≠ [] → a.block < w.heap.size ∧ a.block ≠ p) (hsrc : Src w a m) (hs : m.length ≤ 1000000000000) :
    Calls Try.prog 81 #[.pointer (some ⟨p, 0, none⟩), .slice (some a) m.length c] w fun e w' => e = .returned (.tuple #[]) ∧ Wr N B w' p m ∧ Only B w w' := by
  have p0 : w.cell? ⟨p, 0, none⟩ = some (.pointer none) := cell_row hp 0
  have fp0 := frozen_row hp 0
  have hpl : p < w.heap.size := row_lt hp
  have H := Lib.hid hp
  go_enter Try.func81, Try.ntmps81
  go_wp2_with fail
  go_quiet (fail)
  go_wp2_with fail
  refine (bytes_none p (w.drewN nq) hp).mono ?_; rintro e w1 ⟨rfl, rfl⟩
  have hconv := run_bytes_of_string (P := Try.prog) (w.drewN nq) 9 110 5 ⟨#[]⟩ Try.underlying9 Try.underlying110 Try.underlying5
  have hsz := bytesRow_none (grownCap (w.drewN nq) (ByteArray.size ⟨#[]⟩) 0 5)
  generalize grownCap (w.drewN nq) (ByteArray.size ⟨#[]⟩) 0 5 = cap at *
  generalize bytesRow ⟨#[]⟩ cap = R at *
  have HSZ := Lib.hid hsz; clear hsz
  have c1 : ∀ o1 o2, (((w.drewN (nq + 1)).alloc o1).alloc o2).cell? ⟨p, 0, none⟩ = some (.pointer none) := fun o1 o2 => by
    rw [World.cell?_alloc_lt _ _ _ (by simp; omega), World.cell?_alloc_lt _ _ _ (by simp; omega)]; exact p0
  have c2 : ∀ o1 o2, (((w.drewN (nq + 1)).alloc o1).alloc o2).frozen? ⟨p, 0, none⟩ = false := fun o1 o2 => by
    rw [World.frozen?_of_block (w := w) ((Below.heap_alloc _ _ p (by simp; omega)).trans (Below.heap_alloc _ _ p (by simp; omega)))]; exact fp0
  go_wp2_with fail
  clear c1 c2 hconv
  have HW := first_world w p cap (nq + 1) R HSZ.out hp _ rfl
  generalize (((w.drewN (nq + 1)).alloc (Obj.cells R 5 (R.size, R.size + 1))).setCell ⟨p, 0, none⟩ (.pointer (some ⟨w.heap.size + 1, 0, none⟩))).alloc (Obj.cells #[Value.slice (some ⟨w.heap.size, 0, none⟩) 0 cap] 112) = W at *
  obtain ⟨kp, kq, krow, kfar, kos, ktape, kout, ksz⟩ := HW
  generalize hg : w.heap.size = g at *
  have hO : Hid (Only B w W) := ⟨⟨kos, ktape, kout, by omega, fun k hk => kfar k (by omega) (by omega)⟩, fun k cs t fr hk h1 h2 h3 => (kfar k (by rw [← hg]; exact row_lt hk) (fun e => by
    subst e; have hp' := H.out; rw [hp'] at hk; injection hk with hk; injection hk with _ e; exact h1 e.symm)).trans hk⟩
  have hsrc3 : Src W a m := hsrc.keep' (fun hm => kfar _ (ha hm).1 (ha hm).2)
  have Hg := Lib.hid hg; clear hg
  have hBg : Hid (B ≤ g) := by show B ≤ g; omega
  clear hp p0 fp0 kfar kos ktape kout hsrc ha
  have p0 : W.cell? ⟨p, 0, none⟩ = some (.pointer (some ⟨g + 1, 0, none⟩)) := cell_row kp 0
  have p1 : W.cell? ⟨p, 1, none⟩ = some (.int .i64 0) := cell_row kp 1
  have q0 : W.cell? ⟨g + 1, 0, none⟩ = some (.slice (some ⟨g, 0, none⟩) 0 cap) := cell_row kq 0
  have fp0 := frozen_row kp 0
  have fp1 := frozen_row kp 1
  have fq0 := frozen_row kq 0
  have hpg : p ≠ g := by omega
  have hpq : p ≠ g + 1 := by omega
  have hqg : g + 1 ≠ g := by omega
  have hpl : p < (W.drew).heap.size := row_lt kp
  have hql : g + 1 < (W.drew).heap.size := row_lt kq
  have hrow' : BRow W.drew g cap [] := krow
  have hsrc' : Src W.drew a m := hsrc3
  go_region_law ((refine step_append_row (by rfl) (.tmp 44) (.tmp 45) (by rfl) g cap [] (by rfl) hrow' a c m (by rfl) hsrc' (by simpa using hs) ?_; intro g' cap' w1 hrow1 hgrow hg'; (have hq0 := grown_frozen hgrow (g + 1) 0 hql hqg); (have hq1 := (grown_cell hgrow (g + 1) 0 hql hqg).trans q0); (have hp0 := (grown_cell hgrow p 0 hpl hpg).trans p0); (have hp1 := (grown_cell hgrow p 1 hpl hpg).trans p1); (have gp0 := (grown_frozen hgrow p 0 hpl hpg).trans fp0); (have gp1 := (grown_frozen hgrow p 1 hpl hpg).trans fp1)))
  all_goals
    have h0 := hq0.trans fq0
    have HP := Lib.hid (putB_of0 kp kq hpq hpg hqg hrow1 hgrow hg')
    have hm : (m.length : Int) ≤ 1000000000000 := by omega
    go_wp2
    go_end0
    have hB1 := hBg.out
    obtain ⟨cur, lo, hi, k1, _⟩ := krow
    exact ⟨rfl, putB_wr (l := []) HP.out hB (by omega) hB1 (by omega), hO.out.trans (putB_only HP.out hB (by omega) hB1 kp kq k1)⟩

/-- put, of a Writer that may have anything -/
theorem put_any (w : World) (B p : Nat) (l m : List UInt8) (a : Addr) (c : Nat) (hw : Wr N B w p l)
    (ha : m ≠ [] → a.block < w.heap.size ∧ a.block ≠ p) (hsrc : Src w a m) (hs : l.length + m.length ≤ 1000000000000) :
    Calls Try.prog 81 #[.pointer (some ⟨p, 0, none⟩), .slice (some a) m.length c] w fun e w' => e = .returned (.tuple #[]) ∧ Wr N B w' p (l ++ m) ∧ Only B w w' := by
  have hlow := hw.low
  obtain ⟨hB, ⟨hp, rfl⟩ | ⟨q, g, cap, h1, h2, h3, h4, h5⟩⟩ := hw
  · exact put_first w B p m a c hB hp ha hsrc (by simpa using hs)
  · obtain ⟨cur, lo, hi, k1, k2⟩ := h5
    exact (put_more w p q g cap l m a c h3 h4 ⟨cur, lo, hi, k1, k2⟩ hsrc hs).mono fun e w' ⟨he, g', cap', hP⟩ => ⟨he, putB_wr hP hB h1 h2 hlow, putB_only hP hB h1 h2 h3 h4 k1⟩
set_option maxRecDepth 100000 in
set_option maxHeartbeats 400000 in
theorem bytes_any (w : World) (B p : Nat) (l : List UInt8) (hw : Wr N B w p l) :
    Calls Try.prog 33 #[.pointer (some ⟨p, 0, none⟩)] w fun e w' => e = .returned (.string (S l)) ∧ ∃ n, w' = w.drewN n := by
  obtain ⟨hB, ⟨hp, rfl⟩ | ⟨q, g, cap, h1, h2, h3, h4, h5⟩⟩ := hw
  · exact (bytes_none p w hp).mono fun e w' ⟨he, hw⟩ => ⟨he, 0, hw.symm⟩
  · have p0 : w.cell? ⟨p, 0, none⟩ = some (.pointer (some ⟨q, 0, none⟩)) := cell_row h3 0
    have p1 : w.cell? ⟨p, 1, none⟩ = some (.int .i64 (l.length : Int)) := cell_row h3 1
    have q0 : w.cell? ⟨q, 0, none⟩ = some (.slice (some ⟨g, 0, none⟩) l.length cap) := cell_row h4 0
    have hback : ∀ n, (convert 110 9 (.slice (some ⟨g, 0, none⟩) l.length cap)).run Try.prog (w.drewN n) = .ok (.string (S l)) (w.drewN n) := fun n =>
      run_convert_bytes_back (P := Try.prog) (w.drewN n) 110 9 5 ⟨g, 0, none⟩ cap l Try.underlying110 Try.underlying5 Try.underlying9 (fun j hj => by rw [addr_add, Nat.zero_add]; exact h5.cell j hj)
    have hl : (l.length : Int) ≤ (cap : Int) := by obtain ⟨_, _, _, _, _, _, h, _⟩ := h5; omega
    have hl0 : (0 : Int) ≤ (l.length : Int) := by omega
    clear h3 h4 h5 hB
    go_enter Try.func33, Try.ntmps33
    go_wp2_with fail
    go_quiet (fail)
    go_wp2_with fail
    go_ret
    exact ⟨rfl, _, rfl⟩

set_option maxRecDepth 100000 in
set_option maxHeartbeats 400000 in
theorem raw_any (w : World) (B p : Nat) (l : List UInt8) (s : ByteArray) (hw : Wr N B w p l) (hs : l.length + s.size ≤ 1000000000000) :
    Calls Try.prog 59 #[.pointer (some ⟨p, 0, none⟩), .string s] w fun e w' => e = .returned (.tuple #[]) ∧ Wr N B w' p (l ++ s.data.toList) ∧ Only B w w' := by
  have hconv := run_bytes_of_string (P := Try.prog) w 9 110 5 s Try.underlying9 Try.underlying110 Try.underlying5
  have hsrc := fun fr => bytesRow_src w s (grownCap w s.size 0 5) fr 1
  have HSRC := Lib.hid hsrc; clear hsrc
  generalize grownCap w s.size 0 5 = cap at *
  generalize bytesRow s cap = R at *
  go_enter Try.func59, Try.ntmps59
  go_wp2_with fail
  refine (put_any ((w.drewN 1).alloc (.cells R 5 (R.size, R.size + 1))) B p l s.data.toList ⟨w.heap.size, 0, none⟩ cap ((hw.drewN 1).alloc _) (fun _ => ⟨by simp, by have := hw.lt; show w.heap.size ≠ p; omega⟩) (HSRC.out _) hs).mono ?_
  rintro e w1 ⟨rfl, h1, o1⟩
  have H1 := Lib.hid h1; have O1 := Lib.hid ((((Only.refl B w).drewN 1).alloc hw.low _).trans o1); clear h1 o1
  go_wp2_with fail
  go_end0
  exact ⟨rfl, H1.out, O1.out⟩


/-- the other field, written over -/
theorem Wr.next {B : Nat} {w : World} {p : Nat} {l : List UInt8} (h : Wr N B w p l) (M : Int) : Wr M B (w.setCell ⟨p, 2, none⟩ (.int .i64 M)) p l := by
  obtain ⟨hB, ⟨h, e⟩ | ⟨q, g, cap, h1, h2, h3, h4, h5⟩⟩ := h
  · exact ⟨hB, Or.inl ⟨heap_set h 2 _, e⟩⟩
  · have hpq : q ≠ p := by
      rintro rfl
      rw [h3] at h4; injection h4 with h4; injection h4 with _ ht; cases ht
    have hpg : g ≠ p := by
      rintro rfl
      obtain ⟨cur, lo, hi, k1, _⟩ := h5
      rw [h3] at k1; injection k1 with k1; injection k1 with _ ht; cases ht
    exact ⟨hB, Or.inr ⟨q, g, cap, h1, h2, heap_set h3 2 _, (heap_far 2 _ hpq).trans h4, h5.same (heap_far 2 _ hpg)⟩⟩
theorem Wr.cell2 {B : Nat} {w : World} {p : Nat} {l : List UInt8} (h : Wr N B w p l) : w.cell? ⟨p, 2, none⟩ = some (.int .i64 N) ∧ w.frozen? ⟨p, 2, none⟩ = false := by
  obtain ⟨hB, ⟨h, e⟩ | ⟨q, g, cap, h1, h2, h3, h4, h5⟩⟩ := h
  · exact ⟨cell_row h 2, frozen_row h 2⟩
  · exact ⟨cell_row h3 2, frozen_row h3 2⟩
theorem Wr.typed {B : Nat} {w : World} {p : Nat} {l : List UInt8} (h : Wr N B w p l) : ∃ cs, w.heap[p]? = some (.cells cs 67 (0, 0)) := by
  obtain ⟨hB, ⟨h, e⟩ | ⟨q, g, cap, h1, h2, h3, h4, h5⟩⟩ := h
  · exact ⟨_, h⟩
  · exact ⟨_, h3⟩
end Go.Proofs.Ytkjnddgjnlbopaa.Opn

/-
  The walks of wrong, size, begin, put, Join.
-/
namespace Go.Proofs.Ytkjnddgjnlbopaa.Seg
open Go Go.RowKit
open Go.Proofs.Ytkjnddgjnlbopaa.Wire (S S_list S_size cell_row frozen_row row_lt heap_set U)
open Go.Proofs.Ytkjnddgjnlbopaa.Frame

theorem bytesP_ok {xs : List ByteArray} : okL (bytesP xs) = true ↔ ∀ j (h : j < xs.length), 1 ≤ xs[j].size ∧ xs[j].size ≤ 4096 := by
  rw [okL_all]
  constructor
  · intro h j hj
    have := h _ (List.getElem_mem (show j < (bytesP xs).length by rw [bytesP_len]; exact hj))
    rw [bytesP_at xs j hj] at this
    simpa using this
  · intro h p hp
    obtain ⟨j, hj, rfl⟩ := List.getElem_of_mem hp
    rw [bytesP_len] at hj
    rw [bytesP_at xs j hj]
    simpa using h j hj
theorem okL_bad {xs : List ByteArray} {j : Nat} (hj : j < xs.length) (h : ¬ (1 ≤ xs[j].size ∧ xs[j].size ≤ 4096)) : okL (bytesP xs) = false := by
  refine Bool.eq_false_iff.2 (fun k => h (bytesP_ok.1 k j hj))
set_option maxRecDepth 100000 in
set_option maxHeartbeats 2000000 in
/-- wrong -/
theorem wrong_any (q : Int) (A : Option Addr) (cap : Nat) (xs : List ByteArray) (hl : xs.length ≤ 10000000) (w : World) (hx : Strs w A xs) :
    Calls Try.prog 29 #[.int .i64 q, .slice A xs.length cap] w fun e w' => e = .returned (.int .i64 (wrE q (bytesP xs) : Int)) ∧ w = w' := by
  have HMF := Lib.hid (fun W => mayBegin_any q W)
  have HX := Lib.hid hx
  have HL := Lib.hid hl
  clear hx hl
  by_cases hm : mayF q
  · rw [decide_eq_true hm] at HMF
    have HM := Lib.hid hm
    clear hm
    go_enter Try.func29, Try.ntmps29
    go_wp2_with (go_at_call 60; refine (HMF.out _).mono ?_; rintro e w1 ⟨rfl, rfl⟩)
    go_loopw [12] (fun y wr => ∃ j : Nat, j ≤ xs.length ∧ y = .int .i64 (j : Int) ∧ Hid (∀ k (h : k < xs.length), k < j → 1 ≤ xs[k].size ∧ xs[k].size ≤ 4096) ∧ wr = w) (fun y _ => xs.length - (intOf y).toNat)
    case atStart => exact ⟨0, Nat.zero_le _, rfl, Lib.hid (fun k _ h => absurd h (Nat.not_lt_zero _)), rfl⟩
    case round =>
      obtain ⟨j, hj, rfl, HG, rfl⟩ := hrel
      by_cases hlt : j < xs.length
      · obtain ⟨b, o, rfl, hb, hsz, c0⟩ := HX.out j hlt
        have HLT := Lib.hid hlt
        have HW1 := Lib.hid (small64 j (by have := HL.out; omega))
        have HSI := Lib.hid (fun W => Size_any ((xs[j]'hlt).size : Int) W)
        by_cases hs : 1 ≤ (xs[j]'hlt).size ∧ (xs[j]'hlt).size ≤ 4096
        · rw [szI_yes hs] at HSI
          have e0 : ((16 + ((xs[j]'hlt).size : Int)) == 0) = false := beq_eq_false_iff_ne.2 (by omega)
          have HS := Lib.hid hs
          have hgn := HG.out
          have HG2 : Hid (∀ k (h : k < xs.length), k < j + 1 → 1 ≤ xs[k].size ∧ xs[k].size ≤ 4096) := Lib.hid (fun k h hk => by
            rcases Nat.lt_or_ge k j with h1 | h1
            · exact hgn k h h1
            · obtain rfl : k = j := by omega
              exact HS.out)
          clear hs hgn
          generalize xs[j]'hlt = p at *
          go_wp2_with (go_at_call 36; refine (HSI.out _).mono ?_; rintro e w2 ⟨rfl, rfl⟩)
          go_roundw
          case rel => exact ⟨j + 1, HLT.out, by rw [HW1.out]; rfl, HG2, by first | trivial | rfl⟩
          case measure =>
            rw [HW1.out]
            show xs.length - ((j : Int) + 1).toNat < xs.length - (j : Int).toNat
            have := HLT.out; omega
        · rw [szI_no hs] at HSI
          have HE := Lib.hid (show wrE q (bytesP xs) = 4 by unfold wrE; rw [if_neg (fun k => k HM.out), if_pos (okL_bad hlt hs)])
          clear hs
          generalize xs[j]'hlt = p at *
          go_wp2_with (go_at_call 36; refine (HSI.out _).mono ?_; rintro e w2 ⟨rfl, rfl⟩)
          go_ret
          exact ⟨by rw [HE.out]; rfl, rfl⟩
      · obtain rfl : j = xs.length := by omega
        have hok : okL (bytesP xs) = true := bytesP_ok.2 (fun k h => HG.out k h h)
        have hlm := HL.out
        have hqm := HM.out
        obtain ⟨hq0, hq1⟩ := hqm
        have y1 : wrap64 (1048576 - q) = 1048576 - q := IntWalk.wrap64_in _ ⟨by omega, by omega⟩
        by_cases h40 : 1048576 < q + (xs.length : Int)
        · have HE := Lib.hid (show wrE q (bytesP xs) = 40 by unfold wrE; rw [if_neg (fun k => k HM.out), hok, if_neg (by decide), bytesP_len, if_pos h40])
          have y2 : 1048576 - q < (xs.length : Int) := by omega
          clear h40 hok hq0 hq1
          go_wp2_with fail
          go_ret
          exact ⟨by rw [HE.out]; rfl, rfl⟩
        · have HE := Lib.hid (show wrE q (bytesP xs) = 0 by unfold wrE; rw [if_neg (fun k => k HM.out), hok, if_neg (by decide), bytesP_len, if_neg h40])
          have y2 : ¬ 1048576 - q < (xs.length : Int) := by omega
          clear h40 hok hq0 hq1
          go_wp2_with fail
          go_ret
          exact ⟨by rw [HE.out]; rfl, rfl⟩
  · rw [decide_eq_false hm] at HMF
    have HE := Lib.hid (show wrE q (bytesP xs) = 1 from if_pos hm)
    clear hm
    go_enter Try.func29, Try.ntmps29
    go_wp2_with (go_at_call 60; refine (HMF.out _).mono ?_; rintro e w1 ⟨rfl, rfl⟩)
    go_ret
    exact ⟨by rw [HE.out]; rfl, rfl⟩
theorem RB_all (xs : List ByteArray) : 16 + RB xs xs.length = segN (bytesP xs) := by
  unfold RB segN
  rw [show xs.length = (bytesP xs).length from (bytesP_len xs).symm, List.take_length]
theorem RB_small (xs : List ByteArray) (h : ∀ j (h : j < xs.length), 1 ≤ xs[j].size ∧ xs[j].size ≤ 4096) (i : Nat) : i ≤ xs.length → RB xs i ≤ i * 4112 := by
  induction i with
  | zero => intro _; rw [RB_zero]; exact Nat.zero_le _
  | succ i ih =>
    intro hi
    have h1 := ih (by omega)
    have h2 := (h i (by omega)).2
    rw [RB_succ xs i (by omega)]
    generalize RB xs i = R at *
    generalize xs[i].size = z at *
    omega
set_option maxRecDepth 100000 in
set_option maxHeartbeats 2000000 in
/-- size -/
theorem size_any (A : Option Addr) (cap : Nat) (xs : List ByteArray) (hl : xs.length ≤ 10000000) (hok : ∀ j (h : j < xs.length), 1 ≤ xs[j].size ∧ xs[j].size ≤ 4096) (w : World) (hx : Strs w A xs) :
    Calls Try.prog 30 #[.slice A xs.length cap] w fun e w' => e = .returned (.int .i64 (segN (bytesP xs) : Int)) ∧ w = w' := by
  have HX := Lib.hid hx
  have HL := Lib.hid hl
  have HK := Lib.hid hok
  have HRS := Lib.hid (RB_small xs hok)
  have HRA := Lib.hid (RB_all xs)
  clear hx hl hok
  go_enter Try.func30, Try.ntmps30
  go_wp2_with fail
  go_loopw [3, 8] (fun z y wr => ∃ j : Nat, j ≤ xs.length ∧ z = .int .i64 ((16 + RB xs j : Nat) : Int) ∧ y = .int .i64 (j : Int) ∧ wr = w) (fun z y _ => xs.length - (intOf y).toNat)
  case atStart => exact ⟨0, Nat.zero_le _, by rw [RB_zero]; rfl, rfl, rfl⟩
  case round =>
    obtain ⟨j, hj, rfl, rfl, rfl⟩ := hrel
    by_cases hlt : j < xs.length
    · obtain ⟨b, o, rfl, hb, hsz, c0⟩ := HX.out j hlt
      have HLT := Lib.hid hlt
      have HW1 := Lib.hid (small64 j (by have := HL.out; omega))
      have HSI := Lib.hid (fun W => Size_any ((xs[j]'hlt).size : Int) W)
      have hs : 1 ≤ (xs[j]'hlt).size ∧ (xs[j]'hlt).size ≤ 4096 := HK.out j hlt
      have hs2 : szI ((xs[j]'hlt).size : Int) = 16 + ((xs[j]'hlt).size : Int) := szI_yes hs
      rw [hs2] at HSI
      clear hs2
      have hrs := RB_succ xs j hlt
      have hb1 := HRS.out (j + 1) hlt
      have hl1 := HL.out
      have HWS := Lib.hid (show wrap64 (((16 + RB xs j : Nat) : Int) + (16 + ((xs[j]'hlt).size : Int))) = ((16 + RB xs (j + 1) : Nat) : Int) by
        rw [show ((16 + RB xs j : Nat) : Int) + (16 + ((xs[j]'hlt).size : Int)) = ((16 + RB xs (j + 1) : Nat) : Int) by rw [hrs]; omega]
        exact IntWalk.wrap64_in _ ⟨by omega, by omega⟩)
      clear hs hrs hb1 hl1
      generalize ((16 + RB xs j : Nat) : Int) = Z at *
      generalize xs[j]'hlt = p at *
      go_wp2_with (go_at_call 36; refine (HSI.out _).mono ?_; rintro e w2 ⟨rfl, rfl⟩)
      go_roundw
      case rel => exact ⟨j + 1, HLT.out, by rw [HWS.out], by rw [HW1.out]; rfl, by first | trivial | rfl⟩
      case measure =>
        rw [HW1.out]
        show xs.length - ((j : Int) + 1).toNat < xs.length - (j : Int).toNat
        have := HLT.out; omega
    · obtain rfl : j = xs.length := by omega
      have HR := Lib.hid (show ((16 + RB xs xs.length : Nat) : Int) = (segN (bytesP xs) : Int) by rw [HRA.out])
      generalize ((16 + RB xs xs.length : Nat) : Int) = Z at *
      go_wp2_with fail
      go_ret
      exact ⟨by rw [HR.out]; rfl, rfl⟩
end Go.Proofs.Ytkjnddgjnlbopaa.Seg

/-
  The walks of begin, put, Join.
-/
namespace Go.Proofs.Ytkjnddgjnlbopaa.Seg
open Go Go.RowKit
open Go.Proofs.Ytkjnddgjnlbopaa.Wire (S S_list S_size cell_row frozen_row row_lt heap_set U)
open Go.Proofs.Ytkjnddgjnlbopaa.Frame

theorem Only.next {B : Nat} {a w : World} {p : Nat} (h : Opn.Only B a w) (hB : B ≤ p) (cs : Array Value) (fr : Nat × Nat) (hp : w.heap[p]? = some (.cells cs 67 fr)) (v : Value) : Opn.Only B a (w.setCell ⟨p, 2, none⟩ v) :=
  h.trans ⟨(Below.refl B w).setCell (p := ⟨p, 2, none⟩) hB v, fun k ks t kf hk h1 _ _ => by
    have hne : k ≠ p := by
      rintro rfl
      rw [hp] at hk; injection hk with hk; injection hk with _ e; exact h1 e.symm
    exact (Wire.heap_far 2 v hne).trans hk⟩
theorem only_boxed {B b : Nat} {w w' : World} {t : TypeId} {v : Value} (h : Opn.Only B w w') (hb : Boxed w b t v) (h1 : t ≠ 67) (h2 : t ≠ 112) (h3 : t ≠ 5) : Boxed w' b t v :=
  h.same b _ t (0, 0) hb h1 h2 h3
set_option maxRecDepth 100000 in
set_option maxHeartbeats 1000000 in
/-- begin -/
theorem begin_any (q : Nat) (hq : q ≤ 1048576) (w : World) :
    Calls Try.prog 31 #[.int .i64 (q : Int)] w fun e w' => e = .returned (.pointer (some ⟨w.heap.size, 0, none⟩)) ∧ Opn.Wr (q : Int) w.heap.size w' w.heap.size (segH q) ∧ Below w.heap.size w w' := by
  have HH := Lib.hid (fun W => header_any q hq W)
  obtain ⟨W0, hW0⟩ : ∃ W0, w.alloc (.cells #[.pointer none, .int .i64 0, .int .i64 (q : Int)] 67) = W0 := ⟨_, rfl⟩
  have hx : W0.heap[w.heap.size]? = some (.cells #[.pointer none, .int .i64 0, .int .i64 (q : Int)] 67 (0, 0)) := by rw [← hW0]; exact heap_alloc_new w _
  have HW := Lib.hid (show Opn.Wr (q : Int) w.heap.size W0 w.heap.size [] from ⟨Nat.le_refl _, Or.inl ⟨hx, rfl⟩⟩)
  have HB := Lib.hid (show Below w.heap.size w W0 by rw [← hW0]; exact (Below.refl _ _).alloc (Nat.le_refl _) _)
  have HZ := Lib.hid (show w.heap.size < W0.heap.size by rw [← hW0]; simp)
  clear hq hx
  go_enter Try.func31, Try.ntmps31
  go_wp2_with fail
  refine (HH.out _).mono ?_
  rintro e w1 ⟨rfl, hb⟩
  have HW1 := Lib.hid (HW.out.below (hb.mono (Nat.le_refl _)))
  have HB1 := Lib.hid (HB.out.trans (hb.mono HB.out.size))
  have HS := Lib.hid (S_list (segH q))
  have HL := Lib.hid (show ([] : List UInt8).length + (S (segH q)).size ≤ 1000000000000 by rw [S_size, segH_length]; decide)
  clear hb HW HB HZ hW0
  go_wp2_with fail
  refine (Opn.raw_any w1 _ _ _ (S (segH q)) HW1.out HL.out).mono ?_
  rintro e w2 ⟨rfl, hw2, ho2⟩
  rw [HS.out, List.nil_append] at hw2
  have HW2 := Lib.hid hw2
  have HB2 := Lib.hid (HB1.out.trans ho2.below)
  clear hw2 ho2 HW1 HB1
  go_wp2_with fail
  go_ret
  exact ⟨rfl, HW2.out, HB2.out⟩
set_option maxRecDepth 100000 in
set_option maxHeartbeats 1000000 in
/-- put -/
theorem put_seg (N : Nat) (s : ByteArray) (h0 : N < 1048576) (h1 : 1 ≤ s.size) (h2 : s.size ≤ 4096) (B p : Nat) (l : List UInt8) (hl : l.length ≤ 100000000000) (w : World) (hw : Opn.Wr (N : Int) B w p l) :
    Calls Try.prog 32 #[.pointer (some ⟨p, 0, none⟩), .string s] w fun e w' => e = .returned (.tuple #[]) ∧ Opn.Wr ((N + 1 : Nat) : Int) B w' p (l ++ frB N s.data.toList) ∧ Opn.Only B w w' := by
  have hmk : mkE (N : Int) s.data.toList = 0 := mkE_ok (by omega) (by omega) (by rw [s_len]; exact h1) (by rw [s_len]; exact h2)
  have hm := fun W => Make_any (N : Int) s (by omega) W
  unfold mkV mkB at hm
  rw [if_pos hmk, hmk, Int.toNat_natCast] at hm
  have HM := Lib.hid hm
  have hlen := frB_length N s.data.toList
  rw [s_len] at hlen
  have HL := Lib.hid (show l.length + (S (frB N s.data.toList)).size ≤ 1000000000000 by rw [S_size, hlen]; omega)
  have HLT := Lib.hid hw.low
  obtain ⟨c2, f2⟩ := hw.cell2
  have HW := Lib.hid hw
  have e1 : wrap64 ((N : Int) + 1) = ((N + 1 : Nat) : Int) := by rw [show (N : Int) + 1 = ((N + 1 : Nat) : Int) by omega]; exact IntWalk.wrap64_in _ ⟨by omega, by omega⟩
  have e2 : IntKind.i64.wrap ((N : Int) + 1) = ((N + 1 : Nat) : Int) := by rw [show (N : Int) + 1 = ((N + 1 : Nat) : Int) by omega]; exact IntWalk.i64_in _ ⟨by omega, by omega⟩
  have HLB := Lib.hid hw.lt
  have HBP := Lib.hid hw.1
  clear hmk hm hlen hw h0 h1 h2 hl
  rw [← S_list (frB N s.data.toList)]
  generalize S (frB N s.data.toList) = F at *
  generalize ((N + 1 : Nat) : Int) = M at *
  generalize (N : Int) = N' at *
  go_enter Try.func32, Try.ntmps32
  go_wp2_with fail
  refine (HM.out _).mono ?_
  rintro e w1 ⟨rfl, hb⟩
  have HW1 := Lib.hid (HW.out.below hb)
  have HO1 := Lib.hid (Opn.Only.of_below hb HLT.out)
  clear hb c2 f2 HW
  go_wp2_with fail
  refine (Opn.raw_any w1 B p l F HW1.out HL.out).mono ?_
  rintro e w2 ⟨rfl, hw2, ho2⟩
  have HW2 := Lib.hid hw2
  have HO2 := Lib.hid (HO1.out.trans ho2)
  obtain ⟨c2, f2⟩ := hw2.cell2
  clear hw2 ho2 HW1 HO1
  go_wp2_with fail
  go_end0
  obtain ⟨cs, hcs⟩ := HW2.out.typed
  exact ⟨rfl, HW2.out.next M, Only.next HO2.out HBP.out cs _ hcs _⟩
theorem take_succ (xs : List ByteArray) (j : Nat) (h : j < xs.length) : (bytesP xs).take (j + 1) = (bytesP xs).take j ++ [(xs[j]'h).data.toList] := by
  have hl : j < (bytesP xs).length := by rw [bytesP_len]; exact h
  rw [List.take_add_one, List.getElem?_eq_getElem hl, bytesP_at xs j h]; rfl
theorem seg_next (q : Nat) (xs : List ByteArray) (j : Nat) (h : j < xs.length) : segB q ((bytesP xs).take (j + 1)) = segB q ((bytesP xs).take j) ++ frB (q + j) (xs[j]'h).data.toList := by
  rw [take_succ xs j h, segB_snoc, List.length_take, bytesP_len, Nat.min_eq_left (Nat.le_of_lt h)]
theorem segN_take (xs : List ByteArray) (j : Nat) : segN ((bytesP xs).take j) = 16 + RB xs j := rfl
/-- what Join tells -/
def joV (q : Int) (xs : List ByteArray) : Ending := .returned (.tuple #[.string (S (joB q (bytesP xs))), .int .i64 (joE q (bytesP xs) : Int)])
set_option maxRecDepth 100000 in
set_option maxHeartbeats 2000000 in
/-- **Join** -/
theorem Join_any (q : Int) (A : Option Addr) (cap : Nat) (xs : List ByteArray) (hl : xs.length ≤ 1000000) (w : World) (hx : Strs w A xs) :
    Calls Try.prog 10 #[.int .i64 q, .slice A xs.length cap] w fun e w' => e = joV q xs ∧ Below w.heap.size w w' := by
  have HWR := Lib.hid (wrong_any q A cap xs (by omega) w hx)
  by_cases h0 : wrE q (bytesP xs) = 0
  · obtain ⟨hm, hk⟩ := wrE_zero h0
    obtain ⟨a, rfl⟩ : ∃ a : Nat, q = (a : Int) := ⟨q.toNat, by have := hm.1; omega⟩
    rw [Int.toNat_natCast] at hk
    have hok : ∀ j (h : j < xs.length), 1 ≤ xs[j].size ∧ xs[j].size ≤ 4096 := bytesP_ok.1 (okL_all.2 hk.2)
    have HSZ := Lib.hid (size_any A cap xs (by omega) hok w hx)
    have HK := Lib.hid hok
    have HQ := Lib.hid (show a + xs.length ≤ 1048576 by have := hk.1; rw [bytesP_len] at this; exact this)
    have HRS := Lib.hid (RB_small xs hok)
    rw [h0] at HWR
    by_cases h40 : 1048576 < segN (bytesP xs)
    · have hV : joV (a : Int) xs = .returned (.tuple #[.string ⟨#[]⟩, .int .i64 40]) := by
        have he : joE (a : Int) (bytesP xs) = 40 := by unfold joE; rw [if_pos h0, if_pos h40]
        unfold joV joB; rw [he, if_neg (by decide)]; rfl
      have HV := Lib.hid hV
      have y : (1048576 : Int) < (segN (bytesP xs) : Int) := by omega
      clear hV hm hk hok h0 h40
      generalize (segN (bytesP xs) : Int) = Z at *
      go_enter Try.func10, Try.ntmps10
      go_wp2_with fail
      refine HWR.out.mono ?_
      rintro e w1 ⟨rfl, rfl⟩
      go_wp2_with fail
      refine HSZ.out.mono ?_
      rintro e w2 ⟨rfl, rfl⟩
      go_wp2_with fail
      go_ret2
      exact ⟨HV.out.symm, Below.refl _ _⟩
    · have hV : joV (a : Int) xs = .returned (.tuple #[.string (S (segB a (bytesP xs))), .int .i64 0]) := by
        have he : joE (a : Int) (bytesP xs) = 0 := by unfold joE; rw [if_pos h0, if_neg h40]
        unfold joV joB; rw [he, if_pos rfl, Int.toNat_natCast]; rfl
      have HV := Lib.hid hV
      have y : ¬ (1048576 : Int) < (segN (bytesP xs) : Int) := by omega
      have HL := Lib.hid hl
      have HX := Lib.hid hx
      have HBE := Lib.hid (begin_any a (by have := hm.2; omega) w)
      have HT := Lib.hid (show (bytesP xs).take xs.length = bytesP xs by rw [show xs.length = (bytesP xs).length from (bytesP_len xs).symm, List.take_length])
      clear hV hm hk hok h0 h40 hx hl
      generalize (segN (bytesP xs) : Int) = Z at *
      go_enter Try.func10, Try.ntmps10
      go_wp2_with fail
      refine HWR.out.mono ?_
      rintro e w1 ⟨rfl, rfl⟩
      go_wp2_with fail
      refine HSZ.out.mono ?_
      rintro e w2 ⟨rfl, rfl⟩
      go_wp2_with fail
      refine HBE.out.mono ?_
      rintro e w3 ⟨rfl, hw3, hb3⟩
      have HW0 := Lib.hid (show Opn.Wr ((a + 0 : Nat) : Int) w.heap.size w3 w.heap.size (segB a ((bytesP xs).take 0)) by rw [List.take_zero, segB_nil]; exact hw3)
      have HB0 := Lib.hid hb3
      clear hw3 hb3
      go_wp2_with fail
      go_loopw [23] (fun y wr => ∃ j : Nat, j ≤ xs.length ∧ y = .int .i64 (j : Int) ∧ Hid (Opn.Wr ((a + j : Nat) : Int) w.heap.size wr w.heap.size (segB a ((bytesP xs).take j))) ∧ Hid (Below w.heap.size w wr)) (fun y _ => xs.length - (intOf y).toNat)
      case atStart => exact ⟨0, Nat.zero_le _, rfl, HW0, HB0⟩
      case round =>
        clear HW0 HB0
        obtain ⟨j, hj, rfl, HW, HB⟩ := hrel
        by_cases hlt : j < xs.length
        · obtain ⟨b, o, rfl, hb, hsz, c0⟩ := HX.out.below HB.out j hlt
          have hs := HK.out j hlt
          have HPU := Lib.hid (put_seg (a + j) (xs[j]'hlt) (by have := HQ.out; omega) hs.1 hs.2 w.heap.size w.heap.size (segB a ((bytesP xs).take j)) (by rw [segB_length, segN_take]; have := HRS.out j hj; have := HL.out; omega) wr HW.out)
          rw [← seg_next a xs j hlt, show a + j + 1 = a + (j + 1) by omega] at HPU
          have HLT := Lib.hid hlt
          have HW1 := Lib.hid (small64 j (by have := HL.out; omega))
          clear hs
          generalize xs[j]'hlt = p at *
          go_wp2_with fail
          refine HPU.out.mono ?_
          rintro e w5 ⟨rfl, hw5, ho5⟩
          have HW5 := Lib.hid hw5
          have HB5 := Lib.hid (HB.out.trans ho5.below)
          clear hw5 ho5 HW HB
          go_wp2_with fail
          go_roundw
          case rel => exact ⟨j + 1, HLT.out, by rw [HW1.out]; rfl, HW5, HB5⟩
          case measure =>
            rw [HW1.out]
            show xs.length - ((j : Int) + 1).toNat < xs.length - (j : Int).toNat
            have := HLT.out; omega
        · obtain rfl : j = xs.length := by omega
          rw [HT.out] at HW
          go_wp2_with fail
          refine (Opn.bytes_any wr _ _ _ HW.out).mono ?_
          rintro e w6 ⟨rfl, nq, rfl⟩
          go_wp2_with fail
          go_ret2
          exact ⟨HV.out.symm, HB.out.trans (below_dn _ _ _)⟩
  · have hV : joV q xs = .returned (.tuple #[.string ⟨#[]⟩, .int .i64 (wrE q (bytesP xs) : Int)]) := by
      have he : joE q (bytesP xs) = wrE q (bytesP xs) := by unfold joE; rw [if_neg h0]
      unfold joV joB; rw [he, if_neg h0]; rfl
    have HV := Lib.hid hV
    obtain ⟨q1, q2, q3, q4, q5⟩ := nat_ne h0
    clear hV h0 hx
    generalize wrE q (bytesP xs) = x at *
    go_enter Try.func10, Try.ntmps10
    go_wp2_with fail
    refine HWR.out.mono ?_
    rintro e w1 ⟨rfl, rfl⟩
    go_wp2_with fail
    go_ret2
    exact ⟨HV.out.symm, Below.refl _ _⟩
end Go.Proofs.Ytkjnddgjnlbopaa.Seg
