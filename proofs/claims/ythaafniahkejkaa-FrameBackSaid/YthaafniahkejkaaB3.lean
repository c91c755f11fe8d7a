/-
  The Writer: what it has in memory; 'put'.
-/
import Derived.Test.YthaafniahkejkaaB2
import Derived.Outline
import Derived.BigQuiet
import Derived.Deep.QuietTactic
import Derived.Deep.RegionHeldLaw
import Derived.Deep.DrawnRows
namespace Go.Proofs.Ythaafniahkejkaa.Wire
open Go.RowKit

theorem cell_row {w : World} {g : Nat} {cs : Array Value} {t : TypeId} {fr : Nat × Nat} (h : w.heap[g]? = some (.cells cs t fr)) (i : Nat) : w.cell? ⟨g, i, none⟩ = cs[i]? := cell_of_row w g i cs _ _ h
theorem frozen_row {w : World} {g : Nat} {cs : Array Value} {t : TypeId} (h : w.heap[g]? = some (.cells cs t (0, 0))) (i : Nat) : w.frozen? ⟨g, i, none⟩ = false := by
  unfold World.frozen?
  show (match w.heap[g]? with | some (.cells _ _ (lo, hi)) => _ | _ => _) = _
  rw [h]
  simp

theorem heap_set {w : World} {b : Nat} {cs : Array Value} {t : TypeId} {fr : Nat × Nat} (h : w.heap[b]? = some (.cells cs t fr)) (i : Nat) (v : Value) : (w.setCell ⟨b, i, none⟩ v).heap[b]? = some (.cells (cs.setIfInBounds i v) t fr) := by
  simp [World.setCell, Array.getElem?_modify, h]
theorem heap_far {w : World} {b k : Nat} (i : Nat) (v : Value) (h : k ≠ b) : (w.setCell ⟨b, i, none⟩ v).heap[k]? = w.heap[k]? := Below.heap_setCell w _ v k h

/-- a Writer's struct, its buffer's -/
def wrS (q : Nat) (n : Nat) : Array Value := #[.pointer (some ⟨q, 0, none⟩), .int .i64 (n : Int)]
def bfS (g n cap : Nat) : Array Value := #[.slice (some ⟨g, 0, none⟩) n cap]
/-- l has become l ++ m -/
structure PutB (p q g : Nat) (l m : List UInt8) (w w' : World) (g' cap' : Nat) : Prop where
  hp : w'.heap[p]? = some (.cells (wrS q (l ++ m).length) 67 (0, 0))
  hq : w'.heap[q]? = some (.cells (bfS g' (l ++ m).length cap') 89 (0, 0))
  row : BRow w' g' cap' (l ++ m)
  new : g' = g ∨ w.heap.size ≤ g'
  os : w'.os = w.os
  tape : w'.tape = w.tape
  output : w'.output = w.output
  size : w.heap.size ≤ w'.heap.size
  far : ∀ k, k < w.heap.size → k ≠ p → k ≠ q → k ≠ g → w'.heap[k]? = w.heap[k]?
theorem putB_of {p q g g' cap cap' n : Nat} {l m : List UInt8} {w w1 : World} (hp : w.heap[p]? = some (.cells (wrS q l.length) 67 (0, 0))) (hq : w.heap[q]? = some (.cells (bfS g l.length cap) 89 (0, 0)))
    (hpq : p ≠ q) (hpg : p ≠ g) (hqg : q ≠ g) (hrow : BRow w1 g' cap' (l ++ m)) (hgrow : (w.drewN n).grownBy w1 (some g)) (hg' : g' = g ∨ (w.drewN n).heap.size ≤ g') :
    PutB p q g l m w ((w1.setCell ⟨q, 0, none⟩ (.slice (some ⟨g', 0, none⟩) (l.length + m.length) cap')).setCell ⟨p, 1, none⟩ (.int .i64 ((l.length : Int) + (m.length : Int)))) g' cap' := by
  have hp1 : w1.heap[p]? = _ := (hgrow.block p (row_lt hp) (fun e => hpg (by injection e))).trans hp
  have hq1 : w1.heap[q]? = _ := (hgrow.block q (row_lt hq) (fun e => hqg (by injection e))).trans hq
  have hgp : g' ≠ p := by
    rcases hg' with e | e
    · exact fun e2 => hpg (by omega)
    · have : p < w.heap.size := row_lt hp
      have e' : w.heap.size ≤ g' := e
      omega
  have hgq : g' ≠ q := by
    rcases hg' with e | e
    · exact fun e2 => hqg (by omega)
    · have : q < w.heap.size := row_lt hq
      have e' : w.heap.size ≤ g' := e
      omega
  have el : (l ++ m).length = l.length + m.length := List.length_append
  refine ⟨?_, ?_, ?_, hg', hgrow.os, hgrow.tape, hgrow.output, Nat.le_trans hgrow.size (by simp [World.setCell]), ?_⟩
  · rw [heap_set ((heap_far 0 _ hpq).trans hp1), el]; rfl
  · rw [heap_far 1 _ (Ne.symm hpq), heap_set hq1, el]; rfl
  · exact hrow.same ((heap_far 1 _ hgp).trans (heap_far 0 _ hgq))
  · intro k hk h1 h2 h3
    rw [heap_far 1 _ h1, heap_far 0 _ h2]
    exact hgrow.block k hk (fun e => h3 (by injection e))

set_option maxRecDepth 100000 in
set_option maxHeartbeats 400000 in
theorem put_more (w : World) (p q g cap : Nat) (l m : List UInt8) (a : Addr) (c : Nat)
    (hp : w.heap[p]? = some (.cells (wrS q l.length) 67 (0, 0)))
    (hq : w.heap[q]? = some (.cells (bfS g l.length cap) 89 (0, 0)))
    (hrow : BRow w g cap l) (hsrc : Src w a m) (hs : l.length + m.length ≤ 1000000000000) :
    Calls Try.prog 48 #[.pointer (some ⟨p, 0, none⟩), .slice (some a) m.length c] w fun e w' => e = .returned (.tuple #[]) ∧ ∃ g' cap', PutB p q g l m w w' g' cap' := by
  have p0 : w.cell? ⟨p, 0, none⟩ = some (.pointer (some ⟨q, 0, none⟩)) := cell_row hp 0
  have p1 : w.cell? ⟨p, 1, none⟩ = some (.int .i64 (l.length : Int)) := cell_row hp 1
  have q0 : w.cell? ⟨q, 0, none⟩ = some (.slice (some ⟨g, 0, none⟩) l.length cap) := cell_row hq 0
  have fp0 := frozen_row hp 0
  have fp1 := frozen_row hp 1
  have fq0 := frozen_row hq 0
  have hpg : p ≠ g := by
    rintro rfl
    obtain ⟨cur, lo, hi, h1, _⟩ := hrow
    rw [h1] at hp; injection hp with hp; injection hp with _ ht; cases ht
  have hpq : p ≠ q := by
    rintro rfl
    rw [hp] at hq; injection hq with hq; injection hq with _ ht; cases ht
  have hqg : q ≠ g := by
    rintro rfl
    obtain ⟨cur, lo, hi, h1, _⟩ := hrow
    rw [h1] at hq; injection hq with hq; injection hq with _ ht; cases ht
  go_enter Try.func48, Try.ntmps48
  go_wp2_with fail
  go_quiet (fail)
  go_wp2_with fail
  have hrow' : BRow (w.drewN nq).drew g cap l := hrow
  have hsrc' : Src (w.drewN nq).drew a m := hsrc
  have hpl : p < ((w.drewN nq).drew).heap.size := row_lt hp
  have hql : q < ((w.drewN nq).drew).heap.size := row_lt hq
  go_region_law ((refine step_append_row (by rfl) (.tmp 44) (.tmp 45) (by rfl) g cap l (by rfl) hrow' a c m (by rfl) hsrc' hs ?_; intro g' cap' w1 hrow1 hgrow hg'; (have hq0 := grown_frozen hgrow q 0 hql hqg); (have hq1 := (grown_cell hgrow q 0 hql hqg).trans q0); (have hp0 := (grown_cell hgrow p 0 hpl hpg).trans p0); (have hp1 := (grown_cell hgrow p 1 hpl hpg).trans p1); (have gp0 := (grown_frozen hgrow p 0 hpl hpg).trans fp0); (have gp1 := (grown_frozen hgrow p 1 hpl hpg).trans fp1)))
  all_goals
    have h0 := hq0.trans fq0
    go_wp2
    go_end0
    exact ⟨rfl, _, _, putB_of hp hq hpq hpg hqg hrow1 hgrow hg'⟩

end Go.Proofs.Ythaafniahkejkaa.Wire
