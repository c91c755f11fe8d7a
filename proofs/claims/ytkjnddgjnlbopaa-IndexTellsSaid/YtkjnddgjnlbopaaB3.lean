import Derived.Test.YtkjnddgjnlbopaaRows
import Derived.Test.YtkjnddgjnlbopaaB1
import Derived.WalkKit
import Derived.Lib.Hide
import Derived.ArgAppend
import Derived.Deep.RegionLaw
import Derived.Laws.IdiomStrings
import Derived.Outline
import Derived.BigQuiet
import Derived.Deep.QuietTactic
import Derived.Deep.RegionHeldLaw
import Derived.Deep.DrawnRows
/-
  Memory of bytes: rows that are appended to, blocks that are known whole, what else stays. Numbers as the walk writes them.
-/
namespace Go.Proofs.Ytkjnddgjnlbopaa.Wire
open Go.RowKit

/-- a number of 64 bits as the walk has it, behind a name -/
def U (n : Nat) : Int := (n : Int)
theorem U_inj {a b : Nat} : U a = U b ↔ a = b := by unfold U; omega
def bv (b : UInt8) : Value := .int .u8 (b.toNat : Int)
def bvs (l : List UInt8) : List Value := l.map bv
theorem bvs_length (l : List UInt8) : (bvs l).length = l.length := by unfold bvs; simp
theorem bvs_append (l m : List UInt8) : bvs (l ++ m) = bvs l ++ bvs m := by unfold bvs; simp
theorem bvs_one (l : List UInt8) : ∀ u ∈ bvs l, u.oneCell' = true := by
  intro u hu
  unfold bvs at hu
  obtain ⟨b, _, rfl⟩ := List.mem_map.1 hu
  rfl

theorem row_lt {w : World} {g : Nat} {o : Obj} (h : w.heap[g]? = some o) : g < w.heap.size := by
  rcases Nat.lt_or_ge g w.heap.size with h1 | h1
  · exact h1
  · rw [Array.getElem?_eq_none h1] at h; cases h
theorem addr_add (b i j : Nat) : (⟨b, i, none⟩ : Addr).add j = ⟨b, i + j, none⟩ := by unfold Addr.add; split <;> simp_all

/-! ### cells set one by one -/
def putL (cs : Array Value) : Nat → List Value → Array Value
  | _, [] => cs
  | o, v :: r => putL (cs.setIfInBounds o v) (o + 1) r
theorem putL_size : ∀ (vs : List Value) (o : Nat) (cs : Array Value), (putL cs o vs).size = cs.size
  | [], _, _ => rfl
  | v :: r, o, cs => by rw [putL, putL_size r]; simp
theorem putL_take : ∀ (vs : List Value) (o : Nat) (cs : Array Value), o + vs.length ≤ cs.size → (putL cs o vs).toList.take (o + vs.length) = cs.toList.take o ++ vs
  | [], o, cs, _ => by simp [putL]
  | v :: r, o, cs, h => by
    rw [List.length_cons] at h ⊢
    have h2 := putL_take r (o + 1) (cs.setIfInBounds o v) (by simp; omega)
    rw [putL, show o + (r.length + 1) = o + 1 + r.length by omega, h2]
    have e : (cs.setIfInBounds o v).toList.take (o + 1) = cs.toList.take o ++ [v] := by
      rw [Array.toList_setIfInBounds, List.take_succ_eq_append_getElem (by simp; omega), List.take_set_of_le (Nat.le_refl _)]
      simp
    rw [e, List.append_assoc]; rfl
theorem heap_setCells : ∀ (vs : List Value) (b o : Nat) (w : World) (cs : Array Value) (t : TypeId) (fr : Nat × Nat), w.heap[b]? = some (.cells cs t fr) → (w.setCells b o vs).heap[b]? = some (.cells (putL cs o vs) t fr)
  | [], _, _, _, _, _, _, h => h
  | v :: r, b, o, w, cs, t, fr, h => by
    rw [World.setCells]
    refine heap_setCells r b (o + 1) _ _ t fr ?_
    simp [World.setCell, Array.getElem?_modify, h]
theorem grown_setCells : ∀ (vs : List Value) (b o : Nat) (w : World), w.grownBy (w.setCells b o vs) (some b)
  | [], b, o, w => ⟨rfl, rfl, rfl, Nat.le_refl _, fun _ _ _ => rfl⟩
  | v :: r, b, o, w => by
    have h := grown_setCells r b (o + 1) (w.setCell ⟨b, o, none⟩ v)
    refine ⟨h.os, h.tape, h.output, Nat.le_trans (by simp [World.setCell]) h.size, fun k hk hne => ?_⟩
    rw [World.setCells, h.block k (by simpa [World.setCell] using hk) hne]
    exact Below.heap_setCell w _ v k (fun e => hne (by rw [e]))

/-! ### a row of bytes of the call's own -/
def BRow (w : World) (g cap : Nat) (l : List UInt8) : Prop :=
  ∃ cur lo hi, w.heap[g]? = some (.cells cur 5 (lo, hi)) ∧ cur.size = cap ∧ (cap ≤ lo ∨ hi = 0) ∧ l.length ≤ cap ∧ cur.toList.take l.length = bvs l
theorem BRow.lt {w : World} {g cap : Nat} {l : List UInt8} (h : BRow w g cap l) : g < w.heap.size := by
  obtain ⟨cur, lo, hi, h, _⟩ := h; exact row_lt h
theorem BRow.same {w w' : World} {g cap : Nat} {l : List UInt8} (h : BRow w g cap l) (hs : w'.heap[g]? = w.heap[g]?) : BRow w' g cap l := by
  obtain ⟨cur, lo, hi, h1, h2⟩ := h; exact ⟨cur, lo, hi, hs.trans h1, h2⟩
theorem BRow.cell {w : World} {g cap : Nat} {l : List UInt8} (h : BRow w g cap l) (j : Nat) (hj : j < l.length) : w.cell? ⟨g, j, none⟩ = some (bv l[j]) := by
  obtain ⟨cur, lo, hi, h1, h2, h3, h4, h5⟩ := h
  rw [cell_of_row w g j cur _ _ h1]
  have e : cur.toList[j]? = (cur.toList.take l.length)[j]? := by rw [List.getElem?_take, if_pos hj]
  rw [← Array.getElem?_toList, e, h5]
  unfold bvs; simp [hj]

/-- bytes that stand at an address -/
def Src (w : World) (a : Addr) (l : List UInt8) : Prop := ∀ (j : Nat) (u : Value), (bvs l)[j]? = some u → w.cell? (a.add j) = some u
theorem Src.keep {w w' : World} {a : Addr} {l : List UInt8} (h : Src w a l) (hk : ∀ j, w'.cell? (a.add j) = w.cell? (a.add j)) : Src w' a l := fun j u hu => (hk j).trans (h j u hu)
theorem Src.of_block {w : World} {g : Nat} {cur : Array Value} {t : TypeId} {fr : Nat × Nat} {l : List UInt8} (h : w.heap[g]? = some (.cells cur t fr)) (hl : ∀ (j : Nat) (u : Value), (bvs l)[j]? = some u → cur[j]? = some u) : Src w ⟨g, 0, none⟩ l := by
  intro j u hu
  rw [addr_add, Nat.zero_add, cell_of_row w g j cur _ _ h]
  exact hl j u hu

theorem info5 : (Try.prog.info? 5).map (fun i => (i.zero, i.size, i.bytes)) = some (some (.int .u8 0), 1, 1) := by kernel_rfl

/-- bytes put behind a row: there, or in a new one -/
theorem run_append_row (w : World) (ty : TypeId) (g cap : Nat) (l : List UInt8) (hrow : BRow w g cap l) (a : Addr) (c : Nat) (m : List UInt8) (hsrc : Src w a m) (hsmall : l.length + m.length ≤ 1000000000000) :
    ∃ g' cap' w', (Builtin.append_ #[110, 110] ty #[.slice (some ⟨g, 0, none⟩) l.length cap, .slice (some a) m.length c]).run Try.prog w = .ok (.slice (some ⟨g', 0, none⟩) (l.length + m.length) cap') w' ∧
      BRow w' g' cap' (l ++ m) ∧ w.grownBy w' (some g) ∧ (g' = g ∨ w.heap.size ≤ g') := by
  obtain ⟨i0, hi, hz0, hz1, hz2⟩ := info_parts info5
  obtain ⟨cur, lo, hi', h1, h2, h3, h4, h5⟩ := hrow
  have hbl := bvs_length m
  by_cases hr : l.length + m.length ≤ cap
  · have hrun := run_append_room_cells (P := Try.prog) w 110 ty 5 i0 Try.underlying110 hi g 0 l.length cap a m.length c (bvs m) (by rw [hz1, hbl, Nat.mul_one]) hsrc (bvs_one m) hr
      (fun j hj => by rw [hz1, cell_of_row w g _ cur _ _ h1, Array.getElem?_eq_getElem (by omega)]; rfl)
      (fun j hj => by
        rw [hz1]
        unfold World.frozen?
        show (match w.heap[g]? with | some (.cells _ _ (lo, hi)) => _ | _ => _) = _
        rw [h1]
        show (decide (lo ≤ 0 + l.length * 1 + j) && decide (0 + l.length * 1 + j < hi')) = false
        rcases h3 with h3 | h3
        · rw [decide_eq_false (by omega)]; rfl
        · rw [decide_eq_false (p := _ < hi') (by omega)]; simp)
    refine ⟨g, cap, _, hrun, ?_, grown_setCells _ _ _ _, Or.inl rfl⟩
    rw [hz1, Nat.mul_one, Nat.zero_add]
    refine ⟨_, lo, hi', heap_setCells (bvs m) g l.length w cur _ _ h1, by rw [putL_size]; exact h2, h3, by rw [List.length_append]; exact hr, ?_⟩
    have := putL_take (bvs m) l.length cur (by omega)
    rw [List.length_append, ← hbl, this, h5, bvs_append]
  · have holds : ∀ j u, (bvs l)[j]? = some u → w.cell? ((⟨g, 0, none⟩ : Addr).add j) = some u := by
      intro j u hu
      have hj : j < l.length := by have := (List.getElem?_eq_some_iff.1 hu).1; rwa [bvs_length] at this
      rw [addr_add, Nat.zero_add, BRow.cell ⟨cur, lo, hi', h1, h2, h3, h4, h5⟩ j hj]
      rw [← hu]; unfold bvs; simp [hj]
    obtain ⟨v', w', hrun, r1, r2⟩ := run_append_arg_grows (P := Try.prog) w 110 ty 5 i0 (.int .u8 0) 1 1 Try.underlying110 hi hz0 hz1 hz2 rfl (by decide) ⟨g, 0, none⟩ l.length cap (bvs l) (by rw [bvs_length, Nat.mul_one]) holds a m.length c (bvs m) (by rw [hbl, Nat.mul_one]) hsrc (by omega) (by unfold maxLen; omega) (by omega)
    rcases r1.2 with ⟨_, h0⟩ | ⟨g', cap', cur', rfl, hg, hh, hn, _, hsz, htk⟩
    · omega
    · refine ⟨g', cap', w', hrun, ⟨cur', 0, 0, hh, by omega, Or.inr rfl, by rw [List.length_append]; exact hn, ?_⟩, ⟨r2.os, r2.tape, r2.output, r2.size, fun k hk _ => r2.block k hk (by simp)⟩, ?_⟩
      · rw [Nat.mul_one] at htk; rw [List.length_append, htk, bvs_append]
      · exact Or.inr hg

theorem wp_append_row {o : Oper} {a : Act} {w : World} {K : Act → World → Prop} {Q : Exit → Act → World → Prop} (s x : Operand)
    (ho : o.op = .call { callee := .builtin .append, args := #[s, x], argTypes := #[110, 110] })
    (g cap : Nat) (l : List UInt8) (hs : a.eval s = .slice (some ⟨g, 0, none⟩) l.length cap) (hrow : BRow w g cap l)
    (ad : Addr) (c : Nat) (m : List UInt8) (hx : a.eval x = .slice (some ad) m.length c) (hsrc : Src w ad m) (hsmall : l.length + m.length ≤ 1000000000000)
    (h : ∀ g' cap' w', BRow w' g' cap' (l ++ m) → w.grownBy w' (some g) → (g' = g ∨ w.heap.size ≤ g') → K (a.put o.dst (.slice (some ⟨g', 0, none⟩) (l.length + m.length) cap')) w') : o.wp Try.prog a w K Q := by
  obtain ⟨g', cap', w', hr, h2, h3, h4⟩ := run_append_row w o.type g cap l hrow ad c m hsrc hsmall
  unfold Oper.wp execOp
  simp only [ho, resolve, invoke, builtin, Sem.run_bind, Sem.run_pure, Result.andThen_ok, List.map_toArray, List.map_cons, List.map_nil, hs, hx, hr]
  exact h g' cap' w' h2 h3 h4
theorem step_append_row {ops : Array Oper} {o : Oper} {a : Act} {w : World} {K : Act → World → Prop} {Q : Exit → Act → World → Prop} {E : Prop} (hgd : o.guard = none) (s x : Operand)
    (ho : o.op = .call { callee := .builtin .append, args := #[s, x], argTypes := #[110, 110] })
    (g cap : Nat) (l : List UInt8) (hs : a.eval s = .slice (some ⟨g, 0, none⟩) l.length cap) (hrow : BRow w g cap l)
    (ad : Addr) (c : Nat) (m : List UInt8) (hx : a.eval x = .slice (some ad) m.length c) (hsrc : Src w ad m) (hsmall : l.length + m.length ≤ 1000000000000)
    (h : ∀ g' cap' w', BRow w' g' cap' (l ++ m) → w.grownBy w' (some g) → (g' = g ∨ w.heap.size ≤ g') → K (a.put o.dst (.slice (some ⟨g', 0, none⟩) (l.length + m.length) cap')) w') :
    if Region.wanted o (yielded ops a.tmps) = true then Oper.wp Try.prog o a w K Q else E := by
  have hw : Region.wanted o (yielded ops a.tmps) = true := by simp [Region.wanted, hgd]
  rw [if_pos hw]
  exact wp_append_row s x ho g cap l hs hrow ad c m hx hsrc hsmall h
theorem grown_cell {w w' : World} {g : Nat} (h : w.grownBy w' (some g)) (p i : Nat) (hp : p < w.heap.size) (hne : p ≠ g) : w'.cell? ⟨p, i, none⟩ = w.cell? ⟨p, i, none⟩ :=
  World.cell?_of_block (h.block p hp (fun e => hne (by injection e)))
theorem grown_frozen {w w' : World} {g : Nat} (h : w.grownBy w' (some g)) (p i : Nat) (hp : p < w.heap.size) (hne : p ≠ g) : w'.frozen? ⟨p, i, none⟩ = w.frozen? ⟨p, i, none⟩ :=
  World.frozen?_of_block (h.block p hp (fun e => hne (by injection e)))

end Go.Proofs.Ytkjnddgjnlbopaa.Wire

/-
  The Writer: what it has in memory; 'put'.
-/
namespace Go.Proofs.Ytkjnddgjnlbopaa.Wire
open Go.RowKit

theorem cell_row {w : World} {g : Nat} {cs : Array Value} {t : TypeId} {fr : Nat × Nat} (h : w.heap[g]? = some (.cells cs t fr)) (i : Nat) : w.cell? ⟨g, i, none⟩ = cs[i]? := cell_of_row w g i cs _ _ h
theorem frozen_row {w : World} {g : Nat} {cs : Array Value} {t : TypeId} (h : w.heap[g]? = some (.cells cs t (0, 0))) (i : Nat) : w.frozen? ⟨g, i, none⟩ = false := by
  unfold World.frozen?
  show (match w.heap[g]? with | some (.cells _ _ (lo, hi)) => _ | _ => _) = _
  rw [h]
  simp

theorem heap_set {w : World} {b : Nat} {cs : Array Value} {t : TypeId} {fr : Nat × Nat} (h : w.heap[b]? = some (.cells cs t fr)) (i : Nat) (v : Value) : (w.setCell ⟨b, i, none⟩ v).heap[b]? = some (.cells (cs.setIfInBounds i v) t fr) := by
  simp [World.setCell, Array.getElem?_modify, h]
theorem heap_far {w : World} {b k : Nat} (i : Nat) (v : Value) (h : k ≠ b) : (w.setCell ⟨b, i, none⟩ v).heap[k]? = w.heap[k]? := Below.heap_setCell w _ v k h

/-- a Writer's struct, its buffer's -/
def wrS (q : Nat) (n : Nat) : Array Value := #[.pointer (some ⟨q, 0, none⟩), .int .i64 (n : Int)]
def bfS (g n cap : Nat) : Array Value := #[.slice (some ⟨g, 0, none⟩) n cap]
/-- l has become l ++ m -/
structure PutB (p q g : Nat) (l m : List UInt8) (w w' : World) (g' cap' : Nat) : Prop where
  hp : w'.heap[p]? = some (.cells (wrS q (l ++ m).length) 65 (0, 0))
  hq : w'.heap[q]? = some (.cells (bfS g' (l ++ m).length cap') 112 (0, 0))
  row : BRow w' g' cap' (l ++ m)
  new : g' = g ∨ w.heap.size ≤ g'
  os : w'.os = w.os
  tape : w'.tape = w.tape
  output : w'.output = w.output
  size : w.heap.size ≤ w'.heap.size
  far : ∀ k, k < w.heap.size → k ≠ p → k ≠ q → k ≠ g → w'.heap[k]? = w.heap[k]?
theorem putB_of {p q g g' cap cap' n : Nat} {l m : List UInt8} {w w1 : World} (hp : w.heap[p]? = some (.cells (wrS q l.length) 65 (0, 0))) (hq : w.heap[q]? = some (.cells (bfS g l.length cap) 112 (0, 0)))
    (hpq : p ≠ q) (hpg : p ≠ g) (hqg : q ≠ g) (hrow : BRow w1 g' cap' (l ++ m)) (hgrow : (w.drewN n).grownBy w1 (some g)) (hg' : g' = g ∨ (w.drewN n).heap.size ≤ g') :
    PutB p q g l m w ((w1.setCell ⟨q, 0, none⟩ (.slice (some ⟨g', 0, none⟩) (l.length + m.length) cap')).setCell ⟨p, 1, none⟩ (.int .i64 ((l.length : Int) + (m.length : Int)))) g' cap' := by
  have hp1 : w1.heap[p]? = _ := (hgrow.block p (row_lt hp) (fun e => hpg (by injection e))).trans hp
  have hq1 : w1.heap[q]? = _ := (hgrow.block q (row_lt hq) (fun e => hqg (by injection e))).trans hq
  have hgp : g' ≠ p := by
    rcases hg' with e | e
    · exact fun e2 => hpg (by omega)
    · have : p < w.heap.size := row_lt hp
      have e' : w.heap.size ≤ g' := e
      omega
  have hgq : g' ≠ q := by
    rcases hg' with e | e
    · exact fun e2 => hqg (by omega)
    · have : q < w.heap.size := row_lt hq
      have e' : w.heap.size ≤ g' := e
      omega
  have el : (l ++ m).length = l.length + m.length := List.length_append
  refine ⟨?_, ?_, ?_, hg', hgrow.os, hgrow.tape, hgrow.output, Nat.le_trans hgrow.size (by simp [World.setCell]), ?_⟩
  · rw [heap_set ((heap_far 0 _ hpq).trans hp1), el]; rfl
  · rw [heap_far 1 _ (Ne.symm hpq), heap_set hq1, el]; rfl
  · exact hrow.same ((heap_far 1 _ hgp).trans (heap_far 0 _ hgq))
  · intro k hk h1 h2 h3
    rw [heap_far 1 _ h1, heap_far 0 _ h2]
    exact hgrow.block k hk (fun e => h3 (by injection e))

set_option maxRecDepth 100000 in
set_option maxHeartbeats 400000 in
theorem put_more (w : World) (p q g cap : Nat) (l m : List UInt8) (a : Addr) (c : Nat)
    (hp : w.heap[p]? = some (.cells (wrS q l.length) 65 (0, 0)))
    (hq : w.heap[q]? = some (.cells (bfS g l.length cap) 112 (0, 0)))
    (hrow : BRow w g cap l) (hsrc : Src w a m) (hs : l.length + m.length ≤ 1000000000000) :
    Calls Try.prog 81 #[.pointer (some ⟨p, 0, none⟩), .slice (some a) m.length c] w fun e w' => e = .returned (.tuple #[]) ∧ ∃ g' cap', PutB p q g l m w w' g' cap' := by
  have p0 : w.cell? ⟨p, 0, none⟩ = some (.pointer (some ⟨q, 0, none⟩)) := cell_row hp 0
  have p1 : w.cell? ⟨p, 1, none⟩ = some (.int .i64 (l.length : Int)) := cell_row hp 1
  have q0 : w.cell? ⟨q, 0, none⟩ = some (.slice (some ⟨g, 0, none⟩) l.length cap) := cell_row hq 0
  have fp0 := frozen_row hp 0
  have fp1 := frozen_row hp 1
  have fq0 := frozen_row hq 0
  have hpg : p ≠ g := by
    rintro rfl
    obtain ⟨cur, lo, hi, h1, _⟩ := hrow
    rw [h1] at hp; injection hp with hp; injection hp with _ ht; cases ht
  have hpq : p ≠ q := by
    rintro rfl
    rw [hp] at hq; injection hq with hq; injection hq with _ ht; cases ht
  have hqg : q ≠ g := by
    rintro rfl
    obtain ⟨cur, lo, hi, h1, _⟩ := hrow
    rw [h1] at hq; injection hq with hq; injection hq with _ ht; cases ht
  go_enter Try.func81, Try.ntmps81
  go_wp2_with fail
  go_quiet (fail)
  go_wp2_with fail
  have hrow' : BRow (w.drewN nq).drew g cap l := hrow
  have hsrc' : Src (w.drewN nq).drew a m := hsrc
  have hpl : p < ((w.drewN nq).drew).heap.size := row_lt hp
  have hql : q < ((w.drewN nq).drew).heap.size := row_lt hq
  go_region_law ((refine step_append_row (by rfl) (.tmp 44) (.tmp 45) (by rfl) g cap l (by rfl) hrow' a c m (by rfl) hsrc' hs ?_; intro g' cap' w1 hrow1 hgrow hg'; (have hq0 := grown_frozen hgrow q 0 hql hqg); (have hq1 := (grown_cell hgrow q 0 hql hqg).trans q0); (have hp0 := (grown_cell hgrow p 0 hpl hpg).trans p0); (have hp1 := (grown_cell hgrow p 1 hpl hpg).trans p1); (have gp0 := (grown_frozen hgrow p 0 hpl hpg).trans fp0); (have gp1 := (grown_frozen hgrow p 1 hpl hpg).trans fp1)))
  all_goals
    have h0 := hq0.trans fq0
    go_wp2
    go_end0
    exact ⟨rfl, _, _, putB_of hp hq hpq hpg hqg hrow1 hgrow hg'⟩

end Go.Proofs.Ytkjnddgjnlbopaa.Wire
