import Derived.Test.YticfnfekkmkclaaGreatDoorRows
import Derived.Test.YticfnfekkmkclaaGreatDoorB1
import Derived.WalkKit
import Derived.Lib.Hide
import Derived.ArgAppend
import Derived.Deep.RegionLaw
import Derived.Laws.IdiomStrings
import Derived.Outline
import Derived.BigQuiet
import Derived.Deep.QuietTactic
import Derived.Deep.RegionHeldLaw
import Derived.Deep.DrawnRows
import Derived.Laws.BitsAllLaws
import Derived.Laws.Bits64
import Derived.Lib.SlBytesConst
/-
  Memory of bytes: rows that are appended to, blocks that are known whole, what else stays. Numbers as the walk writes them.
-/
namespace Go.Proofs.YticfnfekkmkclaaGreatDoor.Wire
open Go.RowKit

/-- a number of 64 bits as the walk has it, behind a name -/
def U (n : Nat) : Int := (n : Int)
theorem U_inj {a b : Nat} : U a = U b ↔ a = b := by unfold U; omega
def bv (b : UInt8) : Value := .int .u8 (b.toNat : Int)
def bvs (l : List UInt8) : List Value := l.map bv
theorem bvs_length (l : List UInt8) : (bvs l).length = l.length := by unfold bvs; simp
theorem bvs_append (l m : List UInt8) : bvs (l ++ m) = bvs l ++ bvs m := by unfold bvs; simp
theorem bvs_one (l : List UInt8) : ∀ u ∈ bvs l, u.oneCell' = true := by
  intro u hu
  unfold bvs at hu
  obtain ⟨b, _, rfl⟩ := List.mem_map.1 hu
  rfl

theorem row_lt {w : World} {g : Nat} {o : Obj} (h : w.heap[g]? = some o) : g < w.heap.size := by
  rcases Nat.lt_or_ge g w.heap.size with h1 | h1
  · exact h1
  · rw [Array.getElem?_eq_none h1] at h; cases h
theorem addr_add (b i j : Nat) : (⟨b, i, none⟩ : Addr).add j = ⟨b, i + j, none⟩ := by unfold Addr.add; split <;> simp_all

/-! ### cells set one by one -/
def putL (cs : Array Value) : Nat → List Value → Array Value
  | _, [] => cs
  | o, v :: r => putL (cs.setIfInBounds o v) (o + 1) r
theorem putL_size : ∀ (vs : List Value) (o : Nat) (cs : Array Value), (putL cs o vs).size = cs.size
  | [], _, _ => rfl
  | v :: r, o, cs => by rw [putL, putL_size r]; simp
theorem putL_take : ∀ (vs : List Value) (o : Nat) (cs : Array Value), o + vs.length ≤ cs.size → (putL cs o vs).toList.take (o + vs.length) = cs.toList.take o ++ vs
  | [], o, cs, _ => by simp [putL]
  | v :: r, o, cs, h => by
    rw [List.length_cons] at h ⊢
    have h2 := putL_take r (o + 1) (cs.setIfInBounds o v) (by simp; omega)
    rw [putL, show o + (r.length + 1) = o + 1 + r.length by omega, h2]
    have e : (cs.setIfInBounds o v).toList.take (o + 1) = cs.toList.take o ++ [v] := by
      rw [Array.toList_setIfInBounds, List.take_succ_eq_append_getElem (by simp; omega), List.take_set_of_le (Nat.le_refl _)]
      simp
    rw [e, List.append_assoc]; rfl
theorem heap_setCells : ∀ (vs : List Value) (b o : Nat) (w : World) (cs : Array Value) (t : TypeId) (fr : Nat × Nat), w.heap[b]? = some (.cells cs t fr) → (w.setCells b o vs).heap[b]? = some (.cells (putL cs o vs) t fr)
  | [], _, _, _, _, _, _, h => h
  | v :: r, b, o, w, cs, t, fr, h => by
    rw [World.setCells]
    refine heap_setCells r b (o + 1) _ _ t fr ?_
    simp [World.setCell, Array.getElem?_modify, h]
theorem grown_setCells : ∀ (vs : List Value) (b o : Nat) (w : World), w.grownBy (w.setCells b o vs) (some b)
  | [], b, o, w => ⟨rfl, rfl, rfl, Nat.le_refl _, fun _ _ _ => rfl⟩
  | v :: r, b, o, w => by
    have h := grown_setCells r b (o + 1) (w.setCell ⟨b, o, none⟩ v)
    refine ⟨h.os, h.tape, h.output, Nat.le_trans (by simp [World.setCell]) h.size, fun k hk hne => ?_⟩
    rw [World.setCells, h.block k (by simpa [World.setCell] using hk) hne]
    exact Below.heap_setCell w _ v k (fun e => hne (by rw [e]))

/-! ### a row of bytes of the call's own -/
def BRow (w : World) (g cap : Nat) (l : List UInt8) : Prop :=
  ∃ cur lo hi, w.heap[g]? = some (.cells cur 5 (lo, hi)) ∧ cur.size = cap ∧ (cap ≤ lo ∨ hi = 0) ∧ l.length ≤ cap ∧ cur.toList.take l.length = bvs l
theorem BRow.lt {w : World} {g cap : Nat} {l : List UInt8} (h : BRow w g cap l) : g < w.heap.size := by
  obtain ⟨cur, lo, hi, h, _⟩ := h; exact row_lt h
theorem BRow.same {w w' : World} {g cap : Nat} {l : List UInt8} (h : BRow w g cap l) (hs : w'.heap[g]? = w.heap[g]?) : BRow w' g cap l := by
  obtain ⟨cur, lo, hi, h1, h2⟩ := h; exact ⟨cur, lo, hi, hs.trans h1, h2⟩
theorem BRow.cell {w : World} {g cap : Nat} {l : List UInt8} (h : BRow w g cap l) (j : Nat) (hj : j < l.length) : w.cell? ⟨g, j, none⟩ = some (bv l[j]) := by
  obtain ⟨cur, lo, hi, h1, h2, h3, h4, h5⟩ := h
  rw [cell_of_row w g j cur _ _ h1]
  have e : cur.toList[j]? = (cur.toList.take l.length)[j]? := by rw [List.getElem?_take, if_pos hj]
  rw [← Array.getElem?_toList, e, h5]
  unfold bvs; simp [hj]

/-- bytes that stand at an address -/
def Src (w : World) (a : Addr) (l : List UInt8) : Prop := ∀ (j : Nat) (u : Value), (bvs l)[j]? = some u → w.cell? (a.add j) = some u
theorem Src.keep {w w' : World} {a : Addr} {l : List UInt8} (h : Src w a l) (hk : ∀ j, w'.cell? (a.add j) = w.cell? (a.add j)) : Src w' a l := fun j u hu => (hk j).trans (h j u hu)
theorem Src.of_block {w : World} {g : Nat} {cur : Array Value} {t : TypeId} {fr : Nat × Nat} {l : List UInt8} (h : w.heap[g]? = some (.cells cur t fr)) (hl : ∀ (j : Nat) (u : Value), (bvs l)[j]? = some u → cur[j]? = some u) : Src w ⟨g, 0, none⟩ l := by
  intro j u hu
  rw [addr_add, Nat.zero_add, cell_of_row w g j cur _ _ h]
  exact hl j u hu

theorem info5 : (Tryz.prog.info? 5).map (fun i => (i.zero, i.size, i.bytes)) = some (some (.int .u8 0), 1, 1) := by kernel_rfl

/-- bytes put behind a row: there, or in a new one -/
theorem run_append_row (w : World) (ty : TypeId) (g cap : Nat) (l : List UInt8) (hrow : BRow w g cap l) (a : Addr) (c : Nat) (m : List UInt8) (hsrc : Src w a m) (hsmall : l.length + m.length ≤ 1000000000000) :
    ∃ g' cap' w', (Builtin.append_ #[86, 86] ty #[.slice (some ⟨g, 0, none⟩) l.length cap, .slice (some a) m.length c]).run Tryz.prog w = .ok (.slice (some ⟨g', 0, none⟩) (l.length + m.length) cap') w' ∧
      BRow w' g' cap' (l ++ m) ∧ w.grownBy w' (some g) ∧ (g' = g ∨ w.heap.size ≤ g') := by
  obtain ⟨i0, hi, hz0, hz1, hz2⟩ := info_parts info5
  obtain ⟨cur, lo, hi', h1, h2, h3, h4, h5⟩ := hrow
  have hbl := bvs_length m
  by_cases hr : l.length + m.length ≤ cap
  · have hrun := run_append_room_cells (P := Tryz.prog) w 86 ty 5 i0 Tryz.underlying86 hi g 0 l.length cap a m.length c (bvs m) (by rw [hz1, hbl, Nat.mul_one]) hsrc (bvs_one m) hr
      (fun j hj => by rw [hz1, cell_of_row w g _ cur _ _ h1, Array.getElem?_eq_getElem (by omega)]; rfl)
      (fun j hj => by
        rw [hz1]
        unfold World.frozen?
        show (match w.heap[g]? with | some (.cells _ _ (lo, hi)) => _ | _ => _) = _
        rw [h1]
        show (decide (lo ≤ 0 + l.length * 1 + j) && decide (0 + l.length * 1 + j < hi')) = false
        rcases h3 with h3 | h3
        · rw [decide_eq_false (by omega)]; rfl
        · rw [decide_eq_false (p := _ < hi') (by omega)]; simp)
    refine ⟨g, cap, _, hrun, ?_, grown_setCells _ _ _ _, Or.inl rfl⟩
    rw [hz1, Nat.mul_one, Nat.zero_add]
    refine ⟨_, lo, hi', heap_setCells (bvs m) g l.length w cur _ _ h1, by rw [putL_size]; exact h2, h3, by rw [List.length_append]; exact hr, ?_⟩
    have := putL_take (bvs m) l.length cur (by omega)
    rw [List.length_append, ← hbl, this, h5, bvs_append]
  · have holds : ∀ j u, (bvs l)[j]? = some u → w.cell? ((⟨g, 0, none⟩ : Addr).add j) = some u := by
      intro j u hu
      have hj : j < l.length := by have := (List.getElem?_eq_some_iff.1 hu).1; rwa [bvs_length] at this
      rw [addr_add, Nat.zero_add, BRow.cell ⟨cur, lo, hi', h1, h2, h3, h4, h5⟩ j hj]
      rw [← hu]; unfold bvs; simp [hj]
    obtain ⟨v', w', hrun, r1, r2⟩ := run_append_arg_grows (P := Tryz.prog) w 86 ty 5 i0 (.int .u8 0) 1 1 Tryz.underlying86 hi hz0 hz1 hz2 rfl (by decide) ⟨g, 0, none⟩ l.length cap (bvs l) (by rw [bvs_length, Nat.mul_one]) holds a m.length c (bvs m) (by rw [hbl, Nat.mul_one]) hsrc (by omega) (by unfold maxLen; omega) (by omega)
    rcases r1.2 with ⟨_, h0⟩ | ⟨g', cap', cur', rfl, hg, hh, hn, _, hsz, htk⟩
    · omega
    · refine ⟨g', cap', w', hrun, ⟨cur', 0, 0, hh, by omega, Or.inr rfl, by rw [List.length_append]; exact hn, ?_⟩, ⟨r2.os, r2.tape, r2.output, r2.size, fun k hk _ => r2.block k hk (by simp)⟩, ?_⟩
      · rw [Nat.mul_one] at htk; rw [List.length_append, htk, bvs_append]
      · exact Or.inr hg

theorem wp_append_row {o : Oper} {a : Act} {w : World} {K : Act → World → Prop} {Q : Exit → Act → World → Prop} (s x : Operand)
    (ho : o.op = .call { callee := .builtin .append, args := #[s, x], argTypes := #[86, 86] })
    (g cap : Nat) (l : List UInt8) (hs : a.eval s = .slice (some ⟨g, 0, none⟩) l.length cap) (hrow : BRow w g cap l)
    (ad : Addr) (c : Nat) (m : List UInt8) (hx : a.eval x = .slice (some ad) m.length c) (hsrc : Src w ad m) (hsmall : l.length + m.length ≤ 1000000000000)
    (h : ∀ g' cap' w', BRow w' g' cap' (l ++ m) → w.grownBy w' (some g) → (g' = g ∨ w.heap.size ≤ g') → K (a.put o.dst (.slice (some ⟨g', 0, none⟩) (l.length + m.length) cap')) w') : o.wp Tryz.prog a w K Q := by
  obtain ⟨g', cap', w', hr, h2, h3, h4⟩ := run_append_row w o.type g cap l hrow ad c m hsrc hsmall
  unfold Oper.wp execOp
  simp only [ho, resolve, invoke, builtin, Sem.run_bind, Sem.run_pure, Result.andThen_ok, List.map_toArray, List.map_cons, List.map_nil, hs, hx, hr]
  exact h g' cap' w' h2 h3 h4
theorem step_append_row {ops : Array Oper} {o : Oper} {a : Act} {w : World} {K : Act → World → Prop} {Q : Exit → Act → World → Prop} {E : Prop} (hgd : o.guard = none) (s x : Operand)
    (ho : o.op = .call { callee := .builtin .append, args := #[s, x], argTypes := #[86, 86] })
    (g cap : Nat) (l : List UInt8) (hs : a.eval s = .slice (some ⟨g, 0, none⟩) l.length cap) (hrow : BRow w g cap l)
    (ad : Addr) (c : Nat) (m : List UInt8) (hx : a.eval x = .slice (some ad) m.length c) (hsrc : Src w ad m) (hsmall : l.length + m.length ≤ 1000000000000)
    (h : ∀ g' cap' w', BRow w' g' cap' (l ++ m) → w.grownBy w' (some g) → (g' = g ∨ w.heap.size ≤ g') → K (a.put o.dst (.slice (some ⟨g', 0, none⟩) (l.length + m.length) cap')) w') :
    if Region.wanted o (yielded ops a.tmps) = true then Oper.wp Tryz.prog o a w K Q else E := by
  have hw : Region.wanted o (yielded ops a.tmps) = true := by simp [Region.wanted, hgd]
  rw [if_pos hw]
  exact wp_append_row s x ho g cap l hs hrow ad c m hx hsrc hsmall h
theorem grown_cell {w w' : World} {g : Nat} (h : w.grownBy w' (some g)) (p i : Nat) (hp : p < w.heap.size) (hne : p ≠ g) : w'.cell? ⟨p, i, none⟩ = w.cell? ⟨p, i, none⟩ :=
  World.cell?_of_block (h.block p hp (fun e => hne (by injection e)))
theorem grown_frozen {w w' : World} {g : Nat} (h : w.grownBy w' (some g)) (p i : Nat) (hp : p < w.heap.size) (hne : p ≠ g) : w'.frozen? ⟨p, i, none⟩ = w.frozen? ⟨p, i, none⟩ :=
  World.frozen?_of_block (h.block p hp (fun e => hne (by injection e)))

end Go.Proofs.YticfnfekkmkclaaGreatDoor.Wire

/-
  The Writer: what it has in memory; 'put'.
-/
namespace Go.Proofs.YticfnfekkmkclaaGreatDoor.Wire
open Go.RowKit

theorem cell_row {w : World} {g : Nat} {cs : Array Value} {t : TypeId} {fr : Nat × Nat} (h : w.heap[g]? = some (.cells cs t fr)) (i : Nat) : w.cell? ⟨g, i, none⟩ = cs[i]? := cell_of_row w g i cs _ _ h
theorem frozen_row {w : World} {g : Nat} {cs : Array Value} {t : TypeId} (h : w.heap[g]? = some (.cells cs t (0, 0))) (i : Nat) : w.frozen? ⟨g, i, none⟩ = false := by
  unfold World.frozen?
  show (match w.heap[g]? with | some (.cells _ _ (lo, hi)) => _ | _ => _) = _
  rw [h]
  simp

theorem heap_set {w : World} {b : Nat} {cs : Array Value} {t : TypeId} {fr : Nat × Nat} (h : w.heap[b]? = some (.cells cs t fr)) (i : Nat) (v : Value) : (w.setCell ⟨b, i, none⟩ v).heap[b]? = some (.cells (cs.setIfInBounds i v) t fr) := by
  simp [World.setCell, Array.getElem?_modify, h]
theorem heap_far {w : World} {b k : Nat} (i : Nat) (v : Value) (h : k ≠ b) : (w.setCell ⟨b, i, none⟩ v).heap[k]? = w.heap[k]? := Below.heap_setCell w _ v k h

/-- a Writer's struct, its buffer's -/
def wrS (q : Nat) (n : Nat) : Array Value := #[.pointer (some ⟨q, 0, none⟩), .int .i64 (n : Int)]
def bfS (g n cap : Nat) : Array Value := #[.slice (some ⟨g, 0, none⟩) n cap]
/-- l has become l ++ m -/
structure PutB (p q g : Nat) (l m : List UInt8) (w w' : World) (g' cap' : Nat) : Prop where
  hp : w'.heap[p]? = some (.cells (wrS q (l ++ m).length) 93 (0, 0))
  hq : w'.heap[q]? = some (.cells (bfS g' (l ++ m).length cap') 149 (0, 0))
  row : BRow w' g' cap' (l ++ m)
  new : g' = g ∨ w.heap.size ≤ g'
  os : w'.os = w.os
  tape : w'.tape = w.tape
  output : w'.output = w.output
  size : w.heap.size ≤ w'.heap.size
  far : ∀ k, k < w.heap.size → k ≠ p → k ≠ q → k ≠ g → w'.heap[k]? = w.heap[k]?
theorem putB_of {p q g g' cap cap' n : Nat} {l m : List UInt8} {w w1 : World} (hp : w.heap[p]? = some (.cells (wrS q l.length) 93 (0, 0))) (hq : w.heap[q]? = some (.cells (bfS g l.length cap) 149 (0, 0)))
    (hpq : p ≠ q) (hpg : p ≠ g) (hqg : q ≠ g) (hrow : BRow w1 g' cap' (l ++ m)) (hgrow : (w.drewN n).grownBy w1 (some g)) (hg' : g' = g ∨ (w.drewN n).heap.size ≤ g') :
    PutB p q g l m w ((w1.setCell ⟨q, 0, none⟩ (.slice (some ⟨g', 0, none⟩) (l.length + m.length) cap')).setCell ⟨p, 1, none⟩ (.int .i64 ((l.length : Int) + (m.length : Int)))) g' cap' := by
  have hp1 : w1.heap[p]? = _ := (hgrow.block p (row_lt hp) (fun e => hpg (by injection e))).trans hp
  have hq1 : w1.heap[q]? = _ := (hgrow.block q (row_lt hq) (fun e => hqg (by injection e))).trans hq
  have hgp : g' ≠ p := by
    rcases hg' with e | e
    · exact fun e2 => hpg (by omega)
    · have : p < w.heap.size := row_lt hp
      have e' : w.heap.size ≤ g' := e
      omega
  have hgq : g' ≠ q := by
    rcases hg' with e | e
    · exact fun e2 => hqg (by omega)
    · have : q < w.heap.size := row_lt hq
      have e' : w.heap.size ≤ g' := e
      omega
  have el : (l ++ m).length = l.length + m.length := List.length_append
  refine ⟨?_, ?_, ?_, hg', hgrow.os, hgrow.tape, hgrow.output, Nat.le_trans hgrow.size (by simp [World.setCell]), ?_⟩
  · rw [heap_set ((heap_far 0 _ hpq).trans hp1), el]; rfl
  · rw [heap_far 1 _ (Ne.symm hpq), heap_set hq1, el]; rfl
  · exact hrow.same ((heap_far 1 _ hgp).trans (heap_far 0 _ hgq))
  · intro k hk h1 h2 h3
    rw [heap_far 1 _ h1, heap_far 0 _ h2]
    exact hgrow.block k hk (fun e => h3 (by injection e))

set_option maxRecDepth 100000 in
set_option maxHeartbeats 400000 in
theorem put_more (w : World) (p q g cap : Nat) (l m : List UInt8) (a : Addr) (c : Nat)
    (hp : w.heap[p]? = some (.cells (wrS q l.length) 93 (0, 0)))
    (hq : w.heap[q]? = some (.cells (bfS g l.length cap) 149 (0, 0)))
    (hrow : BRow w g cap l) (hsrc : Src w a m) (hs : l.length + m.length ≤ 1000000000000) :
    Calls Tryz.prog 93 #[.pointer (some ⟨p, 0, none⟩), .slice (some a) m.length c] w fun e w' => e = .returned (.tuple #[]) ∧ ∃ g' cap', PutB p q g l m w w' g' cap' := by
  have p0 : w.cell? ⟨p, 0, none⟩ = some (.pointer (some ⟨q, 0, none⟩)) := cell_row hp 0
  have p1 : w.cell? ⟨p, 1, none⟩ = some (.int .i64 (l.length : Int)) := cell_row hp 1
  have q0 : w.cell? ⟨q, 0, none⟩ = some (.slice (some ⟨g, 0, none⟩) l.length cap) := cell_row hq 0
  have fp0 := frozen_row hp 0
  have fp1 := frozen_row hp 1
  have fq0 := frozen_row hq 0
  have hpg : p ≠ g := by
    rintro rfl
    obtain ⟨cur, lo, hi, h1, _⟩ := hrow
    rw [h1] at hp; injection hp with hp; injection hp with _ ht; cases ht
  have hpq : p ≠ q := by
    rintro rfl
    rw [hp] at hq; injection hq with hq; injection hq with _ ht; cases ht
  have hqg : q ≠ g := by
    rintro rfl
    obtain ⟨cur, lo, hi, h1, _⟩ := hrow
    rw [h1] at hq; injection hq with hq; injection hq with _ ht; cases ht
  go_enter Tryz.func93, Tryz.ntmps93
  go_wp2_with fail
  go_quiet (fail)
  go_wp2_with fail
  have hrow' : BRow (w.drewN nq).drew g cap l := hrow
  have hsrc' : Src (w.drewN nq).drew a m := hsrc
  have hpl : p < ((w.drewN nq).drew).heap.size := row_lt hp
  have hql : q < ((w.drewN nq).drew).heap.size := row_lt hq
  go_region_law ((refine step_append_row (by rfl) (.tmp 44) (.tmp 45) (by rfl) g cap l (by rfl) hrow' a c m (by rfl) hsrc' hs ?_; intro g' cap' w1 hrow1 hgrow hg'; (have hq0 := grown_frozen hgrow q 0 hql hqg); (have hq1 := (grown_cell hgrow q 0 hql hqg).trans q0); (have hp0 := (grown_cell hgrow p 0 hpl hpg).trans p0); (have hp1 := (grown_cell hgrow p 1 hpl hpg).trans p1); (have gp0 := (grown_frozen hgrow p 0 hpl hpg).trans fp0); (have gp1 := (grown_frozen hgrow p 1 hpl hpg).trans fp1)))
  all_goals
    have h0 := hq0.trans fq0
    go_wp2
    go_end0
    exact ⟨rfl, _, _, putB_of hp hq hpq hpg hqg hrow1 hgrow hg'⟩

end Go.Proofs.YticfnfekkmkclaaGreatDoor.Wire

/-
  The Writer's calls.
-/
namespace Go.Proofs.YticfnfekkmkclaaGreatDoor.Wire
open Go.RowKit

/-! ### what a Writer has, and what stays beside it -/
/-- below B all is as it was; of what there was nothing has changed but Writers, their buffers, and rows of bytes -/
structure Only (B : Nat) (w w' : World) : Prop where
  below : Below B w w'
  same : ∀ (k : Nat) (cs : Array Value) (t : TypeId) (fr : Nat × Nat), w.heap[k]? = some (.cells cs t fr) → t ≠ 93 → t ≠ 149 → t ≠ 5 → w'.heap[k]? = some (.cells cs t fr)
theorem Only.refl (B : Nat) (w : World) : Only B w w := ⟨Below.refl _ _, fun _ _ _ _ h _ _ _ => h⟩
theorem Only.trans {B : Nat} {a b c : World} (h : Only B a b) (k : Only B b c) : Only B a c :=
  ⟨h.below.trans k.below, fun i cs t fr hi h1 h2 h3 => k.same i cs t fr (h.same i cs t fr hi h1 h2 h3) h1 h2 h3⟩
theorem Only.of_below {B : Nat} {w w' : World} (h : Below w.heap.size w w') (hB : B ≤ w.heap.size) : Only B w w' :=
  ⟨h.mono hB, fun k cs t fr hk _ _ _ => (h.block k (row_lt hk)).trans hk⟩
theorem Only.alloc {B : Nat} {a w : World} (h : Only B a w) (hB : B ≤ w.heap.size) (o : Obj) : Only B a (w.alloc o) :=
  h.trans (Only.of_below ((Below.refl _ _).alloc (Nat.le_refl _) _) hB)
theorem Only.drewN {B : Nat} {a w : World} (h : Only B a w) (n : Nat) : Only B a (w.drewN n) := ⟨⟨h.below.os, h.below.tape, h.below.output, h.below.size, h.below.block⟩, h.same⟩

/-- the Writer at p has l; what it has lies from B on -/
def Wr (B : Nat) (w : World) (p : Nat) (l : List UInt8) : Prop :=
  B ≤ p ∧ ((w.heap[p]? = some (.cells #[.pointer none, .int .i64 0] 93 (0, 0)) ∧ l = []) ∨
    ∃ q g cap, B ≤ q ∧ B ≤ g ∧ w.heap[p]? = some (.cells (wrS q l.length) 93 (0, 0)) ∧ w.heap[q]? = some (.cells (bfS g l.length cap) 149 (0, 0)) ∧ BRow w g cap l)
theorem Wr.lt {B : Nat} {w : World} {p : Nat} {l : List UInt8} (h : Wr B w p l) : p < w.heap.size := by
  rcases h.2 with ⟨h, _⟩ | ⟨q, g, cap, _, _, h, _⟩ <;> exact row_lt h
theorem Wr.low {B : Nat} {w : World} {p : Nat} {l : List UInt8} (h : Wr B w p l) : B ≤ w.heap.size := Nat.le_trans h.1 (Nat.le_of_lt h.lt)
theorem Wr.keep {B : Nat} {w w' : World} {p : Nat} {l : List UInt8} (h : Wr B w p l) (hk : ∀ k, k < w.heap.size → w'.heap[k]? = w.heap[k]?) : Wr B w' p l := by
  obtain ⟨hB, h⟩ := h
  refine ⟨hB, ?_⟩
  rcases h with ⟨h, e⟩ | ⟨q, g, cap, h1, h2, h3, h4, h5⟩
  · exact Or.inl ⟨(hk p (row_lt h)).trans h, e⟩
  · exact Or.inr ⟨q, g, cap, h1, h2, (hk p (row_lt h3)).trans h3, (hk q (row_lt h4)).trans h4, h5.same (hk g h5.lt)⟩
theorem Wr.below {B : Nat} {w w' : World} {p : Nat} {l : List UInt8} (h : Wr B w p l) (hb : Below w.heap.size w w') : Wr B w' p l := h.keep hb.block
theorem Wr.alloc {B : Nat} {w : World} {p : Nat} {l : List UInt8} (h : Wr B w p l) (o : Obj) : Wr B (w.alloc o) p l := h.keep fun k hk => Below.heap_alloc w o k hk
theorem Wr.drewN {B : Nat} {w : World} {p : Nat} {l : List UInt8} (h : Wr B w p l) (n : Nat) : Wr B (w.drewN n) p l := h
theorem Wr.new {B : Nat} {w : World} (hB : B ≤ w.heap.size) : Wr B (w.alloc (.cells #[.pointer none, .int .i64 0] 93)) w.heap.size [] :=
  ⟨hB, Or.inl ⟨heap_alloc_new w _, rfl⟩⟩
/-- other blocks than a Writer's have changed -/
theorem Wr.beside {B : Nat} {w w' : World} {p r : Nat} {l : List UInt8} {cs : Array Value} {t : TypeId} {fr : Nat × Nat} (h : Wr B w p l) (hg : w.grownBy w' (some r)) (hr : w.heap[r]? = some (.cells cs t fr))
    (h1 : t ≠ 93) (h2 : t ≠ 149) (h3 : t ≠ 5) : Wr B w' p l := by
  obtain ⟨hB, h⟩ := h
  refine ⟨hB, ?_⟩
  have ne : ∀ {k : Nat} {cs' : Array Value} {t' : TypeId} {fr' : Nat × Nat}, w.heap[k]? = some (.cells cs' t' fr') → t ≠ t' → w'.heap[k]? = w.heap[k]? := by
    intro k cs' t' fr' hk ht
    refine hg.block k (row_lt hk) ?_
    intro e
    injection e with e
    subst e
    rw [hr] at hk; injection hk with hk; injection hk with _ e; exact ht e
  rcases h with ⟨h, e⟩ | ⟨q, g, cap, k1, k2, k3, k4, k5⟩
  · exact Or.inl ⟨(ne h h1).trans h, e⟩
  · obtain ⟨cur, lo, hi, k6, k7⟩ := k5
    exact Or.inr ⟨q, g, cap, k1, k2, (ne k3 h1).trans k3, (ne k4 h2).trans k4, cur, lo, hi, (ne k6 h3).trans k6, k7⟩

theorem putB_wr {B p q g : Nat} {l m : List UInt8} {w w' : World} {g' cap' : Nat} (h : PutB p q g l m w w' g' cap') (hp : B ≤ p) (hq : B ≤ q) (hg : B ≤ g) (hB : B ≤ w.heap.size) : Wr B w' p (l ++ m) :=
  ⟨hp, Or.inr ⟨q, g', cap', hq, by rcases h.new with e | e <;> omega, h.hp, h.hq, h.row⟩⟩
theorem putB_only {B p q g : Nat} {l m : List UInt8} {w w' : World} {g' cap' : Nat} {cp cq cg : Array Value} {f1 f2 f3 : Nat × Nat} (h : PutB p q g l m w w' g' cap') (hp : B ≤ p) (hq : B ≤ q) (hg : B ≤ g)
    (kp : w.heap[p]? = some (.cells cp 93 f1)) (kq : w.heap[q]? = some (.cells cq 149 f2)) (kg : w.heap[g]? = some (.cells cg 5 f3)) : Only B w w' := by
  refine ⟨⟨h.os, h.tape, h.output, h.size, fun k hk => h.far k (by have := row_lt kp; omega) (by omega) (by omega) (by omega)⟩, fun k cs t fr hk h1 h2 h3 => ?_⟩
  refine (h.far k (row_lt hk) ?_ ?_ ?_).trans hk
  · rintro rfl; rw [kp] at hk; injection hk with hk; injection hk with _ e; exact h1 e.symm
  · rintro rfl; rw [kq] at hk; injection hk with hk; injection hk with _ e; exact h2 e.symm
  · rintro rfl; rw [kg] at hk; injection hk with hk; injection hk with _ e; exact h3 e.symm

/-! ### Bytes, of a Writer without a buffer, and of nobody's -/
set_option maxHeartbeats 400000 in
theorem bytes_nil (w : World) : Calls Tryz.prog 49 #[.pointer none] w fun e w' => e = .returned (.string ⟨#[]⟩) ∧ w = w' := by
  go_enter Tryz.func49, Tryz.ntmps49
  go_wp2
  go_ret
  exact ⟨rfl, rfl⟩
set_option maxHeartbeats 400000 in
theorem bytes_none (p : Nat) (w : World) (hp : w.heap[p]? = some (.cells #[.pointer none, .int .i64 0] 93 (0, 0))) :
    Calls Tryz.prog 49 #[.pointer (some ⟨p, 0, none⟩)] w fun e w' => e = .returned (.string ⟨#[]⟩) ∧ w = w' := by
  have p0 : w.cell? ⟨p, 0, none⟩ = some (.pointer none) := cell_row hp 0
  go_enter Tryz.func49, Tryz.ntmps49
  go_wp2
  go_ret
  exact ⟨rfl, rfl⟩

/-! ### put -/
theorem bytesRow_none (cap : Nat) : (bytesRow ⟨#[]⟩ cap).size = cap := by unfold bytesRow; simp [ByteArray.size]
theorem first_world (w : World) (p cap n : Nat) (R : Array Value) (hR : R.size = cap) (hp : w.heap[p]? = some (.cells #[.pointer none, .int .i64 0] 93 (0, 0))) :
    ∀ W, W = (((w.drewN n).alloc (Obj.cells R 5 (R.size, R.size + 1))).setCell ⟨p, 0, none⟩ (.pointer (some ⟨w.heap.size + 1, 0, none⟩))).alloc (Obj.cells #[Value.slice (some ⟨w.heap.size, 0, none⟩) 0 cap] 149) →
    W.heap[p]? = some (.cells (wrS (w.heap.size + 1) 0) 93 (0, 0)) ∧ W.heap[w.heap.size + 1]? = some (.cells (bfS w.heap.size 0 cap) 149 (0, 0)) ∧ BRow W w.heap.size cap [] ∧
      (∀ k, k < w.heap.size → k ≠ p → W.heap[k]? = w.heap[k]?) ∧ W.os = w.os ∧ W.tape = w.tape ∧ W.output = w.output ∧ W.heap.size = w.heap.size + 2 := by
  rintro W rfl
  have hpl := row_lt hp
  have h1 : ((w.drewN n).alloc (Obj.cells R 5 (R.size, R.size + 1))).heap[p]? = some (.cells #[.pointer none, .int .i64 0] 93 (0, 0)) := (Below.heap_alloc _ _ p hpl).trans hp
  have hs : (((w.drewN n).alloc (Obj.cells R 5 (R.size, R.size + 1))).setCell ⟨p, 0, none⟩ (.pointer (some ⟨w.heap.size + 1, 0, none⟩))).heap.size = w.heap.size + 1 := by simp [World.setCell]
  refine ⟨?_, ?_, ?_, ?_, rfl, rfl, rfl, ?_⟩
  · rw [Below.heap_alloc _ _ p (by rw [hs]; omega), heap_set h1]; rfl
  · have := heap_alloc_new (((w.drewN n).alloc (Obj.cells R 5 (R.size, R.size + 1))).setCell ⟨p, 0, none⟩ (.pointer (some ⟨w.heap.size + 1, 0, none⟩))) (Obj.cells #[Value.slice (some ⟨w.heap.size, 0, none⟩) 0 cap] 149)
    rw [hs] at this; exact this
  · refine ⟨R, R.size, R.size + 1, ?_, hR, Or.inl (by omega), Nat.zero_le _, rfl⟩
    rw [Below.heap_alloc _ _ _ (by rw [hs]; omega), heap_far 0 _ (by omega)]
    exact heap_alloc_new (w.drewN n) _
  · intro k hk hne
    rw [Below.heap_alloc _ _ k (by rw [hs]; omega), heap_far 0 _ hne]
    exact Below.heap_alloc (w.drewN n) _ k hk
  · simp [World.setCell]
theorem Src.keep' {w w' : World} {a : Addr} {l : List UInt8} (h : Src w a l) (hk : l ≠ [] → w'.heap[a.block]? = w.heap[a.block]?) : Src w' a l := by
  intro j u hu
  have hne : l ≠ [] := by rintro rfl; simp [bvs] at hu
  refine (World.cell?_of_block (w := w) ?_).trans (h j u hu)
  have : (a.add j).block = a.block := by unfold Addr.add; split <;> rfl
  rw [this]; exact hk hne

theorem putB_of0 {p q g g' cap cap' : Nat} {m : List UInt8} {w w1 : World} (hp : w.heap[p]? = some (.cells (wrS q 0) 93 (0, 0))) (hq : w.heap[q]? = some (.cells (bfS g 0 cap) 149 (0, 0)))
    (hpq : p ≠ q) (hpg : p ≠ g) (hqg : q ≠ g) (hrow : BRow w1 g' cap' ([] ++ m)) (hgrow : w.drew.grownBy w1 (some g)) (hg' : g' = g ∨ w.drew.heap.size ≤ g') :
    PutB p q g [] m w ((w1.setCell ⟨q, 0, none⟩ (.slice (some ⟨g', 0, none⟩) m.length cap')).setCell ⟨p, 1, none⟩ (.int .i64 (m.length : Int))) g' cap' := by
  have h := putB_of (l := []) (n := 1) hp hq hpq hpg hqg hrow hgrow hg'
  have e : (([] : List UInt8).length : Int) + (m.length : Int) = (m.length : Int) := by simp
  rw [e, List.length_nil, Nat.zero_add] at h
  exact h
set_option maxRecDepth 100000 in
set_option maxHeartbeats 400000 in
theorem put_first (w : World) (B p : Nat) (m : List UInt8) (a : Addr) (c : Nat) (hB : B ≤ p)
    (hp : w.heap[p]? = some (.cells #[.pointer none, .int .i64 0] 93 (0, 0)))
    (ha : m ≠ [] → a.block < w.heap.size ∧ a.block ≠ p) (hsrc : Src w a m) (hs : m.length ≤ 1000000000000) :
    Calls Tryz.prog 93 #[.pointer (some ⟨p, 0, none⟩), .slice (some a) m.length c] w fun e w' => e = .returned (.tuple #[]) ∧ Wr B w' p m ∧ Only B w w' := by
  have p0 : w.cell? ⟨p, 0, none⟩ = some (.pointer none) := cell_row hp 0
  have fp0 := frozen_row hp 0
  have hpl : p < w.heap.size := row_lt hp
  have H := Lib.hid hp
  go_enter Tryz.func93, Tryz.ntmps93
  go_wp2_with fail
  go_quiet (fail)
  go_wp2_with fail
  refine (bytes_none p (w.drewN nq) hp).mono ?_; rintro e w1 ⟨rfl, rfl⟩
  have hconv := run_bytes_of_string (P := Tryz.prog) (w.drewN nq) 9 86 5 ⟨#[]⟩ Tryz.underlying9 Tryz.underlying86 Tryz.underlying5
  have hsz := bytesRow_none (grownCap (w.drewN nq) (ByteArray.size ⟨#[]⟩) 0 5)
  generalize grownCap (w.drewN nq) (ByteArray.size ⟨#[]⟩) 0 5 = cap at *
  generalize bytesRow ⟨#[]⟩ cap = R at *
  have HSZ := Lib.hid hsz; clear hsz
  have c1 : ∀ o1 o2, (((w.drewN (nq + 1)).alloc o1).alloc o2).cell? ⟨p, 0, none⟩ = some (.pointer none) := fun o1 o2 => by
    rw [World.cell?_alloc_lt _ _ _ (by simp; omega), World.cell?_alloc_lt _ _ _ (by simp; omega)]; exact p0
  have c2 : ∀ o1 o2, (((w.drewN (nq + 1)).alloc o1).alloc o2).frozen? ⟨p, 0, none⟩ = false := fun o1 o2 => by
    rw [World.frozen?_of_block (w := w) ((Below.heap_alloc _ _ p (by simp; omega)).trans (Below.heap_alloc _ _ p (by simp; omega)))]; exact fp0
  go_wp2_with fail
  clear c1 c2 hconv
  have HW := first_world w p cap (nq + 1) R HSZ.out hp _ rfl
  generalize (((w.drewN (nq + 1)).alloc (Obj.cells R 5 (R.size, R.size + 1))).setCell ⟨p, 0, none⟩ (.pointer (some ⟨w.heap.size + 1, 0, none⟩))).alloc (Obj.cells #[Value.slice (some ⟨w.heap.size, 0, none⟩) 0 cap] 149) = W at *
  obtain ⟨kp, kq, krow, kfar, kos, ktape, kout, ksz⟩ := HW
  generalize hg : w.heap.size = g at *
  have hO : Hid (Only B w W) := ⟨⟨kos, ktape, kout, by omega, fun k hk => kfar k (by omega) (by omega)⟩, fun k cs t fr hk h1 h2 h3 => (kfar k (by rw [← hg]; exact row_lt hk) (fun e => by
    subst e; have hp' := H.out; rw [hp'] at hk; injection hk with hk; injection hk with _ e; exact h1 e.symm)).trans hk⟩
  have hsrc3 : Src W a m := hsrc.keep' (fun hm => kfar _ (ha hm).1 (ha hm).2)
  have Hg := Lib.hid hg; clear hg
  have hBg : Hid (B ≤ g) := by show B ≤ g; omega
  clear hp p0 fp0 kfar kos ktape kout hsrc ha
  have p0 : W.cell? ⟨p, 0, none⟩ = some (.pointer (some ⟨g + 1, 0, none⟩)) := cell_row kp 0
  have p1 : W.cell? ⟨p, 1, none⟩ = some (.int .i64 0) := cell_row kp 1
  have q0 : W.cell? ⟨g + 1, 0, none⟩ = some (.slice (some ⟨g, 0, none⟩) 0 cap) := cell_row kq 0
  have fp0 := frozen_row kp 0
  have fp1 := frozen_row kp 1
  have fq0 := frozen_row kq 0
  have hpg : p ≠ g := by omega
  have hpq : p ≠ g + 1 := by omega
  have hqg : g + 1 ≠ g := by omega
  have hpl : p < (W.drew).heap.size := row_lt kp
  have hql : g + 1 < (W.drew).heap.size := row_lt kq
  have hrow' : BRow W.drew g cap [] := krow
  have hsrc' : Src W.drew a m := hsrc3
  go_region_law ((refine step_append_row (by rfl) (.tmp 44) (.tmp 45) (by rfl) g cap [] (by rfl) hrow' a c m (by rfl) hsrc' (by simpa using hs) ?_; intro g' cap' w1 hrow1 hgrow hg'; (have hq0 := grown_frozen hgrow (g + 1) 0 hql hqg); (have hq1 := (grown_cell hgrow (g + 1) 0 hql hqg).trans q0); (have hp0 := (grown_cell hgrow p 0 hpl hpg).trans p0); (have hp1 := (grown_cell hgrow p 1 hpl hpg).trans p1); (have gp0 := (grown_frozen hgrow p 0 hpl hpg).trans fp0); (have gp1 := (grown_frozen hgrow p 1 hpl hpg).trans fp1)))
  all_goals
    have h0 := hq0.trans fq0
    have HP := Lib.hid (putB_of0 kp kq hpq hpg hqg hrow1 hgrow hg')
    have hm : (m.length : Int) ≤ 1000000000000 := by omega
    go_wp2
    go_end0
    have hB1 := hBg.out
    obtain ⟨cur, lo, hi, k1, _⟩ := krow
    exact ⟨rfl, putB_wr (l := []) HP.out hB (by omega) hB1 (by omega), hO.out.trans (putB_only HP.out hB (by omega) hB1 kp kq k1)⟩

/-- put, of a Writer that may have anything -/
theorem put_any (w : World) (B p : Nat) (l m : List UInt8) (a : Addr) (c : Nat) (hw : Wr B w p l)
    (ha : m ≠ [] → a.block < w.heap.size ∧ a.block ≠ p) (hsrc : Src w a m) (hs : l.length + m.length ≤ 1000000000000) :
    Calls Tryz.prog 93 #[.pointer (some ⟨p, 0, none⟩), .slice (some a) m.length c] w fun e w' => e = .returned (.tuple #[]) ∧ Wr B w' p (l ++ m) ∧ Only B w w' := by
  have hlow := hw.low
  obtain ⟨hB, ⟨hp, rfl⟩ | ⟨q, g, cap, h1, h2, h3, h4, h5⟩⟩ := hw
  · exact put_first w B p m a c hB hp ha hsrc (by simpa using hs)
  · obtain ⟨cur, lo, hi, k1, k2⟩ := h5
    exact (put_more w p q g cap l m a c h3 h4 ⟨cur, lo, hi, k1, k2⟩ hsrc hs).mono fun e w' ⟨he, g', cap', hP⟩ => ⟨he, putB_wr hP hB h1 h2 hlow, putB_only hP hB h1 h2 h3 h4 k1⟩
set_option maxHeartbeats 400000 in
theorem put_nil (x : Value) (w : World) : Calls Tryz.prog 93 #[.pointer none, x] w fun e w' => e = .returned (.tuple #[]) ∧ w = w' := by
  go_enter Tryz.func93, Tryz.ntmps93
  go_wp2
  refine bodyPost_ret (results_none rfl _ _ _) rfl ?_
  exact ⟨rfl, rfl⟩

end Go.Proofs.YticfnfekkmkclaaGreatDoor.Wire

/-
  The Writer's calls: fixed numbers, short ones, texts; what it tells.
-/
namespace Go.Proofs.YticfnfekkmkclaaGreatDoor.Wire
open Go.RowKit

theorem U_div (n k : Nat) : U n / (k : Int) = U (n / k) := by unfold U; rw [Int.natCast_ediv]
theorem U_mod (n k : Nat) : U n % (k : Int) = U (n % k) := by unfold U; rw [Int.natCast_emod]
theorem bv_of (n : Nat) (x : Int) (h : x = U (n % 256)) : Value.int .u8 x = bv (UInt8.ofNat (n % 256)) := by
  unfold bv; rw [h, toNat_ofNat_lt (Nat.mod_lt _ (by decide))]; rfl
/-- the bytes in a new block -/
theorem src_new (w : World) (cs : Array Value) (l : List UInt8) (h : cs.toList = bvs l) : Src (w.alloc (.cells cs 5)) ⟨w.heap.size, 0, none⟩ l :=
  Src.of_block (heap_alloc_new w _) fun j u hu => by rw [← Array.getElem?_toList, h]; exact hu
theorem new_at (w : World) (o : Obj) {B p : Nat} {l : List UInt8} (hw : Wr B w p l) : w.heap.size < (w.alloc o).heap.size ∧ w.heap.size ≠ p := ⟨by simp, by have := hw.lt; omega⟩
/-- put, of bytes that were just laid -/
theorem put_new (w : World) (B p : Nat) (l m : List UInt8) (cs : Array Value) (k : Nat) (hw : Wr B w p l) (hcs : cs.toList = bvs m) (hk : m.length = k) (hs : l.length + k ≤ 1000000000000) :
    Calls Tryz.prog 93 #[.pointer (some ⟨p, 0, none⟩), .slice (some ⟨w.heap.size, 0, none⟩) k k] (w.alloc (.cells cs 5)) fun e w' => e = .returned (.tuple #[]) ∧ Wr B w' p (l ++ m) ∧ Only B w w' := by
  subst hk
  exact (put_any (w.alloc (.cells cs 5)) B p l m ⟨w.heap.size, 0, none⟩ m.length (hw.alloc _) (fun _ => new_at w _ hw) (src_new w cs m hcs) hs).mono fun e w' ⟨he, h1, h2⟩ => ⟨he, h1, (Only.of_below ((Below.refl _ _).alloc (Nat.le_refl _) _) hw.low).trans h2⟩

def F4 (n : Nat) : List UInt8 := [UInt8.ofNat (n / 72057594037927936 % 256), UInt8.ofNat (n / 281474976710656 % 256), UInt8.ofNat (n / 1099511627776 % 256), UInt8.ofNat (n / 4294967296 % 256)]
def F2 (n : Nat) : List UInt8 := [UInt8.ofNat (n / 16777216 % 256), UInt8.ofNat (n / 65536 % 256)]
def F1 (n : Nat) : List UInt8 := [UInt8.ofNat (n / 256 % 256)]
def F0 (n : Nat) : List UInt8 := [UInt8.ofNat (n % 256)]
theorem fix8 (n : Nat) : fixB 8 n = F4 n ++ F2 n ++ F1 n ++ F0 n := by unfold F4 F2 F1 F0; simp [fixB, Nat.div_div_eq_div_mul]
theorem fix4 (n : Nat) : fixB 4 n = F2 n ++ F1 n ++ F0 n := by unfold F2 F1 F0; simp [fixB, Nat.div_div_eq_div_mul]
theorem fix2 (n : Nat) : fixB 2 n = F1 n ++ F0 n := by unfold F1 F0; simp [fixB]
theorem fix1 (n : Nat) : fixB 1 n = F0 n := by unfold F0; simp [fixB]

theorem U_byte (n k : Nat) : U n / (k : Int) % 256 = U (n / k % 256) := by
  rw [U_div]; exact U_mod (n / k) 256
theorem F4_cells (n : Nat) : (#[.int .u8 (U n / 72057594037927936 % 256), .int .u8 (U n / 281474976710656 % 256), .int .u8 (U n / 1099511627776 % 256), .int .u8 (U n / 4294967296 % 256)] : Array Value).toList = bvs (F4 n) := by
  show [_, _, _, _] = [bv _, bv _, bv _, bv _]
  rw [show Value.int .u8 (U n / 72057594037927936 % 256) = _ from bv_of _ _ (U_byte n 72057594037927936), show Value.int .u8 (U n / 281474976710656 % 256) = _ from bv_of _ _ (U_byte n 281474976710656), show Value.int .u8 (U n / 1099511627776 % 256) = _ from bv_of _ _ (U_byte n 1099511627776), show Value.int .u8 (U n / 4294967296 % 256) = _ from bv_of _ _ (U_byte n 4294967296)]
theorem F2_cells (n : Nat) : (#[.int .u8 (U n / 16777216 % 256), .int .u8 (U n / 65536 % 256)] : Array Value).toList = bvs (F2 n) := by
  show [_, _] = [bv _, bv _]
  rw [show Value.int .u8 (U n / 16777216 % 256) = _ from bv_of _ _ (U_byte n 16777216), show Value.int .u8 (U n / 65536 % 256) = _ from bv_of _ _ (U_byte n 65536)]
theorem F1_cells (n : Nat) : (#[.int .u8 (U n / 256 % 256)] : Array Value).toList = bvs (F1 n) := by
  show [_] = [bv _]
  rw [show Value.int .u8 (U n / 256 % 256) = _ from bv_of _ _ (U_byte n 256)]
theorem F0_cells (n : Nat) : (#[.int .u8 (U n % 256)] : Array Value).toList = bvs (F0 n) := by
  show [_] = [bv _]
  rw [show Value.int .u8 (U n % 256) = _ from bv_of _ _ (U_mod n 256)]

set_option maxRecDepth 100000 in
set_option maxHeartbeats 400000 in
theorem fixed8 (w : World) (B p : Nat) (l : List UInt8) (n : Nat) (hw : Wr B w p l) (hs : l.length + 8 ≤ 1000000000000) :
    Calls Tryz.prog 94 #[.pointer (some ⟨p, 0, none⟩), .int .u64 (U n), .int .i64 8] w fun e w' => e = .returned (.tuple #[]) ∧ Wr B w' p (l ++ fixB 8 n) ∧ Only B w w' := by
  have HW := Lib.hid hw
  rw [fix8]
  go_enter Tryz.func94, Tryz.ntmps94
  go_wp2_with fail
  refine (put_new _ B p l (F4 n) _ 4 HW.out (F4_cells n) rfl (by omega)).mono ?_; rintro e w1 ⟨rfl, h1, o1⟩
  have H1 := Lib.hid h1; have O1 := Lib.hid o1; clear h1 o1
  go_wp2_with fail
  refine (put_new _ B p _ (F2 n) _ 2 H1.out (F2_cells n) rfl (by rw [List.length_append]; show _ + 4 + 2 ≤ _; omega)).mono ?_; rintro e w2 ⟨rfl, h2, o2⟩
  have H2 := Lib.hid h2; have O2 := Lib.hid o2; clear h2 o2
  go_wp2_with fail
  refine (put_new _ B p _ (F1 n) _ 1 H2.out (F1_cells n) rfl (by rw [List.length_append, List.length_append]; show _ + 4 + 2 + 1 ≤ _; omega)).mono ?_; rintro e w3 ⟨rfl, h3, o3⟩
  have H3 := Lib.hid h3; have O3 := Lib.hid o3; clear h3 o3
  go_wp2_with fail
  refine (put_new _ B p _ (F0 n) _ 1 H3.out (F0_cells n) rfl (by rw [List.length_append, List.length_append, List.length_append]; show _ + 4 + 2 + 1 + 1 ≤ _; omega)).mono ?_; rintro e w4 ⟨rfl, h4, o4⟩
  have H4 := Lib.hid h4; have O4 := Lib.hid o4; clear h4 o4
  go_wp2_with fail
  go_end0
  exact ⟨rfl, by have := H4.out; simpa only [List.append_assoc] using this, O1.out.trans (O2.out.trans (O3.out.trans O4.out))⟩
set_option maxRecDepth 100000 in
set_option maxHeartbeats 400000 in
theorem fixed4 (w : World) (B p : Nat) (l : List UInt8) (n : Nat) (hw : Wr B w p l) (hs : l.length + 8 ≤ 1000000000000) :
    Calls Tryz.prog 94 #[.pointer (some ⟨p, 0, none⟩), .int .u64 (U n), .int .i64 4] w fun e w' => e = .returned (.tuple #[]) ∧ Wr B w' p (l ++ fixB 4 n) ∧ Only B w w' := by
  have HW := Lib.hid hw
  rw [fix4]
  go_enter Tryz.func94, Tryz.ntmps94
  go_wp2_with fail
  refine (put_new _ B p _ (F2 n) _ 2 HW.out (F2_cells n) rfl (by omega)).mono ?_; rintro e w2 ⟨rfl, h2, o2⟩
  have H2 := Lib.hid h2; have O2 := Lib.hid o2; clear h2 o2
  go_wp2_with fail
  refine (put_new _ B p _ (F1 n) _ 1 H2.out (F1_cells n) rfl (by rw [List.length_append]; show _ + 2 + 1 ≤ _; omega)).mono ?_; rintro e w3 ⟨rfl, h3, o3⟩
  have H3 := Lib.hid h3; have O3 := Lib.hid o3; clear h3 o3
  go_wp2_with fail
  refine (put_new _ B p _ (F0 n) _ 1 H3.out (F0_cells n) rfl (by rw [List.length_append, List.length_append]; show _ + 2 + 1 + 1 ≤ _; omega)).mono ?_; rintro e w4 ⟨rfl, h4, o4⟩
  have H4 := Lib.hid h4; have O4 := Lib.hid o4; clear h4 o4
  go_wp2_with fail
  go_end0
  exact ⟨rfl, by have := H4.out; simpa only [List.append_assoc] using this, O2.out.trans (O3.out.trans O4.out)⟩
set_option maxRecDepth 100000 in
set_option maxHeartbeats 400000 in
theorem fixed2 (w : World) (B p : Nat) (l : List UInt8) (n : Nat) (hw : Wr B w p l) (hs : l.length + 8 ≤ 1000000000000) :
    Calls Tryz.prog 94 #[.pointer (some ⟨p, 0, none⟩), .int .u64 (U n), .int .i64 2] w fun e w' => e = .returned (.tuple #[]) ∧ Wr B w' p (l ++ fixB 2 n) ∧ Only B w w' := by
  have HW := Lib.hid hw
  rw [fix2]
  go_enter Tryz.func94, Tryz.ntmps94
  go_wp2_with fail
  refine (put_new _ B p _ (F1 n) _ 1 HW.out (F1_cells n) rfl (by omega)).mono ?_; rintro e w3 ⟨rfl, h3, o3⟩
  have H3 := Lib.hid h3; have O3 := Lib.hid o3; clear h3 o3
  go_wp2_with fail
  refine (put_new _ B p _ (F0 n) _ 1 H3.out (F0_cells n) rfl (by rw [List.length_append]; show _ + 1 + 1 ≤ _; omega)).mono ?_; rintro e w4 ⟨rfl, h4, o4⟩
  have H4 := Lib.hid h4; have O4 := Lib.hid o4; clear h4 o4
  go_wp2_with fail
  go_end0
  exact ⟨rfl, by have := H4.out; simpa only [List.append_assoc] using this, O3.out.trans O4.out⟩
set_option maxRecDepth 100000 in
set_option maxHeartbeats 400000 in
theorem fixed1 (w : World) (B p : Nat) (l : List UInt8) (n : Nat) (hw : Wr B w p l) (hs : l.length + 8 ≤ 1000000000000) :
    Calls Tryz.prog 94 #[.pointer (some ⟨p, 0, none⟩), .int .u64 (U n), .int .i64 1] w fun e w' => e = .returned (.tuple #[]) ∧ Wr B w' p (l ++ fixB 1 n) ∧ Only B w w' := by
  have HW := Lib.hid hw
  rw [fix1]
  go_enter Tryz.func94, Tryz.ntmps94
  go_wp2_with fail
  refine (put_new _ B p _ (F0 n) _ 1 HW.out (F0_cells n) rfl (by omega)).mono ?_; rintro e w4 ⟨rfl, h4, o4⟩
  have H4 := Lib.hid h4; have O4 := Lib.hid o4; clear h4 o4
  go_wp2_with fail
  go_end0
  exact ⟨rfl, H4.out, O4.out⟩

/-! ### nobody's Writer -/
theorem below_new (w : World) (o : Obj) {w' : World} (h : w.alloc o = w') : Below w.heap.size w w' := by subst h; exact (Below.refl _ _).alloc (Nat.le_refl _) _
set_option maxRecDepth 100000 in
set_option maxHeartbeats 400000 in
theorem fixed8_nil (w : World) (n : Nat) :
    Calls Tryz.prog 94 #[.pointer none, .int .u64 (U n), .int .i64 8] w fun e w' => e = .returned (.tuple #[]) ∧ Below w.heap.size w w' := by
  go_enter Tryz.func94, Tryz.ntmps94
  go_wp2_with (go_at_call 93; refine (put_nil _ _).mono ?_; rintro e w' ⟨rfl, rfl⟩)
  go_end0
  exact ⟨rfl, ((((Below.refl _ _).alloc (Nat.le_refl _) _).alloc (by simp <;> omega) _).alloc (by simp <;> omega) _).alloc (by simp <;> omega) _⟩
set_option maxRecDepth 100000 in
set_option maxHeartbeats 400000 in
theorem fixed4_nil (w : World) (n : Nat) :
    Calls Tryz.prog 94 #[.pointer none, .int .u64 (U n), .int .i64 4] w fun e w' => e = .returned (.tuple #[]) ∧ Below w.heap.size w w' := by
  go_enter Tryz.func94, Tryz.ntmps94
  go_wp2_with (go_at_call 93; refine (put_nil _ _).mono ?_; rintro e w' ⟨rfl, rfl⟩)
  go_end0
  exact ⟨rfl, (((Below.refl _ _).alloc (Nat.le_refl _) _).alloc (by simp <;> omega) _).alloc (by simp <;> omega) _⟩
set_option maxRecDepth 100000 in
set_option maxHeartbeats 400000 in
theorem fixed1_nil (w : World) (n : Nat) :
    Calls Tryz.prog 94 #[.pointer none, .int .u64 (U n), .int .i64 1] w fun e w' => e = .returned (.tuple #[]) ∧ Below w.heap.size w w' := by
  go_enter Tryz.func94, Tryz.ntmps94
  go_wp2_with (go_at_call 93; refine (put_nil _ _).mono ?_; rintro e w' ⟨rfl, rfl⟩)
  go_end0
  exact ⟨rfl, (Below.refl _ _).alloc (Nat.le_refl _) _⟩

end Go.Proofs.YticfnfekkmkclaaGreatDoor.Wire

/-
  The Writer's calls: U8 to U64, Low, Short, Text, Raw, Len, Bytes.
-/
namespace Go.Proofs.YticfnfekkmkclaaGreatDoor.Wire
open Go.RowKit

/-! ### the bytes of a number of 32 bits, turned about -/
def revN (n : Nat) : Nat := be (fixB 4 n).reverse
theorem tb_two (a b i j : Nat) (h : b < 2 ^ i) : (2 ^ i * a + b).testBit j = if j < i then b.testBit j else a.testBit (j - i) := Nat.testBit_two_pow_mul_add a h j
theorem mask_ff (x : Nat) : x &&& 16711935 = 2 ^ 16 * (x / 65536 % 256) + x % 256 := by
  have hx : x = 2 ^ 16 * (x / 65536) + x % 65536 := by omega
  have hm : (16711935 : Nat) = 2 ^ 16 * 255 + 255 := by decide
  apply Nat.eq_of_testBit_eq; intro j
  rw [Nat.testBit_and, tb_two _ _ 16 j (by omega : x % 256 < 2 ^ 16)]
  have h1 : (16711935 : Nat).testBit j = if j < 16 then (2 ^ 8 - 1).testBit j else (2 ^ 8 - 1).testBit (j - 16) := by rw [hm]; exact tb_two 255 255 16 j (by decide)
  have h2 : x.testBit j = if j < 16 then (x % 2 ^ 16).testBit j else (x / 65536).testBit (j - 16) := by
    have := tb_two (x / 65536) (x % 65536) 16 j (by omega)
    rw [← hx] at this; exact this
  rw [h1, h2]
  have e8 : x % 256 = x % 2 ^ 8 := rfl
  have e9 : x / 65536 % 256 = x / 65536 % 2 ^ 8 := rfl
  rw [e8, e9]
  split
  · rw [Nat.testBit_two_pow_sub_one, Nat.testBit_mod_two_pow, Nat.testBit_mod_two_pow]
    by_cases h : j < 8
    · simp [h, show j < 16 by omega]
    · simp [h]
  · rw [Nat.testBit_two_pow_sub_one, Nat.testBit_mod_two_pow]
    exact Bool.and_comm _ _
theorem or_two (a b c d i : Nat) (hb : b < 2 ^ i) (hd : d < 2 ^ i) : (2 ^ i * a + b) ||| (2 ^ i * c + d) = 2 ^ i * (a ||| c) + (b ||| d) := by
  apply Nat.eq_of_testBit_eq; intro j
  rw [Nat.testBit_or, tb_two _ _ _ _ hb, tb_two _ _ _ _ hd, tb_two _ _ _ _ (Nat.or_lt_two_pow hb hd)]
  split
  · rw [Nat.testBit_or]
  · rw [Nat.testBit_or]
theorem or_add (a b i : Nat) (hb : b < 2 ^ i) : (2 ^ i * a) ||| b = 2 ^ i * a + b := (Nat.two_pow_add_eq_or_of_lt hb a).symm
theorem rev_val (n : Nat) (hn : n < 4294967296) : revN n = 16777216 * (n % 256) + 65536 * (n / 256 % 256) + 256 * (n / 65536 % 256) + n / 16777216 := by
  unfold revN
  have e : (fixB 4 n).reverse = [UInt8.ofNat (n % 256), UInt8.ofNat (n / 256 % 256), UInt8.ofNat (n / 65536 % 256), UInt8.ofNat (n / 16777216 % 256)] := by simp [fixB, Nat.div_div_eq_div_mul]
  rw [e]
  show ((((0 * 256 + (UInt8.ofNat (n % 256)).toNat) * 256 + (UInt8.ofNat (n / 256 % 256)).toNat) * 256 + (UInt8.ofNat (n / 65536 % 256)).toNat) * 256 + (UInt8.ofNat (n / 16777216 % 256)).toNat) = _
  rw [toNat_ofNat_lt (Nat.mod_lt _ (by decide)), toNat_ofNat_lt (Nat.mod_lt _ (by decide)), toNat_ofNat_lt (Nat.mod_lt _ (by decide)), toNat_ofNat_lt (Nat.mod_lt _ (by decide))]
  omega
theorem rev_lt (n : Nat) : revN n < 4294967296 := be_lt 4 _ (by rw [List.length_reverse, fixB_length])
theorem fix_rev (n : Nat) : fixB 4 (revN n) = (fixB 4 n).reverse := fixB_be 4 _ (by rw [List.length_reverse, fixB_length])
theorem rev_rev (n : Nat) (hn : n < 4294967296) : revN (revN n) = n := by
  unfold revN
  rw [fixB_be 4 _ (by rw [List.length_reverse, fixB_length]), List.reverse_reverse, be_fixB]
  exact Nat.mod_eq_of_lt hn
theorem rev_bits (n : Nat) (hn : n < 4294967296) (T : Int) (hT : T = bits .or .u32 (bits .and .u32 (U n / 256) 16711935) (bits .and .u32 (U n) 16711935 * 256 % 4294967296)) :
    bits .or .u32 (T / 65536) (T * 65536 % 4294967296) = U (revN n) := by
  have a1 : bits .and .u32 (U n / 256) 16711935 = ((n / 256 &&& 16711935 : Nat) : Int) := by
    have := u32_and_nat (n / 256) 16711935 (by omega) (by decide)
    rw [Int.natCast_ediv] at this; exact this
  have a2 : bits .and .u32 (U n) 16711935 = ((n &&& 16711935 : Nat) : Int) := u32_and_nat n 16711935 hn (by decide)
  have hA : n / 256 &&& 16711935 = 2 ^ 16 * (n / 16777216) + n / 256 % 256 := by rw [mask_ff]; omega
  have hB : (n &&& 16711935) * 256 % 4294967296 = 2 ^ 16 * (2 ^ 8 * (n / 65536 % 256)) + 2 ^ 8 * (n % 256) := by rw [mask_ff]; omega
  have t1 : T = (((n / 256 &&& 16711935) ||| ((n &&& 16711935) * 256 % 4294967296) : Nat) : Int) := by
    rw [hT, a1, a2, show (((n &&& 16711935 : Nat) : Int) * 256 % 4294967296) = (((n &&& 16711935) * 256 % 4294967296 : Nat) : Int) from rfl]
    exact u32_or_nat _ _ (by rw [hA]; omega) (by omega)
  have t2 : T = ((2 ^ 16 * (2 ^ 8 * (n / 65536 % 256) + n / 16777216) + (2 ^ 8 * (n % 256) + n / 256 % 256) : Nat) : Int) := by
    rw [t1, hA, hB, or_two _ _ _ _ 16 (by omega) (by omega), Nat.or_comm (n / 16777216), or_add _ _ 8 (by omega), Nat.or_comm (n / 256 % 256), or_add _ _ 8 (by omega)]
  have q1 : T / 65536 = ((2 ^ 8 * (n / 65536 % 256) + n / 16777216 : Nat) : Int) := by rw [t2]; omega
  have q2 : T * 65536 % 4294967296 = ((2 ^ 16 * (2 ^ 8 * (n % 256) + n / 256 % 256) : Nat) : Int) := by rw [t2]; omega
  rw [q1, q2, u32_or_nat _ _ (by omega) (by omega), Nat.or_comm, or_add _ _ 16 (by omega), rev_val n hn]
  unfold U; omega

theorem ret_u32 {a b : Int} (h : a = b) : Ending.returned (.int .u32 a) = .returned (.int .u32 b) := by rw [h]
theorem ret_i64 {a b : Int} (h : a = b) : Ending.returned (.int .i64 a) = .returned (.int .i64 b) := by rw [h]
theorem ret_u64 {a b : Int} (h : a = b) : Ending.returned (.int .u64 a) = .returned (.int .u64 b) := by rw [h]
/-! ### fixed numbers -/
theorem wrap64U (n : Nat) (h : n < 18446744073709551616) : IntKind.u64.wrap (U n) = U n := by
  rw [IntKind.wrap_u64]; unfold U; omega
set_option maxRecDepth 100000 in
set_option maxHeartbeats 400000 in
theorem u16_any (w : World) (B p : Nat) (l : List UInt8) (n : Nat) (hw : Wr B w p l) (hs : l.length + 8 ≤ 1000000000000) (x : Int) (hx : x = U n) (hn : Hid (n < 65536)) :
    Calls Tryz.prog 47 #[.pointer (some ⟨p, 0, none⟩), .int .u16 x] w fun e w' => e = .returned (.tuple #[]) ∧ Wr B w' p (l ++ fixB 2 n) ∧ Only B w w' := by
  subst hx
  have hu := wrap64U n (by have := hn.out; omega)
  go_enter Tryz.func47, Tryz.ntmps47
  go_wp2_with fail
  refine (fixed2 w B p l n hw hs).mono ?_; rintro e w1 ⟨rfl, h1, o1⟩
  have H1 := Lib.hid h1; have O1 := Lib.hid o1; clear h1 o1
  go_wp2_with fail
  go_end0
  exact ⟨rfl, H1.out, O1.out⟩
set_option maxRecDepth 100000 in
set_option maxHeartbeats 400000 in
theorem u64_any (w : World) (B p : Nat) (l : List UInt8) (n : Nat) (hw : Wr B w p l) (hs : l.length + 8 ≤ 1000000000000) (x : Int) (hx : x = U n) :
    Calls Tryz.prog 46 #[.pointer (some ⟨p, 0, none⟩), .int .u64 x] w fun e w' => e = .returned (.tuple #[]) ∧ Wr B w' p (l ++ fixB 8 n) ∧ Only B w w' := by
  subst hx
  go_enter Tryz.func46, Tryz.ntmps46
  go_wp2_with fail
  refine (fixed8 w B p l n hw hs).mono ?_; rintro e w1 ⟨rfl, h1, o1⟩
  have H1 := Lib.hid h1; have O1 := Lib.hid o1; clear h1 o1
  go_wp2_with fail
  go_end0
  exact ⟨rfl, H1.out, O1.out⟩
/-- 4 bytes, the lowest first -/
def lowB (n : Nat) : List UInt8 := (fixB 4 n).reverse
theorem lowB_length (n : Nat) : (lowB n).length = 4 := by unfold lowB; rw [List.length_reverse, fixB_length]
/-! ### how many bytes -/
/-! ### the bytes -/
def S (l : List UInt8) : ByteArray := ⟨l.toArray⟩
theorem S_list (l : List UInt8) : (S l).data.toList = l := rfl
theorem S_size (l : List UInt8) : (S l).size = l.length := by unfold S; simp [ByteArray.size]
theorem S_of (s : ByteArray) : S s.data.toList = s := rfl
set_option maxRecDepth 100000 in
set_option maxHeartbeats 400000 in
theorem bytes_any (w : World) (B p : Nat) (l : List UInt8) (hw : Wr B w p l) :
    Calls Tryz.prog 49 #[.pointer (some ⟨p, 0, none⟩)] w fun e w' => e = .returned (.string (S l)) ∧ ∃ n, w' = w.drewN n := by
  obtain ⟨hB, ⟨hp, rfl⟩ | ⟨q, g, cap, h1, h2, h3, h4, h5⟩⟩ := hw
  · exact (bytes_none p w hp).mono fun e w' ⟨he, hw⟩ => ⟨he, 0, hw.symm⟩
  · have p0 : w.cell? ⟨p, 0, none⟩ = some (.pointer (some ⟨q, 0, none⟩)) := cell_row h3 0
    have p1 : w.cell? ⟨p, 1, none⟩ = some (.int .i64 (l.length : Int)) := cell_row h3 1
    have q0 : w.cell? ⟨q, 0, none⟩ = some (.slice (some ⟨g, 0, none⟩) l.length cap) := cell_row h4 0
    have hback : ∀ n, (convert 86 9 (.slice (some ⟨g, 0, none⟩) l.length cap)).run Tryz.prog (w.drewN n) = .ok (.string (S l)) (w.drewN n) := fun n =>
      run_convert_bytes_back (P := Tryz.prog) (w.drewN n) 86 9 5 ⟨g, 0, none⟩ cap l Tryz.underlying86 Tryz.underlying5 Tryz.underlying9 (fun j hj => by rw [addr_add, Nat.zero_add]; exact h5.cell j hj)
    have hl : (l.length : Int) ≤ (cap : Int) := by obtain ⟨_, _, _, _, _, _, h, _⟩ := h5; omega
    have hl0 : (0 : Int) ≤ (l.length : Int) := by omega
    clear h3 h4 h5 hB
    go_enter Tryz.func49, Tryz.ntmps49
    go_wp2_with fail
    go_quiet (fail)
    go_wp2_with fail
    go_ret
    exact ⟨rfl, _, rfl⟩

end Go.Proofs.YticfnfekkmkclaaGreatDoor.Wire
