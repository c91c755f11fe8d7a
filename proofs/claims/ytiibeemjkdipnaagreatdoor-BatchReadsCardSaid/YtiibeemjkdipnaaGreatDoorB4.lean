import Derived.Test.YtiibeemjkdipnaaGreatDoorRows
import Derived.Test.YtiibeemjkdipnaaGreatDoorB1
import Derived.WalkKit
import Derived.Lib.Hide
import Derived.ArgAppend
import Derived.Deep.RegionLaw
import Derived.Laws.IdiomStrings
import Derived.Lib.Strings
import Derived.Lib.Walk
import Derived.Lib.BufferWrite
import Derived.Lib.UnsafeStr
import Derived.Laws.MakeOwn
import Derived.Outline
import Derived.BigQuiet
import Derived.Deep.QuietTactic
import Derived.Deep.RegionHeldLaw
import Derived.Deep.DrawnRows
/-
  Memory of bytes: rows that are appended to, blocks that are known whole, what else stays. Numbers as the walk writes them.
-/
namespace Go.Proofs.YtiibeemjkdipnaaGreatDoor.Wire
open Go.RowKit

/-- a number of 64 bits as the walk has it, behind a name -/
def U (n : Nat) : Int := (n : Int)
theorem U_inj {a b : Nat} : U a = U b ↔ a = b := by unfold U; omega
def bv (b : UInt8) : Value := .int .u8 (b.toNat : Int)
def bvs (l : List UInt8) : List Value := l.map bv
theorem bvs_length (l : List UInt8) : (bvs l).length = l.length := by unfold bvs; simp
theorem bvs_append (l m : List UInt8) : bvs (l ++ m) = bvs l ++ bvs m := by unfold bvs; simp
theorem bvs_one (l : List UInt8) : ∀ u ∈ bvs l, u.oneCell' = true := by
  intro u hu
  unfold bvs at hu
  obtain ⟨b, _, rfl⟩ := List.mem_map.1 hu
  rfl

theorem row_lt {w : World} {g : Nat} {o : Obj} (h : w.heap[g]? = some o) : g < w.heap.size := by
  rcases Nat.lt_or_ge g w.heap.size with h1 | h1
  · exact h1
  · rw [Array.getElem?_eq_none h1] at h; cases h
theorem addr_add (b i j : Nat) : (⟨b, i, none⟩ : Addr).add j = ⟨b, i + j, none⟩ := by unfold Addr.add; split <;> simp_all

/-! ### cells set one by one -/
def putL (cs : Array Value) : Nat → List Value → Array Value
  | _, [] => cs
  | o, v :: r => putL (cs.setIfInBounds o v) (o + 1) r
theorem putL_size : ∀ (vs : List Value) (o : Nat) (cs : Array Value), (putL cs o vs).size = cs.size
  | [], _, _ => rfl
  | v :: r, o, cs => by rw [putL, putL_size r]; simp
theorem putL_take : ∀ (vs : List Value) (o : Nat) (cs : Array Value), o + vs.length ≤ cs.size → (putL cs o vs).toList.take (o + vs.length) = cs.toList.take o ++ vs
  | [], o, cs, _ => by simp [putL]
  | v :: r, o, cs, h => by
    rw [List.length_cons] at h ⊢
    have h2 := putL_take r (o + 1) (cs.setIfInBounds o v) (by simp; omega)
    rw [putL, show o + (r.length + 1) = o + 1 + r.length by omega, h2]
    have e : (cs.setIfInBounds o v).toList.take (o + 1) = cs.toList.take o ++ [v] := by
      rw [Array.toList_setIfInBounds, List.take_succ_eq_append_getElem (by simp; omega), List.take_set_of_le (Nat.le_refl _)]
      simp
    rw [e, List.append_assoc]; rfl
theorem heap_setCells : ∀ (vs : List Value) (b o : Nat) (w : World) (cs : Array Value) (t : TypeId) (fr : Nat × Nat), w.heap[b]? = some (.cells cs t fr) → (w.setCells b o vs).heap[b]? = some (.cells (putL cs o vs) t fr)
  | [], _, _, _, _, _, _, h => h
  | v :: r, b, o, w, cs, t, fr, h => by
    rw [World.setCells]
    refine heap_setCells r b (o + 1) _ _ t fr ?_
    simp [World.setCell, Array.getElem?_modify, h]
theorem grown_setCells : ∀ (vs : List Value) (b o : Nat) (w : World), w.grownBy (w.setCells b o vs) (some b)
  | [], b, o, w => ⟨rfl, rfl, rfl, Nat.le_refl _, fun _ _ _ => rfl⟩
  | v :: r, b, o, w => by
    have h := grown_setCells r b (o + 1) (w.setCell ⟨b, o, none⟩ v)
    refine ⟨h.os, h.tape, h.output, Nat.le_trans (by simp [World.setCell]) h.size, fun k hk hne => ?_⟩
    rw [World.setCells, h.block k (by simpa [World.setCell] using hk) hne]
    exact Below.heap_setCell w _ v k (fun e => hne (by rw [e]))

/-! ### a row of bytes of the call's own -/
def BRow (w : World) (g cap : Nat) (l : List UInt8) : Prop :=
  ∃ cur lo hi, w.heap[g]? = some (.cells cur 5 (lo, hi)) ∧ cur.size = cap ∧ (cap ≤ lo ∨ hi = 0) ∧ l.length ≤ cap ∧ cur.toList.take l.length = bvs l
theorem BRow.lt {w : World} {g cap : Nat} {l : List UInt8} (h : BRow w g cap l) : g < w.heap.size := by
  obtain ⟨cur, lo, hi, h, _⟩ := h; exact row_lt h
theorem BRow.same {w w' : World} {g cap : Nat} {l : List UInt8} (h : BRow w g cap l) (hs : w'.heap[g]? = w.heap[g]?) : BRow w' g cap l := by
  obtain ⟨cur, lo, hi, h1, h2⟩ := h; exact ⟨cur, lo, hi, hs.trans h1, h2⟩
theorem BRow.cell {w : World} {g cap : Nat} {l : List UInt8} (h : BRow w g cap l) (j : Nat) (hj : j < l.length) : w.cell? ⟨g, j, none⟩ = some (bv l[j]) := by
  obtain ⟨cur, lo, hi, h1, h2, h3, h4, h5⟩ := h
  rw [cell_of_row w g j cur _ _ h1]
  have e : cur.toList[j]? = (cur.toList.take l.length)[j]? := by rw [List.getElem?_take, if_pos hj]
  rw [← Array.getElem?_toList, e, h5]
  unfold bvs; simp [hj]

/-- bytes that stand at an address -/
def Src (w : World) (a : Addr) (l : List UInt8) : Prop := ∀ (j : Nat) (u : Value), (bvs l)[j]? = some u → w.cell? (a.add j) = some u
theorem Src.keep {w w' : World} {a : Addr} {l : List UInt8} (h : Src w a l) (hk : ∀ j, w'.cell? (a.add j) = w.cell? (a.add j)) : Src w' a l := fun j u hu => (hk j).trans (h j u hu)
theorem Src.of_block {w : World} {g : Nat} {cur : Array Value} {t : TypeId} {fr : Nat × Nat} {l : List UInt8} (h : w.heap[g]? = some (.cells cur t fr)) (hl : ∀ (j : Nat) (u : Value), (bvs l)[j]? = some u → cur[j]? = some u) : Src w ⟨g, 0, none⟩ l := by
  intro j u hu
  rw [addr_add, Nat.zero_add, cell_of_row w g j cur _ _ h]
  exact hl j u hu

theorem info5 : (Tryz.prog.info? 5).map (fun i => (i.zero, i.size, i.bytes)) = some (some (.int .u8 0), 1, 1) := by kernel_rfl

/-- bytes put behind a row: there, or in a new one -/
theorem run_append_row (w : World) (ty : TypeId) (g cap : Nat) (l : List UInt8) (hrow : BRow w g cap l) (a : Addr) (c : Nat) (m : List UInt8) (hsrc : Src w a m) (hsmall : l.length + m.length ≤ 1000000000000) :
    ∃ g' cap' w', (Builtin.append_ #[49, 49] ty #[.slice (some ⟨g, 0, none⟩) l.length cap, .slice (some a) m.length c]).run Tryz.prog w = .ok (.slice (some ⟨g', 0, none⟩) (l.length + m.length) cap') w' ∧
      BRow w' g' cap' (l ++ m) ∧ w.grownBy w' (some g) ∧ (g' = g ∨ w.heap.size ≤ g') := by
  obtain ⟨i0, hi, hz0, hz1, hz2⟩ := info_parts info5
  obtain ⟨cur, lo, hi', h1, h2, h3, h4, h5⟩ := hrow
  have hbl := bvs_length m
  by_cases hr : l.length + m.length ≤ cap
  · have hrun := run_append_room_cells (P := Tryz.prog) w 49 ty 5 i0 Tryz.underlying49 hi g 0 l.length cap a m.length c (bvs m) (by rw [hz1, hbl, Nat.mul_one]) hsrc (bvs_one m) hr
      (fun j hj => by rw [hz1, cell_of_row w g _ cur _ _ h1, Array.getElem?_eq_getElem (by omega)]; rfl)
      (fun j hj => by
        rw [hz1]
        unfold World.frozen?
        show (match w.heap[g]? with | some (.cells _ _ (lo, hi)) => _ | _ => _) = _
        rw [h1]
        show (decide (lo ≤ 0 + l.length * 1 + j) && decide (0 + l.length * 1 + j < hi')) = false
        rcases h3 with h3 | h3
        · rw [decide_eq_false (by omega)]; rfl
        · rw [decide_eq_false (p := _ < hi') (by omega)]; simp)
    refine ⟨g, cap, _, hrun, ?_, grown_setCells _ _ _ _, Or.inl rfl⟩
    rw [hz1, Nat.mul_one, Nat.zero_add]
    refine ⟨_, lo, hi', heap_setCells (bvs m) g l.length w cur _ _ h1, by rw [putL_size]; exact h2, h3, by rw [List.length_append]; exact hr, ?_⟩
    have := putL_take (bvs m) l.length cur (by omega)
    rw [List.length_append, ← hbl, this, h5, bvs_append]
  · have holds : ∀ j u, (bvs l)[j]? = some u → w.cell? ((⟨g, 0, none⟩ : Addr).add j) = some u := by
      intro j u hu
      have hj : j < l.length := by have := (List.getElem?_eq_some_iff.1 hu).1; rwa [bvs_length] at this
      rw [addr_add, Nat.zero_add, BRow.cell ⟨cur, lo, hi', h1, h2, h3, h4, h5⟩ j hj]
      rw [← hu]; unfold bvs; simp [hj]
    obtain ⟨v', w', hrun, r1, r2⟩ := run_append_arg_grows (P := Tryz.prog) w 49 ty 5 i0 (.int .u8 0) 1 1 Tryz.underlying49 hi hz0 hz1 hz2 rfl (by decide) ⟨g, 0, none⟩ l.length cap (bvs l) (by rw [bvs_length, Nat.mul_one]) holds a m.length c (bvs m) (by rw [hbl, Nat.mul_one]) hsrc (by omega) (by unfold maxLen; omega) (by omega)
    rcases r1.2 with ⟨_, h0⟩ | ⟨g', cap', cur', rfl, hg, hh, hn, _, hsz, htk⟩
    · omega
    · refine ⟨g', cap', w', hrun, ⟨cur', 0, 0, hh, by omega, Or.inr rfl, by rw [List.length_append]; exact hn, ?_⟩, ⟨r2.os, r2.tape, r2.output, r2.size, fun k hk _ => r2.block k hk (by simp)⟩, ?_⟩
      · rw [Nat.mul_one] at htk; rw [List.length_append, htk, bvs_append]
      · exact Or.inr hg

theorem wp_append_row {o : Oper} {a : Act} {w : World} {K : Act → World → Prop} {Q : Exit → Act → World → Prop} (s x : Operand)
    (ho : o.op = .call { callee := .builtin .append, args := #[s, x], argTypes := #[49, 49] })
    (g cap : Nat) (l : List UInt8) (hs : a.eval s = .slice (some ⟨g, 0, none⟩) l.length cap) (hrow : BRow w g cap l)
    (ad : Addr) (c : Nat) (m : List UInt8) (hx : a.eval x = .slice (some ad) m.length c) (hsrc : Src w ad m) (hsmall : l.length + m.length ≤ 1000000000000)
    (h : ∀ g' cap' w', BRow w' g' cap' (l ++ m) → w.grownBy w' (some g) → (g' = g ∨ w.heap.size ≤ g') → K (a.put o.dst (.slice (some ⟨g', 0, none⟩) (l.length + m.length) cap')) w') : o.wp Tryz.prog a w K Q := by
  obtain ⟨g', cap', w', hr, h2, h3, h4⟩ := run_append_row w o.type g cap l hrow ad c m hsrc hsmall
  unfold Oper.wp execOp
  simp only [ho, resolve, invoke, builtin, Sem.run_bind, Sem.run_pure, Result.andThen_ok, List.map_toArray, List.map_cons, List.map_nil, hs, hx, hr]
  exact h g' cap' w' h2 h3 h4
theorem step_append_row {ops : Array Oper} {o : Oper} {a : Act} {w : World} {K : Act → World → Prop} {Q : Exit → Act → World → Prop} {E : Prop} (hgd : o.guard = none) (s x : Operand)
    (ho : o.op = .call { callee := .builtin .append, args := #[s, x], argTypes := #[49, 49] })
    (g cap : Nat) (l : List UInt8) (hs : a.eval s = .slice (some ⟨g, 0, none⟩) l.length cap) (hrow : BRow w g cap l)
    (ad : Addr) (c : Nat) (m : List UInt8) (hx : a.eval x = .slice (some ad) m.length c) (hsrc : Src w ad m) (hsmall : l.length + m.length ≤ 1000000000000)
    (h : ∀ g' cap' w', BRow w' g' cap' (l ++ m) → w.grownBy w' (some g) → (g' = g ∨ w.heap.size ≤ g') → K (a.put o.dst (.slice (some ⟨g', 0, none⟩) (l.length + m.length) cap')) w') :
    if Region.wanted o (yielded ops a.tmps) = true then Oper.wp Tryz.prog o a w K Q else E := by
  have hw : Region.wanted o (yielded ops a.tmps) = true := by simp [Region.wanted, hgd]
  rw [if_pos hw]
  exact wp_append_row s x ho g cap l hs hrow ad c m hx hsrc hsmall h
theorem grown_cell {w w' : World} {g : Nat} (h : w.grownBy w' (some g)) (p i : Nat) (hp : p < w.heap.size) (hne : p ≠ g) : w'.cell? ⟨p, i, none⟩ = w.cell? ⟨p, i, none⟩ :=
  World.cell?_of_block (h.block p hp (fun e => hne (by injection e)))
theorem grown_frozen {w w' : World} {g : Nat} (h : w.grownBy w' (some g)) (p i : Nat) (hp : p < w.heap.size) (hne : p ≠ g) : w'.frozen? ⟨p, i, none⟩ = w.frozen? ⟨p, i, none⟩ :=
  World.frozen?_of_block (h.block p hp (fun e => hne (by injection e)))

end Go.Proofs.YtiibeemjkdipnaaGreatDoor.Wire

/-
  strings.Clone.
-/
namespace Go.Proofs.YtiibeemjkdipnaaGreatDoor.Wire
open Go.RowKit

set_option maxHeartbeats 4000000 in
set_option maxRecDepth 100000 in
theorem liteClone_any (s : ByteArray) (w : World) (hlim : s.size ≤ 281474976710656) :
    Calls Tryz.prog 115 #[.string s] w fun e w' => e = .returned (.string s) ∧ Below w.heap.size w w' := by
  by_cases h0 : s.size = 0
  · have hs : s = ⟨#[]⟩ := by
      apply ByteArray.ext
      exact Array.eq_empty_of_size_eq_zero h0
    subst hs
    go_enter Tryz.func115, Tryz.ntmps115
    go_wp2
    go_ret
    exact ⟨rfl, Below.refl _ _⟩
  · obtain ⟨i0, hi, hz0, hz1, hz2⟩ := info_parts info5
    have hinfo : (Tryz.prog.info? 5).map (·.size) = some 1 := by rw [hi]; simp [hz1]
    have hco : Tryz.prog.cellsOf 5 = 1 := by simp [Program.cellsOf, hi, hz1]
    obtain ⟨M, hM⟩ : ∃ M, M = madeCells (Value.int .u8 0).cells (((s.size : Nat) : Int).toNat * i0.size) := ⟨_, rfl⟩
    have hMs : M.size = s.size := by rw [hM, size_madeCells, hz1]; simp
    have hmk : ∀ W : World, (Instr.makeSlice 49 (.int .i64 (s.size : Int)) (.int .i64 (s.size : Int))).run Tryz.prog W = .ok (.slice (some ⟨W.heap.size, 0, none⟩) s.size s.size) (W.alloc (.cells M 5)) := fun W => by
      have h := run_make (P := Tryz.prog) W 49 5 i0 (.int .u8 0) Tryz.underlying49 hi hz0 .i64 .i64 (s.size : Int) (s.size : Int) (by omega) (by omega) (by rw [hz2]; omega) (by omega)
      rw [← hM] at h
      simpa using h
    clear hM
    have hcp := Lib.run_copy_row_string (P := Tryz.prog) (w.alloc (.cells M 5)) 49 9 3 5 w.heap.size 0 s.size s.size s M 5 Tryz.underlying49 hinfo (heap_alloc_new w _) (Nat.le_refl _) (by omega)
    obtain ⟨Y, hY⟩ : ∃ Y, Y = (M.toList.take 0 ++ Lib.byteCells s.data.toList ++ M.toList.drop (0 + s.size)).toArray := ⟨_, rfl⟩
    rw [← hY] at hcp
    have hYl : Y.toList = Lib.byteCells s.data.toList := by
      rw [hY, List.toList_toArray, List.take_zero, List.nil_append, List.drop_of_length_le (by rw [Array.length_toList]; omega), List.append_nil]
    have hYs : Y.size = s.size := by rw [← Array.length_toList, hYl, Lib.byteCells_length, ← Lib.size_eq]
    have hgY : ((w.alloc (.cells M 5)).setRow w.heap.size Y).heap[w.heap.size]? = some (.cells Y 5 (0, 0)) := setRow_heap _ _ M _ 5 (0, 0) (heap_alloc_new w _)
    have hne : s.data.toList ≠ [] := fun e => h0 (by rw [Lib.size_eq, e]; rfl)
    have hUS := Lib.run_unsafeString_row (P := Tryz.prog) ((w.alloc (.cells M 5)).setRow w.heap.size Y) 150 3 9 5 Tryz.underlying150 hco w.heap.size Y.size (by unfold World.shape?; rw [hgY]) s.data.toList hne (by rw [← Lib.size_eq]; omega) (by rw [← Lib.size_eq]; omega)
      (fun j x hx => Lib.cells_of_row hgY Y.size j _ (by rw [List.take_of_length_le (by rw [Array.length_toList]; exact Nat.le_refl _), hYl]; simp [Lib.byteCells, hx]))
    rw [← Lib.size_eq] at hUS
    clear hY
    go_enter Tryz.func115, Tryz.ntmps115
    go_wp2
    go_ret
    have hb1 : Below w.heap.size w (w.alloc (.cells M 5)) := (Below.refl _ w).alloc (Nat.le_refl _) _
    have hb2 : Below w.heap.size (w.alloc (.cells M 5)) ((w.alloc (.cells M 5)).setRow w.heap.size Y) := ⟨rfl, rfl, rfl, by simp, fun k hk => setRow_other _ _ _ _ (by omega)⟩
    exact ⟨rfl, Lib.below_freeze (hb1.trans hb2) (p := ⟨w.heap.size, 0, none⟩) (Nat.le_refl _) _⟩
theorem clone_any (s : ByteArray) (w : World) (hlim : s.size ≤ 281474976710656) :
    Calls Tryz.prog 114 #[.string s] w fun e w' => e = .returned (.string s) ∧ Below w.heap.size w w' := by
  go_enter Tryz.func114, Tryz.ntmps114
  go_wp2_with (go_at_call 115; refine (liteClone_any s _ hlim).mono ?_; rintro e w1 ⟨rfl, hb1⟩)
  go_ret
  exact ⟨rfl, hb1⟩


end Go.Proofs.YtiibeemjkdipnaaGreatDoor.Wire

/-
  The Writer: what it has in memory; 'put'.
-/
namespace Go.Proofs.YtiibeemjkdipnaaGreatDoor.Wire
open Go.RowKit

theorem cell_row {w : World} {g : Nat} {cs : Array Value} {t : TypeId} {fr : Nat × Nat} (h : w.heap[g]? = some (.cells cs t fr)) (i : Nat) : w.cell? ⟨g, i, none⟩ = cs[i]? := cell_of_row w g i cs _ _ h
theorem frozen_row {w : World} {g : Nat} {cs : Array Value} {t : TypeId} (h : w.heap[g]? = some (.cells cs t (0, 0))) (i : Nat) : w.frozen? ⟨g, i, none⟩ = false := by
  unfold World.frozen?
  show (match w.heap[g]? with | some (.cells _ _ (lo, hi)) => _ | _ => _) = _
  rw [h]
  simp

theorem heap_set {w : World} {b : Nat} {cs : Array Value} {t : TypeId} {fr : Nat × Nat} (h : w.heap[b]? = some (.cells cs t fr)) (i : Nat) (v : Value) : (w.setCell ⟨b, i, none⟩ v).heap[b]? = some (.cells (cs.setIfInBounds i v) t fr) := by
  simp [World.setCell, Array.getElem?_modify, h]
theorem heap_far {w : World} {b k : Nat} (i : Nat) (v : Value) (h : k ≠ b) : (w.setCell ⟨b, i, none⟩ v).heap[k]? = w.heap[k]? := Below.heap_setCell w _ v k h

/-- a Writer's struct, its buffer's -/
def wrS (q : Nat) (n : Nat) : Array Value := #[.pointer (some ⟨q, 0, none⟩), .int .i64 (n : Int)]
def bfS (g n cap : Nat) : Array Value := #[.slice (some ⟨g, 0, none⟩) n cap]
/-- l has become l ++ m -/
structure PutB (p q g : Nat) (l m : List UInt8) (w w' : World) (g' cap' : Nat) : Prop where
  hp : w'.heap[p]? = some (.cells (wrS q (l ++ m).length) 73 (0, 0))
  hq : w'.heap[q]? = some (.cells (bfS g' (l ++ m).length cap') 110 (0, 0))
  row : BRow w' g' cap' (l ++ m)
  new : g' = g ∨ w.heap.size ≤ g'
  os : w'.os = w.os
  tape : w'.tape = w.tape
  output : w'.output = w.output
  size : w.heap.size ≤ w'.heap.size
  far : ∀ k, k < w.heap.size → k ≠ p → k ≠ q → k ≠ g → w'.heap[k]? = w.heap[k]?
theorem putB_of {p q g g' cap cap' n : Nat} {l m : List UInt8} {w w1 : World} (hp : w.heap[p]? = some (.cells (wrS q l.length) 73 (0, 0))) (hq : w.heap[q]? = some (.cells (bfS g l.length cap) 110 (0, 0)))
    (hpq : p ≠ q) (hpg : p ≠ g) (hqg : q ≠ g) (hrow : BRow w1 g' cap' (l ++ m)) (hgrow : (w.drewN n).grownBy w1 (some g)) (hg' : g' = g ∨ (w.drewN n).heap.size ≤ g') :
    PutB p q g l m w ((w1.setCell ⟨q, 0, none⟩ (.slice (some ⟨g', 0, none⟩) (l.length + m.length) cap')).setCell ⟨p, 1, none⟩ (.int .i64 ((l.length : Int) + (m.length : Int)))) g' cap' := by
  have hp1 : w1.heap[p]? = _ := (hgrow.block p (row_lt hp) (fun e => hpg (by injection e))).trans hp
  have hq1 : w1.heap[q]? = _ := (hgrow.block q (row_lt hq) (fun e => hqg (by injection e))).trans hq
  have hgp : g' ≠ p := by
    rcases hg' with e | e
    · exact fun e2 => hpg (by omega)
    · have : p < w.heap.size := row_lt hp
      have e' : w.heap.size ≤ g' := e
      omega
  have hgq : g' ≠ q := by
    rcases hg' with e | e
    · exact fun e2 => hqg (by omega)
    · have : q < w.heap.size := row_lt hq
      have e' : w.heap.size ≤ g' := e
      omega
  have el : (l ++ m).length = l.length + m.length := List.length_append
  refine ⟨?_, ?_, ?_, hg', hgrow.os, hgrow.tape, hgrow.output, Nat.le_trans hgrow.size (by simp [World.setCell]), ?_⟩
  · rw [heap_set ((heap_far 0 _ hpq).trans hp1), el]; rfl
  · rw [heap_far 1 _ (Ne.symm hpq), heap_set hq1, el]; rfl
  · exact hrow.same ((heap_far 1 _ hgp).trans (heap_far 0 _ hgq))
  · intro k hk h1 h2 h3
    rw [heap_far 1 _ h1, heap_far 0 _ h2]
    exact hgrow.block k hk (fun e => h3 (by injection e))

set_option maxRecDepth 100000 in
set_option maxHeartbeats 400000 in
theorem put_more (w : World) (p q g cap : Nat) (l m : List UInt8) (a : Addr) (c : Nat)
    (hp : w.heap[p]? = some (.cells (wrS q l.length) 73 (0, 0)))
    (hq : w.heap[q]? = some (.cells (bfS g l.length cap) 110 (0, 0)))
    (hrow : BRow w g cap l) (hsrc : Src w a m) (hs : l.length + m.length ≤ 1000000000000) :
    Calls Tryz.prog 73 #[.pointer (some ⟨p, 0, none⟩), .slice (some a) m.length c] w fun e w' => e = .returned (.tuple #[]) ∧ ∃ g' cap', PutB p q g l m w w' g' cap' := by
  have p0 : w.cell? ⟨p, 0, none⟩ = some (.pointer (some ⟨q, 0, none⟩)) := cell_row hp 0
  have p1 : w.cell? ⟨p, 1, none⟩ = some (.int .i64 (l.length : Int)) := cell_row hp 1
  have q0 : w.cell? ⟨q, 0, none⟩ = some (.slice (some ⟨g, 0, none⟩) l.length cap) := cell_row hq 0
  have fp0 := frozen_row hp 0
  have fp1 := frozen_row hp 1
  have fq0 := frozen_row hq 0
  have hpg : p ≠ g := by
    rintro rfl
    obtain ⟨cur, lo, hi, h1, _⟩ := hrow
    rw [h1] at hp; injection hp with hp; injection hp with _ ht; cases ht
  have hpq : p ≠ q := by
    rintro rfl
    rw [hp] at hq; injection hq with hq; injection hq with _ ht; cases ht
  have hqg : q ≠ g := by
    rintro rfl
    obtain ⟨cur, lo, hi, h1, _⟩ := hrow
    rw [h1] at hq; injection hq with hq; injection hq with _ ht; cases ht
  go_enter Tryz.func73, Tryz.ntmps73
  go_wp2_with fail
  go_quiet (fail)
  go_wp2_with fail
  have hrow' : BRow (w.drewN nq).drew g cap l := hrow
  have hsrc' : Src (w.drewN nq).drew a m := hsrc
  have hpl : p < ((w.drewN nq).drew).heap.size := row_lt hp
  have hql : q < ((w.drewN nq).drew).heap.size := row_lt hq
  go_region_law ((refine step_append_row (by rfl) (.tmp 44) (.tmp 45) (by rfl) g cap l (by rfl) hrow' a c m (by rfl) hsrc' hs ?_; intro g' cap' w1 hrow1 hgrow hg'; (have hq0 := grown_frozen hgrow q 0 hql hqg); (have hq1 := (grown_cell hgrow q 0 hql hqg).trans q0); (have hp0 := (grown_cell hgrow p 0 hpl hpg).trans p0); (have hp1 := (grown_cell hgrow p 1 hpl hpg).trans p1); (have gp0 := (grown_frozen hgrow p 0 hpl hpg).trans fp0); (have gp1 := (grown_frozen hgrow p 1 hpl hpg).trans fp1)))
  all_goals
    have h0 := hq0.trans fq0
    go_wp2
    go_end0
    exact ⟨rfl, _, _, putB_of hp hq hpq hpg hqg hrow1 hgrow hg'⟩

end Go.Proofs.YtiibeemjkdipnaaGreatDoor.Wire

/-
  The Writer's calls.
-/
namespace Go.Proofs.YtiibeemjkdipnaaGreatDoor.Wire
open Go.RowKit

/-! ### what a Writer has, and what stays beside it -/
/-- below B all is as it was; of what there was nothing has changed but Writers, their buffers, and rows of bytes -/
structure Only (B : Nat) (w w' : World) : Prop where
  below : Below B w w'
  same : ∀ (k : Nat) (cs : Array Value) (t : TypeId) (fr : Nat × Nat), w.heap[k]? = some (.cells cs t fr) → t ≠ 73 → t ≠ 110 → t ≠ 5 → w'.heap[k]? = some (.cells cs t fr)
theorem Only.refl (B : Nat) (w : World) : Only B w w := ⟨Below.refl _ _, fun _ _ _ _ h _ _ _ => h⟩
theorem Only.trans {B : Nat} {a b c : World} (h : Only B a b) (k : Only B b c) : Only B a c :=
  ⟨h.below.trans k.below, fun i cs t fr hi h1 h2 h3 => k.same i cs t fr (h.same i cs t fr hi h1 h2 h3) h1 h2 h3⟩
theorem Only.of_below {B : Nat} {w w' : World} (h : Below w.heap.size w w') (hB : B ≤ w.heap.size) : Only B w w' :=
  ⟨h.mono hB, fun k cs t fr hk _ _ _ => (h.block k (row_lt hk)).trans hk⟩
theorem Only.alloc {B : Nat} {a w : World} (h : Only B a w) (hB : B ≤ w.heap.size) (o : Obj) : Only B a (w.alloc o) :=
  h.trans (Only.of_below ((Below.refl _ _).alloc (Nat.le_refl _) _) hB)
theorem Only.drewN {B : Nat} {a w : World} (h : Only B a w) (n : Nat) : Only B a (w.drewN n) := ⟨⟨h.below.os, h.below.tape, h.below.output, h.below.size, h.below.block⟩, h.same⟩

/-- the Writer at p has l; what it has lies from B on -/
def Wr (B : Nat) (w : World) (p : Nat) (l : List UInt8) : Prop :=
  B ≤ p ∧ ((w.heap[p]? = some (.cells #[.pointer none, .int .i64 0] 73 (0, 0)) ∧ l = []) ∨
    ∃ q g cap, B ≤ q ∧ B ≤ g ∧ w.heap[p]? = some (.cells (wrS q l.length) 73 (0, 0)) ∧ w.heap[q]? = some (.cells (bfS g l.length cap) 110 (0, 0)) ∧ BRow w g cap l)
theorem Wr.lt {B : Nat} {w : World} {p : Nat} {l : List UInt8} (h : Wr B w p l) : p < w.heap.size := by
  rcases h.2 with ⟨h, _⟩ | ⟨q, g, cap, _, _, h, _⟩ <;> exact row_lt h
theorem Wr.low {B : Nat} {w : World} {p : Nat} {l : List UInt8} (h : Wr B w p l) : B ≤ w.heap.size := Nat.le_trans h.1 (Nat.le_of_lt h.lt)
theorem Wr.keep {B : Nat} {w w' : World} {p : Nat} {l : List UInt8} (h : Wr B w p l) (hk : ∀ k, k < w.heap.size → w'.heap[k]? = w.heap[k]?) : Wr B w' p l := by
  obtain ⟨hB, h⟩ := h
  refine ⟨hB, ?_⟩
  rcases h with ⟨h, e⟩ | ⟨q, g, cap, h1, h2, h3, h4, h5⟩
  · exact Or.inl ⟨(hk p (row_lt h)).trans h, e⟩
  · exact Or.inr ⟨q, g, cap, h1, h2, (hk p (row_lt h3)).trans h3, (hk q (row_lt h4)).trans h4, h5.same (hk g h5.lt)⟩
theorem Wr.below {B : Nat} {w w' : World} {p : Nat} {l : List UInt8} (h : Wr B w p l) (hb : Below w.heap.size w w') : Wr B w' p l := h.keep hb.block
theorem Wr.alloc {B : Nat} {w : World} {p : Nat} {l : List UInt8} (h : Wr B w p l) (o : Obj) : Wr B (w.alloc o) p l := h.keep fun k hk => Below.heap_alloc w o k hk
theorem Wr.drewN {B : Nat} {w : World} {p : Nat} {l : List UInt8} (h : Wr B w p l) (n : Nat) : Wr B (w.drewN n) p l := h
theorem Wr.new {B : Nat} {w : World} (hB : B ≤ w.heap.size) : Wr B (w.alloc (.cells #[.pointer none, .int .i64 0] 73)) w.heap.size [] :=
  ⟨hB, Or.inl ⟨heap_alloc_new w _, rfl⟩⟩
/-- other blocks than a Writer's have changed -/
theorem Wr.beside {B : Nat} {w w' : World} {p r : Nat} {l : List UInt8} {cs : Array Value} {t : TypeId} {fr : Nat × Nat} (h : Wr B w p l) (hg : w.grownBy w' (some r)) (hr : w.heap[r]? = some (.cells cs t fr))
    (h1 : t ≠ 73) (h2 : t ≠ 110) (h3 : t ≠ 5) : Wr B w' p l := by
  obtain ⟨hB, h⟩ := h
  refine ⟨hB, ?_⟩
  have ne : ∀ {k : Nat} {cs' : Array Value} {t' : TypeId} {fr' : Nat × Nat}, w.heap[k]? = some (.cells cs' t' fr') → t ≠ t' → w'.heap[k]? = w.heap[k]? := by
    intro k cs' t' fr' hk ht
    refine hg.block k (row_lt hk) ?_
    intro e
    injection e with e
    subst e
    rw [hr] at hk; injection hk with hk; injection hk with _ e; exact ht e
  rcases h with ⟨h, e⟩ | ⟨q, g, cap, k1, k2, k3, k4, k5⟩
  · exact Or.inl ⟨(ne h h1).trans h, e⟩
  · obtain ⟨cur, lo, hi, k6, k7⟩ := k5
    exact Or.inr ⟨q, g, cap, k1, k2, (ne k3 h1).trans k3, (ne k4 h2).trans k4, cur, lo, hi, (ne k6 h3).trans k6, k7⟩

theorem putB_wr {B p q g : Nat} {l m : List UInt8} {w w' : World} {g' cap' : Nat} (h : PutB p q g l m w w' g' cap') (hp : B ≤ p) (hq : B ≤ q) (hg : B ≤ g) (hB : B ≤ w.heap.size) : Wr B w' p (l ++ m) :=
  ⟨hp, Or.inr ⟨q, g', cap', hq, by rcases h.new with e | e <;> omega, h.hp, h.hq, h.row⟩⟩
theorem putB_only {B p q g : Nat} {l m : List UInt8} {w w' : World} {g' cap' : Nat} {cp cq cg : Array Value} {f1 f2 f3 : Nat × Nat} (h : PutB p q g l m w w' g' cap') (hp : B ≤ p) (hq : B ≤ q) (hg : B ≤ g)
    (kp : w.heap[p]? = some (.cells cp 73 f1)) (kq : w.heap[q]? = some (.cells cq 110 f2)) (kg : w.heap[g]? = some (.cells cg 5 f3)) : Only B w w' := by
  refine ⟨⟨h.os, h.tape, h.output, h.size, fun k hk => h.far k (by have := row_lt kp; omega) (by omega) (by omega) (by omega)⟩, fun k cs t fr hk h1 h2 h3 => ?_⟩
  refine (h.far k (row_lt hk) ?_ ?_ ?_).trans hk
  · rintro rfl; rw [kp] at hk; injection hk with hk; injection hk with _ e; exact h1 e.symm
  · rintro rfl; rw [kq] at hk; injection hk with hk; injection hk with _ e; exact h2 e.symm
  · rintro rfl; rw [kg] at hk; injection hk with hk; injection hk with _ e; exact h3 e.symm

/-! ### Bytes, of a Writer without a buffer, and of nobody's -/
set_option maxHeartbeats 400000 in
theorem bytes_nil (w : World) : Calls Tryz.prog 47 #[.pointer none] w fun e w' => e = .returned (.string ⟨#[]⟩) ∧ w = w' := by
  go_enter Tryz.func47, Tryz.ntmps47
  go_wp2
  go_ret
  exact ⟨rfl, rfl⟩
set_option maxHeartbeats 400000 in
theorem bytes_none (p : Nat) (w : World) (hp : w.heap[p]? = some (.cells #[.pointer none, .int .i64 0] 73 (0, 0))) :
    Calls Tryz.prog 47 #[.pointer (some ⟨p, 0, none⟩)] w fun e w' => e = .returned (.string ⟨#[]⟩) ∧ w = w' := by
  have p0 : w.cell? ⟨p, 0, none⟩ = some (.pointer none) := cell_row hp 0
  go_enter Tryz.func47, Tryz.ntmps47
  go_wp2
  go_ret
  exact ⟨rfl, rfl⟩

/-! ### put -/
theorem bytesRow_none (cap : Nat) : (bytesRow ⟨#[]⟩ cap).size = cap := by unfold bytesRow; simp [ByteArray.size]
theorem first_world (w : World) (p cap n : Nat) (R : Array Value) (hR : R.size = cap) (hp : w.heap[p]? = some (.cells #[.pointer none, .int .i64 0] 73 (0, 0))) :
    ∀ W, W = (((w.drewN n).alloc (Obj.cells R 5 (R.size, R.size + 1))).setCell ⟨p, 0, none⟩ (.pointer (some ⟨w.heap.size + 1, 0, none⟩))).alloc (Obj.cells #[Value.slice (some ⟨w.heap.size, 0, none⟩) 0 cap] 110) →
    W.heap[p]? = some (.cells (wrS (w.heap.size + 1) 0) 73 (0, 0)) ∧ W.heap[w.heap.size + 1]? = some (.cells (bfS w.heap.size 0 cap) 110 (0, 0)) ∧ BRow W w.heap.size cap [] ∧
      (∀ k, k < w.heap.size → k ≠ p → W.heap[k]? = w.heap[k]?) ∧ W.os = w.os ∧ W.tape = w.tape ∧ W.output = w.output ∧ W.heap.size = w.heap.size + 2 := by
  rintro W rfl
  have hpl := row_lt hp
  have h1 : ((w.drewN n).alloc (Obj.cells R 5 (R.size, R.size + 1))).heap[p]? = some (.cells #[.pointer none, .int .i64 0] 73 (0, 0)) := (Below.heap_alloc _ _ p hpl).trans hp
  have hs : (((w.drewN n).alloc (Obj.cells R 5 (R.size, R.size + 1))).setCell ⟨p, 0, none⟩ (.pointer (some ⟨w.heap.size + 1, 0, none⟩))).heap.size = w.heap.size + 1 := by simp [World.setCell]
  refine ⟨?_, ?_, ?_, ?_, rfl, rfl, rfl, ?_⟩
  · rw [Below.heap_alloc _ _ p (by rw [hs]; omega), heap_set h1]; rfl
  · have := heap_alloc_new (((w.drewN n).alloc (Obj.cells R 5 (R.size, R.size + 1))).setCell ⟨p, 0, none⟩ (.pointer (some ⟨w.heap.size + 1, 0, none⟩))) (Obj.cells #[Value.slice (some ⟨w.heap.size, 0, none⟩) 0 cap] 110)
    rw [hs] at this; exact this
  · refine ⟨R, R.size, R.size + 1, ?_, hR, Or.inl (by omega), Nat.zero_le _, rfl⟩
    rw [Below.heap_alloc _ _ _ (by rw [hs]; omega), heap_far 0 _ (by omega)]
    exact heap_alloc_new (w.drewN n) _
  · intro k hk hne
    rw [Below.heap_alloc _ _ k (by rw [hs]; omega), heap_far 0 _ hne]
    exact Below.heap_alloc (w.drewN n) _ k hk
  · simp [World.setCell]
theorem Src.keep' {w w' : World} {a : Addr} {l : List UInt8} (h : Src w a l) (hk : l ≠ [] → w'.heap[a.block]? = w.heap[a.block]?) : Src w' a l := by
  intro j u hu
  have hne : l ≠ [] := by rintro rfl; simp [bvs] at hu
  refine (World.cell?_of_block (w := w) ?_).trans (h j u hu)
  have : (a.add j).block = a.block := by unfold Addr.add; split <;> rfl
  rw [this]; exact hk hne

theorem putB_of0 {p q g g' cap cap' : Nat} {m : List UInt8} {w w1 : World} (hp : w.heap[p]? = some (.cells (wrS q 0) 73 (0, 0))) (hq : w.heap[q]? = some (.cells (bfS g 0 cap) 110 (0, 0)))
    (hpq : p ≠ q) (hpg : p ≠ g) (hqg : q ≠ g) (hrow : BRow w1 g' cap' ([] ++ m)) (hgrow : w.drew.grownBy w1 (some g)) (hg' : g' = g ∨ w.drew.heap.size ≤ g') :
    PutB p q g [] m w ((w1.setCell ⟨q, 0, none⟩ (.slice (some ⟨g', 0, none⟩) m.length cap')).setCell ⟨p, 1, none⟩ (.int .i64 (m.length : Int))) g' cap' := by
  have h := putB_of (l := []) (n := 1) hp hq hpq hpg hqg hrow hgrow hg'
  have e : (([] : List UInt8).length : Int) + (m.length : Int) = (m.length : Int) := by simp
  rw [e, List.length_nil, Nat.zero_add] at h
  exact h
set_option maxRecDepth 100000 in
set_option maxHeartbeats 400000 in
theorem put_first (w : World) (B p : Nat) (m : List UInt8) (a : Addr) (c : Nat) (hB : B ≤ p)
    (hp : w.heap[p]? = some (.cells #[.pointer none, .int .i64 0] 73 (0, 0)))
    (ha : m ≠ [] → a.block < w.heap.size ∧ a.block ≠ p) (hsrc : Src w a m) (hs : m.length ≤ 1000000000000) :
    Calls Tryz.prog 73 #[.pointer (some ⟨p, 0, none⟩), .slice (some a) m.length c] w fun e w' => e = .returned (.tuple #[]) ∧ Wr B w' p m ∧ Only B w w' := by
  have p0 : w.cell? ⟨p, 0, none⟩ = some (.pointer none) := cell_row hp 0
  have fp0 := frozen_row hp 0
  have hpl : p < w.heap.size := row_lt hp
  have H := Lib.hid hp
  go_enter Tryz.func73, Tryz.ntmps73
  go_wp2_with fail
  go_quiet (fail)
  go_wp2_with fail
  refine (bytes_none p (w.drewN nq) hp).mono ?_; rintro e w1 ⟨rfl, rfl⟩
  have hconv := run_bytes_of_string (P := Tryz.prog) (w.drewN nq) 9 49 5 ⟨#[]⟩ Tryz.underlying9 Tryz.underlying49 Tryz.underlying5
  have hsz := bytesRow_none (grownCap (w.drewN nq) (ByteArray.size ⟨#[]⟩) 0 5)
  generalize grownCap (w.drewN nq) (ByteArray.size ⟨#[]⟩) 0 5 = cap at *
  generalize bytesRow ⟨#[]⟩ cap = R at *
  have HSZ := Lib.hid hsz; clear hsz
  have c1 : ∀ o1 o2, (((w.drewN (nq + 1)).alloc o1).alloc o2).cell? ⟨p, 0, none⟩ = some (.pointer none) := fun o1 o2 => by
    rw [World.cell?_alloc_lt _ _ _ (by simp; omega), World.cell?_alloc_lt _ _ _ (by simp; omega)]; exact p0
  have c2 : ∀ o1 o2, (((w.drewN (nq + 1)).alloc o1).alloc o2).frozen? ⟨p, 0, none⟩ = false := fun o1 o2 => by
    rw [World.frozen?_of_block (w := w) ((Below.heap_alloc _ _ p (by simp; omega)).trans (Below.heap_alloc _ _ p (by simp; omega)))]; exact fp0
  go_wp2_with fail
  clear c1 c2 hconv
  have HW := first_world w p cap (nq + 1) R HSZ.out hp _ rfl
  generalize (((w.drewN (nq + 1)).alloc (Obj.cells R 5 (R.size, R.size + 1))).setCell ⟨p, 0, none⟩ (.pointer (some ⟨w.heap.size + 1, 0, none⟩))).alloc (Obj.cells #[Value.slice (some ⟨w.heap.size, 0, none⟩) 0 cap] 110) = W at *
  obtain ⟨kp, kq, krow, kfar, kos, ktape, kout, ksz⟩ := HW
  generalize hg : w.heap.size = g at *
  have hO : Hid (Only B w W) := ⟨⟨kos, ktape, kout, by omega, fun k hk => kfar k (by omega) (by omega)⟩, fun k cs t fr hk h1 h2 h3 => (kfar k (by rw [← hg]; exact row_lt hk) (fun e => by
    subst e; have hp' := H.out; rw [hp'] at hk; injection hk with hk; injection hk with _ e; exact h1 e.symm)).trans hk⟩
  have hsrc3 : Src W a m := hsrc.keep' (fun hm => kfar _ (ha hm).1 (ha hm).2)
  have Hg := Lib.hid hg; clear hg
  have hBg : Hid (B ≤ g) := by show B ≤ g; omega
  clear hp p0 fp0 kfar kos ktape kout hsrc ha
  have p0 : W.cell? ⟨p, 0, none⟩ = some (.pointer (some ⟨g + 1, 0, none⟩)) := cell_row kp 0
  have p1 : W.cell? ⟨p, 1, none⟩ = some (.int .i64 0) := cell_row kp 1
  have q0 : W.cell? ⟨g + 1, 0, none⟩ = some (.slice (some ⟨g, 0, none⟩) 0 cap) := cell_row kq 0
  have fp0 := frozen_row kp 0
  have fp1 := frozen_row kp 1
  have fq0 := frozen_row kq 0
  have hpg : p ≠ g := by omega
  have hpq : p ≠ g + 1 := by omega
  have hqg : g + 1 ≠ g := by omega
  have hpl : p < (W.drew).heap.size := row_lt kp
  have hql : g + 1 < (W.drew).heap.size := row_lt kq
  have hrow' : BRow W.drew g cap [] := krow
  have hsrc' : Src W.drew a m := hsrc3
  go_region_law ((refine step_append_row (by rfl) (.tmp 44) (.tmp 45) (by rfl) g cap [] (by rfl) hrow' a c m (by rfl) hsrc' (by simpa using hs) ?_; intro g' cap' w1 hrow1 hgrow hg'; (have hq0 := grown_frozen hgrow (g + 1) 0 hql hqg); (have hq1 := (grown_cell hgrow (g + 1) 0 hql hqg).trans q0); (have hp0 := (grown_cell hgrow p 0 hpl hpg).trans p0); (have hp1 := (grown_cell hgrow p 1 hpl hpg).trans p1); (have gp0 := (grown_frozen hgrow p 0 hpl hpg).trans fp0); (have gp1 := (grown_frozen hgrow p 1 hpl hpg).trans fp1)))
  all_goals
    have h0 := hq0.trans fq0
    have HP := Lib.hid (putB_of0 kp kq hpq hpg hqg hrow1 hgrow hg')
    have hm : (m.length : Int) ≤ 1000000000000 := by omega
    go_wp2
    go_end0
    have hB1 := hBg.out
    obtain ⟨cur, lo, hi, k1, _⟩ := krow
    exact ⟨rfl, putB_wr (l := []) HP.out hB (by omega) hB1 (by omega), hO.out.trans (putB_only HP.out hB (by omega) hB1 kp kq k1)⟩

/-- put, of a Writer that may have anything -/
theorem put_any (w : World) (B p : Nat) (l m : List UInt8) (a : Addr) (c : Nat) (hw : Wr B w p l)
    (ha : m ≠ [] → a.block < w.heap.size ∧ a.block ≠ p) (hsrc : Src w a m) (hs : l.length + m.length ≤ 1000000000000) :
    Calls Tryz.prog 73 #[.pointer (some ⟨p, 0, none⟩), .slice (some a) m.length c] w fun e w' => e = .returned (.tuple #[]) ∧ Wr B w' p (l ++ m) ∧ Only B w w' := by
  have hlow := hw.low
  obtain ⟨hB, ⟨hp, rfl⟩ | ⟨q, g, cap, h1, h2, h3, h4, h5⟩⟩ := hw
  · exact put_first w B p m a c hB hp ha hsrc (by simpa using hs)
  · obtain ⟨cur, lo, hi, k1, k2⟩ := h5
    exact (put_more w p q g cap l m a c h3 h4 ⟨cur, lo, hi, k1, k2⟩ hsrc hs).mono fun e w' ⟨he, g', cap', hP⟩ => ⟨he, putB_wr hP hB h1 h2 hlow, putB_only hP hB h1 h2 h3 h4 k1⟩
set_option maxHeartbeats 400000 in
theorem put_nil (x : Value) (w : World) : Calls Tryz.prog 73 #[.pointer none, x] w fun e w' => e = .returned (.tuple #[]) ∧ w = w' := by
  go_enter Tryz.func73, Tryz.ntmps73
  go_wp2
  refine bodyPost_ret (results_none rfl _ _ _) rfl ?_
  exact ⟨rfl, rfl⟩

end Go.Proofs.YtiibeemjkdipnaaGreatDoor.Wire
