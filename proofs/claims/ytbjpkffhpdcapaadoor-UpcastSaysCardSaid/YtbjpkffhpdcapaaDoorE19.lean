import Derived.Deep.RegionHeld3
import Derived.Test.YtbjpkffhpdcapaaDoorE13
import Derived.Deep.RegionLawGrows
import Derived.ArgAppend
/-
  The walk of own: an event in new memory.
-/
namespace Go.Proofs.YtbjpkffhpdcapaaDoor.Schema
open Go Go.RowKit

/-- a slice of the call's own, or an empty one without room -/
def OwnE (w : World) (base : Nat) (E : TypeId) (v : Value) (vs : List Value) : Prop := Own w base E v vs ∨ (vs = [] ∧ ∃ g, v = .slice (some ⟨g, 0, none⟩) 0 0)
theorem OwnE.below {w w' : World} {base : Nat} {E : TypeId} {v : Value} {vs : List Value} (h : OwnE w base E v vs) (hb : Below w.heap.size w w') : OwnE w' base E v vs := h.imp (fun h => h.below hb) id
theorem OwnE.less {w : World} {base base' : Nat} {E : TypeId} {v : Value} {vs : List Value} (h : OwnE w base E v vs) (hb : base' ≤ base) : OwnE w base' E v vs := h.imp (fun h => h.less hb) id
theorem OwnE.vat {w : World} {base : Nat} {E : TypeId} {v : Value} {vs : List Value} (h : OwnE w base E v vs) : ∃ (A : Option Addr) (cap : Nat), v = .slice A vs.length cap ∧ VAt w A vs ∧ (A = none → cap = 0) ∧ vs.length ≤ cap := by
  rcases h with h | ⟨rfl, g, rfl⟩
  · obtain ⟨A, cap, h1, h2, h3, h4, _⟩ := h.vat
    exact ⟨A, cap, h1, h2, h3, h4⟩
  · exact ⟨some ⟨g, 0, none⟩, 0, rfl, VAt.nil _ _, (fun h => by cases h), Nat.le_refl _⟩
theorem below_none {w w' : World} (h : w.grownBy w' none) : Below w.heap.size w w' := ⟨h.os, h.tape, h.output, h.size, fun k hk => h.block k hk (fun e => by cases e)⟩

set_option maxRecDepth 100000 in
/-- append to an empty slice without room -/
theorem step_append_new {ops : Array Oper} {o : Oper} {a : Act} {w : World} {K : Act → World → Prop} {Q : Exit → Act → World → Prop} {X : Prop} (T E : TypeId) (z : Value) (bytes : Nat) (hT : Tryd.prog.underlying T = some (.slice E))
    (hinfo : (Tryd.prog.info? E).map (fun i => (i.zero, i.size, i.bytes)) = some (some z, 1, bytes)) (hzs : z.cells.size = 1) (hby : bytes ≤ 16) (hgd : o.guard = none) (s x : Operand)
    (ho : o.op = .call { callee := .builtin .append, args := #[s, x], argTypes := #[T, T] })
    (g : Nat) (hs : a.eval s = .slice (some ⟨g, 0, none⟩) 0 0)
    (A : Option Addr) (m cap : Nat) (ys : List Value) (hx : a.eval x = .slice A m cap) (hm : m = ys.length) (hn : VAt w A ys) (h1 : ∀ u ∈ ys, u.oneCell' = true) (hA : A = none → cap = 0)
    (hlen : ys.length ≤ 1000000)
    (h : ∀ v' w', OwnE w' w.heap.size E v' ys → Below w.heap.size w w' → K (a.put o.dst v') w') :
    if Region.wanted o (yielded ops a.tmps) = true then Oper.wp Tryd.prog o a w K Q else X := by
  subst hm
  obtain ⟨i0, hi, hz0, hz1, hz2⟩ := info_parts hinfo
  by_cases h0 : ys = []
  · subst h0
    have hres := h (.slice (some ⟨g, 0, none⟩) 0 0) w (Or.inr ⟨rfl, g, rfl⟩) (Below.refl _ _)
    rw [if_pos (by simp [Region.wanted, hgd])]
    have hrun : (Builtin.append_ #[T, T] o.type #[.slice (some ⟨g, 0, none⟩) 0 0, .slice A 0 cap]).run Tryd.prog w = .ok (.slice (some ⟨g, 0, none⟩) 0 0) w := by
      cases A with
      | none =>
        have hc := hA rfl
        subst hc
        simp [Builtin.append_, run_underlying hT, sizeOf, typeInfo, hi, Builtin.lenOf, Builtin.firstCells, storeCells]
      | some ad =>
        have := run_append_room_cells (P := Tryd.prog) w T o.type E i0 hT hi g 0 0 0 ad 0 cap [] (by simp) (fun j u hu => by simp at hu) (fun u hu => by simp at hu) (Nat.le_refl _) (fun j hj => by simp at hj) (fun j hj => by simp at hj)
        simpa [World.setCells] using this
    have hx' : a.eval x = .slice A 0 cap := hx
    unfold Oper.wp
    simp [execOp, ho, resolve, invoke, builtin, hs, hx', hrun, Result.andThen]
    exact hres
  · cases A with
    | none => exact absurd hn.nils h0
    | some ad =>
      refine step_append_grows hgd s x T ho E i0 z 1 bytes hT hi hz0 hz1 hz2 hzs (by decide) (some ⟨g, 0, none⟩) 0 0 [] hs (fun h => by cases h) rfl (fun b _ j u hu => by simp at hu) ad ys.length cap ys hx (by rw [Nat.mul_one]) ?_ h1 ?_ ?_ ?_ ?_
      · intro j u hj
        obtain ⟨b, o, e, hc⟩ := hn j u hj
        injection e with e; subst e
        rw [addr_add, hc]
      · have := List.length_pos_iff.2 h0; omega
      · unfold maxLen; omega
      · exact Nat.le_trans (Nat.mul_le_mul (show 0 + ys.length ≤ 1000000 by omega) hby) (by decide)
      · intro v' w' hown hg
        exact h v' w' (Or.inl (by unfold Own; simpa using hown)) (below_none hg)

/-- a slice of the call's own in a block from base on, below top; or an empty one without room -/
def OwnB (w : World) (base top : Nat) (E : TypeId) (v : Value) (vs : List Value) : Prop := (Own w base E v vs ∧ ∀ b, v.ownBlock = some b → b < top) ∨ (vs = [] ∧ ∃ g, v = .slice (some ⟨g, 0, none⟩) 0 0)
theorem OwnB.own {w : World} {base top : Nat} {E : TypeId} {v : Value} {vs : List Value} (h : OwnB w base top E v vs) : OwnE w base E v vs := h.imp (fun h => h.1) id
/-- an own slice's block lies below top, if it has anything -/
def UnderE (v : Value) (vs : List Value) (top : Nat) : Prop := (∀ b, v.ownBlock = some b → b < top) ∨ (vs = [] ∧ ∃ g, v = .slice (some ⟨g, 0, none⟩) 0 0)
theorem OwnE.under {w : World} {base : Nat} {E : TypeId} {v : Value} {vs : List Value} (h : OwnE w base E v vs) : UnderE v vs w.heap.size := h.imp (fun h b hb => (World.ownsRow.lt h b hb).2) id
theorem OwnE.put {w : World} {base top : Nat} {E : TypeId} {v : Value} {vs : List Value} (h : OwnE w base E v vs) (hu : UnderE v vs top) : OwnB w base top E v vs := by
  rcases h with h | h
  · rcases hu with hu | hu
    · exact Or.inl ⟨h, hu⟩
    · exact Or.inr hu
  · exact Or.inr h
/-- an event of the call's own is handed back -/
def OwnEv (w : World) (e : Ev) (z : Ending) (w' : World) : Prop := ∃ v1 v2, z = .returned (.agg #[.int .u8 e.v, .int .u8 e.k, v1, v2]) ∧ ∃ mid, w.heap.size ≤ mid ∧ mid ≤ w'.heap.size ∧ OwnB w' w.heap.size mid 2 v1 (nums e.ns) ∧ OwnB w' mid w'.heap.size 9 v2 (texts e.ts) ∧ Below w.heap.size w w'
theorem nums_cell (xs : List Int) : ∀ u ∈ nums xs, u.oneCell' = true := fun u hu => by obtain ⟨z, _, rfl⟩ := List.mem_map.1 hu; rfl
theorem texts_cell (xs : List ByteArray) : ∀ u ∈ texts xs, u.oneCell' = true := fun u hu => by obtain ⟨z, _, rfl⟩ := List.mem_map.1 hu; rfl
theorem nums_len (xs : List Int) : (nums xs).length = xs.length := List.length_map _
theorem texts_len (xs : List ByteArray) : (texts xs).length = xs.length := List.length_map _
/-- what a cell holds, if it is there -/
def at0 (w : World) (b o : Nat) : Value := (w.cell? ⟨b, o, none⟩).getD undef
theorem at0_of {w : World} {b o : Nat} {v : Value} (h : w.cell? ⟨b, o, none⟩ = some v) : w.cell? ⟨b, o, none⟩ = some (at0 w b o) := by unfold at0; rw [h]; rfl
theorem OwnE.set {w : World} {base : Nat} {E : TypeId} {v : Value} {vs : List Value} (h : OwnE w base E v vs) {b o : Nat} (hb : b < base) (x : Value) : OwnE (w.setCell ⟨b, o, none⟩ x) base E v vs :=
  h.imp (fun h => ownsRow_setCell_below h hb x) id
theorem hb_of {Y W : World} {n : Nat} {P : Prop} (h : (Below n Y W ∧ Y.heap.size ≤ W.heap.size) ∧ P) : Below n Y W ∧ Y.heap.size ≤ W.heap.size := h.1
/-- four cells that may be written -/
def Four (w : World) (b : Nat) (a0 a1 a2 a3 : Value) : Prop := w.cell? ⟨b, 0, none⟩ = some a0 ∧ w.cell? ⟨b, 1, none⟩ = some a1 ∧ w.cell? ⟨b, 2, none⟩ = some a2 ∧ w.cell? ⟨b, 3, none⟩ = some a3
theorem Four.below {w w' : World} {b : Nat} {a0 a1 a2 a3 : Value} (h : Four w b a0 a1 a2 a3) (hb : Below w.heap.size w w') : Four w' b a0 a1 a2 a3 := ⟨cell_kept h.1 hb, cell_kept h.2.1 hb, cell_kept h.2.2.1 hb, cell_kept h.2.2.2 hb⟩
def Free (w : World) (b : Nat) : Prop := b < w.heap.size ∧ ∀ o, w.frozen? ⟨b, o, none⟩ = false
theorem Free.below {w w' : World} {b : Nat} (h : Free w b) (hb : Below w.heap.size w w') : Free w' b := ⟨Nat.lt_of_lt_of_le h.1 hb.size, fun o => (World.frozen?_of_block (hb.block _ h.1)).trans (h.2 o)⟩
theorem free_new (w : World) (cs : Array Value) (T : TypeId) : Free (w.alloc (.cells cs T)) w.heap.size := ⟨by simp, fun o => by
  unfold World.frozen?
  rw [show (w.alloc _).heap[(⟨w.heap.size, o, none⟩ : Addr).block]? = _ from (MapKept.heap_alloc w _).1]
  simp⟩

end Go.Proofs.YtbjpkffhpdcapaaDoor.Schema

/-
  What turns between two blocks; events of the call's own, and of the same shape; one value more.
-/
namespace Go.Proofs.YtbjpkffhpdcapaaDoor.Schema
open Go Go.RowKit

/-- nothing turns but blocks from lo to hi -/
structure Touch (lo hi : Nat) (w w' : World) : Prop where
  os : w'.os = w.os
  tape : w'.tape = w.tape
  output : w'.output = w.output
  size : w.heap.size ≤ w'.heap.size
  block : ∀ k, k < w.heap.size → (k < lo ∨ hi ≤ k) → w'.heap[k]? = w.heap[k]?
theorem touch_of {w w' : World} (h : Below w.heap.size w w') (lo hi : Nat) : Touch lo hi w w' := ⟨h.os, h.tape, h.output, h.size, fun k hk _ => h.block k hk⟩
theorem Touch.trans {lo hi : Nat} {a b c : World} (h : Touch lo hi a b) (g : Touch lo hi b c) : Touch lo hi a c :=
  ⟨g.os.trans h.os, g.tape.trans h.tape, g.output.trans h.output, Nat.le_trans h.size g.size, fun k hk ho => (g.block k (Nat.lt_of_lt_of_le hk h.size) ho).trans (h.block k hk ho)⟩
theorem Touch.below {lo hi B : Nat} {w w' : World} (h : Touch lo hi w w') (hb : B ≤ lo) (hB : B ≤ w.heap.size) : Below B w w' := ⟨h.os, h.tape, h.output, h.size, fun k hk => h.block k (by omega) (Or.inl (by omega))⟩
theorem Touch.set (w : World) (b o : Nat) (x : Value) : Touch b (b + 1) w (w.setCell ⟨b, o, none⟩ x) := ⟨by rfl, by simp, by rfl, by simp, fun k _ hk => Below.heap_setCell w ⟨b, o, none⟩ x k (by show k ≠ b; omega)⟩
theorem Touch.step {lo hi : Nat} {Y w w' : World} (h : Below Y.heap.size Y w) (g : Touch lo hi w w') (hl : Y.heap.size ≤ lo) : Below Y.heap.size Y w' := h.trans (g.below hl h.size)
theorem cell_touch {lo hi : Nat} {w w' : World} {b o : Nat} {v : Value} (h : w.cell? ⟨b, o, none⟩ = some v) (g : Touch lo hi w w') (ho : b < lo ∨ hi ≤ b) : w'.cell? ⟨b, o, none⟩ = some v :=
  (World.cell?_of_block (g.block _ (cell_lt h) ho)).trans h
theorem Four.touch {lo hi : Nat} {w w' : World} {b : Nat} {a0 a1 a2 a3 : Value} (h : Four w b a0 a1 a2 a3) (g : Touch lo hi w w') (ho : b < lo ∨ hi ≤ b) : Four w' b a0 a1 a2 a3 := ⟨cell_touch h.1 g ho, cell_touch h.2.1 g ho, cell_touch h.2.2.1 g ho, cell_touch h.2.2.2 g ho⟩
theorem Free.touch {lo hi : Nat} {w w' : World} {b : Nat} (h : Free w b) (g : Touch lo hi w w') (ho : b < lo ∨ hi ≤ b) : Free w' b := ⟨Nat.lt_of_lt_of_le h.1 g.size, fun o => (World.frozen?_of_block (g.block _ h.1 ho)).trans (h.2 o)⟩
theorem Free.set {w : World} {b : Nat} (h : Free w b) (c o : Nat) (x : Value) : Free (w.setCell ⟨c, o, none⟩ x) b := ⟨by simpa using h.1, fun j => by simpa using h.2 j⟩
theorem Own.touch {lo hi : Nat} {w w' : World} {base top : Nat} {E : TypeId} {v : Value} {vs : List Value} (h : Own w base E v vs) (hu : ∀ b, v.ownBlock = some b → b < top) (g : Touch lo hi w w') (ho : hi ≤ base ∨ top ≤ lo) : Own w' base E v vs := by
  obtain ⟨h1, h2⟩ := h
  rcases h2 with h2 | ⟨b, cap, cur, rfl, hb, hg, r⟩
  · exact ⟨h1, Or.inl h2⟩
  · have hbt : b < top := hu b rfl
    have hbw : b < w.heap.size := (Array.getElem?_eq_some_iff.1 hg).1
    exact ⟨h1, Or.inr ⟨b, cap, cur, rfl, hb, (g.block b hbw (by omega)).trans hg, r⟩⟩
/-- an own slice stays, where its block is not touched -/
theorem OwnB.touch {lo hi : Nat} {w w' : World} {base top : Nat} {E : TypeId} {v : Value} {vs : List Value} (h : OwnB w base top E v vs) (g : Touch lo hi w w') (ho : hi ≤ base ∨ top ≤ lo) : OwnB w' base top E v vs :=
  h.imp (fun h => ⟨h.1.touch h.2 g ho, h.2⟩) id
theorem OwnB.below {w w' : World} {base top : Nat} {E : TypeId} {v : Value} {vs : List Value} (h : OwnB w base top E v vs) (hb : Below w.heap.size w w') : OwnB w' base top E v vs := h.imp (fun h => ⟨h.1.below hb, h.2⟩) id

/-- a block of an event -/
def Box (w : World) (b : Nat) : Prop := ∃ c f, w.heap[b]? = some (.cells c 25 f)
theorem box_new (w : World) (cs : Array Value) : Box (w.alloc (.cells cs 25)) w.heap.size := ⟨cs, (0, 0), (MapKept.heap_alloc w _).1⟩
theorem Box.below {w w' : World} {b : Nat} (h : Box w b) (hb : Below w.heap.size w w') : Box w' b := by
  obtain ⟨c, f, h⟩ := h
  exact ⟨c, f, (hb.block b (Array.getElem?_eq_some_iff.1 h).1).trans h⟩
theorem Box.touch {lo hi : Nat} {w w' : World} {b : Nat} (h : Box w b) (g : Touch lo hi w w') (ho : b < lo ∨ hi ≤ b) : Box w' b := by
  obtain ⟨c, f, h⟩ := h
  exact ⟨c, f, (g.block b (Array.getElem?_eq_some_iff.1 h).1 ho).trans h⟩
/-- a slice's block is no event's -/
theorem OwnB.box {w : World} {base top : Nat} {E : TypeId} {v : Value} {vs : List Value} (h : OwnB w base top E v vs) {b : Nat} (hx : Box w b) (hE : ¬ E = 25) (o : Nat) (x : Value) : OwnB (w.setCell ⟨b, o, none⟩ x) base top E v vs := by
  rcases h with ⟨⟨h1, h2⟩, h3⟩ | h
  · refine Or.inl ⟨⟨h1, ?_⟩, h3⟩
    rcases h2 with h2 | ⟨g, cap, cur, rfl, hb, hg, r⟩
    · exact Or.inl h2
    · have hne : g ≠ b := by
        intro e
        subst e
        obtain ⟨c, f, hc⟩ := hx
        rw [hg] at hc
        injection hc with hc
        injection hc with _ hc
        exact hE hc
      exact Or.inr ⟨g, cap, cur, rfl, hb, (Below.heap_setCell w ⟨b, o, none⟩ x g hne).trans hg, r⟩
  · exact Or.inr h

/-- an event of the call's own, as it reads -/
def OwnX (w : World) (e : Ev) (z : Ending) (w' : World) : Prop := ∃ A1 c1 B1 c2 mid, z = .returned (evV A1 c1 B1 c2 e) ∧ w.heap.size ≤ mid ∧ mid ≤ w'.heap.size ∧ OwnB w' w.heap.size mid 2 (.slice A1 e.ns.length c1) (nums e.ns) ∧ OwnB w' mid w'.heap.size 9 (.slice B1 e.ts.length c2) (texts e.ts) ∧ Below w.heap.size w w'
/-- what an event of the call's own reads as -/
theorem ev_of {w : World} {b1 t1 b2 t2 : Nat} {A1 : Option Addr} {c1 : Nat} {B1 : Option Addr} {c2 : Nat} {e : Ev} (hv : e.v < 256) (hk : e.k < 256) (hf : Fits64 e.ns) (ht : ∀ t ∈ e.ts, t.size ≤ maxLen)
    (h1 : OwnB w b1 t1 2 (.slice A1 e.ns.length c1) (nums e.ns)) (h2 : OwnB w b2 t2 9 (.slice B1 e.ts.length c2) (texts e.ts)) : EvAt w A1 c1 B1 c2 e := by
  obtain ⟨A, c, q1, q2, q3, q4⟩ := h1.own.vat
  obtain ⟨A', c', q1', q2', q3', q4'⟩ := h2.own.vat
  injection q1 with i1 i2 i3
  injection q1' with j1 j2 j3
  subst i1 i3 j1 j3
  exact ⟨hv, hk, hf, ht, q2, q2', q3, q3', by rw [nums_len] at q4; exact q4, by rw [texts_len] at q4'; exact q4'⟩

set_option maxRecDepth 100000 in
/-- one value more -/
theorem wpList_append_one {ops : Array Oper} {rest : List Oper} {o : Oper} {a : Act} {w : World} {Q : Exit → Act → World → Prop} (T E : TypeId) (z : Value) (bytes : Nat) (hT : Tryd.prog.underlying T = some (.slice E))
    (hinfo : (Tryd.prog.info? E).map (fun i => (i.zero, i.size, i.bytes)) = some (some z, 1, bytes)) (hzs : z.cells.size = 1) (hby : bytes ≤ 16) (hgd : o.guard = none) (s x : Operand)
    (ho : o.op = .call { callee := .builtin .append, args := #[s, x], argTypes := #[T, T] })
    (base top : Nat) (v : Value) (xs : List Value) (hs : a.eval s = v) (hown : OwnB w base top E v xs)
    (A : Option Addr) (cap : Nat) (u : Value) (hx : a.eval x = .slice A 1 cap) (hn : VAt w A [u]) (h1 : u.oneCell' = true)
    (hlen : xs.length ≤ 1000) (hbase : base ≤ w.heap.size)
    (h : ∀ v' w', OwnB w' base w'.heap.size E v' (xs ++ [u]) → Touch base top w w' → wpList Tryd.prog ops Q rest (a.put o.dst v') w') : wpList Tryd.prog ops Q (o :: rest) a w := by
  have h1' : ∀ y ∈ [u], y.oneCell' = true := fun y hy => by rw [List.mem_singleton.1 hy]; exact h1
  have hA : A = none → cap = 0 := fun e => by subst e; obtain ⟨b, o, e, _⟩ := hn 0 u rfl; cases e
  rcases hown with ⟨hown, hu⟩ | ⟨rfl, g, rfl⟩
  · refine wpList_append_vals T E z bytes hT hinfo hzs hby hgd s x ho base v xs hs hown A 1 cap [u] hx rfl hn h1' hA (by simp; omega) hbase ?_
    intro v' w' hO hg
    exact h v' w' (Or.inl ⟨hO, fun b hb => (World.ownsRow.lt hO b hb).2⟩) ⟨hg.os, hg.tape, hg.output, hg.size, fun k hk ho => hg.block k hk (fun e => by
      have h3 := World.ownsRow.lt hown k e.symm
      have h4 := hu k e.symm
      omega)⟩
  · obtain ⟨i0, hi, hz0, hz1, hz2⟩ := info_parts hinfo
    obtain ⟨b, o', rfl, hc⟩ := hn 0 u rfl
    refine wpList_append_grows w hgd s x T ho E i0 z 1 bytes hT hi hz0 hz1 hz2 hzs (by decide) (some ⟨g, 0, none⟩) 0 0 [] hs (fun h => by cases h) rfl (fun b _ j u hu => by simp at hu) ⟨b, o', none⟩ 1 cap [u] hx rfl ?_ h1' (by omega) (by unfold maxLen; omega) (by omega) ?_
    · intro j y hj
      obtain ⟨b'', o'', e, hc'⟩ := hn j y hj
      injection e with e; injection e with e1 e2; subst e1; subst e2
      rw [addr_add]; exact hc'
    · intro v' w' hO hg
      have hO' : Own w' w.heap.size E v' ([] ++ [u]) := by unfold Own; simpa using hO
      exact h v' w' (Or.inl ⟨hO'.less hbase, fun b hb => (World.ownsRow.lt hO' b hb).2⟩) (touch_of (below_none hg) _ _)

end Go.Proofs.YtbjpkffhpdcapaaDoor.Schema

namespace Go.Proofs.YtbjpkffhpdcapaaDoor.Schema
open Go Go.RowKit
set_option maxRecDepth 100000 in
set_option maxHeartbeats 2000000 in
theorem own_any (A : Option Addr) (ca : Nat) (B : Option Addr) (cb : Nat) (e : Ev) (hl : e.ns.length ≤ 1000000) (hm : e.ts.length ≤ 1000000) (w : World) (hA : EvAt w A ca B cb e) :
    Calls Tryd.prog 10 #[evV A ca B cb e] w (OwnEv w e) := by
  have HNs := Lib.hid hA.ns
  have HTs := Lib.hid hA.ts
  have HnA := Lib.hid hA.nA
  have HnB := Lib.hid hA.nB
  have HNC := Lib.hid (nums_cell e.ns)
  have HTC := Lib.hid (texts_cell e.ts)
  have HLN := Lib.hid (show e.ns.length = (nums e.ns).length from (nums_len _).symm)
  have HLT := Lib.hid (show e.ts.length = (texts e.ts).length from (texts_len _).symm)
  clear hA
  obtain ⟨v, k, ns, ts⟩ := e
  simp only [evV] at *
  have HA0 := (Below.refl w.heap.size w).alloc (Nat.le_refl _) (.cells #[.int .u8 v, .int .u8 k, .slice A ns.length ca, .slice B ts.length cb] 25)
  have HB4 := box4 w (.int .u8 v) (.int .u8 k) (.slice A ns.length ca) (.slice B ts.length cb) 25
  have hs : (w.alloc (.cells #[.int .u8 v, .int .u8 k, .slice A ns.length ca, .slice B ts.length cb] 25)).heap.size = w.heap.size + 1 := by simp
  have HC0 := (Below.refl (w.alloc (.cells #[.int .u8 v, .int .u8 k, .slice A ns.length ca, .slice B ts.length cb] 25)).heap.size (w.alloc (.cells #[.int .u8 v, .int .u8 k, .slice A ns.length ca, .slice B ts.length cb] 25))).alloc (Nat.le_refl _) (.cells #[.int .u8 0, .int .u8 0, .slice none 0 0, .slice none 0 0] 25)
  have HC4 := box4 (w.alloc (.cells #[.int .u8 v, .int .u8 k, .slice A ns.length ca, .slice B ts.length cb] 25)) (.int .u8 0) (.int .u8 0) (.slice none 0 0) (.slice none 0 0) 25
  have HFr := free_new (w.alloc (.cells #[.int .u8 v, .int .u8 k, .slice A ns.length ca, .slice B ts.length cb] 25)) #[.int .u8 0, .int .u8 0, .slice none 0 0, .slice none 0 0] 25
  rw [hs] at HC4 HFr
  have HX4 := Four.below HB4 HC0
  have HBW := below_step HA0 HC0
  have HHX := Lib.hid HX4
  have HHC := Lib.hid (show Four _ (w.heap.size + 1) _ _ _ _ from HC4)
  have HHF := Lib.hid HFr
  have HHB := Lib.hid HBW
  clear HA0 HB4 hs HC0 HC4 HFr HX4 HBW
  go_enter Tryd.func10, Tryd.ntmps10
  go_wp2_with fail
  generalize (w.alloc (.cells #[.int .u8 v, .int .u8 k, .slice A ns.length ca, .slice B ts.length cb] 25)).alloc (.cells #[.int .u8 0, .int .u8 0, .slice none 0 0, .slice none 0 0] 25) = Y at HHX HHC HHF HHB ⊢
  have g0 : Four Y.drew w.heap.size _ _ _ _ := HHX.out
  have g1 : Four Y.drew (w.heap.size + 1) _ _ _ _ := HHC.out
  have g2 : Free Y.drew (w.heap.size + 1) := HHF.out
  have g3 : Below Y.heap.size Y Y.drew := below_drew _ _
  clear g0 g1 g2
  have HK := Lib.hid (fun W (hW : Below Y.heap.size Y W) => show (fun w' => (Below (w.heap.size + 1) Y w' ∧ Y.heap.size ≤ w'.heap.size) ∧ w'.cell? ⟨w.heap.size, 0, none⟩ = some (.int .u8 v) ∧ w'.cell? ⟨w.heap.size, 1, none⟩ = some (.int .u8 k) ∧ w'.cell? ⟨w.heap.size, 2, none⟩ = some (.slice A ns.length ca) ∧ w'.cell? ⟨w.heap.size, 3, none⟩ = some (.slice B ts.length cb) ∧ w'.cell? ⟨w.heap.size + 1, 0, none⟩ = some (at0 w' (w.heap.size + 1) 0) ∧ w'.cell? ⟨w.heap.size + 1, 1, none⟩ = some (at0 w' (w.heap.size + 1) 1) ∧ w'.cell? ⟨w.heap.size + 1, 2, none⟩ = some (at0 w' (w.heap.size + 1) 2) ∧ w'.cell? ⟨w.heap.size + 1, 3, none⟩ = some (at0 w' (w.heap.size + 1) 3) ∧ w'.frozen? ⟨w.heap.size + 1, 0, none⟩ = false ∧ w'.frozen? ⟨w.heap.size + 1, 1, none⟩ = false ∧ w'.frozen? ⟨w.heap.size + 1, 2, none⟩ = false ∧ w'.frozen? ⟨w.heap.size + 1, 3, none⟩ = false) W from by
    have h0 := HHX.out.below hW
    have h1 := HHC.out.below hW
    have h2 := HHF.out.below hW
    have h3 := HHF.out.1
    exact ⟨⟨hW.mono (by omega), hW.size⟩, h0.1, h0.2.1, h0.2.2.1, h0.2.2.2, at0_of h1.1, at0_of h1.2.1, at0_of h1.2.2.1, at0_of h1.2.2.2, h2.2 _, h2.2 _, h2.2 _, h2.2 _⟩)
  have HK2 := Lib.hid (fun W W' (h : (fun w' => (Below (w.heap.size + 1) Y w' ∧ Y.heap.size ≤ w'.heap.size) ∧ w'.cell? ⟨w.heap.size, 0, none⟩ = some (.int .u8 v) ∧ w'.cell? ⟨w.heap.size, 1, none⟩ = some (.int .u8 k) ∧ w'.cell? ⟨w.heap.size, 2, none⟩ = some (.slice A ns.length ca) ∧ w'.cell? ⟨w.heap.size, 3, none⟩ = some (.slice B ts.length cb) ∧ w'.cell? ⟨w.heap.size + 1, 0, none⟩ = some (at0 w' (w.heap.size + 1) 0) ∧ w'.cell? ⟨w.heap.size + 1, 1, none⟩ = some (at0 w' (w.heap.size + 1) 1) ∧ w'.cell? ⟨w.heap.size + 1, 2, none⟩ = some (at0 w' (w.heap.size + 1) 2) ∧ w'.cell? ⟨w.heap.size + 1, 3, none⟩ = some (at0 w' (w.heap.size + 1) 3) ∧ w'.frozen? ⟨w.heap.size + 1, 0, none⟩ = false ∧ w'.frozen? ⟨w.heap.size + 1, 1, none⟩ = false ∧ w'.frozen? ⟨w.heap.size + 1, 2, none⟩ = false ∧ w'.frozen? ⟨w.heap.size + 1, 3, none⟩ = false) W) (hW : Below W.heap.size W W') => show (fun w' => (Below (w.heap.size + 1) Y w' ∧ Y.heap.size ≤ w'.heap.size) ∧ w'.cell? ⟨w.heap.size, 0, none⟩ = some (.int .u8 v) ∧ w'.cell? ⟨w.heap.size, 1, none⟩ = some (.int .u8 k) ∧ w'.cell? ⟨w.heap.size, 2, none⟩ = some (.slice A ns.length ca) ∧ w'.cell? ⟨w.heap.size, 3, none⟩ = some (.slice B ts.length cb) ∧ w'.cell? ⟨w.heap.size + 1, 0, none⟩ = some (at0 w' (w.heap.size + 1) 0) ∧ w'.cell? ⟨w.heap.size + 1, 1, none⟩ = some (at0 w' (w.heap.size + 1) 1) ∧ w'.cell? ⟨w.heap.size + 1, 2, none⟩ = some (at0 w' (w.heap.size + 1) 2) ∧ w'.cell? ⟨w.heap.size + 1, 3, none⟩ = some (at0 w' (w.heap.size + 1) 3) ∧ w'.frozen? ⟨w.heap.size + 1, 0, none⟩ = false ∧ w'.frozen? ⟨w.heap.size + 1, 1, none⟩ = false ∧ w'.frozen? ⟨w.heap.size + 1, 2, none⟩ = false ∧ w'.frozen? ⟨w.heap.size + 1, 3, none⟩ = false) W' from by
    obtain ⟨⟨h0, h0s⟩, h1, h2, h3, h4, h5, h6, h7, h8, f0, f1, f2, f3⟩ := h
    have hz := HHF.out.1
    have hq : ∀ o, W'.cell? ⟨w.heap.size + 1, o, none⟩ = W.cell? ⟨w.heap.size + 1, o, none⟩ := fun o => World.cell?_of_block (hW.block _ (show w.heap.size + 1 < W.heap.size by omega))
    have hf : ∀ o, W'.frozen? ⟨w.heap.size + 1, o, none⟩ = W.frozen? ⟨w.heap.size + 1, o, none⟩ := fun o => World.frozen?_of_block (hW.block _ (show w.heap.size + 1 < W.heap.size by omega))
    exact ⟨⟨h0.trans (hW.mono (by omega)), Nat.le_trans h0s hW.size⟩, cell_kept h1 hW, cell_kept h2 hW, cell_kept h3 hW, cell_kept h4 hW, at0_of ((hq _).trans h5), at0_of ((hq _).trans h6), at0_of ((hq _).trans h7), at0_of ((hq _).trans h8), by rw [hf]; exact f0, by rw [hf]; exact f1, by rw [hf]; exact f2, by rw [hf]; exact f3⟩)
  have hk3 : ∀ (W : World) (o : Nat) (x : Value), (fun w' => (Below (w.heap.size + 1) Y w' ∧ Y.heap.size ≤ w'.heap.size) ∧ w'.cell? ⟨w.heap.size, 0, none⟩ = some (.int .u8 v) ∧ w'.cell? ⟨w.heap.size, 1, none⟩ = some (.int .u8 k) ∧ w'.cell? ⟨w.heap.size, 2, none⟩ = some (.slice A ns.length ca) ∧ w'.cell? ⟨w.heap.size, 3, none⟩ = some (.slice B ts.length cb) ∧ w'.cell? ⟨w.heap.size + 1, 0, none⟩ = some (at0 w' (w.heap.size + 1) 0) ∧ w'.cell? ⟨w.heap.size + 1, 1, none⟩ = some (at0 w' (w.heap.size + 1) 1) ∧ w'.cell? ⟨w.heap.size + 1, 2, none⟩ = some (at0 w' (w.heap.size + 1) 2) ∧ w'.cell? ⟨w.heap.size + 1, 3, none⟩ = some (at0 w' (w.heap.size + 1) 3) ∧ w'.frozen? ⟨w.heap.size + 1, 0, none⟩ = false ∧ w'.frozen? ⟨w.heap.size + 1, 1, none⟩ = false ∧ w'.frozen? ⟨w.heap.size + 1, 2, none⟩ = false ∧ w'.frozen? ⟨w.heap.size + 1, 3, none⟩ = false) W → (fun w' => (Below (w.heap.size + 1) Y w' ∧ Y.heap.size ≤ w'.heap.size) ∧ w'.cell? ⟨w.heap.size, 0, none⟩ = some (.int .u8 v) ∧ w'.cell? ⟨w.heap.size, 1, none⟩ = some (.int .u8 k) ∧ w'.cell? ⟨w.heap.size, 2, none⟩ = some (.slice A ns.length ca) ∧ w'.cell? ⟨w.heap.size, 3, none⟩ = some (.slice B ts.length cb) ∧ w'.cell? ⟨w.heap.size + 1, 0, none⟩ = some (at0 w' (w.heap.size + 1) 0) ∧ w'.cell? ⟨w.heap.size + 1, 1, none⟩ = some (at0 w' (w.heap.size + 1) 1) ∧ w'.cell? ⟨w.heap.size + 1, 2, none⟩ = some (at0 w' (w.heap.size + 1) 2) ∧ w'.cell? ⟨w.heap.size + 1, 3, none⟩ = some (at0 w' (w.heap.size + 1) 3) ∧ w'.frozen? ⟨w.heap.size + 1, 0, none⟩ = false ∧ w'.frozen? ⟨w.heap.size + 1, 1, none⟩ = false ∧ w'.frozen? ⟨w.heap.size + 1, 2, none⟩ = false ∧ w'.frozen? ⟨w.heap.size + 1, 3, none⟩ = false) (W.setCell ⟨w.heap.size + 1, o, none⟩ x) := fun W o x h => by
    obtain ⟨⟨h0, h0s⟩, h1, h2, h3, h4, h5, h6, h7, h8, f0, f1, f2, f3⟩ := h
    have hx : ∀ j, (W.setCell ⟨w.heap.size + 1, o, none⟩ x).cell? ⟨w.heap.size, j, none⟩ = W.cell? ⟨w.heap.size, j, none⟩ := fun j => World.cell?_setCell_far W _ _ x (show w.heap.size + 1 ≠ w.heap.size by omega)
    have hs : ∀ j u, W.cell? ⟨w.heap.size + 1, j, none⟩ = some u → (W.setCell ⟨w.heap.size + 1, o, none⟩ x).cell? ⟨w.heap.size + 1, j, none⟩ = some (at0 (W.setCell ⟨w.heap.size + 1, o, none⟩ x) (w.heap.size + 1) j) := fun j u hu => by
      obtain ⟨v', hy⟩ := cell?_setCell_some (w := W) (p := ⟨w.heap.size + 1, o, none⟩) (x := x) (q := ⟨w.heap.size + 1, j, none⟩) (v := u) hu
      exact at0_of hy
    have hf : ∀ j, (W.setCell ⟨w.heap.size + 1, o, none⟩ x).frozen? ⟨w.heap.size + 1, j, none⟩ = W.frozen? ⟨w.heap.size + 1, j, none⟩ := fun j => by simp
    exact ⟨⟨h0.setCell (Nat.le_refl _) x, by simpa using h0s⟩, by rw [hx]; exact h1, by rw [hx]; exact h2, by rw [hx]; exact h3, by rw [hx]; exact h4, hs _ _ h5, hs _ _ h6, hs _ _ h7, hs _ _ h8, by rw [hf]; exact f0, by rw [hf]; exact f1, by rw [hf]; exact f2, by rw [hf]; exact f3⟩
  have HK3 := Lib.hid hk3
  clear hk3
  have HWY := Lib.hid (fun W (h : Below (w.heap.size + 1) Y W ∧ Y.heap.size ≤ W.heap.size) => HHB.out.trans (h.1.mono (Nat.le_succ w.heap.size)))
  go_region_held3 (fun w' => (Below (w.heap.size + 1) Y w' ∧ Y.heap.size ≤ w'.heap.size) ∧ w'.cell? ⟨w.heap.size, 0, none⟩ = some (.int .u8 v) ∧ w'.cell? ⟨w.heap.size, 1, none⟩ = some (.int .u8 k) ∧ w'.cell? ⟨w.heap.size, 2, none⟩ = some (.slice A ns.length ca) ∧ w'.cell? ⟨w.heap.size, 3, none⟩ = some (.slice B ts.length cb) ∧ w'.cell? ⟨w.heap.size + 1, 0, none⟩ = some (at0 w' (w.heap.size + 1) 0) ∧ w'.cell? ⟨w.heap.size + 1, 1, none⟩ = some (at0 w' (w.heap.size + 1) 1) ∧ w'.cell? ⟨w.heap.size + 1, 2, none⟩ = some (at0 w' (w.heap.size + 1) 2) ∧ w'.cell? ⟨w.heap.size + 1, 3, none⟩ = some (at0 w' (w.heap.size + 1) 3) ∧ w'.frozen? ⟨w.heap.size + 1, 0, none⟩ = false ∧ w'.frozen? ⟨w.heap.size + 1, 1, none⟩ = false ∧ w'.frozen? ⟨w.heap.size + 1, 2, none⟩ = false ∧ w'.frozen? ⟨w.heap.size + 1, 3, none⟩ = false)
    (first | assumption | exact HK.out _ (below_drew _ _) | exact HK2.out _ _ (by assumption) (by assumption) | exact HK2.out _ _ (by assumption) ((Below.refl _ _).alloc (Nat.le_refl _) _) | exact HK3.out _ _ _ (HK3.out _ _ _ (HK3.out _ _ _ (HK3.out _ _ _ (by assumption)))))
    (first
      | (refine step_append_new 22 2 (.int .i64 0) 8 Tryd.underlying22 infoN rfl (by decide) rfl (.tmp 7) (.tmp 9) rfl _ rfl A _ ca (nums ns) rfl HLN.out (HNs.out.below (HWY.out _ (hb_of (by assumption)))) HNC.out HnA.out (by rw [← HLN.out]; omega) ?_; intro v' w' hO1 hb1; obtain ⟨A1, c1, rfl, _⟩ := hO1.vat; (have q1 := hO1.less (base' := Y.heap.size) (hb_of (by assumption)).2); (have q1u := q1.under); (have q1z : Y.heap.size ≤ w'.heap.size := Nat.le_trans (hb_of (by assumption)).2 hb1.size))
      | (refine step_append_new 23 9 (.string ByteArray.empty) 16 Tryd.underlying23 infoT rfl (by decide) rfl (.tmp 11) (.tmp 13) rfl _ rfl B _ cb (texts ts) rfl HLT.out (HTs.out.below (HWY.out _ (hb_of (by assumption)))) HTC.out HnB.out (by rw [← HLT.out]; omega) ?_; intro v2' w2' hO2 hb2; obtain ⟨A2, c2, rfl, _⟩ := hO2.vat; (have q2 : OwnE w2' w'.heap.size 9 (.slice A2 (texts ts).length c2) (texts ts) := hO2.less (by first | exact Nat.le_refl _ | simp)); (have q2s : w'.heap.size ≤ w2'.heap.size := Nat.le_trans (by first | exact Nat.le_refl _ | simp) hb2.size); (have q3 : OwnE w2' Y.heap.size 2 (.slice A1 (nums ns).length c1) (nums ns) := by first | exact q1.below hb2 | exact (q1.below ((Below.refl _ _).alloc (Nat.le_refl _) _)).below hb2); (have q4 := HK2.out _ _ (by assumption) hb2)))
  all_goals
    have r1 := (((q3.set (b := w.heap.size + 1) (o := 0) HHF.out.1 (.int .u8 v)).set (b := w.heap.size + 1) (o := 1) HHF.out.1 (.int .u8 k)).set (b := w.heap.size + 1) (o := 2) HHF.out.1 (.slice A1 (nums ns).length c1)).set (b := w.heap.size + 1) (o := 3) HHF.out.1 (.slice A2 (texts ts).length c2)
    have r2 := (((q2.set (b := w.heap.size + 1) (o := 0) (Nat.lt_of_lt_of_le HHF.out.1 q1z) (.int .u8 v)).set (b := w.heap.size + 1) (o := 1) (Nat.lt_of_lt_of_le HHF.out.1 q1z) (.int .u8 k)).set (b := w.heap.size + 1) (o := 2) (Nat.lt_of_lt_of_le HHF.out.1 q1z) (.slice A1 (nums ns).length c1)).set (b := w.heap.size + 1) (o := 3) (Nat.lt_of_lt_of_le HHF.out.1 q1z) (.slice A2 (texts ts).length c2)
    have r3 := HWY.out _ (hb_of (HK3.out _ 3 (.slice A2 (texts ts).length c2) (HK3.out _ 2 (.slice A1 (nums ns).length c1) (HK3.out _ 1 (.int .u8 k) (HK3.out _ 0 (.int .u8 v) q4)))))
    obtain ⟨_, _, _, _, _, d0, d1, d2, d3, _⟩ := q4
    have HR1 := Lib.hid r1
    have HR2 := Lib.hid r2
    have HR3 := Lib.hid r3
    have HQ := Lib.hid (And.intro q1u (And.intro q1z q2s))
    clear r1 r2 r3 q1u q1z q2s
    go_wp2_with fail
    refine bodyPost_ret (v := .agg #[.int .u8 v, .int .u8 k, .slice A1 (nums ns).length c1, .slice A2 (texts ts).length c2]) ?_ rfl ⟨_, _, rfl, w'.heap.size, Nat.le_trans HHB.out.size HQ.out.2.1, by simpa using HQ.out.2.2, (HR1.out.less HHB.out.size).put HQ.out.1, HR2.out.put HR2.out.under, HR3.out⟩
    simp [results, Tryd.results10, go_sem, d0, d1, d2, d3]

theorem own_x (A : Option Addr) (ca : Nat) (B : Option Addr) (cb : Nat) (e : Ev) (hl : e.ns.length ≤ 1000000) (hm : e.ts.length ≤ 1000000) (w : World) (hA : EvAt w A ca B cb e) :
    Calls Tryd.prog 10 #[evV A ca B cb e] w (OwnX w e) :=
  (own_any A ca B cb e hl hm w hA).mono fun z w' h => by
    obtain ⟨v1, v2, hz, mid, h1, h2, h3, h4, h5⟩ := h
    obtain ⟨A1, c1, e1, _⟩ := h3.own.vat
    obtain ⟨B1, c2, e2, _⟩ := h4.own.vat
    rw [nums_len] at e1
    rw [texts_len] at e2
    subst e1 e2
    exact ⟨A1, c1, B1, c2, mid, hz, h1, h2, h3, h4, h5⟩

/-- long: if it says no, there are few numbers, and texts -/
def LongRes (w : World) (e : Ev) (z : Ending) (w' : World) : Prop := ∃ b : Bool, z = .returned (.bool b) ∧ (b = false → e.ns.length ≤ 300 ∧ e.ts.length ≤ 300) ∧ Below w.heap.size w w'

set_option maxRecDepth 100000 in
set_option maxHeartbeats 1000000 in
theorem long_any (A : Option Addr) (ca : Nat) (B : Option Addr) (cb : Nat) (e : Ev) (hl : e.ns.length ≤ 140737488355328) (hm : e.ts.length ≤ 140737488355328) (w : World) (hA : EvAt w A ca B cb e) :
    Calls Tryd.prog 7 #[evV A ca B cb e] w (LongRes w e) := by
  have HTs := Lib.hid hA.ts
  have HTx := Lib.hid hA.txt
  clear hA
  obtain ⟨v, k, ns, ts⟩ := e
  simp only [evV] at *
  have HA0 := Lib.hid ((Below.refl w.heap.size w).alloc (Nat.le_refl _) (.cells #[.int .u8 v, .int .u8 k, .slice A ns.length ca, .slice B ts.length cb] 25))
  have HX3 := Lib.hid (box4 w (.int .u8 v) (.int .u8 k) (.slice A ns.length ca) (.slice B ts.length cb) 25).2.2.2
  go_enter Tryd.func7, Tryd.ntmps7
  go_wp2
  generalize w.alloc (.cells #[.int .u8 v, .int .u8 k, .slice A ns.length ca, .slice B ts.length cb] 25) = Y at HA0 HX3 ⊢
  have x3 := HX3.out
  go_loop [3, 4] (fun a i => ∃ n j : Nat, j ≤ ts.length ∧ i = .int .i64 j ∧ a = .int .i64 n ∧ ns.length + ts.length ≤ n ∧ n ≤ 562949953421312) (fun _ i => ts.length - (intOf i).toNat)
  case atStart => exact ⟨ns.length + ts.length, 0, Nat.zero_le _, rfl, by go_num, Nat.le_refl _, by omega⟩
  case round =>
    obtain ⟨n, j, hj, rfl, rfl, hn1, hn2⟩ := hrel
    by_cases hlt : j < ts.length
    · by_cases h3 : n ≤ 300
      · obtain ⟨b', o', rfl, c0⟩ := (HTs.out.below HA0.out) j _ (texts_at ts j hlt)
        have hsz := mem_getD HTx.out j
        generalize ts.getD j ByteArray.empty = t at c0 hsz
        unfold maxLen at hsz
        by_cases h4 : t.size ≤ 300
        · go_wp2
          go_round
          case rel => exact ⟨n + t.size, j + 1, by omega, by go_num, by go_num, by omega, by omega⟩
          case measure => simp [intOf] <;> omega
        · have h4' : 300 < t.size := by omega
          go_wp2
          go_round
          case rel => exact ⟨n + 300, j + 1, by omega, by go_num, by go_num, by omega, by omega⟩
          case measure => simp [intOf] <;> omega
      · have h3' : 300 < n := by omega
        go_wp2
        go_ret
        exact ⟨_, rfl, (fun h => by
          show ns.length ≤ 300 ∧ ts.length ≤ 300
          simp at h <;> omega), HA0.out⟩
    · have hlt' : ts.length ≤ j := by omega
      go_wp2
      go_ret
      exact ⟨_, rfl, (fun h => by
          show ns.length ≤ 300 ∧ ts.length ≤ 300
          simp at h <;> omega), HA0.out⟩

end Go.Proofs.YtbjpkffhpdcapaaDoor.Schema
