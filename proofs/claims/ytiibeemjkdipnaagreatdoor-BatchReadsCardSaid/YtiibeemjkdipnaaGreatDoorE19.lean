import Derived.Deep.RegionHeld3
import Derived.Test.YtiibeemjkdipnaaGreatDoorE13
import Derived.Deep.RegionLawGrows
import Derived.ArgAppend
/-
  The walk of own: an event in new memory.
-/
namespace Go.Proofs.YtiibeemjkdipnaaGreatDoor.Schema
open Go Go.RowKit

/-- a slice of the call's own, or an empty one without room -/
def OwnE (w : World) (base : Nat) (E : TypeId) (v : Value) (vs : List Value) : Prop := Own w base E v vs ∨ (vs = [] ∧ ∃ g, v = .slice (some ⟨g, 0, none⟩) 0 0)
theorem OwnE.below {w w' : World} {base : Nat} {E : TypeId} {v : Value} {vs : List Value} (h : OwnE w base E v vs) (hb : Below w.heap.size w w') : OwnE w' base E v vs := h.imp (fun h => h.below hb) id
theorem OwnE.less {w : World} {base base' : Nat} {E : TypeId} {v : Value} {vs : List Value} (h : OwnE w base E v vs) (hb : base' ≤ base) : OwnE w base' E v vs := h.imp (fun h => h.less hb) id
theorem OwnE.vat {w : World} {base : Nat} {E : TypeId} {v : Value} {vs : List Value} (h : OwnE w base E v vs) : ∃ (A : Option Addr) (cap : Nat), v = .slice A vs.length cap ∧ VAt w A vs ∧ (A = none → cap = 0) ∧ vs.length ≤ cap := by
  rcases h with h | ⟨rfl, g, rfl⟩
  · obtain ⟨A, cap, h1, h2, h3, h4, _⟩ := h.vat
    exact ⟨A, cap, h1, h2, h3, h4⟩
  · exact ⟨some ⟨g, 0, none⟩, 0, rfl, VAt.nil _ _, (fun h => by cases h), Nat.le_refl _⟩
theorem below_none {w w' : World} (h : w.grownBy w' none) : Below w.heap.size w w' := ⟨h.os, h.tape, h.output, h.size, fun k hk => h.block k hk (fun e => by cases e)⟩

set_option maxRecDepth 100000 in
/-- append to an empty slice without room -/
theorem step_append_big {ops : Array Oper} {o : Oper} {a : Act} {w : World} {K : Act → World → Prop} {Q : Exit → Act → World → Prop} {X : Prop} (T E : TypeId) (z : Value) (bytes : Nat) (hT : Tryz.prog.underlying T = some (.slice E))
    (hinfo : (Tryz.prog.info? E).map (fun i => (i.zero, i.size, i.bytes)) = some (some z, 1, bytes)) (hzs : z.cells.size = 1) (hby : bytes ≤ 16) (hgd : o.guard = none) (s x : Operand)
    (ho : o.op = .call { callee := .builtin .append, args := #[s, x], argTypes := #[T, T] })
    (g : Nat) (hs : a.eval s = .slice (some ⟨g, 0, none⟩) 0 0)
    (A : Option Addr) (m cap : Nat) (ys : List Value) (hx : a.eval x = .slice A m cap) (hm : m = ys.length) (hn : VAt w A ys) (h1 : ∀ u ∈ ys, u.oneCell' = true) (hA : A = none → cap = 0)
    (hlen : ys.length * 8 ≤ 140737488351232) (hlb : ys.length * bytes ≤ 140737488351232)
    (h : ∀ v' w', OwnE w' w.heap.size E v' ys → Below w.heap.size w w' → K (a.put o.dst v') w') :
    if Region.wanted o (yielded ops a.tmps) = true then Oper.wp Tryz.prog o a w K Q else X := by
  subst hm
  obtain ⟨i0, hi, hz0, hz1, hz2⟩ := info_parts hinfo
  by_cases h0 : ys = []
  · subst h0
    have hres := h (.slice (some ⟨g, 0, none⟩) 0 0) w (Or.inr ⟨rfl, g, rfl⟩) (Below.refl _ _)
    rw [if_pos (by simp [Region.wanted, hgd])]
    have hrun : (Builtin.append_ #[T, T] o.type #[.slice (some ⟨g, 0, none⟩) 0 0, .slice A 0 cap]).run Tryz.prog w = .ok (.slice (some ⟨g, 0, none⟩) 0 0) w := by
      cases A with
      | none =>
        have hc := hA rfl
        subst hc
        simp [Builtin.append_, run_underlying hT, sizeOf, typeInfo, hi, Builtin.lenOf, Builtin.firstCells, storeCells]
      | some ad =>
        have := run_append_room_cells (P := Tryz.prog) w T o.type E i0 hT hi g 0 0 0 ad 0 cap [] (by simp) (fun j u hu => by simp at hu) (fun u hu => by simp at hu) (Nat.le_refl _) (fun j hj => by simp at hj) (fun j hj => by simp at hj)
        simpa [World.setCells] using this
    have hx' : a.eval x = .slice A 0 cap := hx
    unfold Oper.wp
    simp [execOp, ho, resolve, invoke, builtin, hs, hx', hrun, Result.andThen]
    exact hres
  · cases A with
    | none => exact absurd hn.nils h0
    | some ad =>
      refine step_append_grows hgd s x T ho E i0 z 1 bytes hT hi hz0 hz1 hz2 hzs (by decide) (some ⟨g, 0, none⟩) 0 0 [] hs (fun h => by cases h) rfl (fun b _ j u hu => by simp at hu) ad ys.length cap ys hx (by rw [Nat.mul_one]) ?_ h1 ?_ ?_ ?_ ?_
      · intro j u hj
        obtain ⟨b, o, e, hc⟩ := hn j u hj
        injection e with e; subst e
        rw [addr_add, hc]
      · have := List.length_pos_iff.2 h0; omega
      · unfold maxLen; omega
      · rw [Nat.zero_add]; omega
      · intro v' w' hown hg
        exact h v' w' (Or.inl (by unfold Own; simpa using hown)) (below_none hg)
theorem step_append_new {ops : Array Oper} {o : Oper} {a : Act} {w : World} {K : Act → World → Prop} {Q : Exit → Act → World → Prop} {X : Prop} (T E : TypeId) (z : Value) (bytes : Nat) (hT : Tryz.prog.underlying T = some (.slice E))
    (hinfo : (Tryz.prog.info? E).map (fun i => (i.zero, i.size, i.bytes)) = some (some z, 1, bytes)) (hzs : z.cells.size = 1) (hby : bytes ≤ 16) (hgd : o.guard = none) (s x : Operand)
    (ho : o.op = .call { callee := .builtin .append, args := #[s, x], argTypes := #[T, T] })
    (g : Nat) (hs : a.eval s = .slice (some ⟨g, 0, none⟩) 0 0)
    (A : Option Addr) (m cap : Nat) (ys : List Value) (hx : a.eval x = .slice A m cap) (hm : m = ys.length) (hn : VAt w A ys) (h1 : ∀ u ∈ ys, u.oneCell' = true) (hA : A = none → cap = 0)
    (hlen : ys.length ≤ 1000000)
    (h : ∀ v' w', OwnE w' w.heap.size E v' ys → Below w.heap.size w w' → K (a.put o.dst v') w') :
    if Region.wanted o (yielded ops a.tmps) = true then Oper.wp Tryz.prog o a w K Q else X :=
  step_append_big T E z bytes hT hinfo hzs hby hgd s x ho g hs A m cap ys hx hm hn h1 hA (by omega) (Nat.le_trans (Nat.mul_le_mul hlen hby) (by decide)) h

/-- a slice of the call's own in a block from base on, below top; or an empty one without room -/
def OwnB (w : World) (base top : Nat) (E : TypeId) (v : Value) (vs : List Value) : Prop := (Own w base E v vs ∧ ∀ b, v.ownBlock = some b → b < top) ∨ (vs = [] ∧ ∃ g, v = .slice (some ⟨g, 0, none⟩) 0 0)
theorem OwnB.own {w : World} {base top : Nat} {E : TypeId} {v : Value} {vs : List Value} (h : OwnB w base top E v vs) : OwnE w base E v vs := h.imp (fun h => h.1) id
/-- an own slice's block lies below top, if it has anything -/
def UnderE (v : Value) (vs : List Value) (top : Nat) : Prop := (∀ b, v.ownBlock = some b → b < top) ∨ (vs = [] ∧ ∃ g, v = .slice (some ⟨g, 0, none⟩) 0 0)
theorem OwnE.under {w : World} {base : Nat} {E : TypeId} {v : Value} {vs : List Value} (h : OwnE w base E v vs) : UnderE v vs w.heap.size := h.imp (fun h b hb => (World.ownsRow.lt h b hb).2) id
theorem OwnE.put {w : World} {base top : Nat} {E : TypeId} {v : Value} {vs : List Value} (h : OwnE w base E v vs) (hu : UnderE v vs top) : OwnB w base top E v vs := by
  rcases h with h | h
  · rcases hu with hu | hu
    · exact Or.inl ⟨h, hu⟩
    · exact Or.inr hu
  · exact Or.inr h
/-- an event of the call's own is handed back -/
def OwnEv (w : World) (e : Ev) (z : Ending) (w' : World) : Prop := ∃ v1 v2, z = .returned (.agg #[.int .u8 e.v, .int .u8 e.k, v1, v2]) ∧ ∃ mid, w.heap.size ≤ mid ∧ mid ≤ w'.heap.size ∧ OwnB w' w.heap.size mid 2 v1 (nums e.ns) ∧ OwnB w' mid w'.heap.size 9 v2 (texts e.ts) ∧ Below w.heap.size w w'
theorem nums_cell (xs : List Int) : ∀ u ∈ nums xs, u.oneCell' = true := fun u hu => by obtain ⟨z, _, rfl⟩ := List.mem_map.1 hu; rfl
theorem texts_cell (xs : List ByteArray) : ∀ u ∈ texts xs, u.oneCell' = true := fun u hu => by obtain ⟨z, _, rfl⟩ := List.mem_map.1 hu; rfl
theorem nums_len (xs : List Int) : (nums xs).length = xs.length := List.length_map _
theorem texts_len (xs : List ByteArray) : (texts xs).length = xs.length := List.length_map _
/-- what a cell holds, if it is there -/
def at0 (w : World) (b o : Nat) : Value := (w.cell? ⟨b, o, none⟩).getD undef
theorem at0_of {w : World} {b o : Nat} {v : Value} (h : w.cell? ⟨b, o, none⟩ = some v) : w.cell? ⟨b, o, none⟩ = some (at0 w b o) := by unfold at0; rw [h]; rfl
theorem OwnE.set {w : World} {base : Nat} {E : TypeId} {v : Value} {vs : List Value} (h : OwnE w base E v vs) {b o : Nat} (hb : b < base) (x : Value) : OwnE (w.setCell ⟨b, o, none⟩ x) base E v vs :=
  h.imp (fun h => ownsRow_setCell_below h hb x) id
theorem hb_of {Y W : World} {n : Nat} {P : Prop} (h : (Below n Y W ∧ Y.heap.size ≤ W.heap.size) ∧ P) : Below n Y W ∧ Y.heap.size ≤ W.heap.size := h.1
/-- four cells that may be written -/
def Four (w : World) (b : Nat) (a0 a1 a2 a3 : Value) : Prop := w.cell? ⟨b, 0, none⟩ = some a0 ∧ w.cell? ⟨b, 1, none⟩ = some a1 ∧ w.cell? ⟨b, 2, none⟩ = some a2 ∧ w.cell? ⟨b, 3, none⟩ = some a3
theorem Four.below {w w' : World} {b : Nat} {a0 a1 a2 a3 : Value} (h : Four w b a0 a1 a2 a3) (hb : Below w.heap.size w w') : Four w' b a0 a1 a2 a3 := ⟨cell_kept h.1 hb, cell_kept h.2.1 hb, cell_kept h.2.2.1 hb, cell_kept h.2.2.2 hb⟩
def Free (w : World) (b : Nat) : Prop := b < w.heap.size ∧ ∀ o, w.frozen? ⟨b, o, none⟩ = false
theorem Free.below {w w' : World} {b : Nat} (h : Free w b) (hb : Below w.heap.size w w') : Free w' b := ⟨Nat.lt_of_lt_of_le h.1 hb.size, fun o => (World.frozen?_of_block (hb.block _ h.1)).trans (h.2 o)⟩
theorem free_new (w : World) (cs : Array Value) (T : TypeId) : Free (w.alloc (.cells cs T)) w.heap.size := ⟨by simp, fun o => by
  unfold World.frozen?
  rw [show (w.alloc _).heap[(⟨w.heap.size, o, none⟩ : Addr).block]? = _ from (MapKept.heap_alloc w _).1]
  simp⟩

end Go.Proofs.YtiibeemjkdipnaaGreatDoor.Schema

/-
  What turns between two blocks; events of the call's own, and of the same shape; one value more.
-/
namespace Go.Proofs.YtiibeemjkdipnaaGreatDoor.Schema
open Go Go.RowKit

/-- nothing turns but blocks from lo to hi -/
structure Touch (lo hi : Nat) (w w' : World) : Prop where
  os : w'.os = w.os
  tape : w'.tape = w.tape
  output : w'.output = w.output
  size : w.heap.size ≤ w'.heap.size
  block : ∀ k, k < w.heap.size → (k < lo ∨ hi ≤ k) → w'.heap[k]? = w.heap[k]?
theorem touch_of {w w' : World} (h : Below w.heap.size w w') (lo hi : Nat) : Touch lo hi w w' := ⟨h.os, h.tape, h.output, h.size, fun k hk _ => h.block k hk⟩
theorem Touch.trans {lo hi : Nat} {a b c : World} (h : Touch lo hi a b) (g : Touch lo hi b c) : Touch lo hi a c :=
  ⟨g.os.trans h.os, g.tape.trans h.tape, g.output.trans h.output, Nat.le_trans h.size g.size, fun k hk ho => (g.block k (Nat.lt_of_lt_of_le hk h.size) ho).trans (h.block k hk ho)⟩
theorem Touch.below {lo hi B : Nat} {w w' : World} (h : Touch lo hi w w') (hb : B ≤ lo) (hB : B ≤ w.heap.size) : Below B w w' := ⟨h.os, h.tape, h.output, h.size, fun k hk => h.block k (by omega) (Or.inl (by omega))⟩
theorem Touch.set (w : World) (b o : Nat) (x : Value) : Touch b (b + 1) w (w.setCell ⟨b, o, none⟩ x) := ⟨by rfl, by simp, by rfl, by simp, fun k _ hk => Below.heap_setCell w ⟨b, o, none⟩ x k (by show k ≠ b; omega)⟩
theorem Touch.step {lo hi : Nat} {Y w w' : World} (h : Below Y.heap.size Y w) (g : Touch lo hi w w') (hl : Y.heap.size ≤ lo) : Below Y.heap.size Y w' := h.trans (g.below hl h.size)
theorem cell_touch {lo hi : Nat} {w w' : World} {b o : Nat} {v : Value} (h : w.cell? ⟨b, o, none⟩ = some v) (g : Touch lo hi w w') (ho : b < lo ∨ hi ≤ b) : w'.cell? ⟨b, o, none⟩ = some v :=
  (World.cell?_of_block (g.block _ (cell_lt h) ho)).trans h
theorem Four.touch {lo hi : Nat} {w w' : World} {b : Nat} {a0 a1 a2 a3 : Value} (h : Four w b a0 a1 a2 a3) (g : Touch lo hi w w') (ho : b < lo ∨ hi ≤ b) : Four w' b a0 a1 a2 a3 := ⟨cell_touch h.1 g ho, cell_touch h.2.1 g ho, cell_touch h.2.2.1 g ho, cell_touch h.2.2.2 g ho⟩
theorem Free.touch {lo hi : Nat} {w w' : World} {b : Nat} (h : Free w b) (g : Touch lo hi w w') (ho : b < lo ∨ hi ≤ b) : Free w' b := ⟨Nat.lt_of_lt_of_le h.1 g.size, fun o => (World.frozen?_of_block (g.block _ h.1 ho)).trans (h.2 o)⟩
theorem Free.set {w : World} {b : Nat} (h : Free w b) (c o : Nat) (x : Value) : Free (w.setCell ⟨c, o, none⟩ x) b := ⟨by simpa using h.1, fun j => by simpa using h.2 j⟩
theorem Own.touch {lo hi : Nat} {w w' : World} {base top : Nat} {E : TypeId} {v : Value} {vs : List Value} (h : Own w base E v vs) (hu : ∀ b, v.ownBlock = some b → b < top) (g : Touch lo hi w w') (ho : hi ≤ base ∨ top ≤ lo) : Own w' base E v vs := by
  obtain ⟨h1, h2⟩ := h
  rcases h2 with h2 | ⟨b, cap, cur, rfl, hb, hg, r⟩
  · exact ⟨h1, Or.inl h2⟩
  · have hbt : b < top := hu b rfl
    have hbw : b < w.heap.size := (Array.getElem?_eq_some_iff.1 hg).1
    exact ⟨h1, Or.inr ⟨b, cap, cur, rfl, hb, (g.block b hbw (by omega)).trans hg, r⟩⟩
/-- an own slice stays, where its block is not touched -/
theorem OwnB.touch {lo hi : Nat} {w w' : World} {base top : Nat} {E : TypeId} {v : Value} {vs : List Value} (h : OwnB w base top E v vs) (g : Touch lo hi w w') (ho : hi ≤ base ∨ top ≤ lo) : OwnB w' base top E v vs :=
  h.imp (fun h => ⟨h.1.touch h.2 g ho, h.2⟩) id
theorem OwnB.below {w w' : World} {base top : Nat} {E : TypeId} {v : Value} {vs : List Value} (h : OwnB w base top E v vs) (hb : Below w.heap.size w w') : OwnB w' base top E v vs := h.imp (fun h => ⟨h.1.below hb, h.2⟩) id

/-- a block of an event -/
def Box (w : World) (b : Nat) : Prop := ∃ c f, w.heap[b]? = some (.cells c 39 f)
theorem box_new (w : World) (cs : Array Value) : Box (w.alloc (.cells cs 39)) w.heap.size := ⟨cs, (0, 0), (MapKept.heap_alloc w _).1⟩
theorem Box.below {w w' : World} {b : Nat} (h : Box w b) (hb : Below w.heap.size w w') : Box w' b := by
  obtain ⟨c, f, h⟩ := h
  exact ⟨c, f, (hb.block b (Array.getElem?_eq_some_iff.1 h).1).trans h⟩
theorem Box.touch {lo hi : Nat} {w w' : World} {b : Nat} (h : Box w b) (g : Touch lo hi w w') (ho : b < lo ∨ hi ≤ b) : Box w' b := by
  obtain ⟨c, f, h⟩ := h
  exact ⟨c, f, (g.block b (Array.getElem?_eq_some_iff.1 h).1 ho).trans h⟩
/-- a slice's block is no event's -/
theorem OwnB.box {w : World} {base top : Nat} {E : TypeId} {v : Value} {vs : List Value} (h : OwnB w base top E v vs) {b : Nat} (hx : Box w b) (hE : ¬ E = 39) (o : Nat) (x : Value) : OwnB (w.setCell ⟨b, o, none⟩ x) base top E v vs := by
  rcases h with ⟨⟨h1, h2⟩, h3⟩ | h
  · refine Or.inl ⟨⟨h1, ?_⟩, h3⟩
    rcases h2 with h2 | ⟨g, cap, cur, rfl, hb, hg, r⟩
    · exact Or.inl h2
    · have hne : g ≠ b := by
        intro e
        subst e
        obtain ⟨c, f, hc⟩ := hx
        rw [hg] at hc
        injection hc with hc
        injection hc with _ hc
        exact hE hc
      exact Or.inr ⟨g, cap, cur, rfl, hb, (Below.heap_setCell w ⟨b, o, none⟩ x g hne).trans hg, r⟩
  · exact Or.inr h

/-- an event of the call's own, as it reads -/
def OwnX (w : World) (e : Ev) (z : Ending) (w' : World) : Prop := ∃ A1 c1 B1 c2 mid, z = .returned (evV A1 c1 B1 c2 e) ∧ w.heap.size ≤ mid ∧ mid ≤ w'.heap.size ∧ OwnB w' w.heap.size mid 2 (.slice A1 e.ns.length c1) (nums e.ns) ∧ OwnB w' mid w'.heap.size 9 (.slice B1 e.ts.length c2) (texts e.ts) ∧ Below w.heap.size w w'
/-- what an event of the call's own reads as -/
theorem ev_of {w : World} {b1 t1 b2 t2 : Nat} {A1 : Option Addr} {c1 : Nat} {B1 : Option Addr} {c2 : Nat} {e : Ev} (hv : e.v < 256) (hk : e.k < 256) (hf : Fits64 e.ns) (ht : ∀ t ∈ e.ts, t.size ≤ maxLen)
    (h1 : OwnB w b1 t1 2 (.slice A1 e.ns.length c1) (nums e.ns)) (h2 : OwnB w b2 t2 9 (.slice B1 e.ts.length c2) (texts e.ts)) : EvAt w A1 c1 B1 c2 e := by
  obtain ⟨A, c, q1, q2, q3, q4⟩ := h1.own.vat
  obtain ⟨A', c', q1', q2', q3', q4'⟩ := h2.own.vat
  injection q1 with i1 i2 i3
  injection q1' with j1 j2 j3
  subst i1 i3 j1 j3
  exact ⟨hv, hk, hf, ht, q2, q2', q3, q3', by rw [nums_len] at q4; exact q4, by rw [texts_len] at q4'; exact q4'⟩

set_option maxRecDepth 100000 in
/-- one value more -/
theorem wpList_append_one {ops : Array Oper} {rest : List Oper} {o : Oper} {a : Act} {w : World} {Q : Exit → Act → World → Prop} (T E : TypeId) (z : Value) (bytes : Nat) (hT : Tryz.prog.underlying T = some (.slice E))
    (hinfo : (Tryz.prog.info? E).map (fun i => (i.zero, i.size, i.bytes)) = some (some z, 1, bytes)) (hzs : z.cells.size = 1) (hby : bytes ≤ 16) (hgd : o.guard = none) (s x : Operand)
    (ho : o.op = .call { callee := .builtin .append, args := #[s, x], argTypes := #[T, T] })
    (base top : Nat) (v : Value) (xs : List Value) (hs : a.eval s = v) (hown : OwnB w base top E v xs)
    (A : Option Addr) (cap : Nat) (u : Value) (hx : a.eval x = .slice A 1 cap) (hn : VAt w A [u]) (h1 : u.oneCell' = true)
    (hlen : xs.length ≤ 1000) (hbase : base ≤ w.heap.size)
    (h : ∀ v' w', OwnB w' base w'.heap.size E v' (xs ++ [u]) → Touch base top w w' → wpList Tryz.prog ops Q rest (a.put o.dst v') w') : wpList Tryz.prog ops Q (o :: rest) a w := by
  have h1' : ∀ y ∈ [u], y.oneCell' = true := fun y hy => by rw [List.mem_singleton.1 hy]; exact h1
  have hA : A = none → cap = 0 := fun e => by subst e; obtain ⟨b, o, e, _⟩ := hn 0 u rfl; cases e
  rcases hown with ⟨hown, hu⟩ | ⟨rfl, g, rfl⟩
  · refine wpList_append_vals T E z bytes hT hinfo hzs hby hgd s x ho base v xs hs hown A 1 cap [u] hx rfl hn h1' hA (by simp; omega) hbase ?_
    intro v' w' hO hg
    exact h v' w' (Or.inl ⟨hO, fun b hb => (World.ownsRow.lt hO b hb).2⟩) ⟨hg.os, hg.tape, hg.output, hg.size, fun k hk ho => hg.block k hk (fun e => by
      have h3 := World.ownsRow.lt hown k e.symm
      have h4 := hu k e.symm
      omega)⟩
  · obtain ⟨i0, hi, hz0, hz1, hz2⟩ := info_parts hinfo
    obtain ⟨b, o', rfl, hc⟩ := hn 0 u rfl
    refine wpList_append_grows w hgd s x T ho E i0 z 1 bytes hT hi hz0 hz1 hz2 hzs (by decide) (some ⟨g, 0, none⟩) 0 0 [] hs (fun h => by cases h) rfl (fun b _ j u hu => by simp at hu) ⟨b, o', none⟩ 1 cap [u] hx rfl ?_ h1' (by omega) (by unfold maxLen; omega) (by omega) ?_
    · intro j y hj
      obtain ⟨b'', o'', e, hc'⟩ := hn j y hj
      injection e with e; injection e with e1 e2; subst e1; subst e2
      rw [addr_add]; exact hc'
    · intro v' w' hO hg
      have hO' : Own w' w.heap.size E v' ([] ++ [u]) := by unfold Own; simpa using hO
      exact h v' w' (Or.inl ⟨hO'.less hbase, fun b hb => (World.ownsRow.lt hO' b hb).2⟩) (touch_of (below_none hg) _ _)

end Go.Proofs.YtiibeemjkdipnaaGreatDoor.Schema

namespace Go.Proofs.YtiibeemjkdipnaaGreatDoor.Schema
open Go Go.RowKit
/-- long: if it says no, there are few numbers, and texts -/
def LongRes (w : World) (e : Ev) (z : Ending) (w' : World) : Prop := ∃ b : Bool, z = .returned (.bool b) ∧ (b = false → e.ns.length ≤ 300 ∧ e.ts.length ≤ 300) ∧ Below w.heap.size w w'

end Go.Proofs.YtiibeemjkdipnaaGreatDoor.Schema
