/-
  The walk of own: an event in new memory.
-/
import Derived.Test.YtefkfjbdmglkjaaDoorE13
import Derived.Deep.RegionLawGrows
import Derived.ArgAppend
namespace Go.Proofs.YtefkfjbdmglkjaaDoor.Schema
open Go Go.RowKit

/-- a slice of the call's own, or an empty one without room -/
def OwnE (w : World) (base : Nat) (E : TypeId) (v : Value) (vs : List Value) : Prop := Own w base E v vs ∨ (vs = [] ∧ ∃ g, v = .slice (some ⟨g, 0, none⟩) 0 0)
theorem OwnE.below {w w' : World} {base : Nat} {E : TypeId} {v : Value} {vs : List Value} (h : OwnE w base E v vs) (hb : Below w.heap.size w w') : OwnE w' base E v vs := h.imp (fun h => h.below hb) id
theorem OwnE.less {w : World} {base base' : Nat} {E : TypeId} {v : Value} {vs : List Value} (h : OwnE w base E v vs) (hb : base' ≤ base) : OwnE w base' E v vs := h.imp (fun h => h.less hb) id
theorem OwnE.vat {w : World} {base : Nat} {E : TypeId} {v : Value} {vs : List Value} (h : OwnE w base E v vs) : ∃ (A : Option Addr) (cap : Nat), v = .slice A vs.length cap ∧ VAt w A vs ∧ (A = none → cap = 0) ∧ vs.length ≤ cap := by
  rcases h with h | ⟨rfl, g, rfl⟩
  · obtain ⟨A, cap, h1, h2, h3, h4, _⟩ := h.vat
    exact ⟨A, cap, h1, h2, h3, h4⟩
  · exact ⟨some ⟨g, 0, none⟩, 0, rfl, VAt.nil _ _, (fun h => by cases h), Nat.le_refl _⟩
theorem below_none {w w' : World} (h : w.grownBy w' none) : Below w.heap.size w w' := ⟨h.os, h.tape, h.output, h.size, fun k hk => h.block k hk (fun e => by cases e)⟩

set_option maxRecDepth 100000 in
/-- append to an empty slice without room -/
theorem step_append_new {ops : Array Oper} {o : Oper} {a : Act} {w : World} {K : Act → World → Prop} {Q : Exit → Act → World → Prop} {X : Prop} (T E : TypeId) (z : Value) (bytes : Nat) (hT : Tryd.prog.underlying T = some (.slice E))
    (hinfo : (Tryd.prog.info? E).map (fun i => (i.zero, i.size, i.bytes)) = some (some z, 1, bytes)) (hzs : z.cells.size = 1) (hby : bytes ≤ 16) (hgd : o.guard = none) (s x : Operand)
    (ho : o.op = .call { callee := .builtin .append, args := #[s, x], argTypes := #[T, T] })
    (g : Nat) (hs : a.eval s = .slice (some ⟨g, 0, none⟩) 0 0)
    (A : Option Addr) (m cap : Nat) (ys : List Value) (hx : a.eval x = .slice A m cap) (hm : m = ys.length) (hn : VAt w A ys) (h1 : ∀ u ∈ ys, u.oneCell' = true) (hA : A = none → cap = 0)
    (hlen : ys.length ≤ 1000000)
    (h : ∀ v' w', OwnE w' w.heap.size E v' ys → Below w.heap.size w w' → K (a.put o.dst v') w') :
    if Region.wanted o (yielded ops a.tmps) = true then Oper.wp Tryd.prog o a w K Q else X := by
  subst hm
  obtain ⟨i0, hi, hz0, hz1, hz2⟩ := info_parts hinfo
  by_cases h0 : ys = []
  · subst h0
    have hres := h (.slice (some ⟨g, 0, none⟩) 0 0) w (Or.inr ⟨rfl, g, rfl⟩) (Below.refl _ _)
    rw [if_pos (by simp [Region.wanted, hgd])]
    have hrun : (Builtin.append_ #[T, T] o.type #[.slice (some ⟨g, 0, none⟩) 0 0, .slice A 0 cap]).run Tryd.prog w = .ok (.slice (some ⟨g, 0, none⟩) 0 0) w := by
      cases A with
      | none =>
        have hc := hA rfl
        subst hc
        simp [Builtin.append_, run_underlying hT, sizeOf, typeInfo, hi, Builtin.lenOf, Builtin.firstCells, storeCells]
      | some ad =>
        have := run_append_room_cells (P := Tryd.prog) w T o.type E i0 hT hi g 0 0 0 ad 0 cap [] (by simp) (fun j u hu => by simp at hu) (fun u hu => by simp at hu) (Nat.le_refl _) (fun j hj => by simp at hj) (fun j hj => by simp at hj)
        simpa [World.setCells] using this
    have hx' : a.eval x = .slice A 0 cap := hx
    unfold Oper.wp
    simp [execOp, ho, resolve, invoke, builtin, hs, hx', hrun, Result.andThen]
    exact hres
  · cases A with
    | none => exact absurd hn.nils h0
    | some ad =>
      refine step_append_grows hgd s x T ho E i0 z 1 bytes hT hi hz0 hz1 hz2 hzs (by decide) (some ⟨g, 0, none⟩) 0 0 [] hs (fun h => by cases h) rfl (fun b _ j u hu => by simp at hu) ad ys.length cap ys hx (by rw [Nat.mul_one]) ?_ h1 ?_ ?_ ?_ ?_
      · intro j u hj
        obtain ⟨b, o, e, hc⟩ := hn j u hj
        injection e with e; subst e
        rw [addr_add, hc]
      · have := List.length_pos_iff.2 h0; omega
      · unfold maxLen; omega
      · exact Nat.le_trans (Nat.mul_le_mul (show 0 + ys.length ≤ 1000000 by omega) hby) (by decide)
      · intro v' w' hown hg
        exact h v' w' (Or.inl (by unfold Own; simpa using hown)) (below_none hg)

/-- a slice of the call's own in a block from base on, below top; or an empty one without room -/
def OwnB (w : World) (base top : Nat) (E : TypeId) (v : Value) (vs : List Value) : Prop := (Own w base E v vs ∧ ∀ b, v.ownBlock = some b → b < top) ∨ (vs = [] ∧ ∃ g, v = .slice (some ⟨g, 0, none⟩) 0 0)
theorem OwnB.own {w : World} {base top : Nat} {E : TypeId} {v : Value} {vs : List Value} (h : OwnB w base top E v vs) : OwnE w base E v vs := h.imp (fun h => h.1) id
/-- an own slice's block lies below top, if it has anything -/
def UnderE (v : Value) (vs : List Value) (top : Nat) : Prop := (∀ b, v.ownBlock = some b → b < top) ∨ (vs = [] ∧ ∃ g, v = .slice (some ⟨g, 0, none⟩) 0 0)
theorem OwnE.under {w : World} {base : Nat} {E : TypeId} {v : Value} {vs : List Value} (h : OwnE w base E v vs) : UnderE v vs w.heap.size := h.imp (fun h b hb => (World.ownsRow.lt h b hb).2) id
theorem OwnE.put {w : World} {base top : Nat} {E : TypeId} {v : Value} {vs : List Value} (h : OwnE w base E v vs) (hu : UnderE v vs top) : OwnB w base top E v vs := by
  rcases h with h | h
  · rcases hu with hu | hu
    · exact Or.inl ⟨h, hu⟩
    · exact Or.inr hu
  · exact Or.inr h
/-- an event of the call's own is handed back -/
def OwnEv (w : World) (e : Ev) (z : Ending) (w' : World) : Prop := ∃ v1 v2, z = .returned (.agg #[.int .u8 e.v, .int .u8 e.k, v1, v2]) ∧ ∃ mid, w.heap.size ≤ mid ∧ mid ≤ w'.heap.size ∧ OwnB w' w.heap.size mid 2 v1 (nums e.ns) ∧ OwnB w' mid w'.heap.size 9 v2 (texts e.ts) ∧ Below w.heap.size w w'
theorem nums_cell (xs : List Int) : ∀ u ∈ nums xs, u.oneCell' = true := fun u hu => by obtain ⟨z, _, rfl⟩ := List.mem_map.1 hu; rfl
theorem texts_cell (xs : List ByteArray) : ∀ u ∈ texts xs, u.oneCell' = true := fun u hu => by obtain ⟨z, _, rfl⟩ := List.mem_map.1 hu; rfl
theorem nums_len (xs : List Int) : (nums xs).length = xs.length := List.length_map _
theorem texts_len (xs : List ByteArray) : (texts xs).length = xs.length := List.length_map _
/-- what a cell holds, if it is there -/
def at0 (w : World) (b o : Nat) : Value := (w.cell? ⟨b, o, none⟩).getD undef
theorem at0_of {w : World} {b o : Nat} {v : Value} (h : w.cell? ⟨b, o, none⟩ = some v) : w.cell? ⟨b, o, none⟩ = some (at0 w b o) := by unfold at0; rw [h]; rfl
theorem OwnE.set {w : World} {base : Nat} {E : TypeId} {v : Value} {vs : List Value} (h : OwnE w base E v vs) {b o : Nat} (hb : b < base) (x : Value) : OwnE (w.setCell ⟨b, o, none⟩ x) base E v vs :=
  h.imp (fun h => ownsRow_setCell_below h hb x) id
theorem hb_of {Y W : World} {n : Nat} {P : Prop} (h : (Below n Y W ∧ Y.heap.size ≤ W.heap.size) ∧ P) : Below n Y W ∧ Y.heap.size ≤ W.heap.size := h.1
/-- four cells that may be written -/
def Four (w : World) (b : Nat) (a0 a1 a2 a3 : Value) : Prop := w.cell? ⟨b, 0, none⟩ = some a0 ∧ w.cell? ⟨b, 1, none⟩ = some a1 ∧ w.cell? ⟨b, 2, none⟩ = some a2 ∧ w.cell? ⟨b, 3, none⟩ = some a3
theorem Four.below {w w' : World} {b : Nat} {a0 a1 a2 a3 : Value} (h : Four w b a0 a1 a2 a3) (hb : Below w.heap.size w w') : Four w' b a0 a1 a2 a3 := ⟨cell_kept h.1 hb, cell_kept h.2.1 hb, cell_kept h.2.2.1 hb, cell_kept h.2.2.2 hb⟩
def Free (w : World) (b : Nat) : Prop := b < w.heap.size ∧ ∀ o, w.frozen? ⟨b, o, none⟩ = false
theorem Free.below {w w' : World} {b : Nat} (h : Free w b) (hb : Below w.heap.size w w') : Free w' b := ⟨Nat.lt_of_lt_of_le h.1 hb.size, fun o => (World.frozen?_of_block (hb.block _ h.1)).trans (h.2 o)⟩
theorem free_new (w : World) (cs : Array Value) (T : TypeId) : Free (w.alloc (.cells cs T)) w.heap.size := ⟨by simp, fun o => by
  unfold World.frozen?
  rw [show (w.alloc _).heap[(⟨w.heap.size, o, none⟩ : Addr).block]? = _ from (MapKept.heap_alloc w _).1]
  simp⟩

end Go.Proofs.YtefkfjbdmglkjaaDoor.Schema
