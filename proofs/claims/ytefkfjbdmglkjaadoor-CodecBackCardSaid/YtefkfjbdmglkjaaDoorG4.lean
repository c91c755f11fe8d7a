/-
  What is read of an event, in memory, and what stays beside it.
-/
import Derived.Test.YtefkfjbdmglkjaaDoorG3
import Derived.Deep.RegionHeld3
import Derived.Deep.DeepCutAuto
import Derived.Laws.EntriesVeiled
namespace Go.Proofs.YtefkfjbdmglkjaaDoor.Codec
open Go Go.RowKit
open Go.Proofs.YtefkfjbdmglkjaaDoor.Wire (Wr Only Rd Step U cell_row rdS)
open Go.Proofs.YtefkfjbdmglkjaaDoor.Schema

/-- six cells -/
def Six (w : World) (b : Nat) (a0 a1 a2 a3 a4 a5 : Value) : Prop := w.cell? ⟨b, 0, none⟩ = some a0 ∧ w.cell? ⟨b, 1, none⟩ = some a1 ∧ w.cell? ⟨b, 2, none⟩ = some a2 ∧ w.cell? ⟨b, 3, none⟩ = some a3 ∧ w.cell? ⟨b, 4, none⟩ = some a4 ∧ w.cell? ⟨b, 5, none⟩ = some a5
theorem Six.below {w w' : World} {b : Nat} {a0 a1 a2 a3 a4 a5 : Value} (h : Six w b a0 a1 a2 a3 a4 a5) (hb : Below w.heap.size w w') : Six w' b a0 a1 a2 a3 a4 a5 := ⟨cell_kept h.1 hb, cell_kept h.2.1 hb, cell_kept h.2.2.1 hb, cell_kept h.2.2.2.1 hb, cell_kept h.2.2.2.2.1 hb, cell_kept h.2.2.2.2.2 hb⟩
theorem Six.touch {lo hi : Nat} {w w' : World} {b : Nat} {a0 a1 a2 a3 a4 a5 : Value} (h : Six w b a0 a1 a2 a3 a4 a5) (g : Schema.Touch lo hi w w') (ho : b < lo ∨ hi ≤ b) : Six w' b a0 a1 a2 a3 a4 a5 := ⟨cell_touch h.1 g ho, cell_touch h.2.1 g ho, cell_touch h.2.2.1 g ho, cell_touch h.2.2.2.1 g ho, cell_touch h.2.2.2.2.1 g ho, cell_touch h.2.2.2.2.2 g ho⟩
theorem Six.set0 {w : World} {b : Nat} {a0 a1 a2 a3 a4 a5 : Value} (h : Six w b a0 a1 a2 a3 a4 a5) (x : Value) : Six (w.setCell ⟨b, 0, none⟩ x) b x a1 a2 a3 a4 a5 :=
  ⟨World.cell?_setCell_same _ _ _ h.1, (World.cell?_setCell_other _ _ _ _ (by simp)).trans h.2.1, (World.cell?_setCell_other _ _ _ _ (by simp)).trans h.2.2.1, (World.cell?_setCell_other _ _ _ _ (by simp)).trans h.2.2.2.1, (World.cell?_setCell_other _ _ _ _ (by simp)).trans h.2.2.2.2.1, (World.cell?_setCell_other _ _ _ _ (by simp)).trans h.2.2.2.2.2⟩
theorem Six.set1 {w : World} {b : Nat} {a0 a1 a2 a3 a4 a5 : Value} (h : Six w b a0 a1 a2 a3 a4 a5) (x : Value) : Six (w.setCell ⟨b, 1, none⟩ x) b a0 x a2 a3 a4 a5 :=
  ⟨(World.cell?_setCell_other _ _ _ _ (by simp)).trans h.1, World.cell?_setCell_same _ _ _ h.2.1, (World.cell?_setCell_other _ _ _ _ (by simp)).trans h.2.2.1, (World.cell?_setCell_other _ _ _ _ (by simp)).trans h.2.2.2.1, (World.cell?_setCell_other _ _ _ _ (by simp)).trans h.2.2.2.2.1, (World.cell?_setCell_other _ _ _ _ (by simp)).trans h.2.2.2.2.2⟩
theorem Six.set2 {w : World} {b : Nat} {a0 a1 a2 a3 a4 a5 : Value} (h : Six w b a0 a1 a2 a3 a4 a5) (x : Value) : Six (w.setCell ⟨b, 2, none⟩ x) b a0 a1 x a3 a4 a5 :=
  ⟨(World.cell?_setCell_other _ _ _ _ (by simp)).trans h.1, (World.cell?_setCell_other _ _ _ _ (by simp)).trans h.2.1, World.cell?_setCell_same _ _ _ h.2.2.1, (World.cell?_setCell_other _ _ _ _ (by simp)).trans h.2.2.2.1, (World.cell?_setCell_other _ _ _ _ (by simp)).trans h.2.2.2.2.1, (World.cell?_setCell_other _ _ _ _ (by simp)).trans h.2.2.2.2.2⟩
theorem Six.set3 {w : World} {b : Nat} {a0 a1 a2 a3 a4 a5 : Value} (h : Six w b a0 a1 a2 a3 a4 a5) (x : Value) : Six (w.setCell ⟨b, 3, none⟩ x) b a0 a1 a2 x a4 a5 :=
  ⟨(World.cell?_setCell_other _ _ _ _ (by simp)).trans h.1, (World.cell?_setCell_other _ _ _ _ (by simp)).trans h.2.1, (World.cell?_setCell_other _ _ _ _ (by simp)).trans h.2.2.1, World.cell?_setCell_same _ _ _ h.2.2.2.1, (World.cell?_setCell_other _ _ _ _ (by simp)).trans h.2.2.2.2.1, (World.cell?_setCell_other _ _ _ _ (by simp)).trans h.2.2.2.2.2⟩
theorem Six.set4 {w : World} {b : Nat} {a0 a1 a2 a3 a4 a5 : Value} (h : Six w b a0 a1 a2 a3 a4 a5) (x : Value) : Six (w.setCell ⟨b, 4, none⟩ x) b a0 a1 a2 a3 x a5 :=
  ⟨(World.cell?_setCell_other _ _ _ _ (by simp)).trans h.1, (World.cell?_setCell_other _ _ _ _ (by simp)).trans h.2.1, (World.cell?_setCell_other _ _ _ _ (by simp)).trans h.2.2.1, (World.cell?_setCell_other _ _ _ _ (by simp)).trans h.2.2.2.1, World.cell?_setCell_same _ _ _ h.2.2.2.2.1, (World.cell?_setCell_other _ _ _ _ (by simp)).trans h.2.2.2.2.2⟩
theorem Six.set5 {w : World} {b : Nat} {a0 a1 a2 a3 a4 a5 : Value} (h : Six w b a0 a1 a2 a3 a4 a5) (x : Value) : Six (w.setCell ⟨b, 5, none⟩ x) b a0 a1 a2 a3 a4 x :=
  ⟨(World.cell?_setCell_other _ _ _ _ (by simp)).trans h.1, (World.cell?_setCell_other _ _ _ _ (by simp)).trans h.2.1, (World.cell?_setCell_other _ _ _ _ (by simp)).trans h.2.2.1, (World.cell?_setCell_other _ _ _ _ (by simp)).trans h.2.2.2.1, (World.cell?_setCell_other _ _ _ _ (by simp)).trans h.2.2.2.2.1, World.cell?_setCell_same _ _ _ h.2.2.2.2.2⟩
theorem Six.of {w : World} {b : Nat} {a0 a1 a2 a3 a4 a5 : Value} {T : TypeId} {fr : Nat × Nat} (h : w.heap[b]? = some (.cells #[a0, a1, a2, a3, a4, a5] T fr)) : Six w b a0 a1 a2 a3 a4 a5 := ⟨cell_row h 0, cell_row h 1, cell_row h 2, cell_row h 3, cell_row h 4, cell_row h 5⟩
theorem _root_.Go.Proofs.YtefkfjbdmglkjaaDoor.Schema.Four.set0 {w : World} {b : Nat} {a0 a1 a2 a3 : Value} (h : Four w b a0 a1 a2 a3) (x : Value) : Four (w.setCell ⟨b, 0, none⟩ x) b x a1 a2 a3 :=
  ⟨World.cell?_setCell_same _ _ _ h.1, (World.cell?_setCell_other _ _ _ _ (by simp)).trans h.2.1, (World.cell?_setCell_other _ _ _ _ (by simp)).trans h.2.2.1, (World.cell?_setCell_other _ _ _ _ (by simp)).trans h.2.2.2⟩
theorem _root_.Go.Proofs.YtefkfjbdmglkjaaDoor.Schema.Four.set1 {w : World} {b : Nat} {a0 a1 a2 a3 : Value} (h : Four w b a0 a1 a2 a3) (x : Value) : Four (w.setCell ⟨b, 1, none⟩ x) b a0 x a2 a3 :=
  ⟨(World.cell?_setCell_other _ _ _ _ (by simp)).trans h.1, World.cell?_setCell_same _ _ _ h.2.1, (World.cell?_setCell_other _ _ _ _ (by simp)).trans h.2.2.1, (World.cell?_setCell_other _ _ _ _ (by simp)).trans h.2.2.2⟩
theorem _root_.Go.Proofs.YtefkfjbdmglkjaaDoor.Schema.Four.set2 {w : World} {b : Nat} {a0 a1 a2 a3 : Value} (h : Four w b a0 a1 a2 a3) (x : Value) : Four (w.setCell ⟨b, 2, none⟩ x) b a0 a1 x a3 :=
  ⟨(World.cell?_setCell_other _ _ _ _ (by simp)).trans h.1, (World.cell?_setCell_other _ _ _ _ (by simp)).trans h.2.1, World.cell?_setCell_same _ _ _ h.2.2.1, (World.cell?_setCell_other _ _ _ _ (by simp)).trans h.2.2.2⟩
theorem _root_.Go.Proofs.YtefkfjbdmglkjaaDoor.Schema.Four.set3 {w : World} {b : Nat} {a0 a1 a2 a3 : Value} (h : Four w b a0 a1 a2 a3) (x : Value) : Four (w.setCell ⟨b, 3, none⟩ x) b a0 a1 a2 x :=
  ⟨(World.cell?_setCell_other _ _ _ _ (by simp)).trans h.1, (World.cell?_setCell_other _ _ _ _ (by simp)).trans h.2.1, (World.cell?_setCell_other _ _ _ _ (by simp)).trans h.2.2.1, World.cell?_setCell_same _ _ _ h.2.2.2⟩
/-- one cell -/
def One (w : World) (b : Nat) (a : Value) : Prop := w.cell? ⟨b, 0, none⟩ = some a
theorem One.below {w w' : World} {b : Nat} {a : Value} (h : One w b a) (hb : Below w.heap.size w w') : One w' b a := cell_kept h hb
theorem One.touch {lo hi : Nat} {w w' : World} {b : Nat} {a : Value} (h : One w b a) (g : Schema.Touch lo hi w w') (ho : b < lo ∨ hi ≤ b) : One w' b a := cell_touch h g ho
theorem One.set {w : World} {b : Nat} {a : Value} (h : One w b a) (x : Value) : One (w.setCell ⟨b, 0, none⟩ x) b x := World.cell?_setCell_same _ _ _ h
theorem one_new (w : World) (a : Value) (T : TypeId) : One (w.alloc (.cells #[a] T)) w.heap.size a := by
  unfold One World.cell?
  rw [show (w.alloc _).heap[(⟨w.heap.size, 0, none⟩ : Addr).block]? = _ from (MapKept.heap_alloc w _).1]
  rfl
/-- two cells -/
def Two (w : World) (b : Nat) (a0 a1 : Value) : Prop := w.cell? ⟨b, 0, none⟩ = some a0 ∧ w.cell? ⟨b, 1, none⟩ = some a1
theorem Two.below {w w' : World} {b : Nat} {a0 a1 : Value} (h : Two w b a0 a1) (hb : Below w.heap.size w w') : Two w' b a0 a1 := ⟨cell_kept h.1 hb, cell_kept h.2 hb⟩
theorem Two.touch {lo hi : Nat} {w w' : World} {b : Nat} {a0 a1 : Value} (h : Two w b a0 a1) (g : Schema.Touch lo hi w w') (ho : b < lo ∨ hi ≤ b) : Two w' b a0 a1 := ⟨cell_touch h.1 g ho, cell_touch h.2 g ho⟩
theorem Two.set0 {w : World} {b : Nat} {a0 a1 : Value} (h : Two w b a0 a1) (x : Value) : Two (w.setCell ⟨b, 0, none⟩ x) b x a1 := ⟨World.cell?_setCell_same _ _ _ h.1, (World.cell?_setCell_other _ _ _ _ (by simp)).trans h.2⟩
theorem Two.set1 {w : World} {b : Nat} {a0 a1 : Value} (h : Two w b a0 a1) (x : Value) : Two (w.setCell ⟨b, 1, none⟩ x) b a0 x := ⟨(World.cell?_setCell_other _ _ _ _ (by simp)).trans h.1, World.cell?_setCell_same _ _ _ h.2⟩
theorem two_new (w : World) (a b : Value) (T : TypeId) : Two (w.alloc (.cells #[a, b] T)) w.heap.size a b := by
  have h : ∀ j, (w.alloc (.cells #[a, b] T)).cell? ⟨w.heap.size, j, none⟩ = #[a, b][j]? := fun j => by
    unfold World.cell?
    rw [show (w.alloc _).heap[(⟨w.heap.size, j, none⟩ : Addr).block]? = _ from (MapKept.heap_alloc w _).1]
    rfl
  exact ⟨h 0, h 1⟩
theorem _root_.Go.Proofs.YtefkfjbdmglkjaaDoor.Wire.Rd.below {w w' : World} {r : Nat} {s : ByteArray} {i e : Nat} (h : Rd w r s i e) (hb : Below w.heap.size w w') : Rd w' r s i e := (hb.block r (Wire.row_lt h)).trans h
theorem _root_.Go.Proofs.YtefkfjbdmglkjaaDoor.Wire.Rd.touch {lo hi : Nat} {w w' : World} {r : Nat} {s : ByteArray} {i e : Nat} (h : Rd w r s i e) (g : Schema.Touch lo hi w w') (ho : r < lo ∨ hi ≤ r) : Rd w' r s i e := (g.block r (Wire.row_lt h) ho).trans h
theorem touch_step {w w' : World} {r : Nat} {s : ByteArray} {i e : Nat} (h : Step w w' r s i e) : Schema.Touch r (r + 1) w w' := ⟨h.2.os, h.2.tape, h.2.output, h.2.size, fun k hk ho => h.2.block k hk (fun he => by injection he with he; omega)⟩
theorem _root_.Go.Proofs.YtefkfjbdmglkjaaDoor.Wire.Rd.size {w : World} {r : Nat} {s : ByteArray} {i e : Nat} (h : Rd w r s i e) : r < w.heap.size := Wire.row_lt h

/-- nothing turns but the Reader, what is being read, and what lies from rb on -/
structure Fr (r g rb : Nat) (w w' : World) : Prop where
  os : w'.os = w.os
  tape : w'.tape = w.tape
  output : w'.output = w.output
  size : w.heap.size ≤ w'.heap.size
  block : ∀ k, k < w.heap.size → k ≠ r → k ≠ g → k < rb → w'.heap[k]? = w.heap[k]?
theorem Fr.refl (r g rb : Nat) (w : World) : Fr r g rb w w := ⟨rfl, rfl, rfl, Nat.le_refl _, fun _ _ _ _ _ => rfl⟩
theorem Fr.below {r g rb : Nat} {Y w w' : World} (h : Fr r g rb Y w) (hb : Below w.heap.size w w') : Fr r g rb Y w' :=
  ⟨hb.os.trans h.os, hb.tape.trans h.tape, hb.output.trans h.output, Nat.le_trans h.size hb.size, fun k hk h1 h2 h3 => (hb.block k (Nat.lt_of_lt_of_le hk h.size)).trans (h.block k hk h1 h2 h3)⟩
theorem Fr.touch {r g rb lo hi : Nat} {Y w w' : World} (h : Fr r g rb Y w) (t : Schema.Touch lo hi w w') (ho : (lo = r ∧ hi = r + 1) ∨ (lo = g ∧ hi = g + 1) ∨ rb ≤ lo) : Fr r g rb Y w' :=
  ⟨t.os.trans h.os, t.tape.trans h.tape, t.output.trans h.output, Nat.le_trans h.size t.size, fun k hk h1 h2 h3 => (t.block k (Nat.lt_of_lt_of_le hk h.size) (by omega)).trans (h.block k hk h1 h2 h3)⟩
theorem Fr.trans {r g rb : Nat} {X Y Z : World} (h : Fr r g rb X Y) (k : Fr r g rb Y Z) : Fr r g rb X Z :=
  ⟨k.os.trans h.os, k.tape.trans h.tape, k.output.trans h.output, Nat.le_trans h.size k.size, fun j hj h1 h2 h3 => (k.block j (Nat.lt_of_lt_of_le hj h.size) h1 h2 h3).trans (h.block j hj h1 h2 h3)⟩
theorem Fr.less {r g rb rb' : Nat} {w w' : World} (h : Fr r g rb w w') (hr : rb' ≤ rb) : Fr r g rb' w w' := ⟨h.os, h.tape, h.output, h.size, fun k hk h1 h2 h3 => h.block k hk h1 h2 (by omega)⟩
theorem cell_fr {r g rb : Nat} {w w' : World} (h : Fr r g rb w w') {b o : Nat} {v : Value} (hc : w.cell? ⟨b, o, none⟩ = some v) (h1 : b ≠ r) (h2 : b ≠ g) (h3 : b < rb) : w'.cell? ⟨b, o, none⟩ = some v :=
  (World.cell?_of_block (h.block _ (cell_lt hc) h1 h2 h3)).trans hc
theorem _root_.Go.Proofs.YtefkfjbdmglkjaaDoor.Schema.Own.fr {r g rb : Nat} {w w' : World} {base : Nat} {E : TypeId} {v : Value} {vs : List Value} (h : Own w base E v vs) (k : Fr r g rb w w') (hu : ∀ b, v.ownBlock = some b → b < rb) (h1 : r < base) (h2 : g < base) : Own w' base E v vs := by
  obtain ⟨q1, q2⟩ := h
  rcases q2 with q2 | ⟨b, cap, cur, rfl, hb, hg, q⟩
  · exact ⟨q1, Or.inl q2⟩
  · exact ⟨q1, Or.inr ⟨b, cap, cur, rfl, hb, (k.block b (Array.getElem?_eq_some_iff.1 hg).1 (by omega) (by omega) (hu b rfl)).trans hg, q⟩⟩
theorem _root_.Go.Proofs.YtefkfjbdmglkjaaDoor.Schema.OwnB.fr {r g rb : Nat} {w w' : World} {base top : Nat} {E : TypeId} {v : Value} {vs : List Value} (h : OwnB w base top E v vs) (k : Fr r g rb w w') (ht : top ≤ rb) (h1 : r < base) (h2 : g < base) : OwnB w' base top E v vs :=
  h.imp (fun h => ⟨Own.fr h.1 k (fun b hb => Nat.lt_of_lt_of_le (h.2 b hb) ht) h1 h2, h.2⟩) id
theorem env_low {n : Nat} {w w' : World} (h : Env w) (hb : Below n w w') (hn : 2 ≤ n) : Env w' :=
  ⟨var?_below hb gEv (Nat.lt_of_lt_of_le (by decide) hn) h.1, var?_below hb gBd (Nat.lt_of_lt_of_le (by decide) hn) h.2.1, Nat.le_trans h.2.2 hb.size⟩
theorem env_fr {r g rb : Nat} {w w' : World} (h : Env w) (k : Fr r g rb w w') (h1 : 2 ≤ r) (h2 : 2 ≤ g) (h3 : 2 ≤ rb) : Env w' :=
  env_low h (n := 2) ⟨k.os, k.tape, k.output, k.size, fun j hj => k.block j (Nat.lt_of_lt_of_le hj h.2.2) (by omega) (by omega) (by omega)⟩ (Nat.le_refl _)

end Go.Proofs.YtefkfjbdmglkjaaDoor.Codec
