import Derived.Test.YtiibeemjkdipnaaGreatDoorG3
import Derived.Deep.RegionHeld3
import Derived.Deep.DeepCutAuto
import Derived.Laws.EntriesVeiled
/-
  What is read of an event, in memory, and what stays beside it.
-/
namespace Go.Proofs.YtiibeemjkdipnaaGreatDoor.Codec
open Go Go.RowKit
open Go.Proofs.YtiibeemjkdipnaaGreatDoor.Wire (Wr Only Rd Step U cell_row rdS)
open Go.Proofs.YtiibeemjkdipnaaGreatDoor.Schema

/-- six cells -/
def Six (w : World) (b : Nat) (a0 a1 a2 a3 a4 a5 : Value) : Prop := w.cell? ⟨b, 0, none⟩ = some a0 ∧ w.cell? ⟨b, 1, none⟩ = some a1 ∧ w.cell? ⟨b, 2, none⟩ = some a2 ∧ w.cell? ⟨b, 3, none⟩ = some a3 ∧ w.cell? ⟨b, 4, none⟩ = some a4 ∧ w.cell? ⟨b, 5, none⟩ = some a5
theorem Six.below {w w' : World} {b : Nat} {a0 a1 a2 a3 a4 a5 : Value} (h : Six w b a0 a1 a2 a3 a4 a5) (hb : Below w.heap.size w w') : Six w' b a0 a1 a2 a3 a4 a5 := ⟨cell_kept h.1 hb, cell_kept h.2.1 hb, cell_kept h.2.2.1 hb, cell_kept h.2.2.2.1 hb, cell_kept h.2.2.2.2.1 hb, cell_kept h.2.2.2.2.2 hb⟩
theorem Six.touch {lo hi : Nat} {w w' : World} {b : Nat} {a0 a1 a2 a3 a4 a5 : Value} (h : Six w b a0 a1 a2 a3 a4 a5) (g : Schema.Touch lo hi w w') (ho : b < lo ∨ hi ≤ b) : Six w' b a0 a1 a2 a3 a4 a5 := ⟨cell_touch h.1 g ho, cell_touch h.2.1 g ho, cell_touch h.2.2.1 g ho, cell_touch h.2.2.2.1 g ho, cell_touch h.2.2.2.2.1 g ho, cell_touch h.2.2.2.2.2 g ho⟩
theorem Six.set0 {w : World} {b : Nat} {a0 a1 a2 a3 a4 a5 : Value} (h : Six w b a0 a1 a2 a3 a4 a5) (x : Value) : Six (w.setCell ⟨b, 0, none⟩ x) b x a1 a2 a3 a4 a5 :=
  ⟨World.cell?_setCell_same _ _ _ h.1, (World.cell?_setCell_other _ _ _ _ (by simp)).trans h.2.1, (World.cell?_setCell_other _ _ _ _ (by simp)).trans h.2.2.1, (World.cell?_setCell_other _ _ _ _ (by simp)).trans h.2.2.2.1, (World.cell?_setCell_other _ _ _ _ (by simp)).trans h.2.2.2.2.1, (World.cell?_setCell_other _ _ _ _ (by simp)).trans h.2.2.2.2.2⟩
theorem Six.set1 {w : World} {b : Nat} {a0 a1 a2 a3 a4 a5 : Value} (h : Six w b a0 a1 a2 a3 a4 a5) (x : Value) : Six (w.setCell ⟨b, 1, none⟩ x) b a0 x a2 a3 a4 a5 :=
  ⟨(World.cell?_setCell_other _ _ _ _ (by simp)).trans h.1, World.cell?_setCell_same _ _ _ h.2.1, (World.cell?_setCell_other _ _ _ _ (by simp)).trans h.2.2.1, (World.cell?_setCell_other _ _ _ _ (by simp)).trans h.2.2.2.1, (World.cell?_setCell_other _ _ _ _ (by simp)).trans h.2.2.2.2.1, (World.cell?_setCell_other _ _ _ _ (by simp)).trans h.2.2.2.2.2⟩
theorem Six.set2 {w : World} {b : Nat} {a0 a1 a2 a3 a4 a5 : Value} (h : Six w b a0 a1 a2 a3 a4 a5) (x : Value) : Six (w.setCell ⟨b, 2, none⟩ x) b a0 a1 x a3 a4 a5 :=
  ⟨(World.cell?_setCell_other _ _ _ _ (by simp)).trans h.1, (World.cell?_setCell_other _ _ _ _ (by simp)).trans h.2.1, World.cell?_setCell_same _ _ _ h.2.2.1, (World.cell?_setCell_other _ _ _ _ (by simp)).trans h.2.2.2.1, (World.cell?_setCell_other _ _ _ _ (by simp)).trans h.2.2.2.2.1, (World.cell?_setCell_other _ _ _ _ (by simp)).trans h.2.2.2.2.2⟩
theorem Six.set3 {w : World} {b : Nat} {a0 a1 a2 a3 a4 a5 : Value} (h : Six w b a0 a1 a2 a3 a4 a5) (x : Value) : Six (w.setCell ⟨b, 3, none⟩ x) b a0 a1 a2 x a4 a5 :=
  ⟨(World.cell?_setCell_other _ _ _ _ (by simp)).trans h.1, (World.cell?_setCell_other _ _ _ _ (by simp)).trans h.2.1, (World.cell?_setCell_other _ _ _ _ (by simp)).trans h.2.2.1, World.cell?_setCell_same _ _ _ h.2.2.2.1, (World.cell?_setCell_other _ _ _ _ (by simp)).trans h.2.2.2.2.1, (World.cell?_setCell_other _ _ _ _ (by simp)).trans h.2.2.2.2.2⟩
theorem Six.set4 {w : World} {b : Nat} {a0 a1 a2 a3 a4 a5 : Value} (h : Six w b a0 a1 a2 a3 a4 a5) (x : Value) : Six (w.setCell ⟨b, 4, none⟩ x) b a0 a1 a2 a3 x a5 :=
  ⟨(World.cell?_setCell_other _ _ _ _ (by simp)).trans h.1, (World.cell?_setCell_other _ _ _ _ (by simp)).trans h.2.1, (World.cell?_setCell_other _ _ _ _ (by simp)).trans h.2.2.1, (World.cell?_setCell_other _ _ _ _ (by simp)).trans h.2.2.2.1, World.cell?_setCell_same _ _ _ h.2.2.2.2.1, (World.cell?_setCell_other _ _ _ _ (by simp)).trans h.2.2.2.2.2⟩
theorem Six.set5 {w : World} {b : Nat} {a0 a1 a2 a3 a4 a5 : Value} (h : Six w b a0 a1 a2 a3 a4 a5) (x : Value) : Six (w.setCell ⟨b, 5, none⟩ x) b a0 a1 a2 a3 a4 x :=
  ⟨(World.cell?_setCell_other _ _ _ _ (by simp)).trans h.1, (World.cell?_setCell_other _ _ _ _ (by simp)).trans h.2.1, (World.cell?_setCell_other _ _ _ _ (by simp)).trans h.2.2.1, (World.cell?_setCell_other _ _ _ _ (by simp)).trans h.2.2.2.1, (World.cell?_setCell_other _ _ _ _ (by simp)).trans h.2.2.2.2.1, World.cell?_setCell_same _ _ _ h.2.2.2.2.2⟩
theorem Six.of {w : World} {b : Nat} {a0 a1 a2 a3 a4 a5 : Value} {T : TypeId} {fr : Nat × Nat} (h : w.heap[b]? = some (.cells #[a0, a1, a2, a3, a4, a5] T fr)) : Six w b a0 a1 a2 a3 a4 a5 := ⟨cell_row h 0, cell_row h 1, cell_row h 2, cell_row h 3, cell_row h 4, cell_row h 5⟩
theorem _root_.Go.Proofs.YtiibeemjkdipnaaGreatDoor.Schema.Four.set0 {w : World} {b : Nat} {a0 a1 a2 a3 : Value} (h : Four w b a0 a1 a2 a3) (x : Value) : Four (w.setCell ⟨b, 0, none⟩ x) b x a1 a2 a3 :=
  ⟨World.cell?_setCell_same _ _ _ h.1, (World.cell?_setCell_other _ _ _ _ (by simp)).trans h.2.1, (World.cell?_setCell_other _ _ _ _ (by simp)).trans h.2.2.1, (World.cell?_setCell_other _ _ _ _ (by simp)).trans h.2.2.2⟩
theorem _root_.Go.Proofs.YtiibeemjkdipnaaGreatDoor.Schema.Four.set1 {w : World} {b : Nat} {a0 a1 a2 a3 : Value} (h : Four w b a0 a1 a2 a3) (x : Value) : Four (w.setCell ⟨b, 1, none⟩ x) b a0 x a2 a3 :=
  ⟨(World.cell?_setCell_other _ _ _ _ (by simp)).trans h.1, World.cell?_setCell_same _ _ _ h.2.1, (World.cell?_setCell_other _ _ _ _ (by simp)).trans h.2.2.1, (World.cell?_setCell_other _ _ _ _ (by simp)).trans h.2.2.2⟩
theorem _root_.Go.Proofs.YtiibeemjkdipnaaGreatDoor.Schema.Four.set2 {w : World} {b : Nat} {a0 a1 a2 a3 : Value} (h : Four w b a0 a1 a2 a3) (x : Value) : Four (w.setCell ⟨b, 2, none⟩ x) b a0 a1 x a3 :=
  ⟨(World.cell?_setCell_other _ _ _ _ (by simp)).trans h.1, (World.cell?_setCell_other _ _ _ _ (by simp)).trans h.2.1, World.cell?_setCell_same _ _ _ h.2.2.1, (World.cell?_setCell_other _ _ _ _ (by simp)).trans h.2.2.2⟩
theorem _root_.Go.Proofs.YtiibeemjkdipnaaGreatDoor.Schema.Four.set3 {w : World} {b : Nat} {a0 a1 a2 a3 : Value} (h : Four w b a0 a1 a2 a3) (x : Value) : Four (w.setCell ⟨b, 3, none⟩ x) b a0 a1 a2 x :=
  ⟨(World.cell?_setCell_other _ _ _ _ (by simp)).trans h.1, (World.cell?_setCell_other _ _ _ _ (by simp)).trans h.2.1, (World.cell?_setCell_other _ _ _ _ (by simp)).trans h.2.2.1, World.cell?_setCell_same _ _ _ h.2.2.2⟩
/-- one cell -/
def One (w : World) (b : Nat) (a : Value) : Prop := w.cell? ⟨b, 0, none⟩ = some a
theorem One.below {w w' : World} {b : Nat} {a : Value} (h : One w b a) (hb : Below w.heap.size w w') : One w' b a := cell_kept h hb
theorem One.touch {lo hi : Nat} {w w' : World} {b : Nat} {a : Value} (h : One w b a) (g : Schema.Touch lo hi w w') (ho : b < lo ∨ hi ≤ b) : One w' b a := cell_touch h g ho
theorem One.set {w : World} {b : Nat} {a : Value} (h : One w b a) (x : Value) : One (w.setCell ⟨b, 0, none⟩ x) b x := World.cell?_setCell_same _ _ _ h
theorem one_new (w : World) (a : Value) (T : TypeId) : One (w.alloc (.cells #[a] T)) w.heap.size a := by
  unfold One World.cell?
  rw [show (w.alloc _).heap[(⟨w.heap.size, 0, none⟩ : Addr).block]? = _ from (MapKept.heap_alloc w _).1]
  rfl
/-- two cells -/
def Two (w : World) (b : Nat) (a0 a1 : Value) : Prop := w.cell? ⟨b, 0, none⟩ = some a0 ∧ w.cell? ⟨b, 1, none⟩ = some a1
theorem Two.below {w w' : World} {b : Nat} {a0 a1 : Value} (h : Two w b a0 a1) (hb : Below w.heap.size w w') : Two w' b a0 a1 := ⟨cell_kept h.1 hb, cell_kept h.2 hb⟩
theorem Two.touch {lo hi : Nat} {w w' : World} {b : Nat} {a0 a1 : Value} (h : Two w b a0 a1) (g : Schema.Touch lo hi w w') (ho : b < lo ∨ hi ≤ b) : Two w' b a0 a1 := ⟨cell_touch h.1 g ho, cell_touch h.2 g ho⟩
theorem Two.set0 {w : World} {b : Nat} {a0 a1 : Value} (h : Two w b a0 a1) (x : Value) : Two (w.setCell ⟨b, 0, none⟩ x) b x a1 := ⟨World.cell?_setCell_same _ _ _ h.1, (World.cell?_setCell_other _ _ _ _ (by simp)).trans h.2⟩
theorem Two.set1 {w : World} {b : Nat} {a0 a1 : Value} (h : Two w b a0 a1) (x : Value) : Two (w.setCell ⟨b, 1, none⟩ x) b a0 x := ⟨(World.cell?_setCell_other _ _ _ _ (by simp)).trans h.1, World.cell?_setCell_same _ _ _ h.2⟩
theorem two_new (w : World) (a b : Value) (T : TypeId) : Two (w.alloc (.cells #[a, b] T)) w.heap.size a b := by
  have h : ∀ j, (w.alloc (.cells #[a, b] T)).cell? ⟨w.heap.size, j, none⟩ = #[a, b][j]? := fun j => by
    unfold World.cell?
    rw [show (w.alloc _).heap[(⟨w.heap.size, j, none⟩ : Addr).block]? = _ from (MapKept.heap_alloc w _).1]
    rfl
  exact ⟨h 0, h 1⟩
theorem _root_.Go.Proofs.YtiibeemjkdipnaaGreatDoor.Wire.Rd.below {w w' : World} {r : Nat} {s : ByteArray} {i e : Nat} (h : Rd w r s i e) (hb : Below w.heap.size w w') : Rd w' r s i e := (hb.block r (Wire.row_lt h)).trans h
theorem _root_.Go.Proofs.YtiibeemjkdipnaaGreatDoor.Wire.Rd.touch {lo hi : Nat} {w w' : World} {r : Nat} {s : ByteArray} {i e : Nat} (h : Rd w r s i e) (g : Schema.Touch lo hi w w') (ho : r < lo ∨ hi ≤ r) : Rd w' r s i e := (g.block r (Wire.row_lt h) ho).trans h
theorem touch_step {w w' : World} {r : Nat} {s : ByteArray} {i e : Nat} (h : Step w w' r s i e) : Schema.Touch r (r + 1) w w' := ⟨h.2.os, h.2.tape, h.2.output, h.2.size, fun k hk ho => h.2.block k hk (fun he => by injection he with he; omega)⟩
theorem _root_.Go.Proofs.YtiibeemjkdipnaaGreatDoor.Wire.Rd.size {w : World} {r : Nat} {s : ByteArray} {i e : Nat} (h : Rd w r s i e) : r < w.heap.size := Wire.row_lt h

/-- nothing turns but the Reader, what is being read, and what lies from rb on -/
structure Fr (r g rb : Nat) (w w' : World) : Prop where
  os : w'.os = w.os
  tape : w'.tape = w.tape
  output : w'.output = w.output
  size : w.heap.size ≤ w'.heap.size
  block : ∀ k, k < w.heap.size → k ≠ r → k ≠ g → k < rb → w'.heap[k]? = w.heap[k]?
theorem Fr.refl (r g rb : Nat) (w : World) : Fr r g rb w w := ⟨rfl, rfl, rfl, Nat.le_refl _, fun _ _ _ _ _ => rfl⟩
theorem Fr.below {r g rb : Nat} {Y w w' : World} (h : Fr r g rb Y w) (hb : Below w.heap.size w w') : Fr r g rb Y w' :=
  ⟨hb.os.trans h.os, hb.tape.trans h.tape, hb.output.trans h.output, Nat.le_trans h.size hb.size, fun k hk h1 h2 h3 => (hb.block k (Nat.lt_of_lt_of_le hk h.size)).trans (h.block k hk h1 h2 h3)⟩
theorem Fr.touch {r g rb lo hi : Nat} {Y w w' : World} (h : Fr r g rb Y w) (t : Schema.Touch lo hi w w') (ho : (lo = r ∧ hi = r + 1) ∨ (lo = g ∧ hi = g + 1) ∨ rb ≤ lo) : Fr r g rb Y w' :=
  ⟨t.os.trans h.os, t.tape.trans h.tape, t.output.trans h.output, Nat.le_trans h.size t.size, fun k hk h1 h2 h3 => (t.block k (Nat.lt_of_lt_of_le hk h.size) (by omega)).trans (h.block k hk h1 h2 h3)⟩
theorem Fr.trans {r g rb : Nat} {X Y Z : World} (h : Fr r g rb X Y) (k : Fr r g rb Y Z) : Fr r g rb X Z :=
  ⟨k.os.trans h.os, k.tape.trans h.tape, k.output.trans h.output, Nat.le_trans h.size k.size, fun j hj h1 h2 h3 => (k.block j (Nat.lt_of_lt_of_le hj h.size) h1 h2 h3).trans (h.block j hj h1 h2 h3)⟩
theorem Fr.less {r g rb rb' : Nat} {w w' : World} (h : Fr r g rb w w') (hr : rb' ≤ rb) : Fr r g rb' w w' := ⟨h.os, h.tape, h.output, h.size, fun k hk h1 h2 h3 => h.block k hk h1 h2 (by omega)⟩
theorem cell_fr {r g rb : Nat} {w w' : World} (h : Fr r g rb w w') {b o : Nat} {v : Value} (hc : w.cell? ⟨b, o, none⟩ = some v) (h1 : b ≠ r) (h2 : b ≠ g) (h3 : b < rb) : w'.cell? ⟨b, o, none⟩ = some v :=
  (World.cell?_of_block (h.block _ (cell_lt hc) h1 h2 h3)).trans hc
theorem _root_.Go.Proofs.YtiibeemjkdipnaaGreatDoor.Schema.Own.fr {r g rb : Nat} {w w' : World} {base : Nat} {E : TypeId} {v : Value} {vs : List Value} (h : Own w base E v vs) (k : Fr r g rb w w') (hu : ∀ b, v.ownBlock = some b → b < rb) (h1 : r < base) (h2 : g < base) : Own w' base E v vs := by
  obtain ⟨q1, q2⟩ := h
  rcases q2 with q2 | ⟨b, cap, cur, rfl, hb, hg, q⟩
  · exact ⟨q1, Or.inl q2⟩
  · exact ⟨q1, Or.inr ⟨b, cap, cur, rfl, hb, (k.block b (Array.getElem?_eq_some_iff.1 hg).1 (by omega) (by omega) (hu b rfl)).trans hg, q⟩⟩
theorem _root_.Go.Proofs.YtiibeemjkdipnaaGreatDoor.Schema.OwnB.fr {r g rb : Nat} {w w' : World} {base top : Nat} {E : TypeId} {v : Value} {vs : List Value} (h : OwnB w base top E v vs) (k : Fr r g rb w w') (ht : top ≤ rb) (h1 : r < base) (h2 : g < base) : OwnB w' base top E v vs :=
  h.imp (fun h => ⟨Own.fr h.1 k (fun b hb => Nat.lt_of_lt_of_le (h.2 b hb) ht) h1 h2, h.2⟩) id
theorem env_low {n : Nat} {w w' : World} (h : Env w) (hb : Below n w w') (hn : 2 ≤ n) : Env w' :=
  ⟨var?_below hb gEv (Nat.lt_of_lt_of_le (by decide) hn) h.1, var?_below hb gBd (Nat.lt_of_lt_of_le (by decide) hn) h.2.1, Nat.le_trans h.2.2 hb.size⟩
theorem env_fr {r g rb : Nat} {w w' : World} (h : Env w) (k : Fr r g rb w w') (h1 : 2 ≤ r) (h2 : 2 ≤ g) (h3 : 2 ≤ rb) : Env w' :=
  env_low h (n := 2) ⟨k.os, k.tape, k.output, k.size, fun j hj => k.block j (Nat.lt_of_lt_of_le hj h.2.2) (by omega) (by omega) (by omega)⟩ (Nat.le_refl _)

end Go.Proofs.YtiibeemjkdipnaaGreatDoor.Codec

/-
  How an event's kind is read.
-/
namespace Go.Proofs.YtiibeemjkdipnaaGreatDoor.Codec
open Go Go.RowKit
open Go.Proofs.YtiibeemjkdipnaaGreatDoor.Wire (Wr Only Rd Step U cell_row rdS fxV shR txR tkI tkE tkT ru8_any err_any)
open Go.Proofs.YtiibeemjkdipnaaGreatDoor.Schema

set_option maxRecDepth 100000 in
theorem kind_any (g : Nat) (w : World) :
    Calls Tryz.prog 86 #[.pointer (some ⟨g, 0, none⟩)] w fun z w' => z = .returned (.agg #[.func (.func 99) #[] #[.pointer (some ⟨w.heap.size, 0, none⟩)], .func (.func 100) #[] #[.pointer (some ⟨w.heap.size, 0, none⟩)]]) ∧ One w' w.heap.size (.pointer (some ⟨g, 0, none⟩)) ∧ Below w.heap.size w w' := by
  have hb0 := (Below.refl w.heap.size w).alloc (Nat.le_refl _) (.cells #[.pointer (some ⟨g, 0, none⟩)] 142)
  have hb1 := (Below.refl (w.alloc (.cells #[.pointer (some ⟨g, 0, none⟩)] 142)).heap.size (w.alloc (.cells #[.pointer (some ⟨g, 0, none⟩)] 142))).alloc (Nat.le_refl _) (.cells #[.nilFunc, .nilFunc] 123)
  have hs : (w.alloc (.cells #[.pointer (some ⟨g, 0, none⟩)] 142)).heap.size = w.heap.size + 1 := by simp
  have HO := Lib.hid ((one_new w (.pointer (some ⟨g, 0, none⟩)) 142).below hb1)
  have hp := two_new (w.alloc (.cells #[.pointer (some ⟨g, 0, none⟩)] 142)) .nilFunc .nilFunc 123
  have hf := free_new (w.alloc (.cells #[.pointer (some ⟨g, 0, none⟩)] 142)) #[.nilFunc, .nilFunc] 123
  rw [hs] at hp hf
  have HP := Lib.hid hp
  have HF := Lib.hid hf
  have HB := Lib.hid (below_step hb0 hb1)
  clear hb0 hb1 hp hf hs
  go_enter Tryz.func86, Tryz.ntmps86
  go_upto_region 1 with (fail)
  generalize ((w.alloc (.cells #[.pointer (some ⟨g, 0, none⟩)] 142)).alloc (.cells #[.nilFunc, .nilFunc] 123)) = W at HO HP HF HB ⊢
  obtain ⟨c0, c1⟩ := HP.out
  have f0 := HF.out.2 0
  have f1 := HF.out.2 1
  go_wp2_with fail
  clear c0 c1 f0 f1
  obtain ⟨d0, d1⟩ := (HP.out.set0 (.func (.func 99) #[] #[.pointer (some ⟨w.heap.size, 0, none⟩)])).set1 (.func (.func 100) #[] #[.pointer (some ⟨w.heap.size, 0, none⟩)])
  have HO1 := Lib.hid ((HO.out.touch (Schema.Touch.set W (w.heap.size + 1) 0 (.func (.func 99) #[] #[.pointer (some ⟨w.heap.size, 0, none⟩)])) (by omega)).touch (Schema.Touch.set _ (w.heap.size + 1) 1 (.func (.func 100) #[] #[.pointer (some ⟨w.heap.size, 0, none⟩)])) (by omega))
  have HB1 := Lib.hid ((HB.out.setCell (p := ⟨w.heap.size + 1, 0, none⟩) (Nat.le_succ _) (.func (.func 99) #[] #[.pointer (some ⟨w.heap.size, 0, none⟩)])).setCell (p := ⟨w.heap.size + 1, 1, none⟩) (Nat.le_succ _) (.func (.func 100) #[] #[.pointer (some ⟨w.heap.size, 0, none⟩)]))
  refine bodyPost_ret (v := .agg #[.func (.func 99) #[] #[.pointer (some ⟨w.heap.size, 0, none⟩)], .func (.func 100) #[] #[.pointer (some ⟨w.heap.size, 0, none⟩)]]) (by simp [results, Tryz.results86, go_sem, d0, d1]) rfl ⟨rfl, HO1.out, HB1.out⟩

/-- what a reading's Reader, and the reading itself, are behind a part -/
structure Rdg (n r g rb : Nat) (w w' : World) (s : ByteArray) (i e : Nat) (a1 a2 a3 a4 a5 : Value) : Prop where
  rd : Rd w' r s i e
  six : Six w' g (.pointer (some ⟨r, 0, none⟩)) a1 a2 a3 a4 a5
  free : Free w' g
  fr : Fr r g rb w w'

set_option maxRecDepth 100000 in
theorem kind1_any (bg g r : Nat) (s : ByteArray) (i e : Nat) (a1 a2 a3 a4 a5 : Value) (w : World) (hr : Rd w r s i e) (hi : i ≤ s.size) (hs : s.size ≤ 1000000000000) (hx : Six w g (.pointer (some ⟨r, 0, none⟩)) a1 a2 a3 a4 a5) (hf : Free w g) (ho : One w bg (.pointer (some ⟨g, 0, none⟩))) (h1 : r < g) (h2 : g < bg) :
    Calls Tryz.prog 99 #[.pointer (some ⟨bg, 0, none⟩)] w fun z w' => z = .returned (.tuple #[]) ∧ Rdg 0 r g w.heap.size w w' s (tkI s i e 1) (tkE s i e 1) a1 (.int .u8 (U (fxV s i e 1))) a3 a4 a5 ∧ One w' bg (.pointer (some ⟨g, 0, none⟩)) := by
  have HR := Lib.hid hr
  have HX := Lib.hid hx
  have HF := Lib.hid hf
  have HO := Lib.hid ho
  have HFR := Lib.hid (Fr.refl r g w.heap.size w)
  have HORD := Lib.hid (And.intro h1 (And.intro h2 (And.intro hr.size (cell_lt ho))))
  clear hr hx hf ho
  go_enter Tryz.func99, Tryz.ntmps99
  go_upto_region 0 with (fail)
  have gd := below_drew w.heap.size w
  replace HR := Lib.hid (HR.out.below gd)
  replace HX := Lib.hid (HX.out.below gd)
  replace HF := Lib.hid (HF.out.below gd)
  replace HO := Lib.hid (HO.out.below gd)
  replace HFR := Lib.hid (HFR.out.below gd)
  refine wp_region_held_drew (S := (fun w' => w'.cell? ⟨bg, 0, none⟩ = some (.pointer (some ⟨g, 0, none⟩)) ∧ w'.cell? ⟨g, 0, none⟩ = some (.pointer (some ⟨r, 0, none⟩)))) (by kernel_rfl) ⟨HO.out, HX.out.1⟩ (fun hHeld => ?_)
  generalize w.drew = D0 at HR HX HF HO HFR hHeld ⊢
  clear gd
  refine wpAnyH_take (i := 0) (oi := { dst := some 1, op := Go.Op.load 142 (Go.Operand.tmp 0), type := 142, pos := "codec.go:83", after := #[], guard := none }) (v := ?v1) rfl (by kernel_rfl) (by kernel_rfl) (by kernel_rfl) (fun _ _ _ h => h) (Or.inl ⟨by rfl, ?hy1⟩) (by assumption) ?rest1
  case hy1 => (intro w hSw; obtain ⟨s0, s1⟩ := hSw; go_simp; try with_reducible rfl)
  try simp only [Act.put, List.setIfInBounds_toArray, List.set_cons_zero, List.set_cons_succ]
  refine wpAnyH_take (i := 1) (oi := { dst := some 2, op := Go.Op.load 142 (Go.Operand.tmp 0), type := 142, pos := "codec.go:83", after := #[], guard := none }) (v := ?v2) rfl (by kernel_rfl) (by kernel_rfl) (by kernel_rfl) (fun _ _ _ h => h) (Or.inl ⟨by rfl, ?hy2⟩) (by assumption) ?rest2
  case hy2 => (intro w hSw; obtain ⟨s0, s1⟩ := hSw; go_simp; try with_reducible rfl)
  try simp only [Act.put, List.setIfInBounds_toArray, List.set_cons_zero, List.set_cons_succ]
  refine wpAnyH_take (i := 2) (oi := { dst := some 3, op := Go.Op.nilCheck (Go.Operand.tmp 2), type := 0, pos := "codec.go:83", after := #[{ on := 1, ground := Go.Ground.data }], guard := none }) (v := ?v3) rfl (by kernel_rfl) (by kernel_rfl) (by kernel_rfl) (fun _ _ _ h => h) (Or.inl ⟨by rfl, ?hy3⟩) (by assumption) ?rest3
  case hy3 => (intro w hSw; obtain ⟨s0, s1⟩ := hSw; go_simp; try with_reducible rfl)
  try simp only [Act.put, List.setIfInBounds_toArray, List.set_cons_zero, List.set_cons_succ]
  refine wpAnyH_take (i := 3) (oi := { dst := some 4, op := Go.Op.fieldAddr 120 (Go.Operand.tmp 3) 0, type := 0, pos := "codec.go:83", after := #[{ on := 2, ground := Go.Ground.data }], guard := none }) (v := ?v4) rfl (by kernel_rfl) (by kernel_rfl) (by kernel_rfl) (fun _ _ _ h => h) (Or.inl ⟨by rfl, ?hy4⟩) (by assumption) ?rest4
  case hy4 => (intro w hSw; obtain ⟨s0, s1⟩ := hSw; go_simp; try with_reducible rfl)
  try simp only [Act.put, List.setIfInBounds_toArray, List.set_cons_zero, List.set_cons_succ]
  refine wpAnyH_take (i := 4) (oi := { dst := some 5, op := Go.Op.load 90 (Go.Operand.tmp 4), type := 90, pos := "codec.go:83", after := #[{ on := 3, ground := Go.Ground.data }], guard := none }) (v := ?v5) rfl (by kernel_rfl) (by kernel_rfl) (by kernel_rfl) (fun _ _ _ h => h) (Or.inl ⟨by rfl, ?hy5⟩) (by assumption) ?rest5
  case hy5 => (intro w hSw; obtain ⟨s0, s1⟩ := hSw; go_simp; try with_reducible rfl)
  try simp only [Act.put, List.setIfInBounds_toArray, List.set_cons_zero, List.set_cons_succ]
  refine wpAnyH_ready (rs := [5]) (by kernel_rfl) (by simp) ?_
  refine (AllReadyH.cons (o := { dst := some 6, op := Go.Op.call { callee := Go.Callee.value (Go.Operand.func 81), args := #[Go.Operand.tmp 5], argTypes := #[90] }, type := 5, pos := "codec.go:83", after := #[{ on := 4, ground := Go.Ground.data }], guard := none }) rfl (fun K hK => ?br6_5) AllReadyH.nil)
  case br6_5 =>
   go_simp
   go_at_call 81
   refine (ru8_any r s i e _ HR.out hi hs).mono ?_
   rintro z D1 ⟨rfl, hst⟩
   have ht := touch_step hst
   have hord := HORD.out
   replace HX := Lib.hid (HX.out.touch ht (by omega))
   replace HF := Lib.hid (HF.out.touch ht (by omega))
   replace HO := Lib.hid (HO.out.touch ht (by omega))
   replace HFR := Lib.hid (HFR.out.touch ht (by omega))
   clear hord
   replace HR := Lib.hid hst.1
   clear ht hst
   refine hK.out _ _ ⟨HO.out, HX.out.1⟩ (fun hHeld => ?_)
   clear hK K
   try simp only [Act.put, List.setIfInBounds_toArray, List.set_cons_zero, List.set_cons_succ]
   refine wpAnyH_take (i := 6) (oi := { dst := some 7, op := Go.Op.nilCheck (Go.Operand.tmp 1), type := 0, pos := "codec.go:83", after := #[{ on := 0, ground := Go.Ground.data }, { on := 0, ground := Go.Ground.phase }, { on := 1, ground := Go.Ground.phase }, { on := 2, ground := Go.Ground.phase }, { on := 3, ground := Go.Ground.phase }, { on := 4, ground := Go.Ground.phase }, { on := 5, ground := Go.Ground.phase }], guard := none }) (v := ?v7) rfl (by kernel_rfl) (by kernel_rfl) (by kernel_rfl) (fun _ _ _ h => h) (Or.inl ⟨by rfl, ?hy7⟩) (by assumption) ?rest7
   case hy7 => (intro w hSw; obtain ⟨s0, s1⟩ := hSw; go_simp; try with_reducible rfl)
   try simp only [Act.put, List.setIfInBounds_toArray, List.set_cons_zero, List.set_cons_succ]
   refine wpAnyH_take (i := 7) (oi := { dst := some 8, op := Go.Op.fieldAddr 120 (Go.Operand.tmp 7) 1, type := 0, pos := "codec.go:83", after := #[{ on := 6, ground := Go.Ground.data }, { on := 0, ground := Go.Ground.phase }, { on := 1, ground := Go.Ground.phase }, { on := 2, ground := Go.Ground.phase }, { on := 3, ground := Go.Ground.phase }, { on := 4, ground := Go.Ground.phase }, { on := 5, ground := Go.Ground.phase }], guard := none }) (v := ?v8) rfl (by kernel_rfl) (by kernel_rfl) (by kernel_rfl) (fun _ _ _ h => h) (Or.inl ⟨by rfl, ?hy8⟩) (by assumption) ?rest8
   case hy8 => (intro w hSw; obtain ⟨s0, s1⟩ := hSw; go_simp; try with_reducible rfl)
   try simp only [Act.put, List.setIfInBounds_toArray, List.set_cons_zero, List.set_cons_succ]
   refine wpAnyH_take (i := 8) (oi := { dst := some 9, op := Go.Op.fieldAddr 39 (Go.Operand.tmp 8) 1, type := 0, pos := "codec.go:83", after := #[{ on := 7, ground := Go.Ground.data }, { on := 0, ground := Go.Ground.phase }, { on := 1, ground := Go.Ground.phase }, { on := 2, ground := Go.Ground.phase }, { on := 3, ground := Go.Ground.phase }, { on := 4, ground := Go.Ground.phase }, { on := 5, ground := Go.Ground.phase }], guard := none }) (v := ?v9) rfl (by kernel_rfl) (by kernel_rfl) (by kernel_rfl) (fun _ _ _ h => h) (Or.inl ⟨by rfl, ?hy9⟩) (by assumption) ?rest9
   case hy9 => (intro w hSw; obtain ⟨s0, s1⟩ := hSw; go_simp; try with_reducible rfl)
   try simp only [Act.put, List.setIfInBounds_toArray, List.set_cons_zero, List.set_cons_succ]
   refine wpAnyH_ready (rs := [9]) (by kernel_rfl) (by simp) ?_
   refine (AllReadyH.cons (o := { dst := none, op := Go.Op.store 5 (Go.Operand.tmp 9) (Go.Operand.tmp 6), type := 0, pos := "codec.go:83", after := #[{ on := 8, ground := Go.Ground.data }, { on := 5, ground := Go.Ground.data }, { on := 5, ground := Go.Ground.chain }, { on := 0, ground := Go.Ground.phase }, { on := 1, ground := Go.Ground.phase }, { on := 2, ground := Go.Ground.phase }, { on := 3, ground := Go.Ground.phase }, { on := 4, ground := Go.Ground.phase }, { on := 5, ground := Go.Ground.phase }], guard := none }) rfl (fun K hK => ?br10_9) AllReadyH.nil)
   case br10_9 =>
    have c2 := HX.out.2.2.1
    have f2 := HF.out.2 2
    go_simp
    clear c2 f2
    have ht := Schema.Touch.set D1 g 2 (.int .u8 (U (fxV s i e 1)))
    have hx := HX.out.set2 (.int .u8 (U (fxV s i e 1)))
    have hf := HF.out.set g 2 (.int .u8 (U (fxV s i e 1)))
    have hord := HORD.out
    replace HR := Lib.hid (HR.out.touch ht (by omega))
    replace HO := Lib.hid (HO.out.touch ht (by omega))
    replace HFR := Lib.hid (HFR.out.touch ht (by omega))
    clear hord
    replace HX := Lib.hid hx
    replace HF := Lib.hid hf
    clear ht hx hf
    refine hK.out _ _ ⟨HO.out, HX.out.1⟩ (fun hHeld => ?_)
    clear hK K
    generalize D1.setCell ⟨g, 2, none⟩ (.int .u8 (U (fxV s i e 1))) = D2 at HR HX HF HO HFR hHeld ⊢
    try simp only [Act.put, List.setIfInBounds_toArray, List.set_cons_zero, List.set_cons_succ]
    refine wpAnyH_done (by kernel_rfl) ?_ _
    go_wp2_with fail
    go_end0
    exact ⟨rfl, ⟨HR.out, HX.out, HF.out, HFR.out⟩, HO.out⟩

set_option maxRecDepth 100000 in
theorem kind2_any (bg g : Nat) (v k : Nat) (hv : v < 256) (hk : k < 256) (a0 a3 a4 a5 : Value) (w : World) (hx : Six w g a0 (.int .u8 (v : Int)) (.int .u8 (k : Int)) a3 a4 a5) (ho : One w bg (.pointer (some ⟨g, 0, none⟩))) (E : Env w) :
    Calls Tryz.prog 100 #[.pointer (some ⟨bg, 0, none⟩)] w fun z w' => z = .returned (.bool (tall v k)) ∧ Below w.heap.size w w' := by
  have HX := Lib.hid hx
  have HO := Lib.hid ho
  have HE := Lib.hid E
  have HG := Lib.hid (Below.refl w.heap.size w)
  clear hx ho E
  go_enter Tryz.func100, Tryz.ntmps100
  go_upto_region 1 with (fail)
  have gd := below_drew w.heap.size w
  replace HX := Lib.hid (HX.out.below gd)
  replace HO := Lib.hid (HO.out.below gd)
  replace HG := Lib.hid (below_step HG.out gd)
  refine wp_region_held_drew (S := (fun w' => w'.cell? ⟨bg, 0, none⟩ = some (.pointer (some ⟨g, 0, none⟩)) ∧ w'.cell? ⟨g, 1, none⟩ = some (.int .u8 (v : Int)) ∧ w'.cell? ⟨g, 2, none⟩ = some (.int .u8 (k : Int)))) (by kernel_rfl) ⟨HO.out, HX.out.2.1, HX.out.2.2.1⟩ (fun hHeld => ?_)
  generalize w.drew = D0 at HX HO HG hHeld ⊢
  clear gd
  refine wpAnyH_take (i := 0) (oi := { dst := some 6, op := Go.Op.load 142 (Go.Operand.tmp 0), type := 142, pos := "codec.go:85", after := #[], guard := none }) (v := ?v11) rfl (by kernel_rfl) (by kernel_rfl) (by kernel_rfl) (fun _ _ _ h => h) (Or.inl ⟨by rfl, ?hy11⟩) (by assumption) ?rest11
  case hy11 => (intro w hSw; obtain ⟨s0, s1, s2⟩ := hSw; go_simp; try with_reducible rfl)
  try simp only [Act.put, List.setIfInBounds_toArray, List.set_cons_zero, List.set_cons_succ]
  refine wpAnyH_take (i := 1) (oi := { dst := some 7, op := Go.Op.nilCheck (Go.Operand.tmp 6), type := 0, pos := "codec.go:85", after := #[{ on := 0, ground := Go.Ground.data }], guard := none }) (v := ?v12) rfl (by kernel_rfl) (by kernel_rfl) (by kernel_rfl) (fun _ _ _ h => h) (Or.inl ⟨by rfl, ?hy12⟩) (by assumption) ?rest12
  case hy12 => (intro w hSw; obtain ⟨s0, s1, s2⟩ := hSw; go_simp; try with_reducible rfl)
  try simp only [Act.put, List.setIfInBounds_toArray, List.set_cons_zero, List.set_cons_succ]
  refine wpAnyH_take (i := 2) (oi := { dst := some 8, op := Go.Op.fieldAddr 120 (Go.Operand.tmp 7) 1, type := 0, pos := "codec.go:85", after := #[{ on := 1, ground := Go.Ground.data }], guard := none }) (v := ?v13) rfl (by kernel_rfl) (by kernel_rfl) (by kernel_rfl) (fun _ _ _ h => h) (Or.inl ⟨by rfl, ?hy13⟩) (by assumption) ?rest13
  case hy13 => (intro w hSw; obtain ⟨s0, s1, s2⟩ := hSw; go_simp; try with_reducible rfl)
  try simp only [Act.put, List.setIfInBounds_toArray, List.set_cons_zero, List.set_cons_succ]
  refine wpAnyH_take (i := 3) (oi := { dst := some 9, op := Go.Op.fieldAddr 39 (Go.Operand.tmp 8) 0, type := 0, pos := "codec.go:85", after := #[{ on := 2, ground := Go.Ground.data }], guard := none }) (v := ?v14) rfl (by kernel_rfl) (by kernel_rfl) (by kernel_rfl) (fun _ _ _ h => h) (Or.inl ⟨by rfl, ?hy14⟩) (by assumption) ?rest14
  case hy14 => (intro w hSw; obtain ⟨s0, s1, s2⟩ := hSw; go_simp; try with_reducible rfl)
  try simp only [Act.put, List.setIfInBounds_toArray, List.set_cons_zero, List.set_cons_succ]
  refine wpAnyH_take (i := 4) (oi := { dst := some 10, op := Go.Op.load 5 (Go.Operand.tmp 9), type := 5, pos := "codec.go:85", after := #[{ on := 3, ground := Go.Ground.data }], guard := none }) (v := ?v15) rfl (by kernel_rfl) (by kernel_rfl) (by kernel_rfl) (fun _ _ _ h => h) (Or.inl ⟨by rfl, ?hy15⟩) (by assumption) ?rest15
  case hy15 => (intro w hSw; obtain ⟨s0, s1, s2⟩ := hSw; go_simp; try with_reducible rfl)
  try simp only [Act.put, List.setIfInBounds_toArray, List.set_cons_zero, List.set_cons_succ]
  refine wpAnyH_take (i := 5) (oi := { dst := some 11, op := Go.Op.load 142 (Go.Operand.tmp 0), type := 142, pos := "codec.go:85", after := #[], guard := none }) (v := ?v16) rfl (by kernel_rfl) (by kernel_rfl) (by kernel_rfl) (fun _ _ _ h => h) (Or.inl ⟨by rfl, ?hy16⟩) (by assumption) ?rest16
  case hy16 => (intro w hSw; obtain ⟨s0, s1, s2⟩ := hSw; go_simp; try with_reducible rfl)
  try simp only [Act.put, List.setIfInBounds_toArray, List.set_cons_zero, List.set_cons_succ]
  refine wpAnyH_take (i := 6) (oi := { dst := some 12, op := Go.Op.nilCheck (Go.Operand.tmp 11), type := 0, pos := "codec.go:85", after := #[{ on := 5, ground := Go.Ground.data }], guard := none }) (v := ?v17) rfl (by kernel_rfl) (by kernel_rfl) (by kernel_rfl) (fun _ _ _ h => h) (Or.inl ⟨by rfl, ?hy17⟩) (by assumption) ?rest17
  case hy17 => (intro w hSw; obtain ⟨s0, s1, s2⟩ := hSw; go_simp; try with_reducible rfl)
  try simp only [Act.put, List.setIfInBounds_toArray, List.set_cons_zero, List.set_cons_succ]
  refine wpAnyH_take (i := 7) (oi := { dst := some 13, op := Go.Op.fieldAddr 120 (Go.Operand.tmp 12) 1, type := 0, pos := "codec.go:85", after := #[{ on := 6, ground := Go.Ground.data }], guard := none }) (v := ?v18) rfl (by kernel_rfl) (by kernel_rfl) (by kernel_rfl) (fun _ _ _ h => h) (Or.inl ⟨by rfl, ?hy18⟩) (by assumption) ?rest18
  case hy18 => (intro w hSw; obtain ⟨s0, s1, s2⟩ := hSw; go_simp; try with_reducible rfl)
  try simp only [Act.put, List.setIfInBounds_toArray, List.set_cons_zero, List.set_cons_succ]
  refine wpAnyH_take (i := 8) (oi := { dst := some 14, op := Go.Op.fieldAddr 39 (Go.Operand.tmp 13) 1, type := 0, pos := "codec.go:85", after := #[{ on := 7, ground := Go.Ground.data }], guard := none }) (v := ?v19) rfl (by kernel_rfl) (by kernel_rfl) (by kernel_rfl) (fun _ _ _ h => h) (Or.inl ⟨by rfl, ?hy19⟩) (by assumption) ?rest19
  case hy19 => (intro w hSw; obtain ⟨s0, s1, s2⟩ := hSw; go_simp; try with_reducible rfl)
  try simp only [Act.put, List.setIfInBounds_toArray, List.set_cons_zero, List.set_cons_succ]
  refine wpAnyH_take (i := 9) (oi := { dst := some 15, op := Go.Op.load 5 (Go.Operand.tmp 14), type := 5, pos := "codec.go:85", after := #[{ on := 8, ground := Go.Ground.data }], guard := none }) (v := ?v20) rfl (by kernel_rfl) (by kernel_rfl) (by kernel_rfl) (fun _ _ _ h => h) (Or.inl ⟨by rfl, ?hy20⟩) (by assumption) ?rest20
  case hy20 => (intro w hSw; obtain ⟨s0, s1, s2⟩ := hSw; go_simp; try with_reducible rfl)
  try simp only [Act.put, List.setIfInBounds_toArray, List.set_cons_zero, List.set_cons_succ]
  refine wpAnyH_ready (rs := [10]) (by kernel_rfl) (by simp) ?_
  refine (AllReadyH.cons (o := { dst := some 16, op := Go.Op.call { callee := Go.Callee.value (Go.Operand.func 87), args := #[Go.Operand.tmp 10, Go.Operand.tmp 15], argTypes := #[5, 5] }, type := 126, pos := "codec.go:85", after := #[{ on := 4, ground := Go.Ground.data }, { on := 9, ground := Go.Ground.data }], guard := none }) rfl (fun K hK => ?br21_10) AllReadyH.nil)
  case br21_10 =>
   go_simp
   go_at_call 87
   refine (Fields_any v k hv hk D0 (HE.out.below HG.out)).mono ?_
   rintro z D1 ⟨vl, rfl, _, hb⟩
   replace HX := Lib.hid (HX.out.below hb)
   replace HO := Lib.hid (HO.out.below hb)
   replace HG := Lib.hid (below_step HG.out hb)
   clear hb
   refine hK.out _ _ ⟨HO.out, HX.out.2.1, HX.out.2.2.1⟩ (fun hHeld => ?_)
   clear hK K
   try simp only [Act.put, List.setIfInBounds_toArray, List.set_cons_zero, List.set_cons_succ]
   refine wpAnyH_take (i := 11) (oi := { dst := some 5, op := Go.Op.move (Go.Operand.tmp 16), type := 126, pos := "codec.go:85", after := #[{ on := 10, ground := Go.Ground.data }], guard := none }) (v := ?v22) rfl (by kernel_rfl) (by kernel_rfl) (by kernel_rfl) (fun _ _ _ h => h) (Or.inl ⟨by rfl, ?hy22⟩) (by assumption) ?rest22
   case hy22 => (intro w hSw; obtain ⟨s0, s1, s2⟩ := hSw; go_simp; try with_reducible rfl)
   try simp only [Act.put, List.setIfInBounds_toArray, List.set_cons_zero, List.set_cons_succ]
   refine wpAnyH_take (i := 12) (oi := { dst := some 17, op := Go.Op.extract (Go.Operand.tmp 5) 0, type := 125, pos := "codec.go:85", after := #[{ on := 11, ground := Go.Ground.data }], guard := none }) (v := ?v23) rfl (by kernel_rfl) (by kernel_rfl) (by kernel_rfl) (fun _ _ _ h => h) (Or.inl ⟨by rfl, ?hy23⟩) (by assumption) ?rest23
   case hy23 => (intro w hSw; obtain ⟨s0, s1, s2⟩ := hSw; go_simp; try with_reducible rfl)
   try simp only [Act.put, List.setIfInBounds_toArray, List.set_cons_zero, List.set_cons_succ]
   refine wpAnyH_take (i := 13) (oi := { dst := some 18, op := Go.Op.extract (Go.Operand.tmp 5) 1, type := 4, pos := "codec.go:85", after := #[{ on := 11, ground := Go.Ground.data }, { on := 15, ground := Go.Ground.gcOnly Go.Departure.lateStores }], guard := none }) (v := ?v24) rfl (by kernel_rfl) (by kernel_rfl) (by kernel_rfl) (fun _ _ _ h => h) (Or.inl ⟨by rfl, ?hy24⟩) (by assumption) ?rest24
   case hy24 => (intro w hSw; obtain ⟨s0, s1, s2⟩ := hSw; go_simp; try with_reducible rfl)
   try simp only [Act.put, List.setIfInBounds_toArray, List.set_cons_zero, List.set_cons_succ]
   refine wpAnyH_take (i := 14) (oi := { dst := some 19, op := Go.Op.extract (Go.Operand.tmp 5) 2, type := 4, pos := "codec.go:85", after := #[{ on := 11, ground := Go.Ground.data }, { on := 16, ground := Go.Ground.gcOnly Go.Departure.lateStores }], guard := none }) (v := ?v25) rfl (by kernel_rfl) (by kernel_rfl) (by kernel_rfl) (fun _ _ _ h => h) (Or.inl ⟨by rfl, ?hy25⟩) (by assumption) ?rest25
   case hy25 => (intro w hSw; obtain ⟨s0, s1, s2⟩ := hSw; go_simp; try with_reducible rfl)
   try simp only [Act.put, List.setIfInBounds_toArray, List.set_cons_zero, List.set_cons_succ]
   refine wpAnyH_take (i := 15) (oi := { dst := some 2, op := Go.Op.assign (Go.Operand.tmp 17), type := 125, pos := "codec.go:85", after := #[{ on := 12, ground := Go.Ground.data }, { on := 10, ground := Go.Ground.chain }, { on := 0, ground := Go.Ground.phase }, { on := 1, ground := Go.Ground.phase }, { on := 2, ground := Go.Ground.phase }, { on := 3, ground := Go.Ground.phase }, { on := 4, ground := Go.Ground.phase }, { on := 5, ground := Go.Ground.phase }, { on := 6, ground := Go.Ground.phase }, { on := 7, ground := Go.Ground.phase }, { on := 8, ground := Go.Ground.phase }, { on := 9, ground := Go.Ground.phase }, { on := 10, ground := Go.Ground.phase }, { on := 11, ground := Go.Ground.phase }, { on := 12, ground := Go.Ground.phase }, { on := 13, ground := Go.Ground.textOnly Go.Departure.lateStores }, { on := 14, ground := Go.Ground.textOnly Go.Departure.lateStores }], guard := none }) (v := ?v26) rfl (by kernel_rfl) (by kernel_rfl) (by kernel_rfl) (fun _ _ _ h => h) (Or.inl ⟨by rfl, ?hy26⟩) (by assumption) ?rest26
   case hy26 => (intro w hSw; obtain ⟨s0, s1, s2⟩ := hSw; go_simp; try with_reducible rfl)
   try simp only [Act.put, List.setIfInBounds_toArray, List.set_cons_zero, List.set_cons_succ]
   refine wpAnyH_take (i := 16) (oi := { dst := some 3, op := Go.Op.assign (Go.Operand.tmp 18), type := 4, pos := "codec.go:85", after := #[{ on := 13, ground := Go.Ground.data }, { on := 15, ground := Go.Ground.chain }, { on := 0, ground := Go.Ground.phase }, { on := 1, ground := Go.Ground.phase }, { on := 2, ground := Go.Ground.phase }, { on := 3, ground := Go.Ground.phase }, { on := 4, ground := Go.Ground.phase }, { on := 5, ground := Go.Ground.phase }, { on := 6, ground := Go.Ground.phase }, { on := 7, ground := Go.Ground.phase }, { on := 8, ground := Go.Ground.phase }, { on := 9, ground := Go.Ground.phase }, { on := 10, ground := Go.Ground.phase }, { on := 11, ground := Go.Ground.phase }, { on := 12, ground := Go.Ground.phase }, { on := 13, ground := Go.Ground.phase }, { on := 14, ground := Go.Ground.textOnly Go.Departure.lateStores }, { on := 15, ground := Go.Ground.phase }], guard := none }) (v := ?v27) rfl (by kernel_rfl) (by kernel_rfl) (by kernel_rfl) (fun _ _ _ h => h) (Or.inl ⟨by rfl, ?hy27⟩) (by assumption) ?rest27
   case hy27 => (intro w hSw; obtain ⟨s0, s1, s2⟩ := hSw; go_simp; try with_reducible rfl)
   try simp only [Act.put, List.setIfInBounds_toArray, List.set_cons_zero, List.set_cons_succ]
   refine wpAnyH_take (i := 17) (oi := { dst := some 4, op := Go.Op.assign (Go.Operand.tmp 19), type := 4, pos := "codec.go:85", after := #[{ on := 14, ground := Go.Ground.data }, { on := 16, ground := Go.Ground.chain }, { on := 0, ground := Go.Ground.phase }, { on := 1, ground := Go.Ground.phase }, { on := 2, ground := Go.Ground.phase }, { on := 3, ground := Go.Ground.phase }, { on := 4, ground := Go.Ground.phase }, { on := 5, ground := Go.Ground.phase }, { on := 6, ground := Go.Ground.phase }, { on := 7, ground := Go.Ground.phase }, { on := 8, ground := Go.Ground.phase }, { on := 9, ground := Go.Ground.phase }, { on := 10, ground := Go.Ground.phase }, { on := 11, ground := Go.Ground.phase }, { on := 12, ground := Go.Ground.phase }, { on := 13, ground := Go.Ground.phase }, { on := 14, ground := Go.Ground.phase }, { on := 15, ground := Go.Ground.phase }, { on := 16, ground := Go.Ground.phase }], guard := none }) (v := ?v28) rfl (by kernel_rfl) (by kernel_rfl) (by kernel_rfl) (fun _ _ _ h => h) (Or.inl ⟨by rfl, ?hy28⟩) (by assumption) ?rest28
   case hy28 => (intro w hSw; obtain ⟨s0, s1, s2⟩ := hSw; go_simp; try with_reducible rfl)
   try simp only [Act.put, List.setIfInBounds_toArray, List.set_cons_zero, List.set_cons_succ]
   refine wpAnyH_done (by kernel_rfl) ?_ _
   go_wp2_with fail
   go_ret
   exact ⟨rfl, HG.out⟩

/-- what is wrong behind the kind -/
def wrK (s : ByteArray) (i e v : Nat) : Nat := if tkE s i e 1 = 0 then (if tall v (fxV s i e 1) then 0 else 4) else tkE s i e 1
theorem env_touch {lo hi : Nat} {w w' : World} (h : Env w) (t : Schema.Touch lo hi w w') (hl : 2 ≤ lo) : Env w' := env_low h (n := 2) ⟨t.os, t.tape, t.output, t.size, fun k hk => t.block k (Nat.lt_of_lt_of_le hk h.2.2) (by omega)⟩ (Nat.le_refl _)
theorem bool_beq (a b : Nat) (h : a = b) : (((a : Int)) == (b : Int)) = true := by rw [h]; simp

set_option maxRecDepth 100000 in
set_option maxHeartbeats 1000000 in
theorem readK_any (bg g r : Nat) (s : ByteArray) (i e v : Nat) (a2 a3 a4 : Value) (w : World) (hr : Rd w r s i e) (hi : i ≤ s.size) (hs : s.size ≤ 1000000000000) (hx : Six w g (.pointer (some ⟨r, 0, none⟩)) (.int .u8 (v : Int)) a2 a3 a4 (.int .i64 0)) (hf : Free w g) (ho : One w bg (.pointer (some ⟨g, 0, none⟩))) (h0 : 2 ≤ r) (h1 : r < g) (h2 : g < bg) (hv : v < 256) (E : Env w) :
    Calls Tryz.prog 85 #[.pointer (some ⟨g, 0, none⟩), .agg #[.func (.func 99) #[] #[.pointer (some ⟨bg, 0, none⟩)], .func (.func 100) #[] #[.pointer (some ⟨bg, 0, none⟩)]]] w fun z w' => z = .returned (.tuple #[]) ∧ Rdg 0 r g w.heap.size w w' s (tkI s i e 1) (tkE s i e 1) (.int .u8 (v : Int)) (.int .u8 (U (fxV s i e 1))) a3 a4 (.int .i64 (wrK s i e v : Int)) := by
  have HR := Lib.hid hr
  have HX := Lib.hid hx
  have HF := Lib.hid hf
  have HO := Lib.hid ho
  have HE := Lib.hid E
  have HFR := Lib.hid (Fr.refl r g w.heap.size w)
  have HORD := Lib.hid (And.intro h0 (And.intro h1 (And.intro h2 (And.intro hr.size (cell_lt ho)))))
  have HKV := Lib.hid (show fxV s i e 1 < 256 from by have := Wire.fxV_lt s i e 1; simpa using this)
  have HWK := Lib.hid (show wrK s i e v = if tkE s i e 1 = 0 then (if tall v (fxV s i e 1) then 0 else 4) else tkE s i e 1 from rfl)
  clear hr hx hf ho E
  have hb := (Below.refl w.heap.size w).alloc (Nat.le_refl _) (.cells #[.func (.func 99) #[] #[.pointer (some ⟨bg, 0, none⟩)], .func (.func 100) #[] #[.pointer (some ⟨bg, 0, none⟩)]] 123)
  have hs1 : w.heap.size + 1 ≤ (w.alloc (.cells #[.func (.func 99) #[] #[.pointer (some ⟨bg, 0, none⟩)], .func (.func 100) #[] #[.pointer (some ⟨bg, 0, none⟩)]] 123)).heap.size := by simp
  replace HR := Lib.hid (HR.out.below hb)
  replace HX := Lib.hid (HX.out.below hb)
  replace HF := Lib.hid (HF.out.below hb)
  replace HO := Lib.hid (HO.out.below hb)
  replace HFR := Lib.hid (HFR.out.below hb)
  replace HE := Lib.hid (HE.out.below hb)
  replace HORD := Lib.hid (And.intro HORD.out hs1)
  have HT := Lib.hid (two_new w (.func (.func 99) #[] #[.pointer (some ⟨bg, 0, none⟩)]) (.func (.func 100) #[] #[.pointer (some ⟨bg, 0, none⟩)]) 123)
  clear hb hs1
  go_enter Tryz.func85, Tryz.ntmps85
  go_upto_region 1 with (fail)
  generalize w.alloc (.cells #[.func (.func 99) #[] #[.pointer (some ⟨bg, 0, none⟩)], .func (.func 100) #[] #[.pointer (some ⟨bg, 0, none⟩)]] 123) = W0 at HR HX HF HO HFR HE HT HORD ⊢
  obtain ⟨x0, x1, x2, x3, x4, x5⟩ := HX.out
  obtain ⟨t0, t1⟩ := HT.out
  go_wp2_with fail
  clear x0 x1 x2 x3 x4 x5 t0 t1
  refine (kind1_any bg g r s i e _ a2 a3 a4 _ W0 HR.out hi hs HX.out HF.out HO.out (by have hord := HORD.out; omega) (by have hord := HORD.out; omega)).mono ?_
  rintro z W1 ⟨rfl, hg, ho⟩
  have hord := HORD.out
  have HT1 := Lib.hid (show Two W1 w.heap.size _ _ from ⟨cell_fr hg.fr HT.out.1 (by omega) (by omega) (by omega), cell_fr hg.fr HT.out.2 (by omega) (by omega) (by omega)⟩)
  have HE1 := Lib.hid (env_fr HE.out hg.fr (by omega) (by omega) (by omega))
  have HFR1 := Lib.hid (HFR.out.trans (hg.fr.less (by omega)))
  clear hord
  clear HT HE HFR HR HX HF
  have HT := HT1
  have HE := HE1
  have HFR := HFR1
  have HR := Lib.hid hg.rd
  have HX := Lib.hid hg.six
  have HF := Lib.hid hg.free
  clear HT1 HE1 HFR1
  replace HORD := Lib.hid (And.intro HORD.out hg.fr.size)
  clear hg
  clear HO
  have HO := Lib.hid ho
  clear ho
  obtain ⟨x0, x1, x2, x3, x4, x5⟩ := HX.out
  have f5 := HF.out.2 5
  go_wp2_with fail
  clear x0 x1 x2 x3 x4 x5 f5
  refine (err_any r s (tkI s i e 1) (tkE s i e 1) W1 HR.out).mono ?_
  rintro z z1 ⟨rfl, nq, rfl⟩
  have hb := below_dn W1.heap.size W1 nq
  replace HR := Lib.hid (HR.out.below hb)
  replace HX := Lib.hid (HX.out.below hb)
  replace HF := Lib.hid (HF.out.below hb)
  replace HO := Lib.hid (HO.out.below hb)
  replace HFR := Lib.hid (HFR.out.below hb)
  replace HE := Lib.hid (HE.out.below hb)
  replace HT := Lib.hid (HT.out.below hb)
  clear hb
  generalize W1.drewN nq = W2 at HR HX HF HO HFR HE HT ⊢
  obtain ⟨x0, x1, x2, x3, x4, x5⟩ := HX.out
  obtain ⟨t0, t1⟩ := HT.out
  have f5 := HF.out.2 5
  by_cases hE : (tkE s i e 1) = 0
  · have hE1 : (((tkE s i e 1) : Nat) : Int) = 0 := by omega
    rw [hE1]
    go_upto_region 4 with (fail)
    clear x0 x1 x2 x3 x4 x5 t0 t1 f5
    have ht := Schema.Touch.set W2 g 5 (.int .i64 0)
    have hx := HX.out.set5 (.int .i64 0)
    have hf := HF.out.set g 5 (.int .i64 0)
    have hord := HORD.out
    replace HR := Lib.hid (HR.out.touch ht (by omega))
    replace HO := Lib.hid (HO.out.touch ht (by omega))
    replace HFR := Lib.hid (HFR.out.touch ht (by omega))
    replace HE := Lib.hid (env_touch HE.out ht (by omega))
    replace HT := Lib.hid (HT.out.touch ht (by omega))
    clear hord
    replace HX := Lib.hid hx
    replace HF := Lib.hid hf
    clear ht hx hf
    generalize W2.setCell ⟨g, 5, none⟩ (.int .i64 0) = W3 at HR HX HF HO HFR HE HT ⊢
    obtain ⟨x0, x1, x2, x3, x4, x5⟩ := HX.out
    obtain ⟨t0, t1⟩ := HT.out
    have f5 := HF.out.2 5
    go_wp2_with fail
    clear x0 x1 x2 x3 x4 x5 t0 t1 f5
    refine (kind2_any bg g v (fxV s i e 1) hv HKV.out _ a3 a4 _ W3 HX.out HO.out HE.out).mono ?_
    rintro z W4 ⟨rfl, hb⟩
    replace HR := Lib.hid (HR.out.below hb)
    replace HX := Lib.hid (HX.out.below hb)
    replace HF := Lib.hid (HF.out.below hb)
    replace HO := Lib.hid (HO.out.below hb)
    replace HFR := Lib.hid (HFR.out.below hb)
    replace HE := Lib.hid (HE.out.below hb)
    replace HT := Lib.hid (HT.out.below hb)
    clear hb
    have HEE := Lib.hid hE
    clear hE hE1
    cases hm : tall v (fxV s i e 1) with
    | true =>
      have HM := Lib.hid hm
      clear hm
      go_wp2_with fail
      go_end0
      have hw : wrK s i e v = 0 := by rw [HWK.out, HEE.out, HM.out]; rfl
      exact ⟨rfl, HR.out, by rw [hw]; exact HX.out, HF.out, HFR.out⟩
    | false =>
      have HM := Lib.hid hm
      clear hm
      obtain ⟨x0, x1, x2, x3, x4, x5⟩ := HX.out
      have f5 := HF.out.2 5
      go_wp2_with fail
      clear x0 x1 x2 x3 x4 x5 f5
      have ht := Schema.Touch.set W4 g 5 (.int .i64 4)
      have hx := HX.out.set5 (.int .i64 4)
      have hf := HF.out.set g 5 (.int .i64 4)
      have hord := HORD.out
      replace HR := Lib.hid (HR.out.touch ht (by omega))
      replace HO := Lib.hid (HO.out.touch ht (by omega))
      replace HFR := Lib.hid (HFR.out.touch ht (by omega))
      replace HE := Lib.hid (env_touch HE.out ht (by omega))
      replace HT := Lib.hid (HT.out.touch ht (by omega))
      clear hord
      replace HX := Lib.hid hx
      replace HF := Lib.hid hf
      clear ht hx hf
      generalize W4.setCell ⟨g, 5, none⟩ (.int .i64 4) = W5 at HR HX HF HO HFR HE HT ⊢
      go_end0
      have hw : wrK s i e v = 4 := by rw [HWK.out, HEE.out, HM.out]; rfl
      exact ⟨rfl, HR.out, by rw [hw]; exact HX.out, HF.out, HFR.out⟩
  · have hE1 : ((((tkE s i e 1) : Nat) : Int) == 0) = false := beq_eq_false_iff_ne.2 (by omega)
    have hE2 : ((tkE s i e 1) == 0) = false := beq_eq_false_iff_ne.2 hE
    have HEE := Lib.hid hE
    clear hE
    go_upto_region 4 with (fail)
    clear x0 x1 x2 x3 x4 x5 t0 t1 f5
    have ht := Schema.Touch.set W2 g 5 (.int .i64 ((tkE s i e 1) : Int))
    have hx := HX.out.set5 (.int .i64 ((tkE s i e 1) : Int))
    have hf := HF.out.set g 5 (.int .i64 ((tkE s i e 1) : Int))
    have hord := HORD.out
    replace HR := Lib.hid (HR.out.touch ht (by omega))
    replace HO := Lib.hid (HO.out.touch ht (by omega))
    replace HFR := Lib.hid (HFR.out.touch ht (by omega))
    replace HE := Lib.hid (env_touch HE.out ht (by omega))
    replace HT := Lib.hid (HT.out.touch ht (by omega))
    clear hord
    replace HX := Lib.hid hx
    replace HF := Lib.hid hf
    clear ht hx hf
    generalize W2.setCell ⟨g, 5, none⟩ (.int .i64 ((tkE s i e 1) : Int)) = W3 at HR HX HF HO HFR HE HT ⊢
    obtain ⟨x0, x1, x2, x3, x4, x5⟩ := HX.out
    go_wp2_with fail
    clear x0 x1 x2 x3 x4 x5
    go_end0
    have hw : wrK s i e v = (tkE s i e 1) := by rw [HWK.out, if_neg HEE.out]
    exact ⟨rfl, HR.out, by rw [hw]; exact HX.out, HF.out, HFR.out⟩

end Go.Proofs.YtiibeemjkdipnaaGreatDoor.Codec
