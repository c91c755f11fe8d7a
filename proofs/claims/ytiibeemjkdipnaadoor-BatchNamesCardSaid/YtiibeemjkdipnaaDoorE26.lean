import Derived.Test.YtiibeemjkdipnaaDoorE22
import Derived.Outline
import Derived.Test.YtiibeemjkdipnaaDoorE22
import Derived.Deep.RegionHeld3
import Derived.Deep.DeepCutAuto
/-
  The document's own fields and bounds.
-/
namespace Go.Proofs.YtiibeemjkdipnaaDoor.Schema
open Go Go.RowKit

/-- the fields of a kind in version 1; a blank: there is no such kind -/
def rold (k : Nat) : ByteArray := if tall 1 k then lets 1 k else ⟨#[32]⟩
theorem rold_out (k : Nat) (h : ¬ k < 21) : rold k = ⟨#[32]⟩ := by
  unfold rold
  have ht : tall 1 k = false := by
    by_cases h2 : k < 24
    · have : k = 21 ∨ k = 22 ∨ k = 23 := by omega
      rcases this with rfl | rfl | rfl <;> decide +kernel
    · unfold tall; rw [lets_out 1 k (by omega)]; rfl
  rw [ht]; rfl

theorem ret_sbb {s t : ByteArray} {a b c d : Bool} (h1 : s = t) (h2 : a = b) (h3 : c = d) : Ending.returned (.tuple #[.string s, .bool a, .bool c]) = .returned (.tuple #[.string t, .bool b, .bool d]) := by rw [h1, h2, h3]
def FldRes (v k : Nat) (w : World) (e : Ending) (w' : World) : Prop := e = .returned (.tuple #[.string (lets v k), .bool (tall v k && tru k), .bool (tall v k)]) ∧ w = w'

/-- the classes of a version of which the table and the document say the same -/
def goodL : List (Nat × Nat) := [(1, 97), (1, 105), (1, 111), (1, 99), (1, 109), (1, 122), (1, 112), (1, 113), (1, 115), (1, 98), (1, 116), (2, 97), (2, 105), (2, 111), (2, 99), (2, 109), (2, 122), (2, 112), (2, 107), (2, 113), (2, 115), (2, 98), (2, 116), (3, 97), (3, 105), (3, 111), (3, 99), (3, 109), (3, 122), (3, 112), (3, 107), (3, 113), (3, 115), (3, 98), (3, 116)]
/-- each letter of a table's row is such a class -/
def lettersGood (v : Nat) (s : ByteArray) : Bool := (List.range s.size).all fun j => goodL.contains (v, byteAt s j)
theorem lets_good (v k : Nat) (j : Nat) (hj : j < (lets v k).size) : (v, byteAt (lets v k) j) ∈ goodL := by
  have h := ev_all (p := fun r => lettersGood 1 r.f1 && lettersGood 2 r.f2 && lettersGood 3 r.f3) (by decide +kernel) (by decide +kernel) k
  simp only [Bool.and_eq_true] at h
  have hv : lettersGood v (lets v k) = true := by
    unfold lets
    split
    · rename_i e; subst e; exact h.1.1
    · split
      · rename_i e; subst e; exact h.1.2
      · split
        · rename_i e; subst e; exact h.2
        · rfl
  unfold lettersGood at hv
  have := List.all_eq_true.1 hv j (List.mem_range.2 hj)
  exact List.contains_iff_mem.1 this
theorem asks_good (k : Nat) (j : Nat) (hj : j < (asks k).size) : (3, byteAt (asks k) j) ∈ goodL := by
  have h := cm_all (p := fun r => lettersGood 3 r.fields) (by decide +kernel) (by decide +kernel) k
  unfold lettersGood at h
  have := List.all_eq_true.1 h j (List.mem_range.2 hj)
  exact List.contains_iff_mem.1 this

end Go.Proofs.YtiibeemjkdipnaaDoor.Schema

/-
  The document's own MayName, all, May, Same.
-/
namespace Go.Proofs.YtiibeemjkdipnaaDoor.Schema
open Go Go.RowKit

/-- letters that are classes of a version, as the document has them too -/
def Good (v : Nat) (s : ByteArray) : Prop := s.size ≤ 100 ∧ ∀ j, j < s.size → (v, byteAt s j) ∈ goodL
theorem good_lets (v k : Nat) : Good v (lets v k) := ⟨by have := (lets_ok v k).1; omega, fun j hj => lets_good v k j hj⟩
theorem good_asks (k : Nat) : Good 3 (asks k) := ⟨by have := (asks_ok k).1; omega, fun j hj => asks_good k j hj⟩
theorem good_is {v c : Nat} (h : (v, c) ∈ goodL) : (bnd v c).is = true := by
  have : goodL.all (fun p => (bnd p.1 p.2).is) = true := by decide +kernel
  exact List.all_eq_true.1 this _ h
theorem fits_low {v c n : Int} (h : n < (bnd v c).low) : fits v c n = false := by
  unfold fits; rw [decide_eq_false (show ¬ (bnd v c).low ≤ n by omega)]; simp
theorem fits_high {v c n : Int} (h : (bnd v c).high < n) : fits v c n = false := by
  unfold fits; rw [decide_eq_false (show ¬ n ≤ (bnd v c).high by omega)]; simp
theorem fits_both {v c n : Int} (hi : (bnd v c).is = true) (h1 : (bnd v c).low ≤ n) (h2 : n ≤ (bnd v c).high) : fits v c n = true := by
  unfold fits; rw [hi, decide_eq_true h1, decide_eq_true h2]; rfl

end Go.Proofs.YtiibeemjkdipnaaDoor.Schema

/-
  Boxes of three cells; one value more, in a region that draws; commands of the call's own.
-/
namespace Go.Proofs.YtiibeemjkdipnaaDoor.Schema
open Go Go.RowKit

/-- three cells -/
def Three (w : World) (b : Nat) (a0 a1 a2 : Value) : Prop := w.cell? ⟨b, 0, none⟩ = some a0 ∧ w.cell? ⟨b, 1, none⟩ = some a1 ∧ w.cell? ⟨b, 2, none⟩ = some a2
theorem Three.below {w w' : World} {b : Nat} {a0 a1 a2 : Value} (h : Three w b a0 a1 a2) (hb : Below w.heap.size w w') : Three w' b a0 a1 a2 := ⟨cell_kept h.1 hb, cell_kept h.2.1 hb, cell_kept h.2.2 hb⟩
theorem Three.touch {lo hi : Nat} {w w' : World} {b : Nat} {a0 a1 a2 : Value} (h : Three w b a0 a1 a2) (g : Touch lo hi w w') (ho : b < lo ∨ hi ≤ b) : Three w' b a0 a1 a2 := ⟨cell_touch h.1 g ho, cell_touch h.2.1 g ho, cell_touch h.2.2 g ho⟩
theorem Three.set0 {w : World} {b : Nat} {a0 a1 a2 : Value} (h : Three w b a0 a1 a2) (x : Value) : Three (w.setCell ⟨b, 0, none⟩ x) b x a1 a2 :=
  ⟨World.cell?_setCell_same _ _ _ h.1, (World.cell?_setCell_other _ _ _ _ (by simp)).trans h.2.1, (World.cell?_setCell_other _ _ _ _ (by simp)).trans h.2.2⟩
theorem Three.set1 {w : World} {b : Nat} {a0 a1 a2 : Value} (h : Three w b a0 a1 a2) (x : Value) : Three (w.setCell ⟨b, 1, none⟩ x) b a0 x a2 :=
  ⟨(World.cell?_setCell_other _ _ _ _ (by simp)).trans h.1, World.cell?_setCell_same _ _ _ h.2.1, (World.cell?_setCell_other _ _ _ _ (by simp)).trans h.2.2⟩
theorem Three.set2 {w : World} {b : Nat} {a0 a1 a2 : Value} (h : Three w b a0 a1 a2) (x : Value) : Three (w.setCell ⟨b, 2, none⟩ x) b a0 a1 x :=
  ⟨(World.cell?_setCell_other _ _ _ _ (by simp)).trans h.1, (World.cell?_setCell_other _ _ _ _ (by simp)).trans h.2.1, World.cell?_setCell_same _ _ _ h.2.2⟩
theorem VAt.touch {lo hi : Nat} {w w' : World} {b : Nat} {u : Value} (h : VAt w (some ⟨b, 0, none⟩) [u]) (g : Touch lo hi w w') (ho : b < lo ∨ hi ≤ b) : VAt w' (some ⟨b, 0, none⟩) [u] := fun j v hj => by
  obtain ⟨b', o', e, hc⟩ := h j v hj
  injection e with e
  injection e with e1 e2
  subst e1 e2
  exact ⟨_, _, rfl, cell_touch hc g ho⟩
theorem OwnE.b {w : World} {base : Nat} {E : TypeId} {v : Value} {vs : List Value} (h : OwnE w base E v vs) : OwnB w base w.heap.size E v vs := h.put h.under

/-- a block of values of a type -/
def BoxT (w : World) (T : TypeId) (b : Nat) : Prop := ∃ c f, w.heap[b]? = some (.cells c T f)
theorem boxT_new (w : World) (cs : Array Value) (T : TypeId) : BoxT (w.alloc (.cells cs T)) T w.heap.size := ⟨cs, (0, 0), (MapKept.heap_alloc w _).1⟩
theorem BoxT.below {w w' : World} {T : TypeId} {b : Nat} (h : BoxT w T b) (hb : Below w.heap.size w w') : BoxT w' T b := by
  obtain ⟨c, f, h⟩ := h
  exact ⟨c, f, (hb.block b (Array.getElem?_eq_some_iff.1 h).1).trans h⟩
theorem BoxT.touch {lo hi : Nat} {w w' : World} {T : TypeId} {b : Nat} (h : BoxT w T b) (g : Touch lo hi w w') (ho : b < lo ∨ hi ≤ b) : BoxT w' T b := by
  obtain ⟨c, f, h⟩ := h
  exact ⟨c, f, (g.block b (Array.getElem?_eq_some_iff.1 h).1 ho).trans h⟩
theorem BoxT.set {w : World} {T : TypeId} {b : Nat} (h : BoxT w T b) (o : Nat) (x : Value) : BoxT (w.setCell ⟨b, o, none⟩ x) T b := by
  obtain ⟨c, f, h⟩ := h
  exact ⟨c.setIfInBounds o x, f, by simp [World.setCell, Array.getElem?_modify, h]⟩
/-- a slice's block is none of another type -/
theorem OwnB.boxT {w : World} {base top : Nat} {E : TypeId} {v : Value} {vs : List Value} (h : OwnB w base top E v vs) {T : TypeId} {b : Nat} (hx : BoxT w T b) (hE : ¬ E = T) (o : Nat) (x : Value) : OwnB (w.setCell ⟨b, o, none⟩ x) base top E v vs := by
  rcases h with ⟨⟨h1, h2⟩, h3⟩ | h
  · refine Or.inl ⟨⟨h1, ?_⟩, h3⟩
    rcases h2 with h2 | ⟨g, cap, cur, rfl, hb, hg, r⟩
    · exact Or.inl h2
    · have hne : g ≠ b := by
        intro e
        subst e
        obtain ⟨c, f, hc⟩ := hx
        rw [hg] at hc
        injection hc with hc
        injection hc with _ hc
        exact hE hc
      exact Or.inr ⟨g, cap, cur, rfl, hb, (Below.heap_setCell w ⟨b, o, none⟩ x g hne).trans hg, r⟩
  · exact Or.inr h

/-- one value more, in a region that draws its order -/
theorem step_append_one {ops : Array Oper} {o : Oper} {a : Act} {w : World} {K : Act → World → Prop} {Q : Exit → Act → World → Prop} {X : Prop} (T E : TypeId) (z : Value) (bytes : Nat) (hT : Tryd.prog.underlying T = some (.slice E))
    (hinfo : (Tryd.prog.info? E).map (fun i => (i.zero, i.size, i.bytes)) = some (some z, 1, bytes)) (hzs : z.cells.size = 1) (hby : bytes ≤ 16) (hgd : o.guard = none) (s x : Operand)
    (ho : o.op = .call { callee := .builtin .append, args := #[s, x], argTypes := #[T, T] })
    (base top : Nat) (v : Value) (xs : List Value) (hs : a.eval s = v) (hown : OwnB w base top E v xs)
    (A : Option Addr) (cap : Nat) (u : Value) (hx : a.eval x = .slice A 1 cap) (hn : VAt w A [u]) (h1 : u.oneCell' = true)
    (hlen : xs.length ≤ 1000) (hbase : base ≤ w.heap.size)
    (h : ∀ v' w', OwnB w' base w'.heap.size E v' (xs ++ [u]) → Touch base top w w' → K (a.put o.dst v') w') :
    if Region.wanted o (yielded ops a.tmps) = true then Oper.wp Tryd.prog o a w K Q else X := by
  have h1' : ∀ y ∈ [u], y.oneCell' = true := fun y hy => by rw [List.mem_singleton.1 hy]; exact h1
  have hA : A = none → cap = 0 := fun e => by subst e; obtain ⟨b, o, e, _⟩ := hn 0 u rfl; cases e
  rcases hown with ⟨hown, hu⟩ | ⟨rfl, g, rfl⟩
  · refine step_append_vals T E z bytes hT hinfo hzs hby hgd s x ho base v xs hs hown A 1 cap [u] hx rfl hn h1' hA (by simp; omega) hbase ?_
    intro v' w' hO hg
    exact h v' w' (Or.inl ⟨hO, fun b hb => (World.ownsRow.lt hO b hb).2⟩) ⟨hg.os, hg.tape, hg.output, hg.size, fun k hk ho => hg.block k hk (fun e => by
      have h3 := World.ownsRow.lt hown k e.symm
      have h4 := hu k e.symm
      omega)⟩
  · refine step_append_new T E z bytes hT hinfo hzs hby hgd s x ho g hs A 1 cap [u] hx rfl hn h1' hA (by simp) ?_
    intro v' w' hO hb
    exact h v' w' (by simpa using (hO.less hbase).b) (touch_of hb _ _)

theorem wpList_append_new {ops : Array Oper} {rest : List Oper} {o : Oper} {a : Act} {w : World} {Q : Exit → Act → World → Prop} (T E : TypeId) (z : Value) (bytes : Nat) (hT : Tryd.prog.underlying T = some (.slice E))
    (hinfo : (Tryd.prog.info? E).map (fun i => (i.zero, i.size, i.bytes)) = some (some z, 1, bytes)) (hzs : z.cells.size = 1) (hby : bytes ≤ 16) (hgd : o.guard = none) (s x : Operand)
    (ho : o.op = .call { callee := .builtin .append, args := #[s, x], argTypes := #[T, T] })
    (g : Nat) (hs : a.eval s = .slice (some ⟨g, 0, none⟩) 0 0)
    (A : Option Addr) (m cap : Nat) (ys : List Value) (hx : a.eval x = .slice A m cap) (hm : m = ys.length) (hn : VAt w A ys) (h1 : ∀ u ∈ ys, u.oneCell' = true) (hA : A = none → cap = 0)
    (hlen : ys.length ≤ 1000000)
    (h : ∀ v' w', OwnE w' w.heap.size E v' ys → Below w.heap.size w w' → wpList Tryd.prog ops Q rest (a.put o.dst v') w') : wpList Tryd.prog ops Q (o :: rest) a w :=
  wpList_plain hgd fun K hK => by
    have h2 := step_append_new (ops := ops) (K := K) (Q := Q) (X := True) T E z bytes hT hinfo hzs hby hgd s x ho g hs A m cap ys hx hm hn h1 hA hlen (fun v' w' h3 h4 => hK _ _ (h v' w' h3 h4))
    rwa [if_pos (by simp [Region.wanted, hgd])] at h2

end Go.Proofs.YtiibeemjkdipnaaDoor.Schema

/-
  The document's own May, Same.
-/
namespace Go.Proofs.YtiibeemjkdipnaaDoor.Schema
open Go Go.RowKit

theorem same_len {a b : Ev} (h : ¬ a.ns.length = b.ns.length) : same a b = false := by
  unfold same; rw [decide_eq_false (show ¬ a.ns = b.ns from fun e => h (by rw [e]))]; simp
theorem same_lenT {a b : Ev} (h : ¬ a.ts.length = b.ts.length) : same a b = false := by
  unfold same; rw [decide_eq_false (show ¬ a.ts = b.ts from fun e => h (by rw [e]))]; simp
theorem same_noN {a b : Ev} {k : Nat} (h : ¬ a.ns.getD k 0 = b.ns.getD k 0) : same a b = false := by
  unfold same; rw [decide_eq_false (show ¬ a.ns = b.ns from fun e => h (by rw [e]))]; simp
theorem same_noS {a b : Ev} {k : Nat} (h : ¬ a.ts.getD k ByteArray.empty = b.ts.getD k ByteArray.empty) : same a b = false := by
  unfold same; rw [decide_eq_false (show ¬ a.ts = b.ts from fun e => h (by rw [e]))]; simp
theorem same_yes {a b : Ev} (h1 : a.v = b.v) (h2 : a.k = b.k) (h3 : a.ns = b.ns) (h4 : a.ts = b.ts) : same a b = true := by
  unfold same; rw [decide_eq_true h1, decide_eq_true h2, decide_eq_true h3, decide_eq_true h4]; rfl
theorem hid_step {p : Nat → Prop} {k : Nat} (h : Hid (∀ j, j < k → p j)) (hk : p k) : Hid (∀ j, j < k + 1 → p j) := fun j hj => by
  by_cases e : j = k
  · exact e ▸ hk
  · exact h j (by omega)

end Go.Proofs.YtiibeemjkdipnaaDoor.Schema
