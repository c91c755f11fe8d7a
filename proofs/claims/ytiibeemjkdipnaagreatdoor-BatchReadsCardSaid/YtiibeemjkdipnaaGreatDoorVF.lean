import Derived.Test.YtiibeemjkdipnaaGreatDoorUT
/-
  The law's own is, which writes over an event, and owns.
-/
namespace Go.Proofs.YtiibeemjkdipnaaGreatDoor.Upcast
open Go Go.RowKit
open Go.Proofs.YtiibeemjkdipnaaGreatDoor.Schema

/-! ### an event that is written over -/
/-- block k is where something of this slice lies -/
def hit (A : Option Addr) (n k : Nat) : Prop := n ≠ 0 ∧ A = some ⟨k, 0, none⟩
/-- only what these two slices hold has turned -/
structure Sp (A : Option Addr) (n : Nat) (C : Option Addr) (m : Nat) (W w' : World) : Prop where
  os : w'.os = W.os
  tape : w'.tape = W.tape
  output : w'.output = W.output
  size : W.heap.size ≤ w'.heap.size
  block : ∀ k, k < W.heap.size → ¬ hit A n k → ¬ hit C m k → w'.heap[k]? = W.heap[k]?
theorem Sp.of {A C : Option Addr} {n m : Nat} {W w' : World} (h : Below W.heap.size W w') : Sp A n C m W w' := ⟨h.os, h.tape, h.output, h.size, fun k hk _ _ => h.block k hk⟩
theorem Sp.trans {A C : Option Addr} {n m : Nat} {W w1 w2 : World} (h : Sp A n C m W w1) (k : Sp A n C m w1 w2) : Sp A n C m W w2 := ⟨k.os.trans h.os, k.tape.trans h.tape, k.output.trans h.output, Nat.le_trans h.size k.size, fun i hi q1 q2 => (k.block i (Nat.lt_of_lt_of_le hi h.size) q1 q2).trans (h.block i hi q1 q2)⟩
theorem Sp.set {A C : Option Addr} {n m g : Nat} (W : World) (o : Nat) (x : Value) (h : hit A n g ∨ hit C m g) : Sp A n C m W (W.setCell ⟨g, o, none⟩ x) :=
  ⟨rfl, rfl, rfl, by simp [World.setCell], fun k _ q1 q2 => Below.heap_setCell W _ x k (fun e => by rcases h with h | h <;> subst e <;> contradiction)⟩
theorem Sp.low {A C : Option Addr} {n m B : Nat} {W w' : World} (h : Sp A n C m W w') (hB : B ≤ W.heap.size) (h1 : ∀ k, hit A n k → B ≤ k) (h2 : ∀ k, hit C m k → B ≤ k) : Below B W w' :=
  ⟨h.os, h.tape, h.output, h.size, fun k hk => h.block k (by omega) (fun q => by have := h1 k q; omega) (fun q => by have := h2 k q; omega)⟩
def Spots (w : World) (g n : Nat) : Prop := (∀ j, j < n → ∃ u, w.cell? ⟨g, j, none⟩ = some u) ∧ ∀ j, w.frozen? ⟨g, j, none⟩ = false
theorem Spots.set {w : World} {g n : Nat} (h : Spots w g n) (b o : Nat) (x : Value) : Spots (w.setCell ⟨b, o, none⟩ x) g n :=
  ⟨fun j hj => by
    obtain ⟨u, hu⟩ := h.1 j hj
    exact cell?_setCell_some (w := w) (p := ⟨b, o, none⟩) (x := x) (q := ⟨g, j, none⟩) (v := u) hu, fun j => by simpa using h.2 j⟩
theorem Spots.same {w w' : World} {g n : Nat} (h : Spots w g n) (hb : w'.heap[g]? = w.heap[g]?) : Spots w' g n :=
  ⟨fun j hj => by obtain ⟨u, hu⟩ := h.1 j hj; exact ⟨u, (World.cell?_of_block hb).trans hu⟩, fun j => (World.frozen?_of_block hb).trans (h.2 j)⟩
/-- a slice of the call's own, that may be written over -/
def Spot (w : World) (B : Nat) (T : TypeId) (A : Option Addr) (n : Nat) : Prop := n = 0 ∨ ∃ g, A = some ⟨g, 0, none⟩ ∧ B ≤ g ∧ g < w.heap.size ∧ BoxT w T g ∧ Spots w g n
theorem spot_of {w : World} {B : Nat} {E : TypeId} {A : Option Addr} {n c : Nat} {vs : List Value} (h : OwnE w B E (.slice A n c) vs) (hl : vs.length = n) : Spot w B E A n := by
  rcases h with ⟨h1, h2⟩ | ⟨rfl, _⟩
  · rcases h2 with ⟨_, hn⟩ | ⟨g, cap, cur, e, hb, hh, hle, _, hsz, _⟩
    · exact Or.inl (by rw [← hl]; exact hn)
    · injection e with e1 e2 e3
      refine Or.inr ⟨g, e1, hb, row_lt hh, ⟨cur, (0, 0), hh⟩, fun j hj => ?_, fun j => frozen_row hh j⟩
      have hj' : j < cur.size := by rw [hsz]; omega
      exact ⟨cur[j], (cell_row hh j).trans (Array.getElem?_eq_getElem hj')⟩
  · exact Or.inl (by simpa using hl.symm)
theorem Spot.ge {w : World} {B : Nat} {T : TypeId} {A : Option Addr} {n : Nat} (h : Spot w B T A n) (k : Nat) (hk : hit A n k) : B ≤ k := by
  rcases h with h | ⟨g, e, hb, _⟩
  · exact absurd h hk.1
  · have e2 := hk.2
    rw [e] at e2
    injection e2 with e2; injection e2 with e2 _; omega
theorem Spot.box {w : World} {B : Nat} {T : TypeId} {A : Option Addr} {n : Nat} (h : Spot w B T A n) (k : Nat) (hk : hit A n k) : BoxT w T k ∧ k < w.heap.size := by
  rcases h with h | ⟨g, e, _, hs, hx, _⟩
  · exact absurd h hk.1
  · have e2 := hk.2
    rw [e] at e2
    injection e2 with e2; injection e2 with e2 _
    subst e2; exact ⟨hx, hs⟩
theorem boxT_one {w : World} {T U : TypeId} {g : Nat} (h : BoxT w T g) (k : BoxT w U g) : T = U := by
  obtain ⟨c, f, h⟩ := h
  obtain ⟨d, f', k⟩ := k
  rw [h] at k
  injection k with k; injection k with _ k _
theorem Spot.low {w w' : World} {B n : Nat} {T : TypeId} {A : Option Addr} (h : Spot w B T A n) (hb : Below w.heap.size w w') : Spot w' B T A n := by
  rcases h with h | ⟨g, e, h1, h2, h3, h4⟩
  · exact Or.inl h
  · exact Or.inr ⟨g, e, h1, Nat.lt_of_lt_of_le h2 hb.size, h3.below hb, h4.same (hb.block g h2)⟩
theorem boxT_any {w : World} {T : TypeId} {g : Nat} (h : BoxT w T g) (b o : Nat) (x : Value) : BoxT (w.setCell ⟨b, o, none⟩ x) T g := by
  by_cases hb : g = b
  · subst hb; exact h.set o x
  · obtain ⟨c, f, hc⟩ := h
    exact ⟨c, f, (Below.heap_setCell w _ x g hb).trans hc⟩
theorem Spot.set {w : World} {B n : Nat} {T : TypeId} {A : Option Addr} (h : Spot w B T A n) (b o : Nat) (x : Value) : Spot (w.setCell ⟨b, o, none⟩ x) B T A n :=
  h.imp id (fun ⟨g, h1, h2, h3, h4, h5⟩ => ⟨g, h1, h2, by simpa [World.setCell] using h3, boxT_any h4 b o x, h5.set b o x⟩)
theorem Spot.sp {w w' : World} {B n : Nat} {T : TypeId} {A A' C' : Option Addr} {p q : Nat} (h : Spot w B T A n) (s : Sp A' p C' q w w') (h1 : ∀ k, hit A n k → ¬ hit A' p k) (h2 : ∀ k, hit A n k → ¬ hit C' q k) : Spot w' B T A n := by
  by_cases h0 : n = 0
  · exact Or.inl h0
  rcases h with h | ⟨g, e, hB, hs, hx, hp⟩
  · exact absurd h h0
  have hh : hit A n g := ⟨h0, e⟩
  have hb := s.block g hs (h1 g hh) (h2 g hh)
  obtain ⟨c, f, hc⟩ := hx
  exact Or.inr ⟨g, e, hB, Nat.lt_of_lt_of_le hs s.size, ⟨c, f, hb.trans hc⟩, hp.same hb⟩
theorem vat_sp {w w' : World} {B : Nat} {T : TypeId} {A A' C' : Option Addr} {p q n : Nat} {vs : List Value} (hv : VAt w A vs) (hn : vs.length = n) (h : Spot w B T A n) (s : Sp A' p C' q w w') (h1 : ∀ k, hit A n k → ¬ hit A' p k) (h2 : ∀ k, hit A n k → ¬ hit C' q k) : VAt w' A vs := by
  intro j u hj
  obtain ⟨b, o, e, hc⟩ := hv j u hj
  have hlt := (List.getElem?_eq_some_iff.1 hj).1
  rcases h with h | ⟨g, e2, hB, hs, hx, hp⟩
  · omega
  rw [e] at e2
  injection e2 with e2; injection e2 with e2 e3
  subst e2 e3
  have hh : hit A n b := ⟨by omega, e⟩
  exact ⟨b, 0, e, (World.cell?_of_block (s.block b hs (h1 b hh) (h2 b hh))).trans hc⟩
theorem evAt_sp {w w' : World} {B : Nat} {A C A' C' : Option Addr} {c d p q : Nat} {e : Ev} (hv : EvAt w A c C d e) (s1 : Spot w B 2 A e.ns.length) (s2 : Spot w B 9 C e.ts.length) (s : Sp A' p C' q w w') (t1 : ∀ k, hit A' p k → BoxT w 2 k) (t2 : ∀ k, hit C' q k → BoxT w 9 k) (h1 : ∀ k, hit A e.ns.length k → ¬ hit A' p k) (h2 : ∀ k, hit C e.ts.length k → ¬ hit C' q k) : EvAt w' A c C d e ∧ Spot w' B 2 A e.ns.length ∧ Spot w' B 9 C e.ts.length := by
  have g1 : ∀ k, hit A e.ns.length k → ¬ hit C' q k := fun k hk hq => absurd (boxT_one (s1.box k hk).1 (t2 k hq)) (by decide)
  have g2 : ∀ k, hit C e.ts.length k → ¬ hit A' p k := fun k hk hq => absurd (boxT_one (s2.box k hk).1 (t1 k hq)) (by decide)
  exact ⟨{ hv with ns := vat_sp hv.ns (nums_len _) s1 s h1 g1, ts := vat_sp hv.ts (texts_len _) s2 s g2 h2 }, s1.sp s h1 g1, s2.sp s g2 h2⟩
structure SpI (W : World) (B b : Nat) (v0 v1 v2 v3 : Value) (A : Option Addr) (n : Nat) (C : Option Addr) (m : Nat) (wr : World) : Prop where
  sp : Sp A n C m W wr
  four : Four wr b v0 v1 v2 v3
  s1 : Spot wr B 2 A n
  s2 : Spot wr B 9 C m
theorem SpI.set {W : World} {B b : Nat} {v0 v1 v2 v3 : Value} {A : Option Addr} {n : Nat} {C : Option Addr} {m : Nat} {wr : World} (h : SpI W B b v0 v1 v2 v3 A n C m wr) (g o : Nat) (x : Value) (hg : hit A n g ∨ hit C m g) (hb : g < b) : SpI W B b v0 v1 v2 v3 A n C m (wr.setCell ⟨g, o, none⟩ x) :=
  ⟨h.sp.trans (Sp.set wr o x hg), h.four.touch (Schema.Touch.set wr g o x) (Or.inr hb), h.s1.set g o x, h.s2.set g o x⟩

/-! ### a list in new memory -/
structure LoAt (w : World) (base : Nat) (y : Lx) : Prop where
  v : y.e.v < 256
  k : y.e.k < 256
  fit : Fits64 y.e.ns
  txt : ∀ t ∈ y.e.ts, t.size ≤ maxLen
  ns : OwnE w base 2 (.slice y.A y.e.ns.length y.ca) (nums y.e.ns)
  ts : OwnE w base 9 (.slice y.C y.e.ts.length y.cc) (texts y.e.ts)
theorem LoAt.below {w w' : World} {base : Nat} {y : Lx} (h : LoAt w base y) (hb : Below w.heap.size w w') : LoAt w' base y := ⟨h.v, h.k, h.fit, h.txt, h.ns.below hb, h.ts.below hb⟩
theorem LoAt.grown {w w' : World} {base base' : Nat} {x : Value} {xs : List Lx} {y : Lx} (h : LoAt w base y) (ho : OwnR w base' x xs) (hg : w.grownBy w' x.ownBlock) : LoAt w' base y := ⟨h.v, h.k, h.fit, h.txt, ownE_grown (by decide) h.ns ho hg, ownE_grown (by decide) h.ts ho hg⟩
theorem LoAt.lx {w : World} {base : Nat} {y : Lx} (h : LoAt w base y) : LxAt w y := by
  obtain ⟨A1, c1, q1, q2, q3, q4⟩ := h.ns.vat
  obtain ⟨A2, c2, r1, r2, r3, r4⟩ := h.ts.vat
  rw [nums_len] at q1 q4
  rw [texts_len] at r1 r4
  injection q1 with a1 _ a3
  injection r1 with b1 _ b3
  subst a1 a3 b1 b3
  exact ⟨h.v, h.k, h.fit, h.txt, q2, r2, q3, r3, q4, r4⟩
structure OwI (W : World) (es : List Ev) (i : Nat) (v : Value) (ys : List Lx) (wr : World) : Prop where
  bel : Below W.heap.size W wr
  own : OwnR wr W.heap.size v ys
  eq : ys.map (·.e) = es.take i
  len : ys.length = i
  at_ : ∀ y ∈ ys, LoAt wr W.heap.size y
theorem OwI.below {W : World} {es : List Ev} {i : Nat} {v : Value} {ys : List Lx} {wr w' : World} (h : OwI W es i v ys wr) (hb : Below wr.heap.size wr w') : OwI W es i v ys w' := ⟨below_step h.bel hb, h.own.below hb, h.eq, h.len, fun y hy => (h.at_ y hy).below hb⟩
theorem OwI.snoc {W : World} {es : List Ev} {i : Nat} {v v' : Value} {ys : List Lx} {wr w' : World} {y : Lx} (h : OwI W es i v ys wr) (hO : OwnR w' W.heap.size v' (ys ++ [y])) (hg : wr.grownBy w' v.ownBlock) (he : es[i]? = some y.e) (hy : LoAt wr W.heap.size y) : OwI W es (i + 1) v' (ys ++ [y]) w' := by
  refine ⟨h.bel.trans (h.own.below_grown (Nat.le_refl _) h.bel.size hg), hO, ?_, by rw [List.length_append, h.len]; rfl, fun z hz => ?_⟩
  · rw [List.map_append, h.eq, List.take_add_one, he]; rfl
  · rcases List.mem_append.1 hz with hz | hz
    · exact (h.at_ z hz).grown h.own hg
    · rw [List.mem_singleton.1 hz]; exact hy.grown h.own hg
/-- what owns tells -/
def OwsRes (xs : List Lx) (W : World) (z : Ending) (w' : World) : Prop := ∃ (ys : List Lx) (A : Option Addr) (c : Nat), z = .returned (.slice A ys.length c) ∧ Row w' A ys ∧ ys.map (·.e) = xs.map (·.e) ∧ (A = none → c = 0) ∧ ys.length ≤ c ∧ Below W.heap.size W w'

end Go.Proofs.YtiibeemjkdipnaaGreatDoor.Upcast
