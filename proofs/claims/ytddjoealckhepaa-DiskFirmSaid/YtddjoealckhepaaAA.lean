import Derived.Test.YtddjoealckhepaaZ
import Derived.Test.YtddjoealckhepaaQ
/-
  The law on cuts (DiskCut).
-/
namespace Go.Proofs.Ytddjoealckhepaa.Disk
open Go Go.RowKit Go.Maps Go.Shelf Go.Proofs

theorem cut_act {y : Dk} {c : Nat} (h : y.live c) (n : Nat) (x : OpX) :
    actD { y with cut := true, left := n } x = if (actD y x).1 ≠ 0 then ((actD y x).1, { y with cut := true, left := n }) else if 0 < n then (0, { (actD y x).2 with cut := true, left := n - 1 }) else (45, { y with gone := true, cut := true, left := 0, l := if x.k = 1 then (actD y x).2.l else y.l }) := by
  obtain ⟨yc, l, g, t, m⟩ := y
  obtain ⟨h1, h2, h3, h4⟩ := h
  simp only at h1 h2 h3 h4
  subst h1 h2 h3 h4
  have k1 : cntE ⟨yc, l, false, false, 0⟩ = 0 := rfl
  have k2 : ∀ l', cntD ⟨yc, l, false, false, 0⟩ l' = ⟨yc, l', false, false, 0⟩ := fun _ => rfl
  have j0 : cntE ⟨yc, l, false, true, 0⟩ = 45 := rfl
  have j1 : ∀ l', cntD ⟨yc, l, false, true, 0⟩ l' = ⟨yc, l, true, true, 0⟩ := fun _ => rfl
  have j2 : ∀ m, cntE ⟨yc, l, false, true, m + 1⟩ = 0 := fun _ => rfl
  have j3 : ∀ m l', cntD ⟨yc, l, false, true, m + 1⟩ l' = ⟨yc, l', false, true, m⟩ := fun _ _ => rfl
  unfold actD
  split
  · rename_i hk
    have h1 : ¬ x.k = 1 := by omega
    unfold createD
    cases n <;> (repeat' split) <;> simp_all
  split
  · rename_i h0 hk
    unfold appendD
    cases hg : get l x.n with
    | none => cases n <;> simp [hg, hk]
    | some f =>
      by_cases hc : 1048576 < f.b.length + x.s.length ∨ yc < used l + x.s.length
      · cases n <;> simp [hg, hk, hc]
      · cases n <;> simp [hg, hk, hc, k1, k2, j0, j1, j2, j3]
  split
  · rename_i hk
    have h1 : ¬ x.k = 1 := by omega
    unfold syncD
    cases n <;> (repeat' split) <;> simp_all
  split
  · rename_i hk
    have h1 : ¬ x.k = 1 := by omega
    unfold trimD
    cases hg : get l x.n with
    | none => cases n <;> simp [hg, hk]
    | some f =>
      by_cases hc : x.m < 0 ∨ (f.b.length : Int) < x.m
      · cases n <;> simp [hg, hk, hc]
      · cases n <;> simp [hg, hk, hc, k1, k2, j0, j1, j2, j3]
  split
  · rename_i hk
    have h1 : ¬ x.k = 1 := by omega
    unfold renameD
    cases n <;> (repeat' split) <;> simp_all
  · rename_i hk h1 _ _ _
    unfold deleteD
    cases n <;> (repeat' split) <;> simp_all
theorem gone_act {d : Dk} (h : d.gone = true) (x : OpX) : actD d x = (45, d) := by
  unfold actD createD appendD syncD trimD renameD deleteD
  simp [h]
theorem live_refused {y : Dk} {c : Nat} (h : y.live c) (x : OpX) (hr : (actD y x).1 ≠ 0) : (actD y x).2 = y := by
  have := cut_act h 0 x
  have k1 : cntE y = 0 := by unfold cntE; rw [if_neg (by rw [h.cut]; simp)]
  revert hr
  unfold actD createD appendD syncD trimD renameD deleteD
  (repeat' split) <;> simp_all

/-! ### three disks -/
structure Tr (w0 : World) (a b p q r s : Nat) (w : World) (x y z : Dk) : Prop where
  low : Below w0.heap.size w0 w
  hi : w0.heap.size ≤ a ∧ w0.heap.size ≤ b ∧ w0.heap.size ≤ p ∧ w0.heap.size ≤ q ∧ w0.heap.size ≤ r ∧ w0.heap.size ≤ s
  ne : a ≠ p ∧ b ≠ q ∧ a ≠ r ∧ b ≠ s ∧ p ≠ r ∧ q ≠ s
  d : DkAt w a b x
  m : DkAt w p q y
  n : DkAt w r s z
structure Pr (w0 : World) (a b p q : Nat) (w : World) (x y : Dk) : Prop where
  low : Below w0.heap.size w0 w
  hi : w0.heap.size ≤ a ∧ w0.heap.size ≤ b ∧ w0.heap.size ≤ p ∧ w0.heap.size ≤ q
  ne : a ≠ p ∧ b ≠ q
  d : DkAt w a b x
  s : DkAt w p q y
theorem Pr.below {w0 w w' : World} {a b p q : Nat} {x y : Dk} (h : Pr w0 a b p q w x y) (hb : Below w.heap.size w w') : Pr w0 a b p q w' x y :=
  ⟨below_step h.low hb, h.hi, h.ne, h.d.below hb, h.s.below hb⟩
theorem Pr.onD {w0 w w' : World} {a b p q : Nat} {x y x' : Dk} (h : Pr w0 a b p q w x y) (h1 : DkAt w' a b x') (h2 : Tn a b w w') : Pr w0 a b p q w' x' y :=
  ⟨h.low.trans (h2.low h.low.size h.hi.1 h.hi.2.1), h.hi, h.ne, h1, h.s.tn h.d h2 h.ne.1.symm h.ne.2.symm⟩
theorem Pr.onS {w0 w w' : World} {a b p q : Nat} {x y y' : Dk} (h : Pr w0 a b p q w x y) (h1 : DkAt w' p q y') (h2 : Tn p q w w') : Pr w0 a b p q w' x y' :=
  ⟨h.low.trans (h2.low h.low.size h.hi.2.2.1 h.hi.2.2.2), h.hi, h.ne, h.d.tn h.s h2 h.ne.1 h.ne.2, h1⟩
theorem Pr.copy {w0 w w' : World} {a b p q r s : Nat} {x y z : Dk} (h : Pr w0 a b p q w x y) (h1 : DkAt w' r s z) (h2 : w.heap.size ≤ r) (h3 : w.heap.size ≤ s) (hb : Below w.heap.size w w') : Tr w0 a b p q r s w' x y z := by
  have k1 := h.d.lt
  have k2 := h.s.lt
  have k3 := h.low.size
  exact ⟨below_step h.low hb, ⟨h.hi.1, h.hi.2.1, h.hi.2.2.1, h.hi.2.2.2, by omega, by omega⟩, ⟨h.ne.1, h.ne.2, by omega, by omega, by omega, by omega⟩, h.d.below hb, h.s.below hb, h1⟩
theorem Tr.onN {w0 w w' : World} {a b p q r s : Nat} {x y z z' : Dk} (h : Tr w0 a b p q r s w x y z) (h1 : DkAt w' r s z') (h2 : Tn r s w w') : Tr w0 a b p q r s w' x y z' :=
  ⟨h.low.trans (h2.low h.low.size h.hi.2.2.2.2.1 h.hi.2.2.2.2.2), h.hi, h.ne, h.d.tn h.n h2 h.ne.2.2.1 h.ne.2.2.2.1, h.m.tn h.n h2 h.ne.2.2.2.2.1 h.ne.2.2.2.2.2, h1⟩
theorem Tr.below {w0 w w' : World} {a b p q r s : Nat} {x y z : Dk} (h : Tr w0 a b p q r s w x y z) (hb : Below w.heap.size w w') : Tr w0 a b p q r s w' x y z :=
  ⟨below_step h.low hb, h.hi, h.ne, h.d.below hb, h.m.below hb, h.n.below hb⟩
theorem Tr.toS {w0 w : World} {a b p q r s : Nat} {x y z : Dk} (h : Tr w0 a b p q r s w x y z) : Pr w0 a b p q w x y :=
  ⟨h.low, ⟨h.hi.1, h.hi.2.1, h.hi.2.2.1, h.hi.2.2.2.1⟩, ⟨h.ne.1, h.ne.2.1⟩, h.d, h.m⟩
theorem Tr.toN {w0 w : World} {a b p q r s : Nat} {x y z : Dk} (h : Tr w0 a b p q r s w x y z) : Pr w0 a b r s w x z :=
  ⟨h.low, ⟨h.hi.1, h.hi.2.1, h.hi.2.2.2.2.1, h.hi.2.2.2.2.2⟩, ⟨h.ne.2.2.1, h.ne.2.2.2.1⟩, h.d, h.n⟩
/-- how a disk with a cut stands to the plain one -/
def CutRel (d y : Dk) (L : Int) : Prop := y.live 2000 ∧ ((0 ≤ L ∧ L ≤ 29 ∧ d = { y with cut := true, left := L.toNat }) ∨ (L = -1 ∧ d.gone = true ∧ d.l = y.l ∧ d.cap = y.cap))
theorem crash_rel {d y : Dk} {L : Int} (h : CutRel d y L) : crashD d [] = crashD y [] := by
  obtain ⟨hl, ⟨-, -, rfl⟩ | ⟨-, -, h1, h2⟩⟩ := h
  · rfl
  · unfold crashD; rw [h1]; obtain ⟨c1, l1, g1, t1, n1⟩ := d; obtain ⟨c2, l2, g2, t2, n2⟩ := y; simp only at h1 h2; subst h1 h2; rfl
end Go.Proofs.Ytddjoealckhepaa.Disk
