import Derived.Test.YtddjoealckhepaaX
import Derived.Test.YtddjoealckhepaaP
import Derived.Deep.RegionHeld3
/-
  The law on copies (DiskCopies): a copy of a disk, a disk of a disk's files.
-/
namespace Go.Proofs.Ytddjoealckhepaa.Disk
open Go Go.RowKit Go.Maps Go.Shelf Go.Proofs

/-! ### a disk of a disk's files -/
theorem tell_file {p : Nm × F} (h : p.2.ok) : fileOf (tell p) = p := by
  obtain ⟨n, b, g⟩ := p
  have h1 : g ≤ b.length := h.1
  simp only [fileOf, tell, List.take_append_drop, List.length_take, Nat.min_eq_left h1]
theorem told_file {l : List (Nm × F)} (h : ∀ p ∈ l, p.2.ok) : fileL (told l) = l := by
  unfold fileL told
  rw [List.map_map]
  exact (List.map_congr_left fun p hp => tell_file (h p hp)).trans (List.map_id l)
theorem told_len (l : List (Nm × F)) : (told l).length = l.length := List.length_map _
theorem told_may {d : Dk} (h : d.ok) : mayFi (told d.l) = true := by
  refine mayFi_yes (by rw [told_len]; exact h.len) fun i hi => ?_
  have hi' : i < d.l.length := by rwa [told_len] at hi
  have hx : (told d.l)[i] = tell d.l[i] := by simp [told]
  unfold fiOk
  rw [getD_at _ i hi, hx]
  have hf := h.fs _ (List.getElem_mem hi')
  have hn := h.nm _ (List.getElem_mem hi')
  simp only [Bool.and_eq_true, Bool.or_eq_true, decide_eq_true_eq]
  refine ⟨⟨?_, hn⟩, by have h1 : d.l[i].2.g ≤ d.l[i].2.b.length := hf.1
                       have h2 : d.l[i].2.b.length ≤ 1048576 := hf.2
                       simp only [tell, List.length_take, List.length_drop]; omega⟩
  by_cases h0 : i = 0
  · exact Or.inl h0
  · refine Or.inr ?_
    have hj : i - 1 < (told d.l).length := by omega
    rw [getD_at _ (i - 1) hj, show (told d.l)[i - 1] = tell (d.l[i - 1]'(by omega)) by simp [told]]
    exact List.pairwise_iff_getElem.1 h.up (i - 1) i (by omega) hi' (by omega)
theorem told_short {d : Dk} (h : d.ok) : Short (told d.l) := fun x hx => by
  obtain ⟨p, hp, rfl⟩ := List.mem_map.1 hx
  have h1 := h.fs p hp
  have h2 := h.nm p hp
  have h3 : p.2.b.length ≤ 1048576 := h1.2
  unfold mayN at h2
  simp only [Bool.and_eq_true, decide_eq_true_eq] at h2
  refine ⟨by show p.1.length ≤ _; omega, by simp only [tell, List.length_take]; omega, by simp only [tell, List.length_drop]; omega⟩
theorem told_load {d : Dk} (h : d.ok) {c : Int} (h0 : 0 ≤ c) (hc : (d.cap : Int) ≤ c) : loadE c (told d.l) = 0 := by
  unfold loadE
  have := h.used
  rw [if_neg (by omega), told_may h, if_neg (by decide), told_file h.fs, if_neg (by omega)]

/-! ### a disk that nothing ails -/
structure Dk.live (d : Dk) (c : Nat) : Prop where
  cap : d.cap = c
  gone : d.gone = false
  cut : d.cut = false
  left : d.left = 0
theorem Dk.live.cnt {d : Dk} {c : Nat} (h : d.live c) (l : List (Nm × F)) : (cntD d l).live c := by
  unfold cntD
  rw [if_neg (by rw [h.cut]; simp)]
  exact ⟨h.cap, h.gone, h.cut, by show d.left - 1 = 0; rw [h.left]⟩
theorem Dk.live.act {d : Dk} {c : Nat} (h : d.live c) (x : OpX) : (actD d x).2.live c := by
  have hl := fun l => h.cnt l
  unfold actD
  split
  · unfold createD
    repeat' split
    all_goals first | exact h | exact hl _
  split
  · unfold appendD
    repeat' split
    all_goals first | exact h | exact ⟨(hl _).cap, (hl _).gone, (hl _).cut, (hl _).left⟩
  split
  · unfold syncD
    repeat' split
    all_goals first | exact h | exact hl _
  split
  · unfold trimD
    repeat' split
    all_goals first | exact h | exact hl _
  split
  · unfold renameD
    repeat' split
    all_goals first | exact h | exact hl _
  · unfold deleteD
    repeat' split
    all_goals first | exact h | exact hl _
theorem Dk.live.load {d : Dk} {c : Nat} (h : d.live c) (ho : d.ok) : (⟨c, fileL (told d.l), false, false, 0⟩ : Dk) = d := by
  rw [told_file ho.fs]
  obtain ⟨dc, l, g, t, n⟩ := d
  obtain ⟨h1, h2, h3, h4⟩ := h
  simp only at h1 h2 h3 h4
  subst h1 h2 h3 h4
  rfl

/-! ### three disks and a row of files -/
theorem RowF.tn {w w' : World} {A : Option Addr} {xs : List Fi} {a b : Nat} (h : RowF w A xs) (ht : Tn a b w w') (hA : ∀ q, A = some q → q.block ≠ a ∧ q.block ≠ b) : RowF w' A xs := fun i hi => by
  obtain ⟨k, o, e, h1, h2, h3, h4⟩ := h i hi
  obtain ⟨n1, n2⟩ := hA _ e
  have hk : w'.heap[k]? = w.heap[k]? := ht.block k h1 n1 n2
  have key : ∀ j, w'.cell? ⟨k, j, none⟩ = w.cell? ⟨k, j, none⟩ := fun j => by
    unfold World.cell?
    simp only [hk]
  exact ⟨k, o, e, Nat.lt_of_lt_of_le h1 ht.size, (key _).trans h2, (key _).trans h3, (key _).trans h4⟩
structure Nb (B a0 b0 a1 b1 a3 b3 : Nat) (A : Option Addr) : Prop where
  lo : B ≤ a0 ∧ B ≤ b0 ∧ B ≤ a1 ∧ B ≤ b1 ∧ B ≤ a3 ∧ B ≤ b3
  ne : a0 ≠ a1 ∧ b0 ≠ b1 ∧ a0 ≠ a3 ∧ b0 ≠ b3 ∧ a1 ≠ a3 ∧ b1 ≠ b3
  row : ∀ q, A = some q → (q.block ≠ a1 ∧ q.block ≠ b1) ∧ q.block ≠ a3 ∧ q.block ≠ b3
structure Fx (w0 : World) (a0 b0 a1 b1 a3 b3 : Nat) (A : Option Addr) (e : Dk) (w : World) (x y : Dk) : Prop where
  low : Below w0.heap.size w0 w
  d : DkAt w a0 b0 e
  c : DkAt w a3 b3 x
  s : DkAt w a1 b1 y
  f : RowF w A (told e.l)
theorem Fx.below {w0 w w' : World} {a0 b0 a1 b1 a3 b3 : Nat} {A : Option Addr} {e x y : Dk} (h : Fx w0 a0 b0 a1 b1 a3 b3 A e w x y) (hb : Below w.heap.size w w') : Fx w0 a0 b0 a1 b1 a3 b3 A e w' x y :=
  ⟨below_step h.low hb, h.d.below hb, h.c.below hb, h.s.below hb, h.f.below hb⟩
theorem Fx.same {w0 w w' : World} {a0 b0 a1 b1 a3 b3 : Nat} {A : Option Addr} {e x y : Dk} (h : Fx w0 a0 b0 a1 b1 a3 b3 A e w x y) (n : Nat) (e' : w' = w.drewN n) : Fx w0 a0 b0 a1 b1 a3 b3 A e w' x y :=
  h.below (by rw [e']; exact below_dn _ _ _)
theorem Fx.onC {w0 w w' : World} {a0 b0 a1 b1 a3 b3 : Nat} {A : Option Addr} {e x y x' : Dk} (N : Nb w0.heap.size a0 b0 a1 b1 a3 b3 A) (h : Fx w0 a0 b0 a1 b1 a3 b3 A e w x y) (h1 : DkAt w' a3 b3 x') (h2 : Tn a3 b3 w w') : Fx w0 a0 b0 a1 b1 a3 b3 A e w' x' y :=
  ⟨h.low.trans (h2.low h.low.size N.lo.2.2.2.2.1 N.lo.2.2.2.2.2), h.d.tn h.c h2 N.ne.2.2.1 N.ne.2.2.2.1, h1, h.s.tn h.c h2 N.ne.2.2.2.2.1 N.ne.2.2.2.2.2, h.f.tn h2 fun q e => (N.row q e).2⟩
theorem Fx.onS {w0 w w' : World} {a0 b0 a1 b1 a3 b3 : Nat} {A : Option Addr} {e x y y' : Dk} (N : Nb w0.heap.size a0 b0 a1 b1 a3 b3 A) (h : Fx w0 a0 b0 a1 b1 a3 b3 A e w x y) (h1 : DkAt w' a1 b1 y') (h2 : Tn a1 b1 w w') : Fx w0 a0 b0 a1 b1 a3 b3 A e w' x y' :=
  ⟨h.low.trans (h2.low h.low.size N.lo.2.2.1 N.lo.2.2.2.1), h.d.tn h.s h2 N.ne.1 N.ne.2.1, h.c.tn h.s h2 N.ne.2.2.2.2.1.symm N.ne.2.2.2.2.2.symm, h1, h.f.tn h2 fun q e => (N.row q e).1⟩
end Go.Proofs.Ytddjoealckhepaa.Disk
