import Derived.Test.YtddjoealckhepaaO
import Derived.Test.YtddjoealckhepaaH
import Derived.Deep.RegionHeld3
/-
  A copy of a disk.
-/
namespace Go.Proofs.Ytddjoealckhepaa.Disk
open Go Go.RowKit Go.Maps Go.Shelf Go.Proofs

theorem clone_call (a b : Nat) (d : Dk) (w : World) (h : DkAt w a b d) :
    Calls Try.prog 56 #[.map (some b)] w fun e w' => e = .returned (.map (some w.heap.size)) ∧ w'.ownsMap Try.prog 9 fileR w.heap.size d.l.length (toD fD d.l) ∧ Below w.heap.size w w' :=
  (AnyW.maps_Clone_owns Try.cloneA 9 fileR b d.l.length (toD fD d.l) w h.mp).mono fun e w' ⟨h1, h2, _, h4⟩ => ⟨h1, h2, h4⟩
theorem below_new {u w : World} (h : Below u.heap.size u w) (o : Obj) : Below u.heap.size u (w.alloc o) := h.alloc h.size o
def CopyRes (d : Dk) (w : World) (z : Ending) (w' : World) : Prop := ∃ a b, z = .returned (.pointer (some ⟨a, 0, none⟩)) ∧ DkAt w' a b d ∧ w.heap.size ≤ a ∧ w.heap.size ≤ b ∧ Below w.heap.size w w'

set_option maxRecDepth 100000 in
set_option maxHeartbeats 2000000 in
theorem copy_any (a b : Nat) (d : Dk) (w : World) (h : DkAt w a b d) :
    Calls Try.prog 29 #[.pointer (some ⟨a, 0, none⟩)] w (CopyRes d w) := by
  have hmx : Try.prog.follows .mixedOrders = true := by kernel_rfl
  have HS : Hid (∀ w' : World, Below w.heap.size w w' → Below w.heap.size w w' ∧ DkAt w' a b d ∧ w'.cell? ⟨a, 0, none⟩ = some (.int .i64 (d.cap : Int)) ∧ w'.cell? ⟨a, 1, none⟩ = some (.map (some b)) ∧ w'.cell? ⟨a, 2, none⟩ = some (.bool d.gone) ∧ w'.cell? ⟨a, 3, none⟩ = some (.bool d.cut) ∧ w'.cell? ⟨a, 4, none⟩ = some (.int .i64 (d.left : Int))) := fun w' hb =>
    ⟨hb, h.below hb, (h.below hb).cell⟩
  have HO := Lib.hid h.ok
  obtain ⟨-, -, q0, q1, q2, q3, q4⟩ := HS.out w (Below.refl _ _)
  obtain ⟨r1, r2, -⟩ := HS.out w.drew (Below.refl _ _).drew
  have HC : Hid (∀ w' : World, DkAt w' a b d → Calls Try.prog 56 #[.map (some b)] w' fun e w'' => e = .returned (.map (some w'.heap.size)) ∧ w''.ownsMap Try.prog 9 fileR w'.heap.size d.l.length (toD fD d.l) ∧ Below w'.heap.size w' w'') := fun w' h' => clone_call a b d w' h'
  clear h
  go_enter Try.func29, Try.ntmps29
  go_wp2_with fail
  go_region_held3 (fun w' => Below w.heap.size w w' ∧ DkAt w' a b d ∧ w'.cell? ⟨a, 0, none⟩ = some (.int .i64 (d.cap : Int)) ∧ w'.cell? ⟨a, 1, none⟩ = some (.map (some b)) ∧ w'.cell? ⟨a, 2, none⟩ = some (.bool d.gone) ∧ w'.cell? ⟨a, 3, none⟩ = some (.bool d.cut) ∧ w'.cell? ⟨a, 4, none⟩ = some (.int .i64 (d.left : Int)))
    (first | assumption | (refine ⟨?_, ?_, ?_, ?_, ?_, ?_, ?_⟩ <;> assumption) | exact HS.out _ (below_new (by assumption) _))
    ((first | (go_at_call 56; refine (HC.out _ (by assumption)).mono ?_; rintro z w' ⟨rfl, hown, hb4⟩; obtain ⟨p1, p2, p3, p4, p5, p6, p7⟩ := HS.out w' (below_step (by assumption) hb4))))
  all_goals
    clear r1 r2 q0 q1 q2 q3 q4
    have hO := (show World.ownsMap _ Try.prog 9 fileR w.heap.size d.l.length (toD fD d.l) by assumption)
    have hB := (show Below w.heap.size w _ by assumption)
    go_wp2_with fail
    go_ret
    exact ⟨_, w.heap.size, rfl, ⟨bx_own _ _ _, hO.alloc _, HO.out⟩, hB.size, Nat.le_refl _, below_new hB _⟩

/-! ### the power comes back -/
def crashF (f : F) (ks : List Int) : F × List Int :=
  if f.b.length = f.g then (f, ks) else
    match ks with
    | [] => (⟨f.b.take f.g, f.g⟩, [])
    | k :: r => (⟨f.b.take (f.g + (k % 18446744073709551616).toNat % (f.b.length - f.g + 1)), f.g + (k % 18446744073709551616).toNat % (f.b.length - f.g + 1)⟩, r)
def crashL : List (Nm × F) → List Int → List (Nm × F)
  | [], _ => []
  | p :: r, ks => (p.1, (crashF p.2 ks).1) :: crashL r (crashF p.2 ks).2
def crashK : List (Nm × F) → List Int → List Int
  | [], ks => ks
  | p :: r, ks => crashK r (crashF p.2 ks).2
theorem crashL_snoc (l : List (Nm × F)) (p : Nm × F) (ks : List Int) : crashL (l ++ [p]) ks = crashL l ks ++ [(p.1, (crashF p.2 (crashK l ks)).1)] := by
  induction l generalizing ks with
  | nil => rfl
  | cons q r ih => simp only [List.cons_append, crashL, crashK, ih]
theorem crashK_snoc (l : List (Nm × F)) (p : Nm × F) (ks : List Int) : crashK (l ++ [p]) ks = (crashF p.2 (crashK l ks)).2 := by
  induction l generalizing ks with
  | nil => rfl
  | cons q r ih => simp only [List.cons_append, crashK, ih]
theorem crashL_names (l : List (Nm × F)) (ks : List Int) : (crashL l ks).map (·.1) = l.map (·.1) := by
  induction l generalizing ks with
  | nil => rfl
  | cons q r ih => simp only [crashL, List.map_cons, ih]
theorem crashL_len (l : List (Nm × F)) (ks : List Int) : (crashL l ks).length = l.length := by
  have := congrArg List.length (crashL_names l ks)
  simpa using this
theorem crashK_sub (l : List (Nm × F)) (ks : List Int) : ∃ n, crashK l ks = ks.drop n := by
  induction l generalizing ks with
  | nil => exact ⟨0, rfl⟩
  | cons q r ih =>
    simp only [crashK, crashF]
    split
    · exact ih ks
    · cases ks with
      | nil => obtain ⟨n, h⟩ := ih []; exact ⟨n, h⟩
      | cons k t => obtain ⟨n, h⟩ := ih t; exact ⟨n + 1, h⟩
/-- the files when the first i names have had their turn -/
def crashAt (l : List (Nm × F)) (ks : List Int) (i : Nat) : List (Nm × F) := crashL (l.take i) ks ++ l.drop i
theorem up_names {l m : List (Nm × F)} (h : l.map (·.1) = m.map (·.1)) (hm : Up m) : Up l := by
  have h1 : (m.map (·.1)).Pairwise (fun a b => bytesBefore a b = true) := List.pairwise_map.2 hm
  rw [← h] at h1
  exact List.pairwise_map.1 h1
theorem crashAt_names (l : List (Nm × F)) (ks : List Int) (i : Nat) : (crashAt l ks i).map (·.1) = l.map (·.1) := by
  unfold crashAt
  rw [List.map_append, crashL_names, ← List.map_append, List.take_append_drop]
theorem crashAt_get {l : List (Nm × F)} (h : Up l) (ks : List Int) (i : Nat) (hi : i < l.length) : get (crashAt l ks i) l[i].1 = some l[i].2 := by
  refine (get_some (up_names (crashAt_names l ks i) h)).2 ?_
  unfold crashAt
  rw [List.drop_eq_getElem_cons hi]
  exact List.mem_append_right _ (List.mem_cons_self ..)
theorem put_mid {α : Type} {x y : List (Nm × α)} {n : Nm} {f g : α} (h : Up (x ++ (n, g) :: y)) : put n f (x ++ (n, g) :: y) = x ++ (n, f) :: y := by
  have hu : Up (x ++ (n, f) :: y) := by
    obtain ⟨h1, h2, h3⟩ := List.pairwise_append.1 h
    obtain ⟨h4, h5⟩ := List.pairwise_cons.1 h2
    refine List.pairwise_append.2 ⟨h1, List.pairwise_cons.2 ⟨h4, h5⟩, fun a ha b hb => ?_⟩
    rcases List.mem_cons.1 hb with rfl | hb
    · exact h3 a ha (n, g) (List.mem_cons_self ..)
    · exact h3 a ha b (List.mem_cons_of_mem _ hb)
  refine up_ext (Up.put h n f) hu fun p => ?_
  obtain ⟨h1, h2, h3⟩ := List.pairwise_append.1 h
  obtain ⟨h4, h5⟩ := List.pairwise_cons.1 h2
  rw [mem_put, List.mem_append, List.mem_cons, List.mem_append, List.mem_cons]
  constructor
  · rintro (e | ⟨h6 | h6 | h6, h7⟩)
    · exact Or.inr (Or.inl e)
    · exact Or.inl h6
    · exact absurd (by rw [h6]) h7
    · exact Or.inr (Or.inr h6)
  · rintro (h6 | h6 | h6)
    · exact Or.inr ⟨Or.inl h6, before_ne (h3 p h6 _ (List.mem_cons_self ..))⟩
    · exact Or.inl h6
    · exact Or.inr ⟨Or.inr (Or.inr h6), (before_ne (h4 p h6)).symm⟩
theorem crashAt_step {l : List (Nm × F)} (h : Up l) (ks : List Int) (i : Nat) (hi : i < l.length) : put l[i].1 (crashF l[i].2 (crashK (l.take i) ks)).1 (crashAt l ks i) = crashAt l ks (i + 1) ∧ crashK (l.take (i + 1)) ks = (crashF l[i].2 (crashK (l.take i) ks)).2 := by
  have e : l.take (i + 1) = l.take i ++ [l[i]] := by rw [List.take_add_one, List.getElem?_eq_getElem hi]; rfl
  refine ⟨?_, by rw [e, crashK_snoc]⟩
  have hu := up_names (crashAt_names l ks i) h
  unfold crashAt at hu ⊢
  rw [List.drop_eq_getElem_cons hi] at hu ⊢
  rw [e, crashL_snoc, put_mid (n := l[i].1) (g := l[i].2) hu]
  simp
theorem crashF_less (f : F) (h : f.ok) (ks : List Int) : (crashF f ks).1.ok ∧ (crashF f ks).1.b.length ≤ f.b.length := by
  have h1 := h.1
  have h2 := h.2
  unfold crashF
  split
  · exact ⟨h, Nat.le_refl _⟩
  · have key : ∀ n, n ≤ f.b.length → (⟨f.b.take n, n⟩ : F).ok ∧ (f.b.take n).length ≤ f.b.length := fun n hn => ⟨h.upTo hn, by simp only [List.length_take]; omega⟩
    cases ks with
    | nil => exact key _ h1
    | cons k r =>
      refine key _ ?_
      have := Nat.mod_lt (k % 18446744073709551616).toNat (show 0 < f.b.length - f.g + 1 by omega)
      omega
theorem crashAt_ok {d : Dk} (h : d.ok) (ks : List Int) (i : Nat) : ({ d with l := crashAt d.l ks i } : Dk).ok := by
  induction i with
  | zero =>
    have : crashAt d.l ks 0 = d.l := rfl
    rw [this]; exact h
  | succ i ih =>
    by_cases hi : i < d.l.length
    · have hs := (crashAt_step h.up ks i hi).1
      have hg := crashAt_get h.up ks i hi
      have hl := crashF_less d.l[i].2 (h.fs _ (List.getElem_mem hi)) (crashK (d.l.take i) ks)
      have h3 := put_le ih.up hg hl.2
      rw [← hs]
      exact ih.put (h.nm _ (List.getElem_mem hi)) hl.1 (by rw [h3.1]; exact ih.len) (Nat.le_trans h3.2 ih.used)
    · have e : crashAt d.l ks (i + 1) = crashAt d.l ks i := by unfold crashAt; rw [List.take_of_length_le (by omega), List.take_of_length_le (by omega), List.drop_eq_nil_of_le (by omega), List.drop_eq_nil_of_le (by omega)]
      rw [e]; exact ih
end Go.Proofs.Ytddjoealckhepaa.Disk
