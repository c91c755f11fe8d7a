import Derived.Test.YtiibeemjkdipnaaDoorUN
import Derived.Test.YtiibeemjkdipnaaDoorUO
/-
  The walk of the statement UpcastOne.
-/
namespace Go.Proofs.YtiibeemjkdipnaaDoor.Upcast
open Go Go.RowKit
open Go.Proofs.YtiibeemjkdipnaaDoor.Schema

theorem new_newE {e : Ev} (h : may e = true) : newE (newE e) = newE e := newE3 (new_v h)
theorem new_upE {e : Ev} (h : may e = true) (hv : e.v < 3) : newE (upE e) = newE e := by
  have := (may_out h).v1
  have h2 : e.v = 1 ∨ e.v = 2 := by omega
  rcases h2 with h2 | h2
  · rw [newE1 h2, newE2 (show (upE e).v = 2 by show e.v + 1 = 2; omega)]
  · rw [newE2 h2, newE3 (show (upE e).v = 3 by show e.v + 1 = 3; omega)]
theorem new_down {e d : Ev} (h : may e = true) (hd : downX e = .ok d) : newE d = newE e := by
  have ho := down_out (may_out h).v1 hd
  rw [← new_upE (down_may h hd) ho.v3, down_up (may_out h).ln ho]
theorem dtX_new : ∀ (n : Nat) (e d : Ev) (v : Nat), may e = true → dtX n e v = .ok d → newE d = newE e
  | 0, e, d, v, hm, h => by injection h with h; rw [h]
  | n + 1, e, d, v, hm, h => by
    unfold dtX at h
    split at h
    · cases hd : downX e with
      | error x => rw [hd] at h; cases h
      | ok f =>
        rw [hd] at h
        exact (dtX_new n f d v (down_may hm hd) h).trans (new_down hm hd)
    · injection h with h; rw [h]
theorem dto_self {e : Ev} (h : may e = true) : dto (newE e) e.v = .ok e := by
  have ho := may_out h
  have h1 := ho.v1
  have h3 := ho.v3
  have h2 : e.v = 1 ∨ e.v = 2 ∨ e.v = 3 := by omega
  rcases h2 with h2 | h2 | h2
  · have hm := up_may h (by omega)
    have hv : (upE e).v = 2 := by show e.v + 1 = 2; omega
    have hv2 : (upE (upE e)).v = 3 := by show (upE e).v + 1 = 3; omega
    rw [newE1 h2, dto_step (by omega) (by omega) (up_down hm (by omega)), dto_step (by omega) (by omega) (up_down h (by omega)), dto_end (by omega)]
  · have hv : (upE e).v = 3 := by show e.v + 1 = 3; omega
    rw [newE2 h2, dto_step (by omega) (by omega) (up_down h (by omega)), dto_end (by omega)]
  · rw [newE3 h2, dto_end (by omega)]
theorem isV_may {e : Ev} (h : may e = true) : isV e.v = true := by
  have := (may_out h).v1
  have := (may_out h).v3
  unfold isV
  rw [decide_eq_true_iff]; omega
theorem to_new {e g : Ev} {x : Nat} (h : toX e x = .ok g) : may g = true ∧ newE g = newE e ∧ g.v = x := by
  obtain ⟨h1, h2, h3⟩ := to_out h
  have hn := new_may h1
  refine ⟨(to_may h).1, (dtX_new _ _ _ _ hn h3).trans (new_newE h1), ?_⟩
  unfold isV at h2
  rw [decide_eq_true_iff] at h2
  have hv := new_v h1
  by_cases hx : x < 3
  · exact dto_v hn (by omega) h3
  · rw [dto_end (by omega)] at h3
    injection h3 with h3
    rw [← h3, hv]; omega
theorem to_self {e : Ev} (h : may e = true) : toX e e.v = .ok e := by rw [to_yes h (isV_may h)]; exact dto_self h
theorem to_like {e f : Ev} {x : Nat} (h1 : may e = true) (h2 : may f = true) (h : newE e = newE f) : toX e x = toX f x := by
  unfold toX
  rw [if_pos h1, if_pos h2, h]
theorem one_said {e f g i : Ev} {x h j : Nat} (h1 : may e = true) (h2 : may f = true) (hx : x = e.v ∨ x = f.v) (hg : Got (toX e x) g h) (hi : Got (toX f x) i j) : (decide (h = 0) && decide (j = 0) && same g i) = same (newE e) (newE f) := by
  by_cases hn : newE e = newE f
  · rw [hn, same_self]
    have hl := to_like (x := x) h1 h2 hn
    rcases hx with rfl | rfl
    · rw [← hl] at hi
      obtain ⟨rfl, rfl⟩ := hg.of (to_self h1)
      obtain ⟨rfl, rfl⟩ := hi.of (to_self h1)
      rw [same_self]; rfl
    · rw [hl] at hg
      obtain ⟨rfl, rfl⟩ := hg.of (to_self h2)
      obtain ⟨rfl, rfl⟩ := hi.of (to_self h2)
      rw [same_self]; rfl
  · rw [same_no hn]
    by_cases q1 : h = 0
    · by_cases q2 : j = 0
      · have a1 := (to_new (hg.ok q1)).2.1
        have a2 := (to_new (hi.ok q2)).2.1
        rw [same_no (fun he => hn (by rw [← a1, ← a2, he]))]
        simp
      · rw [decide_eq_false q2]; simp
    · rw [decide_eq_false q1]; simp
theorem got_like {o : Except Nat Ev} {u v : Ev} {n m : Nat} (h1 : Got o u n) (h2 : Got o v m) : u = v ∧ n = m := by
  rcases h1 with h1 | h1
  · obtain ⟨rfl, rfl⟩ := h2.of h1.2
    exact ⟨rfl, h1.1⟩
  · obtain ⟨rfl, rfl⟩ := h2.err h1.2.2.1
    exact ⟨h1.2.2.2, rfl⟩
theorem nw_may {e u : Ev} {n : Nat} (h : Got (nwX e) u n) : may e = decide (n = 0) := by
  cases hm : may e with
  | true => obtain ⟨rfl, -⟩ := h.of (newest_is hm); rfl
  | false => obtain ⟨rfl, -⟩ := h.err (newest_no hm); rfl
theorem two_cells (w : World) (a b : Value) (T : TypeId) : (w.alloc (.cells #[a, b] T)).cell? ⟨w.heap.size, 0, none⟩ = some a ∧ (w.alloc (.cells #[a, b] T)).cell? ⟨w.heap.size, 1, none⟩ = some b := by
  have h : ∀ j, (w.alloc (.cells #[a, b] T)).cell? ⟨w.heap.size, j, none⟩ = #[a, b][j]? := fun j => by
    unfold World.cell?
    rw [show (w.alloc _).heap[(⟨w.heap.size, j, none⟩ : Addr).block]? = _ from (MapKept.heap_alloc w _).1]
    rfl
  exact ⟨h 0, h 1⟩
theorem max_min (a b : Nat) : ∃ x y : Nat, (∀ w' : World, (Builtin.max_ #[5, 5] 5 #[.int .u8 (a : Int), .int .u8 (b : Int)]).run Tryd.prog w' = .ok (.int .u8 (x : Int)) w') ∧ (∀ w' : World, (Builtin.min_ #[5, 5] 5 #[.int .u8 (a : Int), .int .u8 (b : Int)]).run Tryd.prog w' = .ok (.int .u8 (y : Int)) w') ∧ (x = a ∨ x = b) ∧ (y = a ∨ y = b) := by
  refine ⟨max a b, min a b, fun w' => ?_, fun w' => ?_, by omega, by omega⟩
  · rw [run_max_int2]
    congr 2
    split <;> omega
  · rw [run_min_int2]
    congr 2
    split <;> omega
/-- while both are said in each of the two versions -/
structure OneI (w : World) (A : Option Addr) (ca : Nat) (B : Option Addr) (cb : Nat) (e : Ev) (C : Option Addr) (cc : Nat) (D : Option Addr) (cd : Nat) (f : Ev) (bs : Nat) (wr : World) : Prop where
  env : Env wr
  bel : Below w.heap.size w wr
  ea : EvAt wr A ca B cb e
  ec : EvAt wr C cc D cd f
  p : Four wr w.heap.size (.int .u8 e.v) (.int .u8 e.k) (.slice A e.ns.length ca) (.slice B e.ts.length cb)
  q : Four wr (w.heap.size + 1) (.int .u8 f.v) (.int .u8 f.k) (.slice C f.ns.length cc) (.slice D f.ts.length cd)
  cc : ∀ k, k < 2 → ∃ x : Nat, (x = e.v ∨ x = f.v) ∧ wr.cell? ⟨bs, k, none⟩ = some (.int .u8 (x : Int))
theorem OneI.below {w : World} {A : Option Addr} {ca : Nat} {B : Option Addr} {cb : Nat} {e : Ev} {C : Option Addr} {cc : Nat} {D : Option Addr} {cd : Nat} {f : Ev} {bs : Nat} {wr w' : World} (h : OneI w A ca B cb e C cc D cd f bs wr) (hb : Below wr.heap.size wr w') : OneI w A ca B cb e C cc D cd f bs w' :=
  ⟨h.env.below hb, below_step h.bel hb, h.ea.below hb, h.ec.below hb, h.p.below hb, h.q.below hb, fun k hk => by obtain ⟨x, h1, h2⟩ := h.cc k hk; exact ⟨x, h1, cell_kept h2 hb⟩⟩

end Go.Proofs.YtiibeemjkdipnaaDoor.Upcast
