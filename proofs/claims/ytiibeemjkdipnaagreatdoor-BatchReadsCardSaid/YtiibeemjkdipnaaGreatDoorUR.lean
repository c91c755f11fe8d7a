import Derived.Test.YtiibeemjkdipnaaGreatDoorUO
/-
  The examples of layer 7: awake.
-/
namespace Go.Proofs.YtiibeemjkdipnaaGreatDoor.Upcast
open Go Go.RowKit
open Go.Proofs.YtiibeemjkdipnaaGreatDoor.Schema

theorem vat_row (w : World) (vs : List Value) (T : TypeId) : VAt (w.alloc (.cells vs.toArray T)) (some ⟨w.heap.size, 0, none⟩) vs := fun k u h => by
  refine ⟨_, 0, rfl, ?_⟩
  unfold World.cell?
  rw [show (w.alloc _).heap[(⟨w.heap.size, 0 + k, none⟩ : Addr).block]? = _ from (MapKept.heap_alloc w _).1]
  show vs.toArray[0 + k]? = some u
  rw [Nat.zero_add, List.getElem?_toArray]
  exact h
def smallB (ns : List Int) : Bool := ns.all fun x => decide (0 ≤ x) && decide (x ≤ 1000)
theorem small_fits {ns : List Int} (h : smallB ns = true) : Fits64 ns := fun x hx => by
  have := List.all_eq_true.1 h x hx
  simp only [Bool.and_eq_true, decide_eq_true_eq] at this
  omega
theorem ev_lit (w : World) (v k : Nat) (ns : List Int) (hv : v < 256) (hk : k < 256) (hs : smallB ns = true) : EvAt (w.alloc (.cells (nums ns).toArray 2)) (some ⟨w.heap.size, 0, none⟩) ns.length none 0 ⟨v, k, ns, []⟩ :=
  ⟨hv, hk, small_fits hs, fun t ht => (by cases ht), vat_row w _ _, VAt.nil _ _, fun h => (by cases h), fun _ => rfl, Nat.le_refl _, Nat.le_refl _⟩
theorem row_one (w : World) (x : Lx) (h : LxAt w x) : Row (w.alloc (.cells #[.int .u8 x.e.v, .int .u8 x.e.k, .slice x.A x.e.ns.length x.ca, .slice x.C x.e.ts.length x.cc] 39)) (some ⟨w.heap.size, 0, none⟩) [x] :=
  ⟨by have := lx_new w x; simpa [cellsX] using this, fun y hy => by rw [List.mem_singleton.1 hy]; exact h.below ((Below.refl _ _).alloc (Nat.le_refl _) _)⟩

end Go.Proofs.YtiibeemjkdipnaaGreatDoor.Upcast

/-
  The walk of the statement UpcastOne.
-/
namespace Go.Proofs.YtiibeemjkdipnaaGreatDoor.Upcast
open Go Go.RowKit
open Go.Proofs.YtiibeemjkdipnaaGreatDoor.Schema

theorem new_newE {e : Ev} (h : may e = true) : newE (newE e) = newE e := newE3 (new_v h)
theorem new_upE {e : Ev} (h : may e = true) (hv : e.v < 3) : newE (upE e) = newE e := by
  have := (may_out h).v1
  have h2 : e.v = 1 ∨ e.v = 2 := by omega
  rcases h2 with h2 | h2
  · rw [newE1 h2, newE2 (show (upE e).v = 2 by show e.v + 1 = 2; omega)]
  · rw [newE2 h2, newE3 (show (upE e).v = 3 by show e.v + 1 = 3; omega)]
theorem new_down {e d : Ev} (h : may e = true) (hd : downX e = .ok d) : newE d = newE e := by
  have ho := down_out (may_out h).v1 hd
  rw [← new_upE (down_may h hd) ho.v3, down_up (may_out h).ln ho]
theorem dtX_new : ∀ (n : Nat) (e d : Ev) (v : Nat), may e = true → dtX n e v = .ok d → newE d = newE e
  | 0, e, d, v, hm, h => by injection h with h; rw [h]
  | n + 1, e, d, v, hm, h => by
    unfold dtX at h
    split at h
    · cases hd : downX e with
      | error x => rw [hd] at h; cases h
      | ok f =>
        rw [hd] at h
        exact (dtX_new n f d v (down_may hm hd) h).trans (new_down hm hd)
    · injection h with h; rw [h]
theorem dto_self {e : Ev} (h : may e = true) : dto (newE e) e.v = .ok e := by
  have ho := may_out h
  have h1 := ho.v1
  have h3 := ho.v3
  have h2 : e.v = 1 ∨ e.v = 2 ∨ e.v = 3 := by omega
  rcases h2 with h2 | h2 | h2
  · have hm := up_may h (by omega)
    have hv : (upE e).v = 2 := by show e.v + 1 = 2; omega
    have hv2 : (upE (upE e)).v = 3 := by show (upE e).v + 1 = 3; omega
    rw [newE1 h2, dto_step (by omega) (by omega) (up_down hm (by omega)), dto_step (by omega) (by omega) (up_down h (by omega)), dto_end (by omega)]
  · have hv : (upE e).v = 3 := by show e.v + 1 = 3; omega
    rw [newE2 h2, dto_step (by omega) (by omega) (up_down h (by omega)), dto_end (by omega)]
  · rw [newE3 h2, dto_end (by omega)]
theorem isV_may {e : Ev} (h : may e = true) : isV e.v = true := by
  have := (may_out h).v1
  have := (may_out h).v3
  unfold isV
  rw [decide_eq_true_iff]; omega
theorem to_new {e g : Ev} {x : Nat} (h : toX e x = .ok g) : may g = true ∧ newE g = newE e ∧ g.v = x := by
  obtain ⟨h1, h2, h3⟩ := to_out h
  have hn := new_may h1
  refine ⟨(to_may h).1, (dtX_new _ _ _ _ hn h3).trans (new_newE h1), ?_⟩
  unfold isV at h2
  rw [decide_eq_true_iff] at h2
  have hv := new_v h1
  by_cases hx : x < 3
  · exact dto_v hn (by omega) h3
  · rw [dto_end (by omega)] at h3
    injection h3 with h3
    rw [← h3, hv]; omega
theorem to_self {e : Ev} (h : may e = true) : toX e e.v = .ok e := by rw [to_yes h (isV_may h)]; exact dto_self h
theorem to_like {e f : Ev} {x : Nat} (h1 : may e = true) (h2 : may f = true) (h : newE e = newE f) : toX e x = toX f x := by
  unfold toX
  rw [if_pos h1, if_pos h2, h]
/-- while both are said in each of the two versions -/
structure OneI (w : World) (A : Option Addr) (ca : Nat) (B : Option Addr) (cb : Nat) (e : Ev) (C : Option Addr) (cc : Nat) (D : Option Addr) (cd : Nat) (f : Ev) (bs : Nat) (wr : World) : Prop where
  env : Env wr
  bel : Below w.heap.size w wr
  ea : EvAt wr A ca B cb e
  ec : EvAt wr C cc D cd f
  p : Four wr w.heap.size (.int .u8 e.v) (.int .u8 e.k) (.slice A e.ns.length ca) (.slice B e.ts.length cb)
  q : Four wr (w.heap.size + 1) (.int .u8 f.v) (.int .u8 f.k) (.slice C f.ns.length cc) (.slice D f.ts.length cd)
  cc : ∀ k, k < 2 → ∃ x : Nat, (x = e.v ∨ x = f.v) ∧ wr.cell? ⟨bs, k, none⟩ = some (.int .u8 (x : Int))
theorem OneI.below {w : World} {A : Option Addr} {ca : Nat} {B : Option Addr} {cb : Nat} {e : Ev} {C : Option Addr} {cc : Nat} {D : Option Addr} {cd : Nat} {f : Ev} {bs : Nat} {wr w' : World} (h : OneI w A ca B cb e C cc D cd f bs wr) (hb : Below wr.heap.size wr w') : OneI w A ca B cb e C cc D cd f bs w' :=
  ⟨h.env.below hb, below_step h.bel hb, h.ea.below hb, h.ec.below hb, h.p.below hb, h.q.below hb, fun k hk => by obtain ⟨x, h1, h2⟩ := h.cc k hk; exact ⟨x, h1, cell_kept h2 hb⟩⟩

end Go.Proofs.YtiibeemjkdipnaaGreatDoor.Upcast

/-
  Lists that are said: the mathematics; Lowest in one form; many.
-/
namespace Go.Proofs.YtiibeemjkdipnaaGreatDoor.Upcast
open Go Go.RowKit
open Go.Proofs.YtiibeemjkdipnaaGreatDoor.Schema

theorem getD_front (l : List Ev) (d : Ev) (i : Nat) (h : i < l.length) : (l ++ [d]).getD i ev0 = l.getD i ev0 := by
  rw [List.getD_eq_getElem?_getD, List.getD_eq_getElem?_getD, List.getElem?_append_left h]
theorem getD_last (l : List Ev) (d : Ev) (i : Nat) (h : l.length = i) : (l ++ [d]).getD i ev0 = d := by
  subst h
  rw [List.getD_eq_getElem?_getD, List.getElem?_append_right (Nat.le_refl _), Nat.sub_self]; rfl
theorem saidN_at {f : Ev → Except Nat Ev} {es : List Ev} : ∀ {n : Nat} {l : List Ev}, saidN f es n = .ok l → ∀ i, i < n → f (es.getD i ev0) = .ok (l.getD i ev0)
  | 0, l, h, i, hi => absurd hi (Nat.not_lt_zero _)
  | n + 1, l, h, i, hi => by
    unfold saidN at h
    cases hs : saidN f es n with
    | error x => rw [hs] at h; cases h
    | ok l' =>
      rw [hs] at h
      simp only at h
      cases hf : f (es.getD n ev0) with
      | error x => rw [hf] at h; cases h
      | ok d =>
        rw [hf] at h
        injection h with h
        subst h
        have hl := saidN_len hs
        by_cases hin : i < n
        · rw [getD_front _ _ _ (by omega)]
          exact saidN_at hs i hin
        · obtain rfl : i = n := by omega
          rw [getD_last _ _ _ hl]
          exact hf
theorem saidN_of {f : Ev → Except Nat Ev} {es : List Ev} : ∀ {n : Nat}, (∀ i, i < n → ∃ d, f (es.getD i ev0) = .ok d) → ∃ l, saidN f es n = .ok l
  | 0, h => ⟨[], rfl⟩
  | n + 1, h => by
    obtain ⟨l, hl⟩ := saidN_of (n := n) (fun i hi => h i (by omega))
    obtain ⟨d, hd⟩ := h n (Nat.lt_succ_self _)
    exact ⟨l ++ [d], by unfold saidN; rw [hl]; simp only; rw [hd]⟩
theorem saidN_no {f : Ev → Except Nat Ev} {es : List Ev} : ∀ {n x : Nat}, saidN f es n = .error x → ∃ i, i < n ∧ f (es.getD i ev0) = .error x
  | 0, x, h => by cases h
  | n + 1, x, h => by
    unfold saidN at h
    cases hs : saidN f es n with
    | error y =>
      rw [hs] at h
      injection h with h
      subst h
      obtain ⟨i, hi, hf⟩ := saidN_no hs
      exact ⟨i, by omega, hf⟩
    | ok l' =>
      rw [hs] at h
      simp only at h
      cases hf : f (es.getD n ev0) with
      | error y => rw [hf] at h; injection h with h; subst h; exact ⟨n, Nat.lt_succ_self _, hf⟩
      | ok d => rw [hf] at h; cases h
theorem ext_ev {a b : List Ev} (hl : a.length = b.length) (h : ∀ i, i < a.length → a.getD i ev0 = b.getD i ev0) : a = b := by
  apply List.ext_getElem hl
  intro i h1 h2
  have := h i h1
  rw [List.getD_eq_getElem?_getD, List.getD_eq_getElem?_getD, List.getElem?_eq_getElem h1, List.getElem?_eq_getElem h2] at this
  exact this
theorem saidX_is {f : Ev → Except Nat Ev} {es l : List Ev} (hl : l.length = es.length) (h : ∀ i, i < es.length → f (es.getD i ev0) = .ok (l.getD i ev0)) : saidX f es = .ok l := by
  obtain ⟨l', h'⟩ := saidN_of (f := f) (es := es) (n := es.length) (fun i hi => ⟨_, h i hi⟩)
  have hl' := saidN_len h'
  unfold saidX
  rw [h']
  congr 1
  refine ext_ev (by omega) (fun i hi => ?_)
  have h1 := saidN_at h' i (by omega)
  rw [h i (by omega)] at h1
  injection h1 with h1
  exact h1.symm
theorem saidX_at {f : Ev → Except Nat Ev} {es l : List Ev} (h : saidX f es = .ok l) : l.length = es.length ∧ ∀ i, i < es.length → f (es.getD i ev0) = .ok (l.getD i ev0) := ⟨saidN_len h, saidN_at h⟩
theorem saidX_no {f : Ev → Except Nat Ev} {es : List Ev} {x : Nat} (h : saidX f es = .error x) : ∃ i, i < es.length ∧ f (es.getD i ev0) = .error x := saidN_no h

theorem low3 {d : Ev} (h : d.v = 3) : lowX 3 d = .ok d := dto_end (by omega)
theorem lowL_spec (top : List Ev) (ht : ∀ d ∈ top, d.v = 3) : ∀ (n u : Nat), u + n = 3 → u ≤ (lowL top n u).1 ∧ (lowL top n u).1 ≤ 3 ∧ saidX (lowX (lowL top n u).1) top = .ok (lowL top n u).2 ∧ ∀ t, u ≤ t → t < (lowL top n u).1 → ∃ x, saidX (lowX t) top = .error x
  | 0, u, h => by
    obtain rfl : u = 3 := by omega
    refine ⟨Nat.le_refl _, Nat.le_refl _, saidX_is rfl (fun i hi => low3 (ht _ ?_)), fun t h1 h2 => ?_⟩
    · rw [List.getD_eq_getElem?_getD, List.getElem?_eq_getElem hi]; exact List.getElem_mem hi
    · exact absurd h2 (Nat.not_lt.2 h1)
  | n + 1, u, h => by
    unfold lowL
    cases hs : saidX (lowX u) top with
    | ok l => exact ⟨Nat.le_refl _, by show u ≤ 3; omega, hs, fun t h1 h2 => absurd h2 (Nat.not_lt.2 h1)⟩
    | error x =>
      obtain ⟨h1, h2, h3, h4⟩ := lowL_spec top ht n (u + 1) (by omega)
      refine ⟨by show u ≤ (lowL top n (u + 1)).1; omega, h2, h3, fun t q1 q2 => ?_⟩
      by_cases hq : t = u
      · subst hq; exact ⟨x, hs⟩
      · exact h4 t (by omega) q2
/-- what Lowest tells of a list -/
structure LwO (es : List Ev) (v w : Nat) (out : List Ev) : Prop where
  may : ∀ i, i < es.length → may (es.getD i ev0) = true
  len : out.length = es.length
  v1 : 1 ≤ v
  vw : v ≤ w
  w3 : w ≤ 3
  each : ∀ i, i < es.length → toX (es.getD i ev0) w = .ok (out.getD i ev0)
  low : ∀ u, v ≤ u → u < w → ∃ i x, i < es.length ∧ toX (es.getD i ev0) u = .error x
theorem lw_out {es out : List Ev} {v w : Nat} (h : lwX es v = .ok (w, out)) : LwO es v w out := by
  unfold lwX at h
  cases hs : saidX nwX es with
  | error n => rw [hs] at h; cases h
  | ok top =>
    rw [hs] at h
    simp only at h
    split at h
    · rename_i hv
      unfold isV at hv
      rw [decide_eq_true_iff] at hv
      obtain ⟨tl, ta⟩ := saidX_at hs
      have hm : ∀ i, i < es.length → may (es.getD i ev0) = true ∧ top.getD i ev0 = newE (es.getD i ev0) := fun i hi => by
        obtain ⟨h1, h2⟩ := new_out (ta i hi); exact ⟨h1, h2⟩
      have h3 := lowL_spec top (fun d hd => said_v3 hs hd) (3 - v) v (by omega)
      injection h with h
      rw [h] at h3
      obtain ⟨a1, a2, a3, a4⟩ := h3
      obtain ⟨b1, b2⟩ := saidX_at a3
      have to_is : ∀ i, i < es.length → ∀ u, 1 ≤ u → u ≤ 3 → toX (es.getD i ev0) u = lowX u (top.getD i ev0) := fun i hi u u1 u3 => by
        rw [to_yes (hm i hi).1 (by unfold isV; rw [decide_eq_true_iff]; exact ⟨u1, u3⟩), (hm i hi).2]; rfl
      have a1' : v ≤ w := a1
      have a2' : w ≤ 3 := a2
      refine ⟨fun i hi => (hm i hi).1, by rw [show out.length = top.length from b1, tl], hv.1, a1, a2, fun i hi => ?_, fun u h1 h2 => ?_⟩
      · rw [to_is i hi w (by omega) a2]; exact b2 i (by rw [tl]; exact hi)
      · obtain ⟨x, hx⟩ := a4 u h1 h2
        obtain ⟨i, hi, hf⟩ := saidX_no hx
        exact ⟨i, x, by rw [← tl]; exact hi, by rw [to_is i (by rw [← tl]; exact hi) u (by omega) (by omega)]; exact hf⟩
    · cases h
theorem lw_made {es : List Ev} {v : Nat} (hm : ∀ i, i < es.length → may (es.getD i ev0) = true) (h1 : 1 ≤ v) (h3 : v ≤ 3) : ∃ w out, lwX es v = .ok (w, out) := by
  have hs : saidX nwX es = .ok (es.map newE) := saidX_is (by simp) (fun i hi => by
    rw [newest_is (hm i hi), List.getD_eq_getElem?_getD, List.getD_eq_getElem?_getD, List.getElem?_map, List.getElem?_eq_getElem hi]; rfl)
  exact ⟨_, _, lw_yes hs (by unfold isV; rw [decide_eq_true_iff]; exact ⟨h1, h3⟩)⟩
/-- what Lowest tells, in one form -/
def LwN (es : List Ev) (v : Nat) (w : World) (z : Ending) (w' : World) : Prop :=
  ∃ (p n : Nat) (ys : List Lx) (A : Option Addr) (c : Nat), z = .returned (.tuple #[.int .u8 (p : Int), .slice A ys.length c, .int .i64 (n : Int)]) ∧ Row w' A ys ∧ (A = none → c = 0) ∧ ys.length ≤ c ∧ (∀ y ∈ ys, y.e.ns.length ≤ 20 ∧ y.e.ts.length ≤ 1) ∧ ((n = 0 ∧ lwX es v = .ok (p, ys.map (·.e))) ∨ (1 ≤ n ∧ n ≤ 100 ∧ lwX es v = .error n ∧ p = 0 ∧ ys = [])) ∧ Below w.heap.size w w'
theorem lw_err {es : List Ev} {v n : Nat} (h : lwX es v = .error n) : 1 ≤ n ∧ n ≤ 100 := by
  unfold lwX at h
  cases hs : saidX nwX es with
  | error m => rw [hs] at h; injection h with h; have := saidX_new hs; omega
  | ok top =>
    rw [hs] at h
    simp only at h
    split at h
    · cases h
    · injection h with h; omega
theorem Lowest_ev {A : Option Addr} {cap : Nat} {xs : List Lx} {v : Nat} (hv : v < 256) (hn : xs.length ≤ 100000) (hsm : ∀ x ∈ xs, x.e.ns.length ≤ 1000000) {w : World} (hX : Row w A xs) (E : Env w) :
    Calls Tryz.prog 31 #[.slice A xs.length cap, .int .u8 (v : Int)] w (LwN (xs.map (·.e)) v w) :=
  (Lowest_any A cap xs v hv hn hsm w hX E).mono fun z w' h => by
    unfold LowV at h
    cases hq : lwX (xs.map (·.e)) v with
    | ok p =>
      rw [hq] at h
      obtain ⟨ys, x, hys, hz, ho, hl, hb⟩ := h
      obtain ⟨A', c', rfl, hv', hn', hle, -⟩ := ho.vat
      refine ⟨p.1, 0, ys, A', c', hz, ⟨hv', fun y hy => (hl y hy).lx⟩, hn', hle, fun y hy => ?_, Or.inl ⟨rfl, by rw [hys]; exact hq⟩, hb⟩
      have hmo := may_out (hl y hy).may
      exact ⟨by rw [hmo.ln]; have := lets_few y.e.v y.e.k; omega, hmo.tx⟩
    | error n =>
      rw [hq] at h
      have hn := lw_err hq
      exact ⟨0, n, [], none, 0, h.1, Row.nil _ _, fun _ => rfl, Nat.le_refl _, fun y hy => (by cases hy), Or.inr ⟨hn.1, hn.2, hq, rfl, rfl⟩, h.2⟩

end Go.Proofs.YtiibeemjkdipnaaGreatDoor.Upcast
