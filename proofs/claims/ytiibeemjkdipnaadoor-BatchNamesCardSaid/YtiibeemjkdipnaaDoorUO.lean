import Derived.Test.YtiibeemjkdipnaaDoorUL
/-
  What Up, Down, Newest and To tell, in one form: an event and a number.
-/
namespace Go.Proofs.YtiibeemjkdipnaaDoor.Upcast
open Go Go.RowKit
open Go.Proofs.YtiibeemjkdipnaaDoor.Schema

theorem same_iff (a b : Ev) : same a b = true ↔ a = b := by
  unfold same
  simp only [Bool.and_eq_true, decide_eq_true_eq]
  constructor
  · rintro ⟨⟨⟨h1, h2⟩, h3⟩, h4⟩
    cases a; cases b
    simp only at h1 h2 h3 h4
    subst h1 h2 h3 h4
    rfl
  · rintro rfl; exact ⟨⟨⟨rfl, rfl⟩, rfl⟩, rfl⟩
theorem same_self (a : Ev) : same a a = true := (same_iff a a).2 rfl
theorem same_no {a b : Ev} (h : ¬ a = b) : same a b = false := by
  cases hs : same a b with
  | false => rfl
  | true => exact absurd ((same_iff a b).1 hs) h
/-- an event is told, or an error, and then none -/
def Got (o : Except Nat Ev) (u : Ev) (n : Nat) : Prop := (n = 0 ∧ o = .ok u) ∨ (1 ≤ n ∧ n ≤ 100 ∧ o = .error n ∧ u = ev0)
theorem Got.ok {o : Except Nat Ev} {u : Ev} {n : Nat} (h : Got o u n) (hn : n = 0) : o = .ok u := by
  rcases h with h | h
  · exact h.2
  · omega
theorem Got.bad {o : Except Nat Ev} {u : Ev} {n : Nat} (h : Got o u n) (hn : ¬ n = 0) : o = .error n ∧ u = ev0 := by
  rcases h with h | h
  · exact absurd h.1 hn
  · exact h.2.2
theorem Got.of {o : Except Nat Ev} {u v : Ev} {n : Nat} (h : Got o u n) (ho : o = .ok v) : n = 0 ∧ u = v := by
  rcases h with h | h
  · rw [ho] at h; exact ⟨h.1, by injection h.2 with h; exact h.symm⟩
  · rw [ho] at h; cases h.2.2.1
theorem Got.err {o : Except Nat Ev} {u : Ev} {n m : Nat} (h : Got o u n) (ho : o = .error m) : n = m ∧ u = ev0 := by
  rcases h with h | h
  · rw [ho] at h; cases h.2
  · rw [ho] at h; exact ⟨by injection h.2.2.1 with h; exact h.symm, h.2.2.2⟩
def EvN (o : Except Nat Ev) (w : World) (z : Ending) (w' : World) : Prop :=
  ∃ (u : Ev) (n : Nat) (A : Option Addr) (c : Nat) (C : Option Addr) (d : Nat), z = .returned (.tuple #[evV A c C d u, .int .i64 (n : Int)]) ∧ EvAt w' A c C d u ∧ (u.ns.length ≤ 20 ∧ u.ts.length ≤ 1) ∧ Got o u n ∧ Below w.heap.size w w'
theorem lets_few (v k : Nat) : (lets v k).size ≤ 10 := (lets_ok v k).1
theorem evN_of {o : Except Nat Ev} {w : World} {z : Ending} {w' : World} (h : ExV o w z w') (hm : ∀ u, o = .ok u → may u = true ∧ ∀ t ∈ u.ts, t.size ≤ maxLen) (he : ∀ n, o = .error n → 1 ≤ n ∧ n ≤ 100) : EvN o w z w' := by
  cases ho : o with
  | ok u =>
    subst ho
    obtain ⟨A, c, C, d, hz, o1, o2, hb⟩ := h
    have hu := hm u rfl
    have hmo := may_out hu.1
    exact ⟨u, 0, A, c, C, d, hz, evAt_of hu.1 hu.2 o1 o2, ⟨by rw [hmo.ln]; have := lets_few u.v u.k; omega, hmo.tx⟩, Or.inl ⟨rfl, rfl⟩, hb⟩
  | error n =>
    subst ho
    obtain ⟨hz, hb⟩ := h
    have hn := he n rfl
    exact ⟨ev0, n, none, 0, none, 0, hz, ⟨by decide, by decide, fun x hx => (by cases hx), fun t ht => (by cases ht), VAt.nil _ _, VAt.nil _ _, fun _ => rfl, fun _ => rfl, Nat.le_refl _, Nat.le_refl _⟩, ⟨by decide, by decide⟩, Or.inr ⟨hn.1, hn.2, rfl, rfl⟩, hb⟩
theorem up_out {e u : Ev} (h : upX e = .ok u) : may e = true ∧ e.v < 3 ∧ u = upE e := by
  unfold upX at h
  split at h
  · rename_i hm
    split at h
    · cases h
    · injection h with h
      have := (may_out hm).v3
      exact ⟨hm, by omega, h.symm⟩
  · cases h
theorem up_err {e : Ev} {n : Nat} (h : upX e = .error n) : 1 ≤ n ∧ n ≤ 100 := by
  unfold upX at h
  split at h
  · split at h
    · injection h with h; omega
    · cases h
  · injection h with h; omega
theorem dn_out {e u : Ev} (h : dnX e = .ok u) : may e = true ∧ downX e = .ok u := by
  unfold dnX at h
  split at h
  · rename_i hm; exact ⟨hm, h⟩
  · cases h
theorem dn_err {e : Ev} {n : Nat} (h : dnX e = .error n) : 1 ≤ n ∧ n ≤ 100 := by
  unfold dnX at h
  split at h
  · have := down_err h; omega
  · injection h with h; omega
theorem new_out {e u : Ev} (h : nwX e = .ok u) : may e = true ∧ u = newE e := by
  unfold nwX at h
  split at h
  · rename_i hm; injection h with h; exact ⟨hm, h.symm⟩
  · cases h
theorem to_out {e u : Ev} {v : Nat} (h : toX e v = .ok u) : may e = true ∧ isV v = true ∧ dto (newE e) v = .ok u := by
  unfold toX at h
  split at h
  · rename_i hm
    split at h
    · rename_i hv; exact ⟨hm, hv, h⟩
    · cases h
  · cases h
theorem to_err {e : Ev} {v n : Nat} (h : toX e v = .error n) : 1 ≤ n ∧ n ≤ 100 := by
  unfold toX at h
  split at h
  · split at h
    · have := dtX_err _ _ _ _ h; omega
    · injection h with h; omega
  · injection h with h; omega
theorem Newest_ev {A : Option Addr} {ca : Nat} {C : Option Addr} {cc : Nat} {e : Ev} (hl : e.ns.length ≤ 1000000) {w : World} (hA : EvAt w A ca C cc e) (E : Env w) :
    Calls Tryd.prog 30 #[evV A ca C cc e] w (EvN (nwX e) w) :=
  (Newest_any A ca C cc e hl w hA E).mono fun z w' h => evN_of h (fun u hu => by
    refine ⟨new_may' hu, ?_⟩
    rw [new_ts' hu]; exact hA.txt) (fun n hn => by have := new_err hn; omega)
theorem to_may {e u : Ev} {v : Nat} (h : toX e v = .ok u) : may u = true ∧ u.ts = e.ts := by
  obtain ⟨h1, h2, h3⟩ := to_out h
  have := dtX_out _ _ _ _ (new_may h1) (Nat.le_refl _) h3
  exact ⟨this.1, by rw [this.2.1, new_ts]⟩
theorem To_ev {A : Option Addr} {ca : Nat} {C : Option Addr} {cc : Nat} {e : Ev} {v : Nat} (hl : e.ns.length ≤ 1000000) (hv : v < 256) {w : World} (hA : EvAt w A ca C cc e) (E : Env w) :
    Calls Tryd.prog 21 #[evV A ca C cc e, .int .u8 (v : Int)] w (EvN (toX e v) w) :=
  (To_any A ca C cc e v hl hv w hA E).mono fun z w' h => evN_of h (fun u hu => by
    obtain ⟨h1, h2⟩ := to_may hu
    exact ⟨h1, by rw [h2]; exact hA.txt⟩) (fun n hn => to_err hn)

/-! ### there and back -/
theorem back_up {e u : Ev} (h : upX e = .ok u) : dnX u = .ok e := by
  obtain ⟨h1, h2, rfl⟩ := up_out h
  rw [down_is (up_may h1 h2)]
  exact up_down h1 h2
theorem back_down {f d : Ev} (h : dnX f = .ok d) : upX d = .ok f ∧ f.v = d.v + 1 := by
  obtain ⟨h1, h2⟩ := dn_out h
  have ho := down_out (may_out h1).v1 h2
  have hm := down_may h1 h2
  rw [up_is hm ho.v3, down_up (may_out h1).ln ho]
  exact ⟨rfl, ho.ev⟩
theorem back_not {e f u d : Ev} {a b : Nat} (h1 : Got (upX e) u a) (ha : a = 0) (h2 : Got (dnX f) d b) (hb : ¬ b = 0) : same u f = false := same_no fun h => by
  subst h
  have h3 := back_up (h1.ok ha)
  rw [(h2.bad hb).1] at h3
  cases h3
end Go.Proofs.YtiibeemjkdipnaaDoor.Upcast
