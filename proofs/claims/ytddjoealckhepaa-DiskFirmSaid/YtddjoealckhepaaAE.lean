import Derived.Test.YtddjoealckhepaaAC
import Derived.Test.YtddjoealckhepaaAB
/-
  What an act leaves firm; the law's find.
-/
namespace Go.Proofs.Ytddjoealckhepaa.Disk
open Go Go.RowKit Go.Maps Go.Shelf Go.Proofs

/-- whether an act that went well touches a file -/
def touch (x : OpX) (e : Nat) (n : Nm) : Prop := e = 0 ∧ ((2 ≤ x.k ∧ x.n = n) ∨ (x.k = 4 ∧ x.t = n))
theorem firm_act {d : Dk} {c : Nat} (h : d.live c) (ho : d.ok) (x : OpX) (hk : x.k ≤ 5) {n : Nm} {f : F} (hg : get d.l n = some f) :
    (¬ touch x (actD d x).1 n → ∃ f', get (actD d x).2.l n = some f' ∧ f'.b.take f'.g = f.b.take f.g ∧ (x.k ≠ 1 → f' = f)) ∧
    ((actD d x).1 = 0 ∧ x.k = 2 ∧ x.n = n → get (actD d x).2.l n = some ⟨f.b, f.b.length⟩) := by
  have hfo : f.g ≤ f.b.length := (ho.fs _ (get_mem hg)).1
  by_cases he : (actD d x).1 = 0
  case neg =>
    rw [live_refused h x he]
    exact ⟨fun _ => ⟨f, hg, rfl, fun _ => rfl⟩, fun h => absurd h.1 he⟩
  have k1 : cntE d = 0 := by unfold cntE; rw [if_neg (by rw [h.cut]; simp)]
  have k2 : ∀ l, (cntD d l).l = l := fun l => by unfold cntD; rw [if_neg (by rw [h.cut]; simp)]
  have hgo := h.gone
  revert he
  unfold touch
  unfold actD
  split
  · rename_i h0
    unfold createD
    rw [hgo]
    simp only [Bool.false_eq_true, if_false]
    split
    · intro he; simp at he
    split
    · intro he; simp at he
    split
    · intro he; simp at he
    rename_i hs _
    intro _
    refine ⟨fun _ => ⟨f, ?_, rfl, fun _ => rfl⟩, fun h => by omega⟩
    rw [k2, get_put ho.up, if_neg]
    · exact hg
    · intro e; rw [← e, hg] at hs; simp at hs
  split
  · rename_i h0 h1
    unfold appendD
    rw [hgo]
    simp only [Bool.false_eq_true, if_false]
    cases hx : get d.l x.n with
    | none => intro he; simp at he
    | some fx =>
      simp only
      split
      · intro he; simp at he
      intro _
      refine ⟨fun _ => ?_, fun h => by omega⟩
      by_cases hn : n = x.n
      · subst hn
        rw [hg] at hx
        obtain rfl := Option.some.inj hx
        exact ⟨_, by show get (put x.n _ d.l) x.n = _; rw [get_put ho.up, if_pos rfl], by show (f.b ++ x.s).take f.g = _; rw [List.take_append_of_le_length hfo], fun h => absurd h1 h⟩
      · exact ⟨f, by show get (put x.n _ d.l) n = _; rw [get_put ho.up, if_neg hn]; exact hg, rfl, fun _ => rfl⟩
  split
  · rename_i h0 h1 h2
    unfold syncD
    rw [hgo]
    simp only [Bool.false_eq_true, if_false]
    cases hx : get d.l x.n with
    | none => intro he; simp at he
    | some fx =>
      simp only
      intro _
      refine ⟨fun ht => ⟨f, ?_, rfl, fun _ => rfl⟩, fun h => ?_⟩
      · rw [k2, get_put ho.up, if_neg]
        · exact hg
        · intro e; exact ht ⟨k1, Or.inl ⟨by omega, e.symm⟩⟩
      · obtain ⟨-, -, rfl⟩ := h
        rw [hg] at hx
        obtain rfl := Option.some.inj hx
        rw [k2, get_put ho.up, if_pos rfl]
  split
  · rename_i h0 h1 h2 h3
    unfold trimD
    rw [hgo]
    simp only [Bool.false_eq_true, if_false]
    cases hx : get d.l x.n with
    | none => intro he; simp at he
    | some fx =>
      simp only
      split
      · intro he; simp at he
      intro _
      refine ⟨fun ht => ⟨f, ?_, rfl, fun _ => rfl⟩, fun h => by omega⟩
      rw [k2, get_put ho.up, if_neg]
      · exact hg
      · intro e; exact ht ⟨k1, Or.inl ⟨by omega, e.symm⟩⟩
  split
  · rename_i h0 h1 h2 h3 h4
    unfold renameD
    rw [hgo]
    simp only [Bool.false_eq_true, if_false]
    cases hx : get d.l x.n with
    | none => intro he; simp at he
    | some fx =>
      simp only
      split
      · intro he; simp at he
      split
      · intro he; simp at he
      intro _
      refine ⟨fun ht => ⟨f, ?_, rfl, fun _ => rfl⟩, fun h => by omega⟩
      rw [k2, get_del (ho.up.put _ _), if_neg, get_put ho.up, if_neg]
      · exact hg
      · intro e; exact ht ⟨k1, Or.inr ⟨h4, e.symm⟩⟩
      · intro e; exact ht ⟨k1, Or.inl ⟨by omega, e.symm⟩⟩
  · rename_i h0 h1 h2 h3 h4
    unfold deleteD
    rw [hgo]
    simp only [Bool.false_eq_true, if_false]
    cases hx : get d.l x.n with
    | none => intro he; simp at he
    | some fx =>
      simp only
      intro _
      refine ⟨fun ht => ⟨f, ?_, rfl, fun _ => rfl⟩, fun h => by omega⟩
      rw [k2, get_del ho.up, if_neg]
      · exact hg
      · intro e; exact ht ⟨k1, Or.inl ⟨by omega, e.symm⟩⟩

/-- the file of a name among the files that are told -/
def fnd (n : Nm) : List Fi → Fi × Bool
  | [] => (⟨[], [], []⟩, false)
  | x :: r => if x.n = n then (x, true) else fnd n r
theorem fnd_told {l : List (Nm × F)} (n : Nm) : fnd n (told l) = match get l n with | some f => (tell (n, f), true) | none => (⟨[], [], []⟩, false) := by
  induction l with
  | nil => rfl
  | cons p r ih =>
    obtain ⟨m, f⟩ := p
    show (if m = n then (tell (m, f), true) else fnd n (told r)) = _
    unfold get
    by_cases hm : m = n
    · subst hm; simp
    · rw [if_neg hm, ih]
      simp [hm]
theorem fnd_drop {l : List Fi} {n : Nm} {k : Nat} (hk : k < l.length) (hne : l[k].n ≠ n) : fnd n (l.drop k) = fnd n (l.drop (k + 1)) := by
  rw [List.drop_eq_getElem_cons hk, fnd, if_neg hne]
theorem fnd_at {l : List Fi} {n : Nm} {k : Nat} (hk : k < l.length) (he : l[k].n = n) : fnd n (l.drop k) = (l[k], true) := by
  rw [List.drop_eq_getElem_cons hk, fnd, if_pos he]
end Go.Proofs.Ytddjoealckhepaa.Disk
