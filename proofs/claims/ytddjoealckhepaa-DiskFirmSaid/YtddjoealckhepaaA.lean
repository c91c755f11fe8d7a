/- A map from names to things, as a list by rising names: found, put, taken away; a disk by such a list, and all that is done to it. Plain mathematics. -/
import Derived.Maps.Views
import Derived.Sort.KeysCollected
namespace Go.Proofs.Ytddjoealckhepaa.Disk
open Go Go.Maps

abbrev Nm := List UInt8
variable {α β : Type}
def get : List (Nm × α) → Nm → Option α
  | [], _ => none
  | p :: r, n => if p.1 = n then some p.2 else get r n
def ins (p : Nm × α) : List (Nm × α) → List (Nm × α)
  | [] => [p]
  | q :: r => if bytesBefore p.1 q.1 then p :: q :: r else q :: ins p r
def del (n : Nm) (l : List (Nm × α)) : List (Nm × α) := l.filter fun p => !(p.1 == n)
def put (n : Nm) (f : α) (l : List (Nm × α)) : List (Nm × α) := ins (n, f) (del n l)
def Up (l : List (Nm × α)) : Prop := l.Pairwise fun p q => bytesBefore p.1 q.1 = true
def mapV (g : α → β) (l : List (Nm × α)) : List (Nm × β) := l.map fun p => (p.1, g p.2)

theorem before_eq (a b : Nm) : bytesBefore a b = decide (a < b) := by
  induction a generalizing b with
  | nil => cases b <;> simp [bytesBefore]
  | cons x r ih =>
    cases b with
    | nil => simp [bytesBefore]
    | cons y s =>
      rw [bytesBefore, ih s]
      simp only [List.cons_lt_cons_iff]
      by_cases h1 : x < y <;> by_cases h2 : x = y <;> by_cases h3 : r < s <;> simp [h1, h2, h3]
theorem less_eq (a b : Nm) : Op.bytesLess a b = bytesBefore a b := by
  induction a generalizing b with
  | nil => cases b <;> rfl
  | cons x r ih =>
    cases b with
    | nil => rfl
    | cons y s => rw [Op.bytesLess, bytesBefore, ih s]
theorem before_ne {a b : Nm} (h : bytesBefore a b = true) : a ≠ b := by
  intro e; subst e; rw [WideAt.bytes_irrefl] at h; cases h
theorem before_flip {a b : Nm} (h : bytesBefore a b = true) : bytesBefore b a = false := by
  cases h2 : bytesBefore b a with
  | false => rfl
  | true => have := WideShapes.bytes_trans a b a h h2; rw [WideAt.bytes_irrefl] at this; cases this

theorem del_len (n : Nm) (l : List (Nm × α)) : (del n l).length ≤ l.length := List.length_filter_le _ _
theorem ins_len (p : Nm × α) (l : List (Nm × α)) : (ins p l).length = l.length + 1 := by
  induction l with
  | nil => rfl
  | cons q r ih => simp only [ins]; split <;> simp [ih]
theorem mem_ins (p x : Nm × α) (l : List (Nm × α)) : x ∈ ins p l ↔ x = p ∨ x ∈ l := by
  induction l with
  | nil => simp [ins]
  | cons q r ih =>
    simp only [ins]; split
    · simp
    · simp only [List.mem_cons, ih]
      constructor
      · rintro (h | h | h) <;> simp [h]
      · rintro (h | h | h) <;> simp [h]
theorem mem_del (n : Nm) (x : Nm × α) (l : List (Nm × α)) : x ∈ del n l ↔ x ∈ l ∧ x.1 ≠ n := by simp [del]
theorem mem_put (n : Nm) (f : α) (x : Nm × α) (l : List (Nm × α)) : x ∈ put n f l ↔ x = (n, f) ∨ (x ∈ l ∧ x.1 ≠ n) := by
  rw [put, mem_ins, mem_del]
theorem Up.del {l : List (Nm × α)} (h : Up l) (n : Nm) : Up (del n l) := h.sublist List.filter_sublist
theorem up_ins (p : Nm × α) (l : List (Nm × α)) (h : Up l) (hn : ∀ x ∈ l, x.1 ≠ p.1) : Up (ins p l) := by
  induction l with
  | nil => simp [ins, Up]
  | cons q r ih =>
    obtain ⟨h1, h2⟩ := List.pairwise_cons.1 h
    simp only [ins]
    cases hb : bytesBefore p.1 q.1 with
    | true =>
      refine List.pairwise_cons.2 ⟨fun x hx => ?_, h⟩
      rcases List.mem_cons.1 hx with rfl | hx
      · exact hb
      · exact WideShapes.bytes_trans _ _ _ hb (h1 x hx)
    | false =>
      refine List.pairwise_cons.2 ⟨fun x hx => ?_, ih h2 fun x hx => hn x (List.mem_cons_of_mem _ hx)⟩
      rcases (mem_ins p x r).1 hx with rfl | hx
      · rcases WideAt.bytes_total q.1 x.1 (hn q (List.mem_cons_self ..)) with h3 | h3
        · exact h3
        · rw [hb] at h3; cases h3
      · exact h1 x hx
theorem Up.put {l : List (Nm × α)} (h : Up l) (n : Nm) (f : α) : Up (put n f l) :=
  up_ins _ _ (h.del n) fun x hx => ((mem_del n x l).1 hx).2

theorem get_some {l : List (Nm × α)} (h : Up l) {n : Nm} {f : α} : get l n = some f ↔ (n, f) ∈ l := by
  induction l with
  | nil => simp [get]
  | cons p r ih =>
    obtain ⟨h1, h2⟩ := List.pairwise_cons.1 h
    simp only [get]
    split
    · rename_i e
      subst e
      constructor
      · intro e; injection e with e; subst e; exact List.mem_cons_self ..
      · intro hm
        rcases List.mem_cons.1 hm with e | hm
        · rw [← e]
        · exact absurd rfl (before_ne (h1 (p.1, f) hm))
    · rename_i e
      rw [ih h2]
      constructor
      · exact List.mem_cons_of_mem _
      · intro hm
        rcases List.mem_cons.1 hm with e2 | hm
        · rw [← e2] at e; exact absurd rfl e
        · exact hm
theorem get_none {l : List (Nm × α)} {n : Nm} : get l n = none ↔ ∀ p ∈ l, p.1 ≠ n := by
  induction l with
  | nil => simp [get]
  | cons p r ih =>
    simp only [get, List.mem_cons, forall_eq_or_imp]
    split
    · rename_i e; simp [e]
    · rename_i e; rw [ih]; simp [e]
theorem get_mem {l : List (Nm × α)} {n : Nm} {f : α} (h : get l n = some f) : (n, f) ∈ l := by
  induction l with
  | nil => simp [get] at h
  | cons p r ih =>
    simp only [get] at h
    split at h
    · rename_i e; injection h with h; subst e h; exact List.mem_cons_self ..
    · exact List.mem_cons_of_mem _ (ih h)
theorem up_ext {l m : List (Nm × α)} (hl : Up l) (hm : Up m) (h : ∀ x, x ∈ l ↔ x ∈ m) : l = m := by
  induction l generalizing m with
  | nil =>
    cases m with
    | nil => rfl
    | cons q s => exact absurd ((h q).2 (List.mem_cons_self ..)) (by simp)
  | cons p r ih =>
    cases m with
    | nil => exact absurd ((h p).1 (List.mem_cons_self ..)) (by simp)
    | cons q s =>
      obtain ⟨a1, a2⟩ := List.pairwise_cons.1 hl
      obtain ⟨b1, b2⟩ := List.pairwise_cons.1 hm
      have e : p = q := by
        rcases List.mem_cons.1 ((h p).1 (List.mem_cons_self ..)) with e | h1
        · exact e
        · rcases List.mem_cons.1 ((h q).2 (List.mem_cons_self ..)) with e | h2
          · exact e.symm
          · have := before_flip (b1 p h1); rw [a1 q h2] at this; cases this
      subst e
      rw [ih a2 b2 fun x => ⟨fun hx => ?_, fun hx => ?_⟩]
      · rcases List.mem_cons.1 ((h x).1 (List.mem_cons_of_mem _ hx)) with e | h1
        · subst e; exact absurd rfl (before_ne (a1 _ hx))
        · exact h1
      · rcases List.mem_cons.1 ((h x).2 (List.mem_cons_of_mem _ hx)) with e | h1
        · subst e; exact absurd rfl (before_ne (b1 _ hx))
        · exact h1
theorem get_ext {l m : List (Nm × α)} (hl : Up l) (hm : Up m) (h : ∀ n, get l n = get m n) : l = m :=
  up_ext hl hm fun x => by rw [← get_some (n := x.1) (f := x.2) hl, ← get_some (n := x.1) (f := x.2) hm, h]
theorem get_put {l : List (Nm × α)} (h : Up l) (n k : Nm) (f : α) : get (put n f l) k = if k = n then some f else get l k := by
  by_cases e : k = n
  · subst e; rw [if_pos rfl]; exact (get_some (h.put k f)).2 ((mem_put ..).2 (Or.inl rfl))
  · rw [if_neg e]
    cases hg : get l k with
    | none =>
      refine get_none.2 fun p hp => ?_
      rcases (mem_put n f p l).1 hp with rfl | ⟨h1, _⟩
      · exact fun e2 => e e2.symm
      · exact get_none.1 hg p h1
    | some v => exact (get_some (h.put n f)).2 ((mem_put ..).2 (Or.inr ⟨(get_some h).1 hg, e⟩))
theorem get_del {l : List (Nm × α)} (h : Up l) (n k : Nm) : get (del n l) k = if k = n then none else get l k := by
  by_cases e : k = n
  · subst e; rw [if_pos rfl]; exact get_none.2 fun p hp => ((mem_del k p l).1 hp).2
  · rw [if_neg e]
    cases hg : get l k with
    | none => exact get_none.2 fun p hp => get_none.1 hg p ((mem_del n p l).1 hp).1
    | some v => exact (get_some (h.del n)).2 ((mem_del ..).2 ⟨(get_some h).1 hg, e⟩)
theorem put_put {l : List (Nm × α)} (h : Up l) (n : Nm) (f g : α) : put n f (put n g l) = put n f l :=
  get_ext ((h.put n g).put n f) (h.put n f) fun k => by rw [get_put (h.put n g), get_put h, get_put h]; split <;> simp_all
theorem put_get {l : List (Nm × α)} (h : Up l) {n : Nm} {f : α} (hg : get l n = some f) : put n f l = l :=
  get_ext (h.put n f) h fun k => by rw [get_put h]; split <;> simp_all
theorem del_none {l : List (Nm × α)} {n : Nm} (h : get l n = none) : del n l = l :=
  List.filter_eq_self.2 fun p hp => by simpa using get_none.1 h p hp
/-- how many, and how much, behind a put -/
theorem del_some {l : List (Nm × α)} (h : Up l) {n : Nm} {f : α} (hg : get l n = some f) : ∃ x y, l = x ++ (n, f) :: y ∧ del n l = x ++ y := by
  obtain ⟨x, y, e⟩ := List.append_of_mem (get_mem hg)
  refine ⟨x, y, e, ?_⟩
  subst e
  obtain ⟨_, h2, h3⟩ := List.pairwise_append.1 h
  obtain ⟨h4, _⟩ := List.pairwise_cons.1 h2
  have hx : x.filter (fun p => !(p.1 == n)) = x := List.filter_eq_self.2 fun p hp => by simpa using before_ne (h3 p hp _ (List.mem_cons_self ..))
  have hy : y.filter (fun p => !(p.1 == n)) = y := List.filter_eq_self.2 fun p hp => by simpa using (before_ne (h4 p hp)).symm
  simp [del, List.filter_append, hx, hy]
theorem del_len_some {l : List (Nm × α)} (h : Up l) {n : Nm} {f : α} (hg : get l n = some f) : (del n l).length + 1 = l.length := by
  obtain ⟨x, y, e1, e2⟩ := del_some h hg; rw [e2, e1]; simp; omega
theorem put_len {l : List (Nm × α)} (h : Up l) (n : Nm) (f : α) : (put n f l).length = if (get l n).isSome then l.length else l.length + 1 := by
  rw [put, ins_len]
  cases hg : get l n with
  | none => simp [del_none hg]
  | some v => simpa using del_len_some h hg
def tot (g : α → Nat) (l : List (Nm × α)) : Nat := (l.map fun p => g p.2).sum
theorem tot_ins (g : α → Nat) (p : Nm × α) (l : List (Nm × α)) : tot g (ins p l) = g p.2 + tot g l := by
  induction l with
  | nil => simp [ins, tot]
  | cons q r ih =>
    simp only [ins]; split
    · simp [tot]
    · simp only [tot, List.map_cons, List.sum_cons] at ih ⊢; omega
theorem tot_del {l : List (Nm × α)} (h : Up l) (g : α → Nat) {n : Nm} {f : α} (hg : get l n = some f) : tot g (del n l) + g f = tot g l := by
  obtain ⟨x, y, e1, e2⟩ := del_some h hg; rw [e2, e1]; simp [tot, List.sum_append]; omega
theorem tot_del_none (g : α → Nat) {l : List (Nm × α)} {n : Nm} (hg : get l n = none) : tot g (del n l) = tot g l := by rw [del_none hg]
theorem tot_put {l : List (Nm × α)} (h : Up l) (g : α → Nat) (n : Nm) (f : α) : tot g (put n f l) + (match get l n with | some v => g v | none => 0) = tot g l + g f := by
  rw [put, tot_ins]
  cases hg : get l n with
  | none => simp [tot_del_none g hg]; omega
  | some v => have := tot_del h g hg; simp only; omega
theorem tot_mem (g : α → Nat) {l : List (Nm × α)} {p : Nm × α} (h : p ∈ l) : g p.2 ≤ tot g l := by
  induction l with
  | nil => cases h
  | cons q r ih =>
    simp only [tot, List.map_cons, List.sum_cons] at ih ⊢
    rcases List.mem_cons.1 h with e | h
    · subst e; omega
    · have := ih h; omega
theorem mapV_get (g : α → β) (l : List (Nm × α)) (n : Nm) : get (mapV g l) n = (get l n).map g := by
  induction l with
  | nil => rfl
  | cons p r ih =>
    have : mapV g (p :: r) = (p.1, g p.2) :: mapV g r := rfl
    rw [this]; simp only [get]; split
    · rfl
    · exact ih
theorem mapV_del (g : α → β) (n : Nm) (l : List (Nm × α)) : mapV g (del n l) = del n (mapV g l) := by
  simp [mapV, del, List.filter_map, Function.comp_def]
theorem mapV_ins (g : α → β) (p : Nm × α) (l : List (Nm × α)) : mapV g (ins p l) = ins (p.1, g p.2) (mapV g l) := by
  induction l with
  | nil => rfl
  | cons q r ih =>
    have e : ∀ (q : Nm × α) r, mapV g (q :: r) = (q.1, g q.2) :: mapV g r := fun _ _ => rfl
    simp only [ins, e]; split
    · simp [e]
    · rw [e, ih]
theorem mapV_put (g : α → β) (n : Nm) (f : α) (l : List (Nm × α)) : mapV g (put n f l) = put n (g f) (mapV g l) := by rw [put, mapV_ins, mapV_del]; rfl
theorem mapV_up (g : α → β) {l : List (Nm × α)} (h : Up l) : Up (mapV g l) := List.pairwise_map.2 h
theorem mapV_len (g : α → β) (l : List (Nm × α)) : (mapV g l).length = l.length := by simp [mapV]

/-! ### as a datum -/
section
variable {H : Type}
def toD (e : α → DataW H) (l : List (Nm × α)) : DataW H := .map (l.map fun p => (Lit.string p.1, e p.2))
theorem toD_del (e : α → DataW H) (n : Nm) (l : List (Nm × α)) : (toD e l).del (.string n) = toD e (del n l) := by
  simp [toD, DataW.del, del, List.filter_map, Function.comp_def, Lit.sameKey]
theorem toD_ins (e : α → DataW H) (p : Nm × α) (l : List (Nm × α)) : DataW.insert (Lit.string p.1, e p.2) (l.map fun p => (Lit.string p.1, e p.2)) = (ins p l).map fun p => (Lit.string p.1, e p.2) := by
  induction l with
  | nil => rfl
  | cons q r ih =>
    simp only [List.map_cons, DataW.insert, ins, Lit.before]
    by_cases hb : bytesBefore p.1 q.1 = true
    · simp [hb]
    · simp [hb, ih]
theorem toD_put (e : α → DataW H) (n : Nm) (f : α) (l : List (Nm × α)) : (toD e l).put (.string n) (e f) = toD e (put n f l) := by
  have h := toD_del e n l
  simp only [toD, DataW.del, DataW.map.injEq] at h
  simp only [toD, DataW.put, h]
  rw [toD_ins e (n, f)]; rfl
theorem toD_at (e : α → DataW H) (n : Nm) (l : List (Nm × α)) (z : DataW H) : (toD e l).atKey (.string n) z = match get l n with | some f => e f | none => z := by
  induction l with
  | nil => rfl
  | cons p r ih =>
    simp only [toD, DataW.atKey, List.map_cons, List.find?_cons, Lit.sameKey, get] at ih ⊢
    by_cases h : p.1 = n
    · simp [h]
    · simp only [h, if_false, show (p.1 == n) = false by simpa using h]; exact ih
theorem toD_has (e : α → DataW H) (n : Nm) (l : List (Nm × α)) : Maps.has (toD e l) (.string n) = (get l n).isSome := by
  induction l with
  | nil => rfl
  | cons p r ih =>
    simp only [toD, has_eq, List.map_cons, List.any_cons, Lit.sameKey, get] at ih ⊢
    rw [ih]
    by_cases h : p.1 = n
    · simp [h]
    · simp [h]
theorem toD_size (e : α → DataW H) (l : List (Nm × α)) : Maps.size (toD e l) = l.length := by simp [toD, size_eq]
theorem toD_keys (e : α → DataW H) (l : List (Nm × α)) : strKeys (toD e l) = l.map (·.1) := by
  simp [toD, strKeys, strOf, Function.comp_def]
theorem toD_inj {e : α → DataW H} (he : ∀ a b, e a = e b → a = b) {l m : List (Nm × α)} (h : toD e l = toD e m) : l = m := by
  injection h with h
  induction l generalizing m with
  | nil => cases m with
    | nil => rfl
    | cons q s => simp at h
  | cons p r ih =>
    cases m with
    | nil => simp at h
    | cons q s =>
      simp only [List.map_cons, List.cons.injEq, Prod.mk.injEq, Lit.string.injEq] at h
      obtain ⟨⟨h1, h2⟩, h3⟩ := h
      rw [ih h3, Prod.ext h1 (he _ _ h2)]
/-- names that were collected, sorted, are the names -/
theorem names_sorted {l : List (Nm × α)} (h : Up l) {ss : List Nm} (hp : ss.Perm (l.map (·.1))) : ss.mergeSort leB = l.map (·.1) := by
  rw [mergeSort_of_perm hp]
  refine List.mergeSort_of_pairwise ?_
  refine List.pairwise_map.2 (List.Pairwise.imp (fun {p q} hb => ?_) h)
  rw [before_eq] at hb
  simpa [leB] using List.le_of_lt (by simpa using hb)
end
end Go.Proofs.Ytddjoealckhepaa.Disk
