import Derived.Maps.Views
import Derived.Sort.KeysCollected
import Derived.OpenShut
import Derived.Test.YticfnfekkmkclaaGreatDoorRows
import Derived.Lay
import Derived.Below
import Derived.KernelRfl
import Derived.WalkSmall
import Derived.Shelf.Vars
import Derived.WalkKit
import Derived.Lib.Hide
import Derived.WalkSpells
import Derived.WalkLawsBesides
import Derived.BigQuiet
import Derived.Deep.QuietTactic
import Derived.Maps.OwnSet
import Derived.Maps.RangeWalk
import Derived.OwnWalk
import Derived.Laws.AppendOwn
import Derived.BigCall
/- A map from names to things, as a list by rising names: found, put, taken away; a disk by such a list, and all that is done to it. Plain mathematics. -/
namespace Go.Proofs.YticfnfekkmkclaaGreatDoor.Disk
open Go Go.Maps

abbrev Nm := List UInt8
variable {α β : Type}
def get : List (Nm × α) → Nm → Option α
  | [], _ => none
  | p :: r, n => if p.1 = n then some p.2 else get r n
def ins (p : Nm × α) : List (Nm × α) → List (Nm × α)
  | [] => [p]
  | q :: r => if bytesBefore p.1 q.1 then p :: q :: r else q :: ins p r
def del (n : Nm) (l : List (Nm × α)) : List (Nm × α) := l.filter fun p => !(p.1 == n)
def put (n : Nm) (f : α) (l : List (Nm × α)) : List (Nm × α) := ins (n, f) (del n l)
def Up (l : List (Nm × α)) : Prop := l.Pairwise fun p q => bytesBefore p.1 q.1 = true
def mapV (g : α → β) (l : List (Nm × α)) : List (Nm × β) := l.map fun p => (p.1, g p.2)

theorem before_eq (a b : Nm) : bytesBefore a b = decide (a < b) := by
  induction a generalizing b with
  | nil => cases b <;> simp [bytesBefore]
  | cons x r ih =>
    cases b with
    | nil => simp [bytesBefore]
    | cons y s =>
      rw [bytesBefore, ih s]
      simp only [List.cons_lt_cons_iff]
      by_cases h1 : x < y <;> by_cases h2 : x = y <;> by_cases h3 : r < s <;> simp [h1, h2, h3]
theorem less_eq (a b : Nm) : Op.bytesLess a b = bytesBefore a b := by
  induction a generalizing b with
  | nil => cases b <;> rfl
  | cons x r ih =>
    cases b with
    | nil => rfl
    | cons y s => rw [Op.bytesLess, bytesBefore, ih s]
theorem before_ne {a b : Nm} (h : bytesBefore a b = true) : a ≠ b := by
  intro e; subst e; rw [WideAt.bytes_irrefl] at h; cases h
theorem before_flip {a b : Nm} (h : bytesBefore a b = true) : bytesBefore b a = false := by
  cases h2 : bytesBefore b a with
  | false => rfl
  | true => have := WideShapes.bytes_trans a b a h h2; rw [WideAt.bytes_irrefl] at this; cases this

theorem del_len (n : Nm) (l : List (Nm × α)) : (del n l).length ≤ l.length := List.length_filter_le _ _
theorem ins_len (p : Nm × α) (l : List (Nm × α)) : (ins p l).length = l.length + 1 := by
  induction l with
  | nil => rfl
  | cons q r ih => simp only [ins]; split <;> simp [ih]
theorem mem_ins (p x : Nm × α) (l : List (Nm × α)) : x ∈ ins p l ↔ x = p ∨ x ∈ l := by
  induction l with
  | nil => simp [ins]
  | cons q r ih =>
    simp only [ins]; split
    · simp
    · simp only [List.mem_cons, ih]
      constructor
      · rintro (h | h | h) <;> simp [h]
      · rintro (h | h | h) <;> simp [h]
theorem mem_del (n : Nm) (x : Nm × α) (l : List (Nm × α)) : x ∈ del n l ↔ x ∈ l ∧ x.1 ≠ n := by simp [del]
theorem mem_put (n : Nm) (f : α) (x : Nm × α) (l : List (Nm × α)) : x ∈ put n f l ↔ x = (n, f) ∨ (x ∈ l ∧ x.1 ≠ n) := by
  rw [put, mem_ins, mem_del]
theorem Up.del {l : List (Nm × α)} (h : Up l) (n : Nm) : Up (del n l) := h.sublist List.filter_sublist
theorem up_ins (p : Nm × α) (l : List (Nm × α)) (h : Up l) (hn : ∀ x ∈ l, x.1 ≠ p.1) : Up (ins p l) := by
  induction l with
  | nil => simp [ins, Up]
  | cons q r ih =>
    obtain ⟨h1, h2⟩ := List.pairwise_cons.1 h
    simp only [ins]
    cases hb : bytesBefore p.1 q.1 with
    | true =>
      refine List.pairwise_cons.2 ⟨fun x hx => ?_, h⟩
      rcases List.mem_cons.1 hx with rfl | hx
      · exact hb
      · exact WideShapes.bytes_trans _ _ _ hb (h1 x hx)
    | false =>
      refine List.pairwise_cons.2 ⟨fun x hx => ?_, ih h2 fun x hx => hn x (List.mem_cons_of_mem _ hx)⟩
      rcases (mem_ins p x r).1 hx with rfl | hx
      · rcases WideAt.bytes_total q.1 x.1 (hn q (List.mem_cons_self ..)) with h3 | h3
        · exact h3
        · rw [hb] at h3; cases h3
      · exact h1 x hx
theorem Up.put {l : List (Nm × α)} (h : Up l) (n : Nm) (f : α) : Up (put n f l) :=
  up_ins _ _ (h.del n) fun x hx => ((mem_del n x l).1 hx).2

theorem get_some {l : List (Nm × α)} (h : Up l) {n : Nm} {f : α} : get l n = some f ↔ (n, f) ∈ l := by
  induction l with
  | nil => simp [get]
  | cons p r ih =>
    obtain ⟨h1, h2⟩ := List.pairwise_cons.1 h
    simp only [get]
    split
    · rename_i e
      subst e
      constructor
      · intro e; injection e with e; subst e; exact List.mem_cons_self ..
      · intro hm
        rcases List.mem_cons.1 hm with e | hm
        · rw [← e]
        · exact absurd rfl (before_ne (h1 (p.1, f) hm))
    · rename_i e
      rw [ih h2]
      constructor
      · exact List.mem_cons_of_mem _
      · intro hm
        rcases List.mem_cons.1 hm with e2 | hm
        · rw [← e2] at e; exact absurd rfl e
        · exact hm
theorem get_none {l : List (Nm × α)} {n : Nm} : get l n = none ↔ ∀ p ∈ l, p.1 ≠ n := by
  induction l with
  | nil => simp [get]
  | cons p r ih =>
    simp only [get, List.mem_cons, forall_eq_or_imp]
    split
    · rename_i e; simp [e]
    · rename_i e; rw [ih]; simp [e]
theorem get_mem {l : List (Nm × α)} {n : Nm} {f : α} (h : get l n = some f) : (n, f) ∈ l := by
  induction l with
  | nil => simp [get] at h
  | cons p r ih =>
    simp only [get] at h
    split at h
    · rename_i e; injection h with h; subst e h; exact List.mem_cons_self ..
    · exact List.mem_cons_of_mem _ (ih h)
theorem up_ext {l m : List (Nm × α)} (hl : Up l) (hm : Up m) (h : ∀ x, x ∈ l ↔ x ∈ m) : l = m := by
  induction l generalizing m with
  | nil =>
    cases m with
    | nil => rfl
    | cons q s => exact absurd ((h q).2 (List.mem_cons_self ..)) (by simp)
  | cons p r ih =>
    cases m with
    | nil => exact absurd ((h p).1 (List.mem_cons_self ..)) (by simp)
    | cons q s =>
      obtain ⟨a1, a2⟩ := List.pairwise_cons.1 hl
      obtain ⟨b1, b2⟩ := List.pairwise_cons.1 hm
      have e : p = q := by
        rcases List.mem_cons.1 ((h p).1 (List.mem_cons_self ..)) with e | h1
        · exact e
        · rcases List.mem_cons.1 ((h q).2 (List.mem_cons_self ..)) with e | h2
          · exact e.symm
          · have := before_flip (b1 p h1); rw [a1 q h2] at this; cases this
      subst e
      rw [ih a2 b2 fun x => ⟨fun hx => ?_, fun hx => ?_⟩]
      · rcases List.mem_cons.1 ((h x).1 (List.mem_cons_of_mem _ hx)) with e | h1
        · subst e; exact absurd rfl (before_ne (a1 _ hx))
        · exact h1
      · rcases List.mem_cons.1 ((h x).2 (List.mem_cons_of_mem _ hx)) with e | h1
        · subst e; exact absurd rfl (before_ne (b1 _ hx))
        · exact h1
theorem get_ext {l m : List (Nm × α)} (hl : Up l) (hm : Up m) (h : ∀ n, get l n = get m n) : l = m :=
  up_ext hl hm fun x => by rw [← get_some (n := x.1) (f := x.2) hl, ← get_some (n := x.1) (f := x.2) hm, h]
theorem get_put {l : List (Nm × α)} (h : Up l) (n k : Nm) (f : α) : get (put n f l) k = if k = n then some f else get l k := by
  by_cases e : k = n
  · subst e; rw [if_pos rfl]; exact (get_some (h.put k f)).2 ((mem_put ..).2 (Or.inl rfl))
  · rw [if_neg e]
    cases hg : get l k with
    | none =>
      refine get_none.2 fun p hp => ?_
      rcases (mem_put n f p l).1 hp with rfl | ⟨h1, _⟩
      · exact fun e2 => e e2.symm
      · exact get_none.1 hg p h1
    | some v => exact (get_some (h.put n f)).2 ((mem_put ..).2 (Or.inr ⟨(get_some h).1 hg, e⟩))
theorem get_del {l : List (Nm × α)} (h : Up l) (n k : Nm) : get (del n l) k = if k = n then none else get l k := by
  by_cases e : k = n
  · subst e; rw [if_pos rfl]; exact get_none.2 fun p hp => ((mem_del k p l).1 hp).2
  · rw [if_neg e]
    cases hg : get l k with
    | none => exact get_none.2 fun p hp => get_none.1 hg p ((mem_del n p l).1 hp).1
    | some v => exact (get_some (h.del n)).2 ((mem_del ..).2 ⟨(get_some h).1 hg, e⟩)
theorem put_put {l : List (Nm × α)} (h : Up l) (n : Nm) (f g : α) : put n f (put n g l) = put n f l :=
  get_ext ((h.put n g).put n f) (h.put n f) fun k => by rw [get_put (h.put n g), get_put h, get_put h]; split <;> simp_all
theorem put_get {l : List (Nm × α)} (h : Up l) {n : Nm} {f : α} (hg : get l n = some f) : put n f l = l :=
  get_ext (h.put n f) h fun k => by rw [get_put h]; split <;> simp_all
theorem del_none {l : List (Nm × α)} {n : Nm} (h : get l n = none) : del n l = l :=
  List.filter_eq_self.2 fun p hp => by simpa using get_none.1 h p hp
/-- how many, and how much, behind a put -/
theorem del_some {l : List (Nm × α)} (h : Up l) {n : Nm} {f : α} (hg : get l n = some f) : ∃ x y, l = x ++ (n, f) :: y ∧ del n l = x ++ y := by
  obtain ⟨x, y, e⟩ := List.append_of_mem (get_mem hg)
  refine ⟨x, y, e, ?_⟩
  subst e
  obtain ⟨_, h2, h3⟩ := List.pairwise_append.1 h
  obtain ⟨h4, _⟩ := List.pairwise_cons.1 h2
  have hx : x.filter (fun p => !(p.1 == n)) = x := List.filter_eq_self.2 fun p hp => by simpa using before_ne (h3 p hp _ (List.mem_cons_self ..))
  have hy : y.filter (fun p => !(p.1 == n)) = y := List.filter_eq_self.2 fun p hp => by simpa using (before_ne (h4 p hp)).symm
  simp [del, List.filter_append, hx, hy]
theorem del_len_some {l : List (Nm × α)} (h : Up l) {n : Nm} {f : α} (hg : get l n = some f) : (del n l).length + 1 = l.length := by
  obtain ⟨x, y, e1, e2⟩ := del_some h hg; rw [e2, e1]; simp; omega
theorem put_len {l : List (Nm × α)} (h : Up l) (n : Nm) (f : α) : (put n f l).length = if (get l n).isSome then l.length else l.length + 1 := by
  rw [put, ins_len]
  cases hg : get l n with
  | none => simp [del_none hg]
  | some v => simpa using del_len_some h hg
def tot (g : α → Nat) (l : List (Nm × α)) : Nat := (l.map fun p => g p.2).sum
theorem tot_ins (g : α → Nat) (p : Nm × α) (l : List (Nm × α)) : tot g (ins p l) = g p.2 + tot g l := by
  induction l with
  | nil => simp [ins, tot]
  | cons q r ih =>
    simp only [ins]; split
    · simp [tot]
    · simp only [tot, List.map_cons, List.sum_cons] at ih ⊢; omega
theorem tot_del {l : List (Nm × α)} (h : Up l) (g : α → Nat) {n : Nm} {f : α} (hg : get l n = some f) : tot g (del n l) + g f = tot g l := by
  obtain ⟨x, y, e1, e2⟩ := del_some h hg; rw [e2, e1]; simp [tot, List.sum_append]; omega
theorem tot_del_none (g : α → Nat) {l : List (Nm × α)} {n : Nm} (hg : get l n = none) : tot g (del n l) = tot g l := by rw [del_none hg]
theorem tot_put {l : List (Nm × α)} (h : Up l) (g : α → Nat) (n : Nm) (f : α) : tot g (put n f l) + (match get l n with | some v => g v | none => 0) = tot g l + g f := by
  rw [put, tot_ins]
  cases hg : get l n with
  | none => simp [tot_del_none g hg]; omega
  | some v => have := tot_del h g hg; simp only; omega
theorem tot_mem (g : α → Nat) {l : List (Nm × α)} {p : Nm × α} (h : p ∈ l) : g p.2 ≤ tot g l := by
  induction l with
  | nil => cases h
  | cons q r ih =>
    simp only [tot, List.map_cons, List.sum_cons] at ih ⊢
    rcases List.mem_cons.1 h with e | h
    · subst e; omega
    · have := ih h; omega
theorem mapV_get (g : α → β) (l : List (Nm × α)) (n : Nm) : get (mapV g l) n = (get l n).map g := by
  induction l with
  | nil => rfl
  | cons p r ih =>
    have : mapV g (p :: r) = (p.1, g p.2) :: mapV g r := rfl
    rw [this]; simp only [get]; split
    · rfl
    · exact ih
theorem mapV_del (g : α → β) (n : Nm) (l : List (Nm × α)) : mapV g (del n l) = del n (mapV g l) := by
  simp [mapV, del, List.filter_map, Function.comp_def]
theorem mapV_ins (g : α → β) (p : Nm × α) (l : List (Nm × α)) : mapV g (ins p l) = ins (p.1, g p.2) (mapV g l) := by
  induction l with
  | nil => rfl
  | cons q r ih =>
    have e : ∀ (q : Nm × α) r, mapV g (q :: r) = (q.1, g q.2) :: mapV g r := fun _ _ => rfl
    simp only [ins, e]; split
    · simp [e]
    · rw [e, ih]
theorem mapV_put (g : α → β) (n : Nm) (f : α) (l : List (Nm × α)) : mapV g (put n f l) = put n (g f) (mapV g l) := by rw [put, mapV_ins, mapV_del]; rfl
theorem mapV_up (g : α → β) {l : List (Nm × α)} (h : Up l) : Up (mapV g l) := List.pairwise_map.2 h
theorem mapV_len (g : α → β) (l : List (Nm × α)) : (mapV g l).length = l.length := by simp [mapV]

/-! ### as a datum -/
section
variable {H : Type}
def toD (e : α → DataW H) (l : List (Nm × α)) : DataW H := .map (l.map fun p => (Lit.string p.1, e p.2))
theorem toD_del (e : α → DataW H) (n : Nm) (l : List (Nm × α)) : (toD e l).del (.string n) = toD e (del n l) := by
  simp [toD, DataW.del, del, List.filter_map, Function.comp_def, Lit.sameKey]
theorem toD_ins (e : α → DataW H) (p : Nm × α) (l : List (Nm × α)) : DataW.insert (Lit.string p.1, e p.2) (l.map fun p => (Lit.string p.1, e p.2)) = (ins p l).map fun p => (Lit.string p.1, e p.2) := by
  induction l with
  | nil => rfl
  | cons q r ih =>
    simp only [List.map_cons, DataW.insert, ins, Lit.before]
    by_cases hb : bytesBefore p.1 q.1 = true
    · simp [hb]
    · simp [hb, ih]
theorem toD_put (e : α → DataW H) (n : Nm) (f : α) (l : List (Nm × α)) : (toD e l).put (.string n) (e f) = toD e (put n f l) := by
  have h := toD_del e n l
  simp only [toD, DataW.del, DataW.map.injEq] at h
  simp only [toD, DataW.put, h]
  rw [toD_ins e (n, f)]; rfl
theorem toD_at (e : α → DataW H) (n : Nm) (l : List (Nm × α)) (z : DataW H) : (toD e l).atKey (.string n) z = match get l n with | some f => e f | none => z := by
  induction l with
  | nil => rfl
  | cons p r ih =>
    simp only [toD, DataW.atKey, List.map_cons, List.find?_cons, Lit.sameKey, get] at ih ⊢
    by_cases h : p.1 = n
    · simp [h]
    · simp only [h, if_false, show (p.1 == n) = false by simpa using h]; exact ih
theorem toD_has (e : α → DataW H) (n : Nm) (l : List (Nm × α)) : Maps.has (toD e l) (.string n) = (get l n).isSome := by
  induction l with
  | nil => rfl
  | cons p r ih =>
    simp only [toD, has_eq, List.map_cons, List.any_cons, Lit.sameKey, get] at ih ⊢
    rw [ih]
    by_cases h : p.1 = n
    · simp [h]
    · simp [h]
theorem toD_size (e : α → DataW H) (l : List (Nm × α)) : Maps.size (toD e l) = l.length := by simp [toD, size_eq]
theorem toD_keys (e : α → DataW H) (l : List (Nm × α)) : strKeys (toD e l) = l.map (·.1) := by
  simp [toD, strKeys, strOf, Function.comp_def]
theorem toD_inj {e : α → DataW H} (he : ∀ a b, e a = e b → a = b) {l m : List (Nm × α)} (h : toD e l = toD e m) : l = m := by
  injection h with h
  induction l generalizing m with
  | nil => cases m with
    | nil => rfl
    | cons q s => simp at h
  | cons p r ih =>
    cases m with
    | nil => simp at h
    | cons q s =>
      simp only [List.map_cons, List.cons.injEq, Prod.mk.injEq, Lit.string.injEq] at h
      obtain ⟨⟨h1, h2⟩, h3⟩ := h
      rw [ih h3, Prod.ext h1 (he _ _ h2)]
/-- names that were collected, sorted, are the names -/
theorem names_sorted {l : List (Nm × α)} (h : Up l) {ss : List Nm} (hp : ss.Perm (l.map (·.1))) : ss.mergeSort leB = l.map (·.1) := by
  rw [mergeSort_of_perm hp]
  refine List.mergeSort_of_pairwise ?_
  refine List.pairwise_map.2 (List.Pairwise.imp (fun {p q} hb => ?_) h)
  rw [before_eq] at hb
  simpa [leB] using List.le_of_lt (by simpa using hb)
end
end Go.Proofs.YticfnfekkmkclaaGreatDoor.Disk

/-
  A disk in memory: its block, its map, what its files are; what turns when something is done to it.
-/
namespace Go.Proofs.YticfnfekkmkclaaGreatDoor.Disk
open Go Go.RowKit Go.Maps

/-- a text -/
def S (l : List UInt8) : ByteArray := ⟨l.toArray⟩
theorem S_list (l : List UInt8) : (S l).toList = l := by rw [ByteArray.toList_eq]; rfl
theorem S_data (l : List UInt8) : (S l).data.toList = l := rfl
theorem S_size (l : List UInt8) : (S l).size = l.length := rfl
theorem S_of (s : ByteArray) : S s.toList = s := by rw [ByteArray.toList_eq]; rfl
theorem S_inj {a b : List UInt8} (h : S a = S b) : a = b := by rw [← S_list a, h, S_list]
theorem list_len (s : ByteArray) : s.toList.length = s.size := by rw [ByteArray.toList_eq]; rfl

/-- a file: its bytes, and how many of them stand for good -/
structure F where
  b : List UInt8
  g : Nat
deriving DecidableEq
def F.ok (f : F) : Prop := f.g ≤ f.b.length ∧ f.b.length ≤ 1048576
def fV (f : F) : Value := .agg #[.string (S f.b), .int .i64 (f.g : Int)]
def fD (f : F) : DataW Unit := .agg [.lit (.string f.b), .lit (.int .i64 (f.g : Int))]
def f0 : F := ⟨[], 0⟩
theorem f0_ok : f0.ok := ⟨Nat.le_refl _, Nat.zero_le _⟩
theorem fV_inj {f g : F} (h : fV f = fV g) : f = g := by
  cases f; cases g
  simp only [fV, Value.agg.injEq, Array.mk.injEq, List.cons.injEq, Value.string.injEq, Value.int.injEq, true_and, and_true] at h
  obtain ⟨h1, h2⟩ := h
  rw [S_inj h1, Int.ofNat.inj h2]
open Classical in
/-- how a file's cells read -/
noncomputable def fileR (v : Value) : Option (DataW Unit × List MemPlace) :=
  if h : ∃ f : F, f.ok ∧ v = fV f then some (fD (Classical.choose h), []) else none
theorem fileR_mk {f : F} (h : f.ok) : fileR (fV f) = some (fD f, []) := by
  have he : ∃ g : F, g.ok ∧ fV f = fV g := ⟨f, h, rfl⟩
  unfold fileR
  rw [dif_pos he, ← fV_inj (Classical.choose_spec he).2]
theorem fileR_inv {v : Value} {y : DataW Unit × List MemPlace} (h : fileR v = some y) : ∃ f : F, f.ok ∧ v = fV f ∧ y = (fD f, []) := by
  unfold fileR at h
  split at h
  · rename_i he
    have hs := Classical.choose_spec he
    injection h with h
    exact ⟨_, hs.1, hs.2, h.symm⟩
  · cases h
theorem fD_inj {f g : F} (h : fD f = fD g) : f = g := by
  cases f; cases g
  simp only [fD, DataW.agg.injEq, List.cons.injEq, DataW.lit.injEq, Lit.string.injEq, Lit.int.injEq, true_and, and_true] at h
  rw [h.1, Int.ofNat.inj h.2]

/-- a disk -/
structure Dk where
  cap : Nat
  l : List (Nm × F)
  gone : Bool
  cut : Bool
  left : Nat
/-- a letter of a name -/
def okC (c : Nat) : Bool := decide (97 ≤ c ∧ c ≤ 122) || decide (65 ≤ c ∧ c ≤ 90) || decide (48 ≤ c ∧ c ≤ 57) || decide (c = 45) || decide (c = 95) || decide (c = 46)
/-- whether a text is a file's name -/
def mayN (n : Nm) : Bool := decide (1 ≤ n.length) && decide (n.length ≤ 24) && n.all fun c => okC c.toNat
def used (l : List (Nm × F)) : Nat := tot (fun f => f.b.length) l
structure Dk.ok (d : Dk) : Prop where
  up : Up d.l
  fs : ∀ p ∈ d.l, p.2.ok
  nm : ∀ p ∈ d.l, mayN p.1 = true
  len : d.l.length ≤ 64
  used : used d.l ≤ d.cap
  cap : d.cap ≤ 9223372036854775807
  left : d.left ≤ 9223372036854775807
  cut : d.cut = false → d.left = 0
def dkV (d : Dk) (b : Nat) : Array Value := #[.int .i64 (d.cap : Int), .map (some b), .bool d.gone, .bool d.cut, .int .i64 (d.left : Int)]
/-- at block a stands a disk whose map is at block b -/
structure DkAt (w : World) (a b : Nat) (d : Dk) : Prop where
  blk : w.heap[a]? = some (.cells (dkV d b) 117 (0, 0))
  mp : w.ownsMap Tryz.prog 9 fileR b d.l.length (toD fD d.l)
  ok : d.ok
/-- only blocks a and b have turned -/
structure Tn (a b : Nat) (w w' : World) : Prop where
  os : w'.os = w.os
  tape : w'.tape = w.tape
  output : w'.output = w.output
  size : w.heap.size ≤ w'.heap.size
  block : ∀ k, k < w.heap.size → k ≠ a → k ≠ b → w'.heap[k]? = w.heap[k]?
theorem Tn.refl (a b : Nat) (w : World) : Tn a b w w := ⟨rfl, rfl, rfl, Nat.le_refl _, fun _ _ _ _ => rfl⟩
theorem Tn.trans {a b : Nat} {u v w : World} (h : Tn a b u v) (k : Tn a b v w) : Tn a b u w :=
  ⟨k.os.trans h.os, k.tape.trans h.tape, k.output.trans h.output, Nat.le_trans h.size k.size, fun i hi h1 h2 => (k.block i (Nat.lt_of_lt_of_le hi h.size) h1 h2).trans (h.block i hi h1 h2)⟩
theorem Tn.of {a b : Nat} {w w' : World} (h : Below w.heap.size w w') : Tn a b w w' := ⟨h.os, h.tape, h.output, h.size, fun k hk _ _ => h.block k hk⟩
theorem Tn.low {a b B : Nat} {w w' : World} (h : Tn a b w w') (h1 : B ≤ w.heap.size) (h2 : B ≤ a) (h3 : B ≤ b) : Below B w w' :=
  ⟨h.os, h.tape, h.output, h.size, fun k hk => h.block k (by omega) (by omega) (by omega)⟩
theorem Tn.step {a b : Nat} {u v w : World} (h : Tn a b u v) (k : Below v.heap.size v w) : Tn a b u w := h.trans (.of k)
theorem Tn.map {a b : Nat} {w w' : World} (h : w.mapTurned w' b) : Tn a b w w' := by
  have g := h.grown
  exact ⟨g.os, g.tape, g.output, g.size, fun k hk _ h2 => g.block k hk (fun e => h2 (by injection e))⟩
theorem Tn.grown {a b : Nat} {w w' : World} (g : w.grownBy w' (some b)) : Tn a b w w' :=
  ⟨g.os, g.tape, g.output, g.size, fun k hk _ h2 => g.block k hk (fun e => h2 (by injection e))⟩
theorem Tn.set (w : World) (a b o : Nat) (x : Value) : Tn a b w (w.setCell ⟨a, o, none⟩ x) :=
  ⟨rfl, rfl, rfl, by simp [World.setCell], fun k _ h1 _ => Below.heap_setCell w ⟨a, o, none⟩ x k h1⟩
theorem Tn.new {a b : Nat} {u w : World} (h : Tn a b u w) (o : Obj) : Tn a b u (w.alloc o) := h.step ((Below.refl _ _).alloc (Nat.le_refl _) _)
theorem Tn.dn {a b : Nat} {u w : World} (h : Tn a b u w) (n : Nat) : Tn a b u (w.drewN n) := ⟨h.os, h.tape, h.output, h.size, h.block⟩
/-- a cell of a block that is new since -/
theorem Tn.high {a b k : Nat} {u w : World} (h : Tn a b u w) (hk : u.heap.size ≤ k) (o : Nat) (x : Value) : Tn a b u (w.setCell ⟨k, o, none⟩ x) :=
  ⟨h.os, h.tape, h.output, by simpa [World.setCell] using h.size, fun i hi h1 h2 => (Below.heap_setCell w ⟨k, o, none⟩ x i (by show i ≠ k; omega)).trans (h.block i hi h1 h2)⟩
theorem below_dn (n : Nat) (w : World) (z : Nat) : Below n w (w.drewN z) := ⟨rfl, rfl, rfl, Nat.le_refl _, fun _ _ => rfl⟩
theorem below_step {Y w w' : World} (h : Below Y.heap.size Y w) (hb : Below w.heap.size w w') : Below Y.heap.size Y w' := h.trans (hb.mono h.size)

theorem row_lt {w : World} {g : Nat} {o : Obj} (h : w.heap[g]? = some o) : g < w.heap.size := (Array.getElem?_eq_some_iff.1 h).1
theorem cell_row {w : World} {g : Nat} {cs : Array Value} {t : TypeId} {fr : Nat × Nat} (h : w.heap[g]? = some (.cells cs t fr)) (i : Nat) : w.cell? ⟨g, i, none⟩ = cs[i]? := cell_of_row w g i cs _ _ h
theorem frozen_row {w : World} {g : Nat} {cs : Array Value} {t : TypeId} (h : w.heap[g]? = some (.cells cs t (0, 0))) (i : Nat) : w.frozen? ⟨g, i, none⟩ = false := by
  simp [World.frozen?, h]
theorem heap_set {w : World} {b : Nat} {cs : Array Value} {t : TypeId} {fr : Nat × Nat} (h : w.heap[b]? = some (.cells cs t fr)) (i : Nat) (v : Value) : (w.setCell ⟨b, i, none⟩ v).heap[b]? = some (.cells (cs.setIfInBounds i v) t fr) := by
  simp [World.setCell, Array.getElem?_modify, h]
theorem heap_far {w : World} {b k : Nat} (i : Nat) (v : Value) (h : k ≠ b) : (w.setCell ⟨b, i, none⟩ v).heap[k]? = w.heap[k]? := Below.heap_setCell w _ v k h

theorem owns_block {w w' : World} {b n : Nat} {D : DataW Unit} {R : Value → Option (DataW Unit × List MemPlace)} (h : w.ownsMap Tryz.prog 9 R b n D) (hb : w'.heap[b]? = w.heap[b]?) : w'.ownsMap Tryz.prog 9 R b n D := by
  obtain ⟨es, clock, h1, h2⟩ := h
  exact ⟨es, clock, hb.trans h1, h2⟩
theorem owns_size {w : World} {b n : Nat} {D : DataW Unit} {R : Value → Option (DataW Unit × List MemPlace)} (h : w.ownsMap Tryz.prog 9 R b n D) : w.ownsMap Tryz.prog 9 R b (Maps.size D) D := by
  obtain ⟨es, clock, h1, h2, _, h3⟩ := h
  exact ⟨es, clock, h1, h2, by rw [h3]; simp [Maps.size, length_sorted], h3⟩
theorem DkAt.lt {w : World} {a b : Nat} {d : Dk} (h : DkAt w a b d) : a < w.heap.size ∧ b < w.heap.size := ⟨row_lt h.blk, h.mp.lt⟩
theorem DkAt.ne {w : World} {a b : Nat} {d : Dk} (h : DkAt w a b d) : a ≠ b := by
  obtain ⟨es, clock, h1, _⟩ := h.mp
  intro e; subst e
  rw [h.blk] at h1; cases h1
theorem DkAt.same {w w' : World} {a b : Nat} {d : Dk} (h : DkAt w a b d) (h1 : w'.heap[a]? = w.heap[a]?) (h2 : w'.heap[b]? = w.heap[b]?) : DkAt w' a b d := ⟨h1.trans h.blk, owns_block h.mp h2, h.ok⟩
theorem DkAt.below {w w' : World} {a b : Nat} {d : Dk} (h : DkAt w a b d) (hb : Below w.heap.size w w') : DkAt w' a b d := h.same (hb.block _ h.lt.1) (hb.block _ h.lt.2)
theorem DkAt.new {w : World} {a b : Nat} {d : Dk} (h : DkAt w a b d) (o : Obj) : DkAt (w.alloc o) a b d := h.below ((Below.refl _ _).alloc (Nat.le_refl _) _)
theorem DkAt.dn {w : World} {a b : Nat} {d : Dk} (h : DkAt w a b d) (n : Nat) : DkAt (w.drewN n) a b d := h.same rfl rfl
theorem map_ne {w : World} {a b k n : Nat} {d : Dk} {R : Value → Option (DataW Unit × List MemPlace)} {D : DataW Unit} (h : DkAt w a b d) (hk : w.ownsMap Tryz.prog 9 R k n D) : a ≠ k := by
  obtain ⟨es, clock, h1, _⟩ := hk
  intro e; subst e
  rw [h.blk] at h1; cases h1
/-- another disk stays -/
theorem DkAt.tn {w w' : World} {a b a' b' : Nat} {d d' : Dk} (h : DkAt w a b d) (h' : DkAt w a' b' d') (ht : Tn a' b' w w') (h1 : a ≠ a') (h2 : b ≠ b') : DkAt w' a b d :=
  h.same (ht.block _ h.lt.1 h1 (map_ne h h'.mp)) (ht.block _ h.lt.2 (map_ne h' h.mp).symm h2)
theorem DkAt.cell {w : World} {a b : Nat} {d : Dk} (h : DkAt w a b d) : w.cell? ⟨a, 0, none⟩ = some (.int .i64 (d.cap : Int)) ∧ w.cell? ⟨a, 1, none⟩ = some (.map (some b)) ∧ w.cell? ⟨a, 2, none⟩ = some (.bool d.gone) ∧ w.cell? ⟨a, 3, none⟩ = some (.bool d.cut) ∧ w.cell? ⟨a, 4, none⟩ = some (.int .i64 (d.left : Int)) :=
  ⟨cell_row h.blk 0, cell_row h.blk 1, cell_row h.blk 2, cell_row h.blk 3, cell_row h.blk 4⟩
theorem DkAt.fz {w : World} {a b : Nat} {d : Dk} (h : DkAt w a b d) (i : Nat) : w.frozen? ⟨a, i, none⟩ = false := frozen_row h.blk i

theorem tkeyed : Keyed Tryz.prog 9 := string_keyed Tryz.underlying9
theorem tmap : Tryz.prog.underlying 113 = some (.map 9 119) := by kernel_rfl
theorem tzero (w : World) : (zeroValue 119).run Tryz.prog w = .ok (fV f0) w := by kernel_rfl
theorem tkey (n : Nm) (h : n.length ≤ maxLen) : keyOf Tryz.prog 9 (.string (S n)) = some (.string n) := Go.WideMaps.keyOf_string_mk Tryz.underlying9 (s := S n) h
/-- a file is looked up -/
theorem look_run {w : World} {b m : Nat} {l : List (Nm × F)} (h : w.ownsMap Tryz.prog 9 fileR b m (toD fD l)) (n : Nm) (hn : n.length ≤ maxLen) :
    (Instr.lookup 113 (.map (some b)) (.string (S n)) true).run Tryz.prog w = .ok (.tuple #[fV ((get l n).getD f0), .bool (get l n).isSome]) w ∧
    (Instr.lookup 113 (.map (some b)) (.string (S n)) false).run Tryz.prog w = .ok (fV ((get l n).getD f0)) w := by
  have key : ∀ v ps, fileR v = some ((toD fD l).atKey (.string n) (fD f0), ps) → v = fV ((get l n).getD f0) := by
    intro v ps hv
    obtain ⟨f, hf, rfl, e⟩ := fileR_inv hv
    injection e with e
    rw [toD_at] at e
    cases hg : get l n with
    | none => rw [hg] at e; rw [fD_inj e]; rfl
    | some g => rw [hg] at e; rw [fD_inj e]; rfl
  obtain ⟨v, ps, h1, h2⟩ := h.look_ok tkeyed tmap (tzero w) (fileR_mk f0_ok) (tkey n hn)
  obtain ⟨v', ps', h3, h4⟩ := h.lookup tkeyed tmap (tzero w) (fileR_mk f0_ok) (tkey n hn)
  rw [key v ps h2, toD_has] at h1
  rw [key v' ps' h4] at h3
  exact ⟨h1, h3⟩
theorem len_run {w : World} {b m : Nat} {l : List (Nm × F)} (h : w.ownsMap Tryz.prog 9 fileR b m (toD fD l)) (ty : TypeId) : (Builtin.len_ #[113] ty #[.map (some b)]).run Tryz.prog w = .ok (.int .i64 (l.length : Int)) w := by
  have := h.len tmap ty
  rwa [toD_size] at this
/-- what a disk tells by itself: why nothing may be done -/
def refus (d : Dk) : Nat := if d.gone then 45 else 0

set_option maxRecDepth 100000 in
theorem refusal_any (a b : Nat) (d : Dk) (w : World) (h : DkAt w a b d) :
    Calls Tryz.prog 72 #[.pointer (some ⟨a, 0, none⟩)] w fun z w' => z = .returned (.int .i64 (refus d : Int)) ∧ w' = w := by
  obtain ⟨c0, c1, c2, c3, c4⟩ := h.cell
  clear h
  unfold refus
  go_enter Tryz.func72, Tryz.ntmps72
  cases hg : d.gone with
  | true =>
    rw [hg] at c2
    go_wp2
    go_ret
    exact ⟨rfl, rfl⟩
  | false =>
    rw [hg] at c2
    go_wp2
    go_ret
    exact ⟨rfl, rfl⟩
theorem refusal_nil (w : World) :
    Calls Tryz.prog 72 #[.pointer none] w fun z w' => z = .returned (.int .i64 2) ∧ w' = w := by
  go_enter Tryz.func72, Tryz.ntmps72
  go_wp2
  go_ret
  exact ⟨rfl, rfl⟩
end Go.Proofs.YticfnfekkmkclaaGreatDoor.Disk
