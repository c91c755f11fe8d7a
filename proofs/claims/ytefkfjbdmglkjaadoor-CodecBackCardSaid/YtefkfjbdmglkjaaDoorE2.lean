/-
  A variable of plain data: what it reads as tells its cells.
-/
import Derived.Test.YtefkfjbdmglkjaaDoorE1
import Derived.OpenShut
namespace Go.Proofs.YtefkfjbdmglkjaaDoor.Schema
open Go

mutual
/-- the cells of plain data -/
def flatV {H : Type} : DataW H → List Value
  | .lit (.int k n) => [.int k n]
  | .lit (.bool b) => [.bool b]
  | .lit (.string l) => [.string ⟨l.toArray⟩]
  | .agg ps => flatVs ps
  | _ => []
def flatVs {H : Type} : List (DataW H) → List Value
  | [] => []
  | d :: r => flatV d ++ flatVs r
end
theorem flatVs_eq {H : Type} : ∀ (l : List (DataW H)), flatVs l = (l.map flatV).flatten
  | [] => rfl
  | d :: r => by rw [flatVs, flatVs_eq r]; rfl

/-- the fields lie one behind the other, from o to n -/
def tilesB (P : Program) : List Field → Nat → Nat → Bool
  | [], o, n => o == n
  | f :: r, o, n => f.offset == o && tilesB P r (o + P.cellsOf f.type) n
def Tiles (P : Program) : List Field → Nat → Nat → Prop
  | [], o, n => o = n
  | f :: r, o, n => f.offset = o ∧ Tiles P r (o + P.cellsOf f.type) n
theorem tiles_of {P : Program} : ∀ (fs : List Field) (o n : Nat), tilesB P fs o n = true → Tiles P fs o n
  | [], o, n, h => by simpa [tilesB, Tiles] using h
  | f :: r, o, n, h => by
    simp only [tilesB, Bool.and_eq_true, beq_iff_eq] at h
    exact ⟨h.1, tiles_of r _ n h.2⟩
/-- a type of numbers, bools, texts, arrays and structs of these -/
inductive Sh (P : Program) : TypeId → Prop
  | int {t : TypeId} {k : IntKind} : P.underlying t = some (.int k) → Sh P t
  | bool {t : TypeId} : P.underlying t = some .bool → Sh P t
  | str {t : TypeId} : P.underlying t = some .string → Sh P t
  | arr {t e : TypeId} {n : Nat} : P.underlying t = some (.array n e) → P.cellsOf t = n * P.cellsOf e → Sh P e → Sh P t
  | struct {t : TypeId} {fs : Array Field} : P.underlying t = some (.struct fs) → Tiles P fs.toList 0 (P.cellsOf t) → (∀ f ∈ fs.toList, Sh P f.type) → Sh P t

theorem chunks {c : Nat} : ∀ (n : Nat) (cs : List Value) (ys : List (List Value)), cs.length = n * c → ys.length = n → (∀ i, i < n → ∀ y, ys[i]? = some y → (cs.drop (i * c)).take c = y) → cs = ys.flatten
  | 0, cs, ys, h1, h2, _ => by
    have e1 : cs = [] := List.eq_nil_of_length_eq_zero (by omega)
    have e2 : ys = [] := List.eq_nil_of_length_eq_zero h2
    rw [e1, e2]; rfl
  | n + 1, cs, y :: ys, h1, h2, h3 => by
    have hy := h3 0 (by omega) y rfl
    rw [Nat.zero_mul, List.drop_zero] at hy
    have e : (n + 1) * c = n * c + c := Nat.succ_mul n c
    have ih := chunks (c := c) n (cs.drop c) ys (by rw [List.length_drop]; omega) (by simpa using h2) (fun i hi z hz => by
      rw [List.drop_drop, ← h3 (i + 1) (by omega) z (by simpa using hz)]
      rw [show c + i * c = (i + 1) * c from by rw [Nat.succ_mul]; omega])
    rw [List.flatten_cons, ← ih, ← hy, List.take_append_drop]
  | _ + 1, _, [], _, h2, _ => by simp at h2
theorem tiled {P : Program} (cs : List Value) (n : Nat) (hn : cs.length = n) : ∀ (fs : List Field) (ys : List (List Value)) (o : Nat), o ≤ n → Tiles P fs o n → ys.length = fs.length → (∀ (i : Nat) (f : Field) (y : List Value), fs[i]? = some f → ys[i]? = some y → (cs.drop f.offset).take (P.cellsOf f.type) = y) → cs.drop o = ys.flatten
  | [], ys, o, _, ht, hl, _ => by
    have e2 : ys = [] := List.eq_nil_of_length_eq_zero hl
    subst e2
    have : o = n := ht
    rw [List.drop_eq_nil_of_le (by omega)]; rfl
  | f :: r, y :: ys, o, ho, ht, hl, h => by
    obtain ⟨rfl, ht⟩ := ht
    have hy := h 0 f y rfl rfl
    rw [List.flatten_cons, ← hy]
    by_cases hle : f.offset + P.cellsOf f.type ≤ n
    · have ih := tiled cs n hn r ys (f.offset + P.cellsOf f.type) hle ht (by simpa using hl) (fun i g z h1 h2 => h (i + 1) g z (by simpa using h1) (by simpa using h2))
      rw [← ih, ← List.drop_drop, List.take_append_drop]
    · have : ∀ (fs : List Field) (o : Nat), Tiles P fs o n → o ≤ n := by
        intro fs
        induction fs with
        | nil => intro o h; exact Nat.le_of_eq h
        | cons g r ih => intro o h; obtain ⟨_, h⟩ := h; have := ih _ h; omega
      exact absurd (this _ _ ht) hle
  | _ :: _, [], _, _, _, hl, _ => by simp at hl

variable {H : Type} {enc : TypeId × Value → H} {P : Program} {w : World} {base : Nat} {spare : Nat → Bool} {held : Bool}
/-- **what plain data reads as tells the cells** -/
theorem flat_trod {t : TypeId} (hs : Sh P t) : ∀ {fuel : Nat} {cs : List Value} {d : DataW H} {p : List MemPlace}, DataW.trod enc P w base spare held fuel t cs = some (d, p) → cs = flatV d := by
  induction hs with
  | int hu =>
    intro fuel cs d p h
    obtain ⟨n, rfl, hx, _⟩ := DataW.trod_int hu h
    injection hx with h1 h2
    subst h1; simp only [flatV]
  | bool hu =>
    intro fuel cs d p h
    obtain ⟨n, rfl, hx⟩ := DataW.trod_bool hu h
    injection hx with h1 h2
    subst h1; simp only [flatV]
  | str hu =>
    intro fuel cs d p h
    obtain ⟨s, rfl, hx, _⟩ := DataW.trod_string hu h
    injection hx with h1 h2
    subst h1; simp only [flatV]
  | arr hu hc _ ih =>
    intro fuel cs d p h
    obtain ⟨xs, m, rfl, hx, hl, hxl, hg⟩ := DataW.trod_array hu h
    injection hx with h1 h2
    subst h1
    rw [flatV, flatVs_eq, List.map_map]
    refine chunks _ cs _ (by rw [hl, hc]) (by rw [List.length_map, hxl]) (fun i hi y hy => ?_)
    rw [List.getElem?_map, List.getElem?_eq_getElem (by omega)] at hy
    have := hg i hi
    rw [List.getElem?_eq_getElem (by omega)] at this
    rw [ih this]
    simpa using hy
  | struct hu ht _ ih =>
    intro fuel cs d p h
    obtain ⟨xs, m, rfl, hx, hl, hxl, hg⟩ := DataW.trod_struct hu h
    injection hx with h1 h2
    subst h1
    rw [flatV, flatVs_eq, List.map_map]
    have := tiled cs _ hl _ (xs.map (flatV ∘ fun x => x.1)) 0 (Nat.zero_le _) ht (by rw [List.length_map, hxl]; simp) (fun i f y hf hy => by
      rw [List.getElem?_map] at hy
      have hi : i < xs.length := by
        have := (List.getElem?_eq_some_iff.1 hf).1
        rw [hxl]; simpa using this
      rw [List.getElem?_eq_getElem hi] at hy
      have hq := hg i f (by simpa using hf)
      rw [List.getElem?_eq_getElem hi] at hq
      rw [ih f (List.mem_of_getElem? hf) hq]
      simpa using hy)
    simpa using this

end Go.Proofs.YtefkfjbdmglkjaaDoor.Schema
