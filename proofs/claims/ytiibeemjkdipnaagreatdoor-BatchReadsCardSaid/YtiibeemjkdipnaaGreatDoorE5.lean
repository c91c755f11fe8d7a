import Derived.OpenShut
import Derived.Test.YtiibeemjkdipnaaGreatDoorRows
import Derived.Lay
import Derived.LaidLaws
import Derived.Below
import Derived.KernelRfl
import Derived.WalkSmall
import Derived.Stop.LaidErr
import Derived.Shelf.Vars
import Derived.WalkKit
import Derived.Lib.Hide
import Derived.WalkSpells
import Derived.WalkLawsBesides
import Derived.BigQuiet
import Derived.Deep.QuietTactic
/-
  The tables of layer 5, as plain lists, and what is told of them.
-/
namespace Go.Proofs.YtiibeemjkdipnaaGreatDoor.Schema

/-- a text -/
def S (l : List UInt8) : ByteArray := ⟨l.toArray⟩
/-- a row of the kinds of events: its name, its letters in each version, whether it has a name -/
structure EvR where
  name : ByteArray
  f1 : ByteArray
  f2 : ByteArray
  f3 : ByteArray
  text : Bool
/-- a row of the bounds -/
structure BdR where
  cls : Int
  since : Int
  low : Int
  high : Int
/-- a row of the commands -/
structure CmR where
  word : ByteArray
  fields : ByteArray
  text : Bool
def evR (n a b c : List UInt8) (t : Bool) : EvR := ⟨S n, S a, S b, S c, t⟩
def cmR (n a : List UInt8) (t : Bool) : CmR := ⟨S n, S a, t⟩
def evL : List EvR := [
  evR [] [] [] [] false,
  evR [111, 112, 101, 110, 101, 100] [97] [97] [97] true,
  evR [99, 108, 111, 115, 101, 100] [97] [97] [97] false,
  evR [108, 105, 115, 116, 101, 100] [105] [105, 107] [105, 107] true,
  evR [104, 97, 108, 116, 101, 100] [105] [105] [105] false,
  evR [114, 101, 115, 117, 109, 101, 100] [105] [105] [105] false,
  evR [100, 101, 112, 111, 115, 105, 116, 101, 100] [97, 109] [97, 109] [97, 109] false,
  evR [119, 105, 116, 104, 100, 114, 97, 119, 110] [97, 109] [97, 109] [97, 109] false,
  evR [105, 115, 115, 117, 101, 100] [97, 105, 113] [97, 105, 113] [97, 105, 113] false,
  evR [114, 101, 100, 101, 101, 109, 101, 100] [97, 105, 113] [97, 105, 113] [97, 105, 113] false,
  evR [102, 101, 101, 32, 115, 101, 116] [98] [98] [98] false,
  evR [112, 108, 97, 99, 101, 100] [111, 97, 105, 115, 112, 113] [111, 97, 105, 115, 112, 113] [111, 97, 105, 115, 112, 113] false,
  evR [99, 97, 110, 99, 101, 108, 108, 101, 100] [111] [111] [111] false,
  evR [116, 114, 97, 100, 101, 100] [111, 111, 112, 113] [111, 111, 112, 113, 122] [111, 111, 112, 113, 122] false,
  evR [101, 110, 103, 108, 105, 115, 104] [99, 97, 105, 113, 109, 116] [99, 97, 105, 113, 109, 109, 116] [99, 97, 105, 113, 109, 109, 116] false,
  evR [114, 97, 105, 115, 101, 100] [99, 97, 109] [99, 97, 109] [99, 97, 109] false,
  evR [115, 101, 97, 108, 101, 100] [99, 97, 105, 113, 109, 116] [99, 97, 105, 113, 109, 116] [99, 97, 105, 113, 109, 116] false,
  evR [98, 105, 100] [99, 97, 109] [99, 97, 109] [99, 97, 109] false,
  evR [115, 111, 108, 100] [99, 97, 109] [99, 97, 109, 122] [99, 97, 109, 122] false,
  evR [117, 110, 115, 111, 108, 100] [99] [99] [99] false,
  evR [109, 111, 118, 101, 100] [116] [116] [116] false,
  evR [116, 114, 97, 110, 115, 102, 101, 114, 114, 101, 100] [] [97, 97, 109] [97, 97, 109] false,
  evR [114, 101, 110, 97, 109, 101, 100] [] [] [97] true,
  evR [116, 105, 99, 107, 101, 100] [] [] [105, 107] false]
def bdL : List BdR := [
  ⟨97, 1, 1, 64⟩,
  ⟨105, 1, 1, 16⟩,
  ⟨111, 1, 1, 1099511627776⟩,
  ⟨99, 1, 1, 1099511627776⟩,
  ⟨109, 1, 1, 11258999068426⟩,
  ⟨109, 2, 1, 1125899906842624⟩,
  ⟨122, 1, 0, 11258999068426⟩,
  ⟨122, 2, 0, 1125899906842624⟩,
  ⟨112, 1, 1, 10737418⟩,
  ⟨112, 2, 1, 1073741824⟩,
  ⟨107, 1, 1, 1073741824⟩,
  ⟨113, 1, 1, 1048576⟩,
  ⟨115, 1, 0, 1⟩,
  ⟨115, 3, 1, 2⟩,
  ⟨98, 1, 0, 10⟩,
  ⟨98, 2, 0, 1000⟩,
  ⟨116, 1, 1, 109951162777⟩,
  ⟨116, 3, 1, 1099511627776⟩]
def cmL : List CmR := [
  cmR [] [] false,
  cmR [111, 112, 101, 110] [] true,
  cmR [99, 108, 111, 115, 101] [97] false,
  cmR [108, 105, 115, 116] [107] true,
  cmR [104, 97, 108, 116] [105] false,
  cmR [114, 101, 115, 117, 109, 101] [105] false,
  cmR [100, 101, 112, 111, 115, 105, 116] [97, 109] false,
  cmR [119, 105, 116, 104, 100, 114, 97, 119] [97, 109] false,
  cmR [105, 115, 115, 117, 101] [97, 105, 113] false,
  cmR [114, 101, 100, 101, 101, 109] [97, 105, 113] false,
  cmR [102, 101, 101] [98] false,
  cmR [112, 108, 97, 99, 101] [97, 105, 115, 112, 113] false,
  cmR [99, 97, 110, 99, 101, 108] [97, 111] false,
  cmR [101, 110, 103, 108, 105, 115, 104] [97, 105, 113, 109, 109, 116] false,
  cmR [114, 97, 105, 115, 101] [97, 99, 109] false,
  cmR [115, 101, 97, 108, 101, 100] [97, 105, 113, 109, 116] false,
  cmR [98, 105, 100] [97, 99, 109] false,
  cmR [109, 111, 118, 101] [116] false,
  cmR [116, 114, 97, 110, 115, 102, 101, 114] [97, 97, 109] false,
  cmR [114, 101, 110, 97, 109, 101] [97] true,
  cmR [116, 105, 99, 107] [105, 107] false]

def evAt (k : Nat) : EvR := evL.getD k (evR [] [] [] [] false)
def cmAt (k : Nat) : CmR := cmL.getD k (cmR [] [] false)
/-- the letters of a kind in a version -/
def lets (v k : Nat) : ByteArray := if v = 1 then (evAt k).f1 else if v = 2 then (evAt k).f2 else if v = 3 then (evAt k).f3 else S []
/-- the letters of a command -/
def asks (k : Nat) : ByteArray := (cmAt k).fields
def tru (k : Nat) : Bool := (evAt k).text
def tall (v k : Nat) : Bool := decide (0 < (lets v k).size)
def isC (k : Nat) : Bool := decide (0 < k) && decide (k < 21)

/-! ### a table's cells -/
theorem flat_at {α β : Type} (f : α → List β) (n : Nat) : ∀ (l : List α), (∀ x ∈ l, (f x).length = n) → ∀ (i j : Nat), j < n → (l.flatMap f)[i * n + j]? = (l[i]?).bind fun x => (f x)[j]?
  | [], _, i, j, _ => by simp
  | x :: r, h, 0, j, hj => by
    have hx := h x List.mem_cons_self
    rw [List.flatMap_cons, Nat.zero_mul, Nat.zero_add, List.getElem?_append_left (by omega)]; rfl
  | x :: r, h, i + 1, j, hj => by
    have hx := h x List.mem_cons_self
    have e : (i + 1) * n + j = n + (i * n + j) := by rw [Nat.succ_mul]; omega
    rw [List.flatMap_cons, e, List.getElem?_append_right (by omega), hx, Nat.add_sub_cancel_left, flat_at f n r (fun y hy => h y (List.mem_cons_of_mem _ hy)) i j hj]; rfl

end Go.Proofs.YtiibeemjkdipnaaGreatDoor.Schema

/-
  A variable of plain data: what it reads as tells its cells.
-/
namespace Go.Proofs.YtiibeemjkdipnaaGreatDoor.Schema
open Go

mutual
/-- the cells of plain data -/
def flatV {H : Type} : DataW H → List Value
  | .lit (.int k n) => [.int k n]
  | .lit (.bool b) => [.bool b]
  | .lit (.string l) => [.string ⟨l.toArray⟩]
  | .agg ps => flatVs ps
  | _ => []
def flatVs {H : Type} : List (DataW H) → List Value
  | [] => []
  | d :: r => flatV d ++ flatVs r
end
theorem flatVs_eq {H : Type} : ∀ (l : List (DataW H)), flatVs l = (l.map flatV).flatten
  | [] => rfl
  | d :: r => by rw [flatVs, flatVs_eq r]; rfl

/-- the fields lie one behind the other, from o to n -/
def tilesB (P : Program) : List Field → Nat → Nat → Bool
  | [], o, n => o == n
  | f :: r, o, n => f.offset == o && tilesB P r (o + P.cellsOf f.type) n
def Tiles (P : Program) : List Field → Nat → Nat → Prop
  | [], o, n => o = n
  | f :: r, o, n => f.offset = o ∧ Tiles P r (o + P.cellsOf f.type) n
theorem tiles_of {P : Program} : ∀ (fs : List Field) (o n : Nat), tilesB P fs o n = true → Tiles P fs o n
  | [], o, n, h => by simpa [tilesB, Tiles] using h
  | f :: r, o, n, h => by
    simp only [tilesB, Bool.and_eq_true, beq_iff_eq] at h
    exact ⟨h.1, tiles_of r _ n h.2⟩
/-- a type of numbers, bools, texts, arrays and structs of these -/
inductive Sh (P : Program) : TypeId → Prop
  | int {t : TypeId} {k : IntKind} : P.underlying t = some (.int k) → Sh P t
  | bool {t : TypeId} : P.underlying t = some .bool → Sh P t
  | str {t : TypeId} : P.underlying t = some .string → Sh P t
  | arr {t e : TypeId} {n : Nat} : P.underlying t = some (.array n e) → P.cellsOf t = n * P.cellsOf e → Sh P e → Sh P t
  | struct {t : TypeId} {fs : Array Field} : P.underlying t = some (.struct fs) → Tiles P fs.toList 0 (P.cellsOf t) → (∀ f ∈ fs.toList, Sh P f.type) → Sh P t

theorem chunks {c : Nat} : ∀ (n : Nat) (cs : List Value) (ys : List (List Value)), cs.length = n * c → ys.length = n → (∀ i, i < n → ∀ y, ys[i]? = some y → (cs.drop (i * c)).take c = y) → cs = ys.flatten
  | 0, cs, ys, h1, h2, _ => by
    have e1 : cs = [] := List.eq_nil_of_length_eq_zero (by omega)
    have e2 : ys = [] := List.eq_nil_of_length_eq_zero h2
    rw [e1, e2]; rfl
  | n + 1, cs, y :: ys, h1, h2, h3 => by
    have hy := h3 0 (by omega) y rfl
    rw [Nat.zero_mul, List.drop_zero] at hy
    have e : (n + 1) * c = n * c + c := Nat.succ_mul n c
    have ih := chunks (c := c) n (cs.drop c) ys (by rw [List.length_drop]; omega) (by simpa using h2) (fun i hi z hz => by
      rw [List.drop_drop, ← h3 (i + 1) (by omega) z (by simpa using hz)]
      rw [show c + i * c = (i + 1) * c from by rw [Nat.succ_mul]; omega])
    rw [List.flatten_cons, ← ih, ← hy, List.take_append_drop]
  | _ + 1, _, [], _, h2, _ => by simp at h2
theorem tiled {P : Program} (cs : List Value) (n : Nat) (hn : cs.length = n) : ∀ (fs : List Field) (ys : List (List Value)) (o : Nat), o ≤ n → Tiles P fs o n → ys.length = fs.length → (∀ (i : Nat) (f : Field) (y : List Value), fs[i]? = some f → ys[i]? = some y → (cs.drop f.offset).take (P.cellsOf f.type) = y) → cs.drop o = ys.flatten
  | [], ys, o, _, ht, hl, _ => by
    have e2 : ys = [] := List.eq_nil_of_length_eq_zero hl
    subst e2
    have : o = n := ht
    rw [List.drop_eq_nil_of_le (by omega)]; rfl
  | f :: r, y :: ys, o, ho, ht, hl, h => by
    obtain ⟨rfl, ht⟩ := ht
    have hy := h 0 f y rfl rfl
    rw [List.flatten_cons, ← hy]
    by_cases hle : f.offset + P.cellsOf f.type ≤ n
    · have ih := tiled cs n hn r ys (f.offset + P.cellsOf f.type) hle ht (by simpa using hl) (fun i g z h1 h2 => h (i + 1) g z (by simpa using h1) (by simpa using h2))
      rw [← ih, ← List.drop_drop, List.take_append_drop]
    · have : ∀ (fs : List Field) (o : Nat), Tiles P fs o n → o ≤ n := by
        intro fs
        induction fs with
        | nil => intro o h; exact Nat.le_of_eq h
        | cons g r ih => intro o h; obtain ⟨_, h⟩ := h; have := ih _ h; omega
      exact absurd (this _ _ ht) hle
  | _ :: _, [], _, _, _, hl, _ => by simp at hl

variable {H : Type} {enc : TypeId × Value → H} {P : Program} {w : World} {base : Nat} {spare : Nat → Bool} {held : Bool}
/-- **what plain data reads as tells the cells** -/
theorem flat_trod {t : TypeId} (hs : Sh P t) : ∀ {fuel : Nat} {cs : List Value} {d : DataW H} {p : List MemPlace}, DataW.trod enc P w base spare held fuel t cs = some (d, p) → cs = flatV d := by
  induction hs with
  | int hu =>
    intro fuel cs d p h
    obtain ⟨n, rfl, hx, _⟩ := DataW.trod_int hu h
    injection hx with h1 h2
    subst h1; simp only [flatV]
  | bool hu =>
    intro fuel cs d p h
    obtain ⟨n, rfl, hx⟩ := DataW.trod_bool hu h
    injection hx with h1 h2
    subst h1; simp only [flatV]
  | str hu =>
    intro fuel cs d p h
    obtain ⟨s, rfl, hx, _⟩ := DataW.trod_string hu h
    injection hx with h1 h2
    subst h1; simp only [flatV]
  | arr hu hc _ ih =>
    intro fuel cs d p h
    obtain ⟨xs, m, rfl, hx, hl, hxl, hg⟩ := DataW.trod_array hu h
    injection hx with h1 h2
    subst h1
    rw [flatV, flatVs_eq, List.map_map]
    refine chunks _ cs _ (by rw [hl, hc]) (by rw [List.length_map, hxl]) (fun i hi y hy => ?_)
    rw [List.getElem?_map, List.getElem?_eq_getElem (by omega)] at hy
    have := hg i hi
    rw [List.getElem?_eq_getElem (by omega)] at this
    rw [ih this]
    simpa using hy
  | struct hu ht _ ih =>
    intro fuel cs d p h
    obtain ⟨xs, m, rfl, hx, hl, hxl, hg⟩ := DataW.trod_struct hu h
    injection hx with h1 h2
    subst h1
    rw [flatV, flatVs_eq, List.map_map]
    have := tiled cs _ hl _ (xs.map (flatV ∘ fun x => x.1)) 0 (Nat.zero_le _) ht (by rw [List.length_map, hxl]; simp) (fun i f y hf hy => by
      rw [List.getElem?_map] at hy
      have hi : i < xs.length := by
        have := (List.getElem?_eq_some_iff.1 hf).1
        rw [hxl]; simpa using this
      rw [List.getElem?_eq_getElem hi] at hy
      have hq := hg i f (by simpa using hf)
      rw [List.getElem?_eq_getElem hi] at hq
      rw [ih f (List.mem_of_getElem? hf) hq]
      simpa using hy)
    simpa using this

end Go.Proofs.YtiibeemjkdipnaaGreatDoor.Schema

/-
  What the rows list gives a walk: the three tables' cells.
-/
namespace Go.Proofs.YtiibeemjkdipnaaGreatDoor.Schema
open Go Go.RowKit

theorem laid_var {P : Program} {W : World} {name : String} {d : DataW Unit} {r : List (String × DataW Unit)} {g : Nat} {t : TypeId} (h : laidMet P ((name, d) :: r) W) (hg : P.globalNamed name = some g) (ht : (P.globals[g]?).map (·.type) = some t) (hs : Sh P t) :
    W.var? P name = some (flatV d).toArray := by
  obtain ⟨ps, ⟨g', t', cs, fuel, p, q, hg', ht', hvar, hd, _, _⟩, _⟩ := h
  obtain rfl := Option.some.inj (hg.symm.trans hg')
  obtain rfl := Option.some.inj (ht.symm.trans ht')
  rw [hvar, ← flat_trod hs hd]

theorem gEv : Tryz.prog.globalNamed "souk/schema.events" = some 0 := by kernel_rfl
theorem gBd : Tryz.prog.globalNamed "souk/schema.bounds" = some 1 := by kernel_rfl
theorem gEvT : (Tryz.prog.globals[0]?).map (·.type) = some 103 := by kernel_rfl
theorem gBdT : (Tryz.prog.globals[1]?).map (·.type) = some 149 := by kernel_rfl

theorem shS : Sh Tryz.prog 9 := .str Tryz.underlying9
theorem shB : Sh Tryz.prog 4 := .bool Tryz.underlying4
theorem sh64 : Sh Tryz.prog 2 := .int Tryz.underlying2
theorem sh8 : Sh Tryz.prog 5 := .int Tryz.underlying5
theorem shC : Sh Tryz.prog 128 := .int Tryz.underlying128
theorem sh3 : Sh Tryz.prog 101 := .arr Tryz.underlying101 (by kernel_rfl) shS
theorem shEvR : Sh Tryz.prog 102 := .struct Tryz.underlying102 (tiles_of _ _ _ (by kernel_rfl)) (by
  intro f hf
  simp only [List.mem_cons, List.not_mem_nil, or_false] at hf
  rcases hf with rfl | rfl | rfl
  · exact shS
  · exact sh3
  · exact shB)
theorem shBdR : Sh Tryz.prog 148 := .struct Tryz.underlying148 (tiles_of _ _ _ (by kernel_rfl)) (by
  intro f hf
  simp only [List.mem_cons, List.not_mem_nil, or_false] at hf
  rcases hf with rfl | rfl | rfl | rfl
  · exact shC
  · exact sh8
  · exact sh64
  · exact sh64)
theorem shEv : Sh Tryz.prog 103 := .arr Tryz.underlying103 (by kernel_rfl) shEvR
theorem shBd : Sh Tryz.prog 149 := .arr Tryz.underlying149 (by kernel_rfl) shBdR

def evC (r : EvR) : List Value := [.string r.name, .string r.f1, .string r.f2, .string r.f3, .bool r.text]
def bdC (r : BdR) : List Value := [.int .u8 r.cls, .int .u8 r.since, .int .i64 r.low, .int .i64 r.high]
def cmC (r : CmR) : List Value := [.string r.word, .string r.fields, .bool r.text]
theorem ev_data : flatV (Rows.laid_souk_schema_events : DataW Unit) = evL.flatMap evC := by kernel_rfl
theorem bd_data : flatV (Rows.laid_souk_schema_bounds : DataW Unit) = bdL.flatMap bdC := by kernel_rfl

/-- the tables stand -/
def Env (w : World) : Prop := w.var? Tryz.prog "souk/schema.events" = some (evL.flatMap evC).toArray ∧ w.var? Tryz.prog "souk/schema.bounds" = some (bdL.flatMap bdC).toArray ∧ 2 ≤ w.heap.size
theorem Env.below {w w' : World} (h : Env w) (hb : Below w.heap.size w w') : Env w' :=
  ⟨var?_below hb gEv (Nat.lt_of_lt_of_le (by decide) h.2.2) h.1, var?_below hb gBd (Nat.lt_of_lt_of_le (by decide) h.2.2) h.2.1, Nat.le_trans h.2.2 hb.size⟩
def listed : List (String × DataW Unit) := [("souk/schema.events", Rows.laid_souk_schema_events), ("souk/schema.bounds", Rows.laid_souk_schema_bounds)]
theorem env_of {W : World} (h : laidMet Tryz.prog listed W) : Env W := by
  have h1 := laid_var h gEv gEvT shEv
  have h2 := laid_var h.tail gBd gBdT shBd
  rw [ev_data] at h1
  rw [bd_data] at h2
  refine ⟨h1, h2, ?_⟩
  have hc := World.var?_cell gBd h2 0
  rcases Nat.lt_or_ge 1 W.heap.size with h4 | h4
  · exact h4
  · simp [World.cell?, Array.getElem?_eq_none h4] at hc
    exact absurd hc (by decide)

theorem Env.ev {w : World} (h : Env w) (k j : Nat) (hj : j < 5) : w.cell? ⟨0, k * 5 + j, none⟩ = (evL[k]?).bind fun r => (evC r)[j]? := by
  rw [World.var?_cell gEv h.1, List.getElem?_toArray, flat_at evC 5 evL (fun _ _ => rfl) k j hj]
theorem Env.bd {w : World} (h : Env w) (k j : Nat) (hj : j < 4) : w.cell? ⟨1, k * 4 + j, none⟩ = (bdL[k]?).bind fun r => (bdC r)[j]? := by
  rw [World.var?_cell gBd h.2.1, List.getElem?_toArray, flat_at bdC 4 bdL (fun _ _ => rfl) k j hj]
theorem evL_len : evL.length = 24 := rfl
theorem bdL_len : bdL.length = 18 := rfl
theorem cmL_len : cmL.length = 21 := rfl
theorem ev_row (k : Nat) (hk : k < 24) : evL[k]? = some (evAt k) := by
  unfold evAt
  rw [List.getD_eq_getElem?_getD, List.getElem?_eq_getElem (by rw [evL_len]; exact hk)]; rfl
theorem cm_row (k : Nat) (hk : k < 21) : cmL[k]? = some (cmAt k) := by
  unfold cmAt
  rw [List.getD_eq_getElem?_getD, List.getElem?_eq_getElem (by rw [cmL_len]; exact hk)]; rfl

end Go.Proofs.YtiibeemjkdipnaaGreatDoor.Schema

/-
  The walks of fields, Name, isCommand, Word.
-/
namespace Go.Proofs.YtiibeemjkdipnaaGreatDoor.Schema
open Go Go.RowKit

theorem ret_str {a b : ByteArray} (h : a = b) : Ending.returned (.string a) = .returned (.string b) := by rw [h]
theorem evAt_out (k : Nat) (hk : ¬ k < 24) : evAt k = evR [] [] [] [] false := by
  unfold evAt
  rw [List.getD_eq_getElem?_getD, List.getElem?_eq_none (by rw [evL_len]; omega)]; rfl
theorem cmAt_out (k : Nat) (hk : ¬ k < 21) : cmAt k = cmR [] [] false := by
  unfold cmAt
  rw [List.getD_eq_getElem?_getD, List.getElem?_eq_none (by rw [cmL_len]; omega)]; rfl
theorem lets_out (v k : Nat) (h : v < 1 ∨ 3 < v ∨ ¬ k < 24) : lets v k = ⟨#[]⟩ := by
  unfold lets
  split
  · rw [evAt_out k (by omega)]; rfl
  · split
    · rw [evAt_out k (by omega)]; rfl
    · split
      · rw [evAt_out k (by omega)]; rfl
      · rfl
theorem Env.f {w : World} (h : Env w) (k : Nat) (hk : k < 24) : w.cell? ⟨0, k * 5, none⟩ = some (.string (evAt k).name) ∧ w.cell? ⟨0, k * 5 + 1, none⟩ = some (.string (evAt k).f1) ∧ w.cell? ⟨0, k * 5 + 2, none⟩ = some (.string (evAt k).f2) ∧ w.cell? ⟨0, k * 5 + 3, none⟩ = some (.string (evAt k).f3) ∧ w.cell? ⟨0, k * 5 + 4, none⟩ = some (.bool (evAt k).text) := by
  have g := fun j hj => h.ev k j hj
  simp only [ev_row k hk, Option.bind_some] at g
  exact ⟨g 0 (by decide), g 1 (by decide), g 2 (by decide), g 3 (by decide), g 4 (by decide)⟩
theorem fields_any (v k : Nat) (hv : v < 256) (hk : k < 256) (w : World) (E : Env w) :
    Calls Tryz.prog 68 #[.int .u8 v, .int .u8 k] w fun e w' => e = .returned (.string (lets v k)) ∧ w = w' := by
  by_cases h : v < 1 ∨ 3 < v ∨ ¬ k < 24
  · rw [lets_out v k h]
    clear E
    by_cases h1 : v < 1
    · obtain rfl : v = 0 := by omega
      go_enter Tryz.func68, Tryz.ntmps68
      go_wp2
      go_ret
      exact ⟨rfl, rfl⟩
    · have h1' : 1 ≤ v := by omega
      by_cases h3 : 3 < v
      · clear h
        go_enter Tryz.func68, Tryz.ntmps68
        go_wp2
        go_ret
        exact ⟨rfl, rfl⟩
      · have h4 : 24 ≤ k := by omega
        have h3' : v ≤ 3 := by omega
        clear h h1
        go_enter Tryz.func68, Tryz.ntmps68
        go_wp2
        go_ret
        exact ⟨rfl, rfl⟩
  · have h4 : k < 24 := by omega
    obtain ⟨_, c1, c2, c3, _⟩ := E.f k h4
    obtain rfl | rfl | rfl : v = 1 ∨ v = 2 ∨ v = 3 := by omega
    · show Calls _ _ _ _ fun e w' => e = .returned (.string (evAt k).f1) ∧ w = w'
      generalize (evAt k).f1 = s at c1 ⊢
      clear c2 c3 h E
      go_enter Tryz.func68, Tryz.ntmps68
      go_wp2
      go_ret
      exact ⟨rfl, rfl⟩
    · show Calls _ _ _ _ fun e w' => e = .returned (.string (evAt k).f2) ∧ w = w'
      generalize (evAt k).f2 = s at c2 ⊢
      clear c1 c3 h E
      go_enter Tryz.func68, Tryz.ntmps68
      go_wp2
      go_ret
      exact ⟨rfl, rfl⟩
    · show Calls _ _ _ _ fun e w' => e = .returned (.string (evAt k).f3) ∧ w = w'
      generalize (evAt k).f3 = s at c3 ⊢
      clear c1 c2 h E
      go_enter Tryz.func68, Tryz.ntmps68
      go_wp2
      go_ret
      exact ⟨rfl, rfl⟩

end Go.Proofs.YtiibeemjkdipnaaGreatDoor.Schema

/-
  The walks of Word, Kind, Worded.
-/
namespace Go.Proofs.YtiibeemjkdipnaaGreatDoor.Schema
open Go Go.RowKit

theorem str_eq (a b : ByteArray) : (a.toList == b.toList) = decide (a = b) := by
  rw [Bool.eq_iff_iff, beq_iff_eq, decide_eq_true_iff, ByteArray.toList_eq, ByteArray.toList_eq]
  exact ⟨fun h => ByteArray.ext (Array.ext' h), fun h => by rw [h]⟩
theorem word_out (k : Nat) (h : isC k = false) : (cmAt k).word = ⟨#[]⟩ := by
  unfold isC at h
  by_cases h0 : 0 < k
  · rw [cmAt_out k (by simpa [h0] using h)]; rfl
  · obtain rfl : k = 0 := by omega
    rfl
theorem isC_iff {k : Nat} : isC k = true ↔ 0 < k ∧ k < 21 := by unfold isC; simp
/-- the first number below n that is met -/
def firstAt (n : Nat) (p : Nat → Bool) : Nat := ((List.range n).find? p).getD 0
theorem firstAt_hit {n k : Nat} {p : Nat → Bool} (hk : k < n) (hp : p k = true) (hno : ∀ j, j < k → p j = false) : firstAt n p = k := by
  unfold firstAt
  rw [List.find?_range_eq_some.2 ⟨hp, List.mem_range.2 hk, fun j hj => by rw [hno j hj]; rfl⟩]; rfl
theorem firstAt_none {n : Nat} {p : Nat → Bool} (hno : ∀ j, j < n → p j = false) : firstAt n p = 0 := by
  unfold firstAt
  rw [List.find?_eq_none.2 (fun j hj => by rw [hno j (List.mem_range.1 hj)]; simp)]; rfl
theorem no_step {p : Nat → Bool} {k : Nat} (h : Hid (∀ j, j < k → p j = false)) (hk : p k = false) : Hid (∀ j, j < k + 1 → p j = false) := fun j hj => by
  by_cases e : j = k
  · exact e ▸ hk
  · exact h j (by omega)
theorem ret_kb {n m : Int} {a b : Bool} (h1 : n = m) (h2 : a = b) : Ending.returned (.tuple #[.int .u8 n, .bool a]) = .returned (.tuple #[.int .u8 m, .bool b]) := by rw [h1, h2]
theorem firstAt_lt {n : Nat} {p : Nat → Bool} (h : 0 < firstAt n p) : firstAt n p < n ∧ p (firstAt n p) = true := by
  unfold firstAt at h ⊢
  cases e : (List.range n).find? p with
  | none => rw [e] at h; exact absurd h (Nat.lt_irrefl _)
  | some k => exact ⟨List.mem_range.1 (List.mem_of_find?_eq_some e), List.find?_some e⟩
def hitE (s : ByteArray) (k : Nat) : Bool := decide ((evAt k).name = s) && !s.toList.isEmpty
def hitC (s : ByteArray) (k : Nat) : Bool := isC k && decide ((cmAt k).word = s)
def kindOf (s : ByteArray) : Nat := firstAt 24 (hitE s)
def comOf (s : ByteArray) : Nat := firstAt 21 (hitC s)

theorem hitE_zero (s : ByteArray) : hitE s 0 = false := by
  unfold hitE
  rw [show (evAt 0).name = ⟨#[]⟩ from rfl]
  by_cases h : s.toList = []
  · simp [h]
  · have : ¬ (⟨#[]⟩ : ByteArray) = s := fun e => h (by rw [← e]; decide +kernel)
    simp [this]
theorem hitC_zero (s : ByteArray) : hitC s 0 = false := rfl

end Go.Proofs.YtiibeemjkdipnaaGreatDoor.Schema
