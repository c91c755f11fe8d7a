/-
  The tables of layer 5, as plain lists, and what is told of them.
-/
namespace Go.Proofs.YtefkfjbdmglkjaaDoor.Schema

/-- a text -/
def S (l : List UInt8) : ByteArray := ⟨l.toArray⟩
/-- a row of the kinds of events: its name, its letters in each version, whether it has a name -/
structure EvR where
  name : ByteArray
  f1 : ByteArray
  f2 : ByteArray
  f3 : ByteArray
  text : Bool
/-- a row of the bounds -/
structure BdR where
  cls : Int
  since : Int
  low : Int
  high : Int
/-- a row of the commands -/
structure CmR where
  word : ByteArray
  fields : ByteArray
  text : Bool
def evR (n a b c : List UInt8) (t : Bool) : EvR := ⟨S n, S a, S b, S c, t⟩
def cmR (n a : List UInt8) (t : Bool) : CmR := ⟨S n, S a, t⟩
def evL : List EvR := [
  evR [] [] [] [] false,
  evR [111, 112, 101, 110, 101, 100] [97] [97] [97] true,
  evR [99, 108, 111, 115, 101, 100] [97] [97] [97] false,
  evR [108, 105, 115, 116, 101, 100] [105] [105, 107] [105, 107] true,
  evR [104, 97, 108, 116, 101, 100] [105] [105] [105] false,
  evR [114, 101, 115, 117, 109, 101, 100] [105] [105] [105] false,
  evR [100, 101, 112, 111, 115, 105, 116, 101, 100] [97, 109] [97, 109] [97, 109] false,
  evR [119, 105, 116, 104, 100, 114, 97, 119, 110] [97, 109] [97, 109] [97, 109] false,
  evR [105, 115, 115, 117, 101, 100] [97, 105, 113] [97, 105, 113] [97, 105, 113] false,
  evR [114, 101, 100, 101, 101, 109, 101, 100] [97, 105, 113] [97, 105, 113] [97, 105, 113] false,
  evR [102, 101, 101, 32, 115, 101, 116] [98] [98] [98] false,
  evR [112, 108, 97, 99, 101, 100] [111, 97, 105, 115, 112, 113] [111, 97, 105, 115, 112, 113] [111, 97, 105, 115, 112, 113] false,
  evR [99, 97, 110, 99, 101, 108, 108, 101, 100] [111] [111] [111] false,
  evR [116, 114, 97, 100, 101, 100] [111, 111, 112, 113] [111, 111, 112, 113, 122] [111, 111, 112, 113, 122] false,
  evR [101, 110, 103, 108, 105, 115, 104] [99, 97, 105, 113, 109, 116] [99, 97, 105, 113, 109, 109, 116] [99, 97, 105, 113, 109, 109, 116] false,
  evR [114, 97, 105, 115, 101, 100] [99, 97, 109] [99, 97, 109] [99, 97, 109] false,
  evR [115, 101, 97, 108, 101, 100] [99, 97, 105, 113, 109, 116] [99, 97, 105, 113, 109, 116] [99, 97, 105, 113, 109, 116] false,
  evR [98, 105, 100] [99, 97, 109] [99, 97, 109] [99, 97, 109] false,
  evR [115, 111, 108, 100] [99, 97, 109] [99, 97, 109, 122] [99, 97, 109, 122] false,
  evR [117, 110, 115, 111, 108, 100] [99] [99] [99] false,
  evR [109, 111, 118, 101, 100] [116] [116] [116] false,
  evR [116, 114, 97, 110, 115, 102, 101, 114, 114, 101, 100] [] [97, 97, 109] [97, 97, 109] false,
  evR [114, 101, 110, 97, 109, 101, 100] [] [] [97] true,
  evR [116, 105, 99, 107, 101, 100] [] [] [105, 107] false]
def bdL : List BdR := [
  ⟨97, 1, 1, 64⟩,
  ⟨105, 1, 1, 16⟩,
  ⟨111, 1, 1, 1099511627776⟩,
  ⟨99, 1, 1, 1099511627776⟩,
  ⟨109, 1, 1, 11258999068426⟩,
  ⟨109, 2, 1, 1125899906842624⟩,
  ⟨122, 1, 0, 11258999068426⟩,
  ⟨122, 2, 0, 1125899906842624⟩,
  ⟨112, 1, 1, 10737418⟩,
  ⟨112, 2, 1, 1073741824⟩,
  ⟨107, 1, 1, 1073741824⟩,
  ⟨113, 1, 1, 1048576⟩,
  ⟨115, 1, 0, 1⟩,
  ⟨115, 3, 1, 2⟩,
  ⟨98, 1, 0, 10⟩,
  ⟨98, 2, 0, 1000⟩,
  ⟨116, 1, 1, 109951162777⟩,
  ⟨116, 3, 1, 1099511627776⟩]
def cmL : List CmR := [
  cmR [] [] false,
  cmR [111, 112, 101, 110] [] true,
  cmR [99, 108, 111, 115, 101] [97] false,
  cmR [108, 105, 115, 116] [107] true,
  cmR [104, 97, 108, 116] [105] false,
  cmR [114, 101, 115, 117, 109, 101] [105] false,
  cmR [100, 101, 112, 111, 115, 105, 116] [97, 109] false,
  cmR [119, 105, 116, 104, 100, 114, 97, 119] [97, 109] false,
  cmR [105, 115, 115, 117, 101] [97, 105, 113] false,
  cmR [114, 101, 100, 101, 101, 109] [97, 105, 113] false,
  cmR [102, 101, 101] [98] false,
  cmR [112, 108, 97, 99, 101] [97, 105, 115, 112, 113] false,
  cmR [99, 97, 110, 99, 101, 108] [97, 111] false,
  cmR [101, 110, 103, 108, 105, 115, 104] [97, 105, 113, 109, 109, 116] false,
  cmR [114, 97, 105, 115, 101] [97, 99, 109] false,
  cmR [115, 101, 97, 108, 101, 100] [97, 105, 113, 109, 116] false,
  cmR [98, 105, 100] [97, 99, 109] false,
  cmR [109, 111, 118, 101] [116] false,
  cmR [116, 114, 97, 110, 115, 102, 101, 114] [97, 97, 109] false,
  cmR [114, 101, 110, 97, 109, 101] [97] true,
  cmR [116, 105, 99, 107] [105, 107] false]

def evAt (k : Nat) : EvR := evL.getD k (evR [] [] [] [] false)
def cmAt (k : Nat) : CmR := cmL.getD k (cmR [] [] false)
/-- the letters of a kind in a version -/
def lets (v k : Nat) : ByteArray := if v = 1 then (evAt k).f1 else if v = 2 then (evAt k).f2 else if v = 3 then (evAt k).f3 else S []
/-- the letters of a command -/
def asks (k : Nat) : ByteArray := (cmAt k).fields
def tru (k : Nat) : Bool := (evAt k).text
def tall (v k : Nat) : Bool := decide (0 < (lets v k).size)
def isC (k : Nat) : Bool := decide (0 < k) && decide (k < 21)

/-! ### a table's cells -/
theorem flat_at {α β : Type} (f : α → List β) (n : Nat) : ∀ (l : List α), (∀ x ∈ l, (f x).length = n) → ∀ (i j : Nat), j < n → (l.flatMap f)[i * n + j]? = (l[i]?).bind fun x => (f x)[j]?
  | [], _, i, j, _ => by simp
  | x :: r, h, 0, j, hj => by
    have hx := h x List.mem_cons_self
    rw [List.flatMap_cons, Nat.zero_mul, Nat.zero_add, List.getElem?_append_left (by omega)]; rfl
  | x :: r, h, i + 1, j, hj => by
    have hx := h x List.mem_cons_self
    have e : (i + 1) * n + j = n + (i * n + j) := by rw [Nat.succ_mul]; omega
    rw [List.flatMap_cons, e, List.getElem?_append_right (by omega), hx, Nat.add_sub_cancel_left, flat_at f n r (fun y hy => h y (List.mem_cons_of_mem _ hy)) i j hj]; rfl

end Go.Proofs.YtefkfjbdmglkjaaDoor.Schema
