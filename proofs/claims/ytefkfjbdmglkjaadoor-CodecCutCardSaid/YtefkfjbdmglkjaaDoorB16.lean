/-
  Things to be written (Item): how they lie in memory; 'heavy'; 'put'; 'bytes'.
-/
import Derived.Test.YtefkfjbdmglkjaaDoorB15
namespace Go.Proofs.YtefkfjbdmglkjaaDoor.Wire
open Go.RowKit

/-- an Item -/
structure It where
  k : Nat
  n : Nat
  t : ByteArray
  m : Int
def It.val (x : It) : Value := .agg #[.int .u8 (x.k : Int), .int .u64 (U x.n), .string x.t, .int .i64 x.m]
def It.ok (x : It) : Prop := x.k < 256 ∧ x.n < 18446744073709551616 ∧ x.t.size ≤ maxLen ∧ x.m ≤ 9223372036854775807 ∧ -9223372036854775808 ≤ x.m
/-- a slice of Items, that reads as xs, below block B -/
def Items (w : World) (A : Option Addr) (xs : List It) (B : Nat) : Prop :=
  ∀ i (h : i < xs.length), ∃ b off, A = some ⟨b, off, none⟩ ∧ b < B ∧ w.cell? ⟨b, off + i * 4, none⟩ = some (.int .u8 (xs[i].k : Int)) ∧ w.cell? ⟨b, off + i * 4 + 1, none⟩ = some (.int .u64 (U xs[i].n)) ∧
    w.cell? ⟨b, off + i * 4 + 2, none⟩ = some (.string xs[i].t) ∧ w.cell? ⟨b, off + i * 4 + 3, none⟩ = some (.int .i64 xs[i].m) ∧ xs[i].ok
theorem Items.below {w w' : World} {A : Option Addr} {xs : List It} {B : Nat} (h : Items w A xs B) (hb : Below B w w') : Items w' A xs B := by
  intro i hi
  obtain ⟨b, off, hA, hB, c0, c1, c2, c3, hok⟩ := h i hi
  exact ⟨b, off, hA, hB, (hb.cell (p := ⟨b, _, none⟩) hB).trans c0, (hb.cell (p := ⟨b, _, none⟩) hB).trans c1, (hb.cell (p := ⟨b, _, none⟩) hB).trans c2, (hb.cell (p := ⟨b, _, none⟩) hB).trans c3, hok⟩

theorem ret_bool {a b : Bool} (h : a = b) : Ending.returned (.bool a) = .returned (.bool b) := by rw [h]
/-- how heavy they are -/
def tot (xs : List It) : Nat := (xs.map fun x => 20 + min 20000 x.t.size).sum
theorem tot_take (xs : List It) (k : Nat) (h : k < xs.length) : tot (xs.take (k + 1)) = tot (xs.take k) + (20 + min 20000 xs[k].t.size) := by
  unfold tot
  rw [List.take_succ_eq_append_getElem h, List.map_append, List.sum_append]; simp
theorem tot_le (xs : List It) (k : Nat) : tot (xs.take k) ≤ tot xs := by
  unfold tot
  conv => rhs; rw [← List.take_append_drop k xs]
  rw [List.map_append, List.sum_append]; omega

/-! ### what an Item becomes -/
def wrB (x : It) : List UInt8 :=
  if x.k % 8 = 0 then fixB 1 x.n else if x.k % 8 = 1 then fixB 2 x.n else if x.k % 8 = 2 then fixB 4 x.n else if x.k % 8 = 3 then fixB 8 x.n else
    if x.k % 8 = 4 then shortB x.n else if x.k % 8 = 5 then textB x.t else if x.k % 8 = 6 then lowB x.n else x.t.data.toList
theorem wrB_le (x : It) : (wrB x).length ≤ 11 + x.t.size := by
  have h1 := shortB_le x.n
  have h2 : (textB x.t).length ≤ 11 + x.t.size := by
    have := shortB_le x.t.size
    unfold textB; rw [List.length_append]; have e : x.t.data.toList.length = x.t.size := rfl; omega
  have h3 := lowB_length x.n
  have e : x.t.data.toList.length = x.t.size := rfl
  unfold wrB
  repeat' split
  all_goals first | (rw [fixB_length]; omega) | omega
theorem fix_mod1 (n : Nat) : fixB 1 (n % 256) = fixB 1 n := fixB_mod 1 n
theorem fix_mod2 (n : Nat) : fixB 2 (n % 65536) = fixB 2 n := fixB_mod 2 n
theorem fix_mod4 (n : Nat) : fixB 4 (n % 4294967296) = fixB 4 n := fixB_mod 4 n
theorem low_mod (n : Nat) : lowB (n % 4294967296) = lowB n := by unfold lowB; rw [fix_mod4]

theorem put_end {B : Nat} {w w1 : World} {p : Nat} {l m : List UInt8} (hB : B ≤ w.heap.size) (o : Obj) (h : Wr B w1 p (l ++ m)) (k : Only B (w.alloc o) w1) {x : It} (e : m = wrB x) : Wr B w1 p (l ++ wrB x) ∧ Only B w w1 :=
  ⟨by rw [← e]; exact h, ((Only.refl B w).alloc hB o).trans k⟩
end Go.Proofs.YtefkfjbdmglkjaaDoor.Wire
