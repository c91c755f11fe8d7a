/-
  The walks of Word, Kind, Worded.
-/
import Derived.Test.YtefkfjbdmglkjaaDoorE4
namespace Go.Proofs.YtefkfjbdmglkjaaDoor.Schema
open Go Go.RowKit

theorem str_eq (a b : ByteArray) : (a.toList == b.toList) = decide (a = b) := by
  rw [Bool.eq_iff_iff, beq_iff_eq, decide_eq_true_iff, ByteArray.toList_eq, ByteArray.toList_eq]
  exact ⟨fun h => ByteArray.ext (Array.ext' h), fun h => by rw [h]⟩
theorem word_out (k : Nat) (h : isC k = false) : (cmAt k).word = ⟨#[]⟩ := by
  unfold isC at h
  by_cases h0 : 0 < k
  · rw [cmAt_out k (by simpa [h0] using h)]; rfl
  · obtain rfl : k = 0 := by omega
    rfl
theorem isC_iff {k : Nat} : isC k = true ↔ 0 < k ∧ k < 21 := by unfold isC; simp
/-- the first number below n that is met -/
def firstAt (n : Nat) (p : Nat → Bool) : Nat := ((List.range n).find? p).getD 0
theorem firstAt_hit {n k : Nat} {p : Nat → Bool} (hk : k < n) (hp : p k = true) (hno : ∀ j, j < k → p j = false) : firstAt n p = k := by
  unfold firstAt
  rw [List.find?_range_eq_some.2 ⟨hp, List.mem_range.2 hk, fun j hj => by rw [hno j hj]; rfl⟩]; rfl
theorem firstAt_none {n : Nat} {p : Nat → Bool} (hno : ∀ j, j < n → p j = false) : firstAt n p = 0 := by
  unfold firstAt
  rw [List.find?_eq_none.2 (fun j hj => by rw [hno j (List.mem_range.1 hj)]; simp)]; rfl
theorem no_step {p : Nat → Bool} {k : Nat} (h : Hid (∀ j, j < k → p j = false)) (hk : p k = false) : Hid (∀ j, j < k + 1 → p j = false) := fun j hj => by
  by_cases e : j = k
  · exact e ▸ hk
  · exact h j (by omega)
theorem ret_kb {n m : Int} {a b : Bool} (h1 : n = m) (h2 : a = b) : Ending.returned (.tuple #[.int .u8 n, .bool a]) = .returned (.tuple #[.int .u8 m, .bool b]) := by rw [h1, h2]
theorem firstAt_lt {n : Nat} {p : Nat → Bool} (h : 0 < firstAt n p) : firstAt n p < n ∧ p (firstAt n p) = true := by
  unfold firstAt at h ⊢
  cases e : (List.range n).find? p with
  | none => rw [e] at h; exact absurd h (Nat.lt_irrefl _)
  | some k => exact ⟨List.mem_range.1 (List.mem_of_find?_eq_some e), List.find?_some e⟩
def hitE (s : ByteArray) (k : Nat) : Bool := decide ((evAt k).name = s) && !s.toList.isEmpty
def hitC (s : ByteArray) (k : Nat) : Bool := isC k && decide ((cmAt k).word = s)
def kindOf (s : ByteArray) : Nat := firstAt 24 (hitE s)
def comOf (s : ByteArray) : Nat := firstAt 21 (hitC s)

theorem hitE_zero (s : ByteArray) : hitE s 0 = false := by
  unfold hitE
  rw [show (evAt 0).name = ⟨#[]⟩ from rfl]
  by_cases h : s.toList = []
  · simp [h]
  · have : ¬ (⟨#[]⟩ : ByteArray) = s := fun e => h (by rw [← e]; decide +kernel)
    simp [this]
theorem hitC_zero (s : ByteArray) : hitC s 0 = false := rfl

end Go.Proofs.YtefkfjbdmglkjaaDoor.Schema
