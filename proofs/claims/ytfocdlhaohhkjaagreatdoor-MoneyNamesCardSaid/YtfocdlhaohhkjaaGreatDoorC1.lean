/-
  Money, plain: what is told of a number; sums; the two words of 64 bits that a sum is kept in. No program.
-/
import Derived.IntWalk
import Derived.Lib.Hide
namespace Go.Proofs.YtfocdlhaohhkjaaGreatDoor.Money

/-- not too far -/
def near (n : Int) : Bool := decide (-4611686018427387904 ≤ n) && decide (n ≤ 4611686018427387904)
theorem near_iff {n : Int} : near n = true ↔ -4611686018427387904 ≤ n ∧ n ≤ 4611686018427387904 := by unfold near; simp
theorem near_no {n : Int} : near n = false ↔ n < -4611686018427387904 ∨ 4611686018427387904 < n := by
  rw [← Bool.not_eq_true, near_iff]; omega
/-- the number that is told of n, and the error -/
def tN (n : Int) : Int := if near n = true then n else 0
def tE (n : Int) : Int := if near n = true then 0 else 41
theorem tN_near {n : Int} (h : near n = true) : tN n = n := if_pos h
theorem tE_near {n : Int} (h : near n = true) : tE n = 0 := if_pos h
theorem tN_far {n : Int} (h : near n = false) : tN n = 0 := if_neg (by rw [h]; decide)
theorem tE_far {n : Int} (h : near n = false) : tE n = 41 := if_neg (by rw [h]; decide)
theorem tN_wf (n : Int) : -4611686018427387904 ≤ tN n ∧ tN n ≤ 4611686018427387904 := by
  cases h : near n with
  | true => rw [tN_near h]; exact near_iff.1 h
  | false => rw [tN_far h]; decide

/-- all of a list together -/
def sumL : List Int → Int
  | [] => 0
  | x :: r => x + sumL r
theorem sumL_append (a b : List Int) : sumL (a ++ b) = sumL a + sumL b := by
  induction a with
  | nil => rw [List.nil_append]; show _ = 0 + _; omega
  | cons x r ih => show x + sumL (r ++ b) = x + sumL r + _; rw [ih]; omega
theorem sumL_snoc (a : List Int) (x : Int) : sumL (a ++ [x]) = sumL a + x := by
  rw [sumL_append]; show _ + (x + 0) = _; omega
theorem sumL_reverse (a : List Int) : sumL a.reverse = sumL a := by
  induction a with
  | nil => rfl
  | cons x r ih => rw [List.reverse_cons, sumL_snoc, ih]; show _ = x + _; omega
theorem sumL_turn (a : List Int) (k : Nat) : sumL (a.drop k ++ a.take k) = sumL a := by
  have h := congrArg sumL (List.take_append_drop k a)
  rw [sumL_append] at h ⊢; omega
theorem sumL_two (a b : Int) : sumL [a, b] = a + b := by show a + (b + 0) = _; omega
/-- every one is an int64 -/
def Fits (l : List Int) : Prop := ∀ x ∈ l, -9223372036854775808 ≤ x ∧ x ≤ 9223372036854775807
theorem Fits.tail {x : Int} {l : List Int} (h : Fits (x :: l)) : Fits l := fun y hy => h y (List.mem_cons_of_mem _ hy)
theorem sumL_bound (l : List Int) (h : Fits l) : -9223372036854775808 * (l.length : Int) ≤ sumL l ∧ sumL l ≤ 9223372036854775808 * (l.length : Int) := by
  induction l with
  | nil => decide
  | cons x r ih =>
    have hx := h x List.mem_cons_self
    have hr := ih h.tail
    rw [List.length_cons]
    show _ ≤ x + sumL r ∧ x + sumL r ≤ _
    omega
theorem Fits.take {l : List Int} (h : Fits l) (k : Nat) : Fits (l.take k) := fun x hx => h x (List.mem_of_mem_take hx)
theorem sumL_take (l : List Int) (k : Nat) (h : k < l.length) : sumL (l.take (k + 1)) = sumL (l.take k) + l.getD k 0 := by
  rw [List.take_succ_eq_append_getElem h, sumL_snoc, List.getD_eq_getElem?_getD, List.getElem?_eq_getElem h]; rfl

/-- the lower word, the upper one -/
def loW (s : Int) : Int := s % 18446744073709551616
def hiW (s : Int) : Int := s / 18446744073709551616 % 18446744073709551616
theorem loW_bd (s : Int) : 0 ≤ loW s ∧ loW s ≤ 18446744073709551615 := by unfold loW; omega
theorem hiW_bd (s : Int) : 0 ≤ hiW s ∧ hiW s ≤ 18446744073709551615 := by unfold hiW; omega
theorem loW_add (s n : Int) : (loW s + n % 18446744073709551616) % 18446744073709551616 = loW (s + n) := by unfold loW; omega
/-- what is carried -/
def carW (s n : Int) : Int := (loW s + n % 18446744073709551616) / 18446744073709551616
theorem carW_bd (s n : Int) : 0 ≤ carW s n ∧ carW s n ≤ 1 := by unfold carW loW; omega
theorem hiW_add (s n : Int) : (hiW s + n / 18446744073709551616 % 18446744073709551616 + carW s n) % 18446744073709551616 = hiW (s + n) := by
  unfold hiW carW loW; omega
/-- the upper word of an int64: its sign, sixty-four times -/
theorem sign_word (n : Int) (h0 : -9223372036854775808 ≤ n) (h1 : n ≤ 9223372036854775807) : n / 9223372036854775808 % 18446744073709551616 = n / 18446744073709551616 % 18446744073709551616 := by omega
/-- the two words are an int64's just where the sum is one -/
theorem words_in (s : Int) (h0 : -9223372036854775808 ≤ s) (h1 : s ≤ 9223372036854775807) : hiW s = s / 18446744073709551616 % 18446744073709551616 := rfl
def back (x : Int) : Int := if x < 9223372036854775808 then x else x - 18446744073709551616
theorem back_bd (s : Int) : -9223372036854775808 ≤ back (loW s) ∧ back (loW s) ≤ 9223372036854775807 := by
  unfold back loW; split <;> omega
theorem back_in (s : Int) (h0 : -9223372036854775808 ≤ s) (h1 : s ≤ 9223372036854775807) : back (loW s) = s := by
  unfold back loW; split <;> omega
theorem back_hi (s : Int) (h0 : -9223372036854775808 ≤ s) (h1 : s ≤ 9223372036854775807) : hiW s = back (loW s) / 9223372036854775808 % 18446744073709551616 := by
  rw [back_in s h0 h1]; unfold hiW; omega
theorem back_out (s : Int) (hb : -170141183460469231731687303715884105728 ≤ s) (hc : s < 170141183460469231731687303715884105728) (h : s < -9223372036854775808 ∨ 9223372036854775807 < s) : hiW s ≠ back (loW s) / 9223372036854775808 % 18446744073709551616 := by
  intro e
  unfold back hiW loW at e
  split at e <;> omega

end Go.Proofs.YtfocdlhaohhkjaaGreatDoor.Money
