/-
  The walk of the statement WireShort.
-/
import Derived.Test.YtdllncbacbpedaaB14
namespace Go.Proofs.Ytdllncbacbpedaa.Wire
open Go.RowKit

theorem num_of {a : Int} (h : (Lit.int .u64 a).wf = true) : ∃ n : Nat, a = U n ∧ n < 18446744073709551616 := by
  have b : 0 ≤ a ∧ a ≤ 18446744073709551615 := by
    simp [Lit.wf, IntKind.min, IntKind.max, IntKind.bits, IntKind.signed] at h
    omega
  exact ⟨a.toNat, by unfold U; omega, by omega⟩
theorem U_beq_true {a b : Nat} (h : a = b) : (U a == U b) = true := by rw [beq_iff_eq, U_inj]; exact h
theorem U_beq_false {a b : Nat} (h : a ≠ b) : (U a == U b) = false := by rw [beq_eq_false_iff_ne]; exact fun e => h (U_inj.1 e)
theorem beg_list (a b : Nat) : ((S (shortB b)).extract 0 (S (shortB a)).size).toList = (shortB b).take (shortB a).length := by
  rw [ByteArray.toList_eq, Lib.extract_data, S_size]; rfl
theorem S_toList (l : List UInt8) : (S l).toList = l := by rw [ByteArray.toList_eq]; rfl
theorem beg_true (a : Nat) : (((S (shortB a)).extract 0 (S (shortB a)).size).toList == (S (shortB a)).toList) = true := by
  rw [beg_list, S_toList, List.take_length]; exact beq_self_eq_true _
theorem beg_false (a b : Nat) (ha : a < 18446744073709551616) (hb : b < 18446744073709551616) (h : a ≠ b) : (((S (shortB b)).extract 0 (S (shortB a)).size).toList == (S (shortB a)).toList) = false := by
  rw [beg_list, S_toList, beq_eq_false_iff_ne]
  exact fun e => h (short_prefix a b ha hb e)

set_option maxRecDepth 100000 in
set_option maxHeartbeats 1000000 in
theorem wireShort_walk (x y : Int) (w0 : (Lit.int .u64 x).wf = true) (w1 : (Lit.int .u64 y).wf = true) (w : World) :
    Calls Try.prog 8 #[.int .u64 x, .int .u64 y] w fun e w' => e = .returned (.bool true) ∧ Below w.heap.size w w' := by
  obtain ⟨a, rfl, ha⟩ := num_of w0
  obtain ⟨b, rfl, hb⟩ := num_of w1
  have HA : Hid (a < 18446744073709551616) := ha
  have HBb : Hid (b < 18446744073709551616) := hb
  have hX : sizeN a = (S (shortB a)).size := by rw [S_size, shortB_size a ha]
  have hX1 : (1 : Int) ≤ ((S (shortB a)).size : Int) := by rw [S_size]; have := shortB_pos a; omega
  have hX2 : ((S (shortB a)).size : Int) ≤ 10 := by rw [S_size]; have := shortB_len a ha; omega
  have hY : sizeN b = (S (shortB b)).size := by rw [S_size, shortB_size b hb]
  have HX := Lib.hid hX
  have hmono : a ≤ b → (S (shortB a)).size ≤ (S (shortB b)).size := fun h => by rw [← hX, ← hY]; exact sizeN_mono h
  have hs1 := fun w => short_law a HA w
  have hs2 := fun w => short_law b HBb w
  have hz := fun w => size_any a w HA
  have H1 := Lib.hid hs1; have H2 := Lib.hid hs2; have H3 := Lib.hid hz
  by_cases hab : a = b
  · have hq : (((S (shortB b)).extract 0 (S (shortB a)).size).toList == (S (shortB a)).toList) = true := by subst hab; exact beg_true a
    have he := U_beq_true hab
    have hle : U a ≤ U b := by unfold U; omega
    have hl := hmono (by omega)
    have hl' : ((S (shortB a)).size : Int) ≤ ((S (shortB b)).size : Int) := by omega
    clear hab hX hY hmono hs1 hs2 hz w0 w1 ha hb
    generalize S (shortB a) = X at *
    generalize S (shortB b) = Y at *
    go_enter Try.func8, Try.ntmps8
    go_wp2_with fail
    refine (works_any w).mono ?_; rintro e w1 ⟨rfl, hb1⟩
    go_wp2_with fail
    refine (carry hb1 (H1.out w1)).mono ?_; rintro e w2 ⟨rfl, hb2⟩
    go_wp2_with fail
    refine (carry hb2 (H2.out w2)).mono ?_; rintro e w3 ⟨rfl, hb3⟩
    go_wp2_with fail
    refine (H3.out w3).mono ?_; rintro e w4 ⟨rfl, rfl⟩
    rw [HX.out]
    go_wp2_with fail
    go_ret
    exact ⟨rfl, hb3⟩
  · have hq : (((S (shortB b)).extract 0 (S (shortB a)).size).toList == (S (shortB a)).toList) = false := beg_false a b ha hb hab
    have he := U_beq_false hab
    by_cases hlt : a ≤ b
    · have hle : U a ≤ U b := by unfold U; omega
      have hl := hmono (by omega)
      have hl' : ((S (shortB a)).size : Int) ≤ ((S (shortB b)).size : Int) := by omega
      clear hab hX hY hmono hs1 hs2 hz w0 w1 ha hb hlt
      generalize S (shortB a) = X at *
      generalize S (shortB b) = Y at *
      go_enter Try.func8, Try.ntmps8
      go_wp2_with fail
      refine (works_any w).mono ?_; rintro e w1 ⟨rfl, hb1⟩
      go_wp2_with fail
      refine (carry hb1 (H1.out w1)).mono ?_; rintro e w2 ⟨rfl, hb2⟩
      go_wp2_with fail
      refine (carry hb2 (H2.out w2)).mono ?_; rintro e w3 ⟨rfl, hb3⟩
      go_wp2_with fail
      refine (H3.out w3).mono ?_; rintro e w4 ⟨rfl, rfl⟩
      rw [HX.out]
      go_wp2_with fail
      go_ret
      exact ⟨rfl, hb3⟩
    · have hle : U b < U a := by unfold U; omega
      clear hab hX hY hmono hs1 hs2 hz w0 w1 ha hb hlt
      by_cases hl : (S (shortB a)).size ≤ (S (shortB b)).size
      all_goals
        generalize S (shortB a) = X at *
        generalize S (shortB b) = Y at *
        first | (have hl' : (X.size : Int) ≤ (Y.size : Int) := by omega) | (have hl' : (Y.size : Int) < (X.size : Int) := by omega)
        go_enter Try.func8, Try.ntmps8
        go_wp2_with fail
        refine (works_any w).mono ?_; rintro e w1 ⟨rfl, hb1⟩
        go_wp2_with fail
        refine (carry hb1 (H1.out w1)).mono ?_; rintro e w2 ⟨rfl, hb2⟩
        go_wp2_with fail
        refine (carry hb2 (H2.out w2)).mono ?_; rintro e w3 ⟨rfl, hb3⟩
        go_wp2_with fail
        refine (H3.out w3).mono ?_; rintro e w4 ⟨rfl, rfl⟩
        rw [HX.out]
        go_wp2_with fail
        go_ret
        exact ⟨rfl, hb3⟩

end Go.Proofs.Ytdllncbacbpedaa.Wire
