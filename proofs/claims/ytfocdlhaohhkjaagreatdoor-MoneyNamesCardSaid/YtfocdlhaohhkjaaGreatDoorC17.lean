/-
  The walk of awake: the examples.
-/
import Derived.Test.YtfocdlhaohhkjaaGreatDoorC16
namespace Go.Proofs.YtfocdlhaohhkjaaGreatDoor.Money
open Go.RowKit

theorem pin_two {P : Program} {f : FuncId} {args : Array Value} {w : World} {R : World → Prop} {a b c d : Int} (h : Calls P f args w fun e w' => e = .returned (.tuple #[.int .i64 a, .int .i64 b]) ∧ R w') (h1 : a = c) (h2 : b = d) :
    Calls P f args w fun e w' => e = .returned (.tuple #[.int .i64 c, .int .i64 d]) ∧ R w' := by rw [← h1, ← h2]; exact h
theorem aw_sum (w : World) (T : TypeId) : Calls Tryz.prog 18 #[.slice (some ⟨w.heap.size, 0, none⟩) 3 3] (w.alloc (.cells #[.int .i64 9223372036854775807, .int .i64 1, .int .i64 (-9223372036854775808)] T)) fun e w' => e = .returned (.tuple #[.int .i64 0, .int .i64 0]) ∧ Below w.heap.size w w' :=
  (pin_two (sum_any (some ⟨w.heap.size, 0, none⟩) 3 3 [9223372036854775807, 1, -9223372036854775808] rfl _ (Nums.three w T _ _ _ (by unfold I64; decide) (by unfold I64; decide) (by unfold I64; decide))) (by decide) (by decide)).mono fun e w' ⟨he, hw⟩ => ⟨he, hw ▸ Below.lay _ _⟩
theorem aw_none (w : World) : Calls Tryz.prog 18 #[.slice none 0 0] w fun e w' => e = .returned (.tuple #[.int .i64 0, .int .i64 0]) ∧ w = w' :=
  pin_two (sum_none none 0 w) (by decide) (by decide)
theorem aw_mul (w : World) : Calls Tryz.prog 16 #[.int .i64 2147483648, .int .i64 2147483648] w fun e w' => e = .returned (.tuple #[.int .i64 4611686018427387904, .int .i64 0]) ∧ w = w' :=
  pin_two (mul_any _ _ (by unfold I64; decide) (by unfold I64; decide) w) (by decide) (by decide)
theorem aw_fee1 (w : World) : Calls Tryz.prog 15 #[.int .i64 10199, .int .i64 25] w fun e w' => e = .returned (.tuple #[.int .i64 25, .int .i64 0]) ∧ w = w' :=
  pin_two (fee_any _ _ (by unfold I64; decide) (by unfold I64; decide) w) (by decide) (by decide)
theorem aw_fee2 (w : World) : Calls Tryz.prog 15 #[.int .i64 9999, .int .i64 1] w fun e w' => e = .returned (.tuple #[.int .i64 0, .int .i64 0]) ∧ w = w' :=
  pin_two (fee_any _ _ (by unfold I64; decide) (by unfold I64; decide) w) (by decide) (by decide)
theorem aw_parse (w : World) (E : Env w) : Calls Tryz.prog 12 #[.string ⟨#[45, 48, 46, 48, 53]⟩] w fun e w' => e = .returned (.tuple #[.int .i64 (-5), .int .i64 0]) ∧ Below w.heap.size w w' :=
  pin_two (parse_any ⟨#[45, 48, 46, 48, 53]⟩ (by decide) w E) (by decide +kernel) (by decide +kernel)
theorem pin_int {P : Program} {f : FuncId} {args : Array Value} {w : World} {R : World → Prop} {a c : Int} (h : Calls P f args w fun e w' => e = .returned (.int .i64 a) ∧ R w') (h1 : a = c) :
    Calls P f args w fun e w' => e = .returned (.int .i64 c) ∧ R w' := by rw [← h1]; exact h
theorem aw_cap1 (w : World) : Calls Tryz.prog 21 #[.int .i64 4611686018427387904, .int .i64 7] w fun e w' => e = .returned (.int .i64 4611686018427387904) ∧ w = w' :=
  pin_int (cap_any _ _ (by unfold I64; decide) (by unfold I64; decide) w) (by decide)
theorem aw_cap2 (w : World) : Calls Tryz.prog 21 #[.int .i64 (-3), .int .i64 7] w fun e w' => e = .returned (.int .i64 7) ∧ w = w' :=
  pin_int (cap_any _ _ (by unfold I64; decide) (by unfold I64; decide) w) (by decide)
theorem aw_show1 (w : World) (E : Env w) : Calls Tryz.prog 17 #[.int .i64 1234] w fun e w' => e = .returned (.string ⟨#[49, 50, 46, 51, 52]⟩) ∧ Below w.heap.size w w' := by
  have h := show_any 1234 (by unfold I64; decide) w E
  have e : S (showI 1234) = ⟨#[49, 50, 46, 51, 52]⟩ := by
    show S (Lib.decDigits 12 ++ [46, UInt8.ofNat (48 + 3), UInt8.ofNat (48 + 4)]) = _
    rw [Lib.decDigits_two (by decide) (by decide)]; rfl
  rw [e] at h; exact h
theorem aw_show0 (w : World) (E : Env w) : Calls Tryz.prog 17 #[.int .i64 0] w fun e w' => e = .returned (.string ⟨#[48, 46, 48, 48]⟩) ∧ Below w.heap.size w w' := by
  have h := show_any 0 (by unfold I64; decide) w E
  have e : S (showI 0) = ⟨#[48, 46, 48, 48]⟩ := by
    show S (Lib.decDigits 0 ++ [46, UInt8.ofNat (48 + 0), UInt8.ofNat (48 + 0)]) = _
    rw [Lib.decDigits_one (by decide)]; rfl
  rw [e] at h; exact h

set_option maxRecDepth 100000 in
set_option maxHeartbeats 1000000 in
theorem awake_any (w : World) (E : Env w) :
    Calls Tryz.prog 11 #[] w fun e w' => e = .returned (.bool true) ∧ Below w.heap.size w w' := by
  have E0 := Lib.hid E; clear E
  go_enter Tryz.func11, Tryz.ntmps11
  go_wp2_with fail
  refine (aw_sum _ _).mono ?_; rintro e w1 ⟨rfl, hb1⟩
  go_wp2_with (first | (go_at_call 18; refine (aw_none _).mono ?_; rintro e w' ⟨rfl, rfl⟩) | (go_at_call 16; refine (aw_mul _).mono ?_; rintro e w' ⟨rfl, rfl⟩))
  refine (aw_fee1 _).mono ?_; rintro e w' ⟨rfl, rfl⟩
  go_wp2_with fail
  refine (aw_fee2 _).mono ?_; rintro e w' ⟨rfl, rfl⟩
  go_wp2_with fail
  refine (carry hb1 (aw_parse _ (E0.out.below hb1))).mono ?_; rintro e w2 ⟨rfl, hb2⟩
  go_wp2_with (go_at_call 27; refine (is_yes _ _ rfl _).mono ?_; rintro e w' ⟨rfl, rfl⟩)
  refine (aw_cap1 _).mono ?_; rintro e w' ⟨rfl, rfl⟩
  go_wp2_with fail
  refine (aw_cap2 _).mono ?_; rintro e w' ⟨rfl, rfl⟩
  go_wp2_with fail
  refine (carry hb2 (aw_show1 _ (E0.out.below hb2))).mono ?_; rintro e w3 ⟨rfl, hb3⟩
  go_wp2_with fail
  refine (carry hb3 (aw_show0 _ (E0.out.below hb3))).mono ?_; rintro e w4 ⟨rfl, hb4⟩
  go_wp2_with fail
  go_ret
  exact ⟨rfl, hb4⟩

end Go.Proofs.YtfocdlhaohhkjaaGreatDoor.Money
