/-
  The walks of the small functions of package crc, and of the document's own answers.
-/
import Derived.Test.YthaafniahkejkaaRows
import Derived.Test.YthaafniahkejkaaVal
import Derived.WalkKit
import Derived.Lib.Hide
import Derived.WalkSpells
import Derived.WalkLawsBesides
namespace Go.Proofs.Ythaafniahkejkaa.Crc
open Go.RowKit

set_option maxHeartbeats 400000 in
theorem shift_any (c : W) (w : World) :
    Calls Try.prog 60 #[.int .u32 (V c)] w fun e w' => e = .returned (.int .u32 (V (sh c))) ∧ w = w' := by
  cases hb : c.getLsbD 0
  · have h1 : (bits BinOp.and IntKind.u32 (V c) 1 == 1) = false := by rw [bits_and_1, hb]; rfl
    have H := Lib.hid hb; clear hb
    go_enter Try.func60, Try.ntmps60
    go_wp2
    go_ret
    exact ⟨ret_u32 (by rw [sh_nil H.out]; exact shr_V c 1), rfl⟩
  · have h1 : (bits BinOp.and IntKind.u32 (V c) 1 == 1) = true := by rw [bits_and_1, hb]; rfl
    have H := Lib.hid hb; clear hb
    go_enter Try.func60, Try.ntmps60
    go_wp2
    go_ret
    exact ⟨ret_u32 (by rw [sh_one H.out, V_shr1, bits_xor_poly]), rfl⟩

set_option maxHeartbeats 400000 in
theorem refshift_any (c : W) (b : Bool) (x : Int) (hx : x = V (bit b)) (w : World) :
    Calls Try.prog 61 #[.int .u32 (V c), .int .u32 x] w fun e w' => e = .returned (.int .u32 (V (sh (c ^^^ bit b)))) ∧ w = w' := by
  cases hb : (c.getLsbD 0 != b)
  · have h1 : (bits BinOp.and IntKind.u32 (V c) 1 != x) = false := by rw [bits_and_1, hx, bit_bne]; exact hb
    have H := Lib.hid hb; clear hb hx
    go_enter Try.func61, Try.ntmps61
    go_wp2
    go_ret
    exact ⟨ret_u32 (by rw [sh_bit, H.out, V_shr1]; rfl), rfl⟩
  · have h1 : (bits BinOp.and IntKind.u32 (V c) 1 != x) = true := by rw [bits_and_1, hx, bit_bne]; exact hb
    have H := Lib.hid hb; clear hb hx
    go_enter Try.func61, Try.ntmps61
    go_wp2
    go_ret
    exact ⟨ret_u32 (by rw [sh_bit, H.out, V_shr1, bits_xor_poly]; rfl), rfl⟩

set_option maxHeartbeats 400000 in
theorem over_any (c : W) (b : UInt8) (w : World) :
    Calls Try.prog 58 #[.int .u32 (V c), .int .u8 (b.toNat : Int)] w fun e w' => e = .returned (.int .u32 (V (step c b))) ∧ w = w' := by
  go_enter Try.func58, Try.ntmps58
  go_wp2
  go_loop [0, 5] (fun x i => ∃ k : Nat, k ≤ 8 ∧ i = .int .i64 k ∧ x = .int .u32 (V (rb c (fun i => b.toNat.testBit i) k))) (fun _ i => 8 - (intOf i).toNat)
  case atStart => exact ⟨0, Nat.zero_le _, rfl, rfl⟩
  case round =>
    obtain ⟨k, hk, rfl, rfl⟩ := hrel
    by_cases hlt : k < 8
    · go_wp2_with (go_at_call 61; refine (refshift_any _ _ _ (byte_bit b k) _).mono ?_; rintro e w' ⟨rfl, rfl⟩)
      go_round
      case rel => exact ⟨k + 1, by omega, by go_num, rfl⟩
      case measure => simp [intOf]; omega
    · go_wp2
      go_ret
      obtain rfl : k = 8 := by omega
      exact ⟨ret_u32 (by rw [rb_byte]), rfl⟩

/-- the state behind the first k bytes -/
theorem raw_take (c : W) (s : ByteArray) (k : Nat) (h : k < s.size) : raw c (s.data.toList.take (k + 1)) = step (raw c (s.data.toList.take k)) s[k] := by
  rw [List.take_succ_eq_append_getElem (by simpa using h), raw_append]; rfl
theorem raw_all (c : W) (s : ByteArray) (k : Nat) (h : s.size ≤ k) : raw c (s.data.toList.take k) = raw c s.data.toList := by
  rw [List.take_of_length_le (by simpa using h)]
set_option maxHeartbeats 400000 in
theorem refAdd_any (c : W) (s : ByteArray) (x : Int) (hx : x = V c) (w : World) (hs : s.size ≤ maxLen) :
    Calls Try.prog 50 #[.int .u32 x, .string s] w fun e w' => e = .returned (.int .u32 (V (addW c s.data.toList))) ∧ w = w' := by
  unfold maxLen at hs
  go_enter Try.func50, Try.ntmps50
  go_wp2_with fail
  rw [not_V]
  go_loop [0, 5] (fun x i => ∃ k : Nat, k ≤ s.size ∧ i = .int .i64 k ∧ x = .int .u32 (V (raw (~~~ c) (s.data.toList.take k)))) (fun _ i => s.size - (intOf i).toNat)
  case atStart => exact ⟨0, Nat.zero_le _, rfl, rfl⟩
  case round =>
    obtain ⟨k, hk, rfl, rfl⟩ := hrel
    by_cases hlt : k < s.size
    · have H := Lib.hid (raw_take (~~~ c) s k hlt)
      go_wp2_with (go_at_call 58; refine (over_any _ _ _).mono ?_; rintro e w' ⟨rfl, rfl⟩)
      go_round
      case rel => exact ⟨k + 1, by omega, by go_num, by rw [H.out]⟩
      case measure => simp [intOf]; omega
    · have H := Lib.hid (raw_all (~~~ c) s k (by omega))
      go_wp2
      go_ret
      exact ⟨ret_u32 (by rw [not_V, H.out]; rfl), rfl⟩

theorem refOf_any (s : ByteArray) (w : World) (hs : s.size ≤ maxLen) :
    Calls Try.prog 38 #[.string s] w fun e w' => e = .returned (.int .u32 (V (ofW s.data.toList))) ∧ w = w' := by
  go_enter Try.func38, Try.ntmps38
  go_wp2_with (go_at_call 50; refine (refAdd_any 0 s _ rfl _ hs).mono ?_; rintro e w' ⟨rfl, rfl⟩)
  go_ret
  exact ⟨rfl, rfl⟩

end Go.Proofs.Ythaafniahkejkaa.Crc
