/-
  How many bytes; nobody's Writer.
-/
import Derived.Test.YtefkfjbdmglkjaaDoorB7
import Derived.Test.YtefkfjbdmglkjaaDoorBL
import Derived.WalkLawsBesides
namespace Go.Proofs.YtefkfjbdmglkjaaDoor.Wire
open Go.RowKit

theorem len64_any (n : Nat) (w : World) (hn : Hid (n < 18446744073709551616)) :
    Calls Tryd.prog 63 #[.int .u64 (U n)] w fun e w' => e = .returned (.int .i64 (bitLen n : Int)) ∧ w = w' := by
  have h := len64_walk (U n) w (by unfold U; omega) (by have := hn.out; unfold U; omega)
  have e : (U n).toNat = n := by unfold U; exact Int.toNat_natCast n
  rw [e] at h
  exact h
theorem bitLen_le64 (n : Nat) (hn : n < 18446744073709551616) : bitLen n ≤ 64 := by
  unfold bitLen; split
  · omega
  · rename_i h0
    have := (Nat.log2_lt h0).2 (show n < 2 ^ 64 from hn)
    omega
set_option maxHeartbeats 400000 in
theorem size_any (n : Nat) (w : World) (hn : Hid (n < 18446744073709551616)) :
    Calls Tryd.prog 36 #[.int .u64 (U n)] w fun e w' => e = .returned (.int .i64 (sizeN n : Int)) ∧ w = w' := by
  have hb := bitLen_le64 n hn.out
  have hS : Hid (sizeN n = (max (bitLen n) 1 + 6) / 7) := rfl
  by_cases h1 : 1 ≤ bitLen n
  · go_enter Tryd.func36, Tryd.ntmps36
    go_wp2_with fail
    refine (len64_any n w hn).mono ?_; rintro e w1 ⟨rfl, rfl⟩
    generalize bitLen n = b at *
    go_wp2_with fail
    go_ret
    exact ⟨ret_i64 (by rw [hS.out]; omega), rfl⟩
  · go_enter Tryd.func36, Tryd.ntmps36
    go_wp2_with fail
    refine (len64_any n w hn).mono ?_; rintro e w1 ⟨rfl, rfl⟩
    generalize bitLen n = b at *
    go_wp2_with fail
    go_ret
    exact ⟨ret_i64 (by rw [hS.out]; omega), rfl⟩

/-! ### nobody's Writer -/
set_option maxHeartbeats 400000 in
theorem u8_nil (w : World) : Calls Tryd.prog 34 #[.pointer none, .int .u8 1] w fun e w' => e = .returned (.tuple #[]) ∧ Below w.heap.size w w' := by
  go_enter Tryd.func34, Tryd.ntmps34
  go_wp2_with fail
  refine (fixed1_nil w 1).mono ?_; rintro e w1 ⟨rfl, h1⟩
  go_wp2_with fail
  go_end0
  exact ⟨rfl, h1⟩
set_option maxRecDepth 100000 in
set_option maxHeartbeats 400000 in
theorem short_nil (n : Nat) (w : World) : Calls Tryd.prog 37 #[.pointer none, .int .u64 (U n)] w fun e w' => e = .returned (.tuple #[]) ∧ Below w.heap.size w w' := by
  go_enter Tryd.func37, Tryd.ntmps37
  go_wp2_with fail
  go_loopw [1] (fun x wr => ∃ k : Nat, x = .int .u64 (U k) ∧ Below w.heap.size w wr) (fun x _ => (intOf x).toNat)
  case atStart => exact ⟨n, rfl, Below.refl _ _⟩
  case round =>
    obtain ⟨k, rfl, hb⟩ := hrel
    by_cases hge : 128 ≤ k
    · have hg : (128 : Int) ≤ U k := by unfold U; omega
      clear hge
      go_wp2_with (go_at_call 56; refine (put_nil _ _).mono ?_; rintro e w' ⟨rfl, rfl⟩)
      go_roundw
      case rel => exact ⟨k / 128, congrArg (Value.int .u64) (U_div k 128), hb.alloc hb.size _⟩
      case measure => simp [intOf]; unfold U at *; omega
    · have hg : U k < (128 : Int) := by unfold U; omega
      go_wp2_with (go_at_call 56; refine (put_nil _ _).mono ?_; rintro e w' ⟨rfl, rfl⟩)
      go_end0
      exact ⟨rfl, hb.alloc hb.size _⟩
set_option maxRecDepth 100000 in
set_option maxHeartbeats 400000 in
theorem raw_nil (s : ByteArray) (w : World) : Calls Tryd.prog 29 #[.pointer none, .string s] w fun e w' => e = .returned (.tuple #[]) ∧ Below w.heap.size w w' := by
  have hconv := run_bytes_of_string (P := Tryd.prog) w 9 70 5 s Tryd.underlying9 Tryd.underlying70 Tryd.underlying5
  generalize grownCap w s.size 0 5 = cap at *
  generalize bytesRow s cap = R at *
  go_enter Tryd.func29, Tryd.ntmps29
  go_wp2_with (go_at_call 56; refine (put_nil _ _).mono ?_; rintro e w' ⟨rfl, rfl⟩)
  go_end0
  exact ⟨rfl, (Below.refl _ _).drew.alloc (Nat.le_refl _) _⟩
set_option maxRecDepth 100000 in
set_option maxHeartbeats 400000 in
theorem text_nil (s : ByteArray) (hs : s.size ≤ 1000000000000) (w : World) : Calls Tryd.prog 38 #[.pointer none, .string s] w fun e w' => e = .returned (.tuple #[]) ∧ Below w.heap.size w w' := by
  have hu := wrapS s.size hs
  go_enter Tryd.func38, Tryd.ntmps38
  go_wp2_with fail
  refine (short_nil s.size w).mono ?_; rintro e w1 ⟨rfl, h1⟩
  go_wp2_with fail
  refine (raw_nil s w1).mono ?_; rintro e w2 ⟨rfl, h2⟩
  go_wp2_with fail
  go_end0
  exact ⟨rfl, h1.trans (h2.mono h1.size)⟩

end Go.Proofs.YtefkfjbdmglkjaaDoor.Wire
