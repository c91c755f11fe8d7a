/-
  How many bytes; nobody's Writer.
-/
import Derived.Test.YthaafniahkejkaaB7
import Derived.Test.YthaafniahkejkaaBL
import Derived.WalkLawsBesides
namespace Go.Proofs.Ythaafniahkejkaa.Wire
open Go.RowKit

theorem len64_any (n : Nat) (w : World) (hn : Hid (n < 18446744073709551616)) :
    Calls Try.prog 52 #[.int .u64 (U n)] w fun e w' => e = .returned (.int .i64 (bitLen n : Int)) ∧ w = w' := by
  have h := len64_walk (U n) w (by unfold U; omega) (by have := hn.out; unfold U; omega)
  have e : (U n).toNat = n := by unfold U; exact Int.toNat_natCast n
  rw [e] at h
  exact h
theorem bitLen_le64 (n : Nat) (hn : n < 18446744073709551616) : bitLen n ≤ 64 := by
  unfold bitLen; split
  · omega
  · rename_i h0
    have := (Nat.log2_lt h0).2 (show n < 2 ^ 64 from hn)
    omega
/-! ### nobody's Writer -/
set_option maxHeartbeats 400000 in
theorem u64_nil (w : World) : Calls Try.prog 31 #[.pointer none, .int .u64 1] w fun e w' => e = .returned (.tuple #[]) ∧ Below w.heap.size w w' := by
  go_enter Try.func31, Try.ntmps31
  go_wp2_with fail
  refine (fixed8_nil w 1).mono ?_; rintro e w1 ⟨rfl, h1⟩
  go_wp2_with fail
  go_end0
  exact ⟨rfl, h1⟩
set_option maxHeartbeats 400000 in
theorem u32_nil (n : Nat) (hn : Hid (n < 4294967296)) (w : World) : Calls Try.prog 30 #[.pointer none, .int .u32 (U n)] w fun e w' => e = .returned (.tuple #[]) ∧ Below w.heap.size w w' := by
  have hu := wrap64U n (by have := hn.out; omega)
  go_enter Try.func30, Try.ntmps30
  go_wp2_with fail
  refine (fixed4_nil w n).mono ?_; rintro e w1 ⟨rfl, h1⟩
  go_wp2_with fail
  go_end0
  exact ⟨rfl, h1⟩
set_option maxHeartbeats 400000 in
theorem low_nil (w : World) : Calls Try.prog 32 #[.pointer none, .int .u32 1] w fun e w' => e = .returned (.tuple #[]) ∧ Below w.heap.size w w' := by
  have h1 : Hid ((1 : Nat) < 4294967296) := by show _ < _; omega
  have h2 : Hid (revN 1 < 4294967296) := rev_lt 1
  go_enter Try.func32, Try.ntmps32
  go_wp2_with fail
  refine (reverse_any 1 h1 w).mono ?_; rintro e w1 ⟨rfl, rfl⟩
  go_wp2_with fail
  refine (u32_nil (revN 1) h2 w).mono ?_; rintro e w1 ⟨rfl, h1⟩
  go_wp2_with fail
  go_end0
  exact ⟨rfl, h1⟩
set_option maxRecDepth 100000 in
set_option maxHeartbeats 400000 in
theorem raw_nil (s : ByteArray) (w : World) : Calls Try.prog 34 #[.pointer none, .string s] w fun e w' => e = .returned (.tuple #[]) ∧ Below w.heap.size w w' := by
  have hconv := run_bytes_of_string (P := Try.prog) w 9 52 5 s Try.underlying9 Try.underlying52 Try.underlying5
  generalize grownCap w s.size 0 5 = cap at *
  generalize bytesRow s cap = R at *
  go_enter Try.func34, Try.ntmps34
  go_wp2_with (go_at_call 48; refine (put_nil _ _).mono ?_; rintro e w' ⟨rfl, rfl⟩)
  go_end0
  exact ⟨rfl, (Below.refl _ _).drew.alloc (Nat.le_refl _) _⟩
end Go.Proofs.Ythaafniahkejkaa.Wire
