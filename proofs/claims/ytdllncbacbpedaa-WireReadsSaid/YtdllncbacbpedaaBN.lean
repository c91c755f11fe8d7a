/-
  Nobody's Reader: fixed numbers.
-/
import Derived.Test.YtdllncbacbpedaaB14
namespace Go.Proofs.Ytdllncbacbpedaa.Wire
open Go.RowKit

set_option maxRecDepth 100000 in
set_option maxHeartbeats 400000 in
theorem rfix8_nil (w : World) : Calls Try.prog 52 #[.pointer none] w fun x w' => x = .returned (.int .u8 0) ∧ Below w.heap.size w w' := by
  go_enter Try.func52, Try.ntmps52
  go_wp2_with fail
  refine (len_255 w).mono ?_; rintro x w1 ⟨rfl, rfl⟩
  go_wp2_with fail
  refine (take_nil _ w).mono ?_; rintro x w1 ⟨rfl, rfl⟩
  have hconv := run_bytes_of_string (P := Try.prog) w 9 79 5 ⟨#[]⟩ Try.underlying9 Try.underlying79 Try.underlying5
  generalize grownCap w (ByteArray.size ⟨#[]⟩) 0 5 = cap at *
  generalize bytesRow ⟨#[]⟩ cap = R at *
  go_wp2_with fail
  clear hconv
  have HB : Hid (Below w.heap.size w (w.alloc (Obj.cells R 5 (R.size, R.size + 1))).drew) := ((Below.refl _ _).alloc (Nat.le_refl _) _).drew
  go_loop [4, 17] (fun n j => j = .int .i64 0 ∧ n = .int .u64 0) (fun _ _ => 0)
  case atStart => exact ⟨rfl, rfl⟩
  case round =>
    obtain ⟨rfl, rfl⟩ := hrel
    go_wp2_with fail
    go_ret
    exact ⟨rfl, HB.out⟩
set_option maxRecDepth 100000 in
set_option maxHeartbeats 400000 in
theorem rfix16_nil (w : World) : Calls Try.prog 56 #[.pointer none] w fun x w' => x = .returned (.int .u16 0) ∧ Below w.heap.size w w' := by
  go_enter Try.func56, Try.ntmps56
  go_wp2_with fail
  refine (len_65535 w).mono ?_; rintro x w1 ⟨rfl, rfl⟩
  go_wp2_with fail
  refine (take_nil _ w).mono ?_; rintro x w1 ⟨rfl, rfl⟩
  have hconv := run_bytes_of_string (P := Try.prog) w 9 79 5 ⟨#[]⟩ Try.underlying9 Try.underlying79 Try.underlying5
  generalize grownCap w (ByteArray.size ⟨#[]⟩) 0 5 = cap at *
  generalize bytesRow ⟨#[]⟩ cap = R at *
  go_wp2_with fail
  clear hconv
  have HB : Hid (Below w.heap.size w (w.alloc (Obj.cells R 5 (R.size, R.size + 1))).drew) := ((Below.refl _ _).alloc (Nat.le_refl _) _).drew
  go_loop [4, 17] (fun n j => j = .int .i64 0 ∧ n = .int .u64 0) (fun _ _ => 0)
  case atStart => exact ⟨rfl, rfl⟩
  case round =>
    obtain ⟨rfl, rfl⟩ := hrel
    go_wp2_with fail
    go_ret
    exact ⟨rfl, HB.out⟩
set_option maxRecDepth 100000 in
set_option maxHeartbeats 400000 in
theorem rfix32_nil (w : World) : Calls Try.prog 53 #[.pointer none] w fun x w' => x = .returned (.int .u32 0) ∧ Below w.heap.size w w' := by
  go_enter Try.func53, Try.ntmps53
  go_wp2_with fail
  refine (len_32 w).mono ?_; rintro x w1 ⟨rfl, rfl⟩
  go_wp2_with fail
  refine (take_nil _ w).mono ?_; rintro x w1 ⟨rfl, rfl⟩
  have hconv := run_bytes_of_string (P := Try.prog) w 9 79 5 ⟨#[]⟩ Try.underlying9 Try.underlying79 Try.underlying5
  generalize grownCap w (ByteArray.size ⟨#[]⟩) 0 5 = cap at *
  generalize bytesRow ⟨#[]⟩ cap = R at *
  go_wp2_with fail
  clear hconv
  have HB : Hid (Below w.heap.size w (w.alloc (Obj.cells R 5 (R.size, R.size + 1))).drew) := ((Below.refl _ _).alloc (Nat.le_refl _) _).drew
  go_loop [4, 17] (fun n j => j = .int .i64 0 ∧ n = .int .u64 0) (fun _ _ => 0)
  case atStart => exact ⟨rfl, rfl⟩
  case round =>
    obtain ⟨rfl, rfl⟩ := hrel
    go_wp2_with fail
    go_ret
    exact ⟨rfl, HB.out⟩
set_option maxRecDepth 100000 in
set_option maxHeartbeats 400000 in
theorem rfix64_nil (w : World) : Calls Try.prog 54 #[.pointer none] w fun x w' => x = .returned (.int .u64 0) ∧ Below w.heap.size w w' := by
  go_enter Try.func54, Try.ntmps54
  go_wp2_with fail
  refine (len_64 w).mono ?_; rintro x w1 ⟨rfl, rfl⟩
  go_wp2_with fail
  refine (take_nil _ w).mono ?_; rintro x w1 ⟨rfl, rfl⟩
  have hconv := run_bytes_of_string (P := Try.prog) w 9 79 5 ⟨#[]⟩ Try.underlying9 Try.underlying79 Try.underlying5
  generalize grownCap w (ByteArray.size ⟨#[]⟩) 0 5 = cap at *
  generalize bytesRow ⟨#[]⟩ cap = R at *
  go_wp2_with fail
  clear hconv
  have HB : Hid (Below w.heap.size w (w.alloc (Obj.cells R 5 (R.size, R.size + 1))).drew) := ((Below.refl _ _).alloc (Nat.le_refl _) _).drew
  go_loop [4, 16] (fun n j => j = .int .i64 0 ∧ n = .int .u64 0) (fun _ _ => 0)
  case atStart => exact ⟨rfl, rfl⟩
  case round =>
    obtain ⟨rfl, rfl⟩ := hrel
    go_wp2_with fail
    go_ret
    exact ⟨rfl, HB.out⟩
theorem ru8_nil (w : World) : Calls Try.prog 24 #[.pointer none] w fun x w' => x = .returned (.int .u8 0) ∧ Below w.heap.size w w' := by
  go_enter Try.func24, Try.ntmps24
  go_wp2_with fail
  refine (rfix8_nil w).mono ?_; rintro x w1 ⟨rfl, hb⟩
  go_wp2_with fail
  go_ret
  exact ⟨rfl, hb⟩
theorem ru16_nil (w : World) : Calls Try.prog 33 #[.pointer none] w fun x w' => x = .returned (.int .u16 0) ∧ Below w.heap.size w w' := by
  go_enter Try.func33, Try.ntmps33
  go_wp2_with fail
  refine (rfix16_nil w).mono ?_; rintro x w1 ⟨rfl, hb⟩
  go_wp2_with fail
  go_ret
  exact ⟨rfl, hb⟩
theorem ru32_nil (w : World) : Calls Try.prog 25 #[.pointer none] w fun x w' => x = .returned (.int .u32 0) ∧ Below w.heap.size w w' := by
  go_enter Try.func25, Try.ntmps25
  go_wp2_with fail
  refine (rfix32_nil w).mono ?_; rintro x w1 ⟨rfl, hb⟩
  go_wp2_with fail
  go_ret
  exact ⟨rfl, hb⟩
theorem ru64_nil (w : World) : Calls Try.prog 26 #[.pointer none] w fun x w' => x = .returned (.int .u64 0) ∧ Below w.heap.size w w' := by
  go_enter Try.func26, Try.ntmps26
  go_wp2_with fail
  refine (rfix64_nil w).mono ?_; rintro x w1 ⟨rfl, hb⟩
  go_wp2_with fail
  go_ret
  exact ⟨rfl, hb⟩
theorem rev_zero : revN 0 = 0 := by decide +kernel
theorem reverse_zero (w : World) : Calls Try.prog 55 #[.int .u32 0] w fun e w' => e = .returned (.int .u32 0) ∧ w = w' := by
  have h := reverse_any 0 (by show _ < _; omega) w
  rw [rev_zero] at h; exact h
theorem rlow_nil (w : World) : Calls Try.prog 34 #[.pointer none] w fun x w' => x = .returned (.int .u32 0) ∧ Below w.heap.size w w' := by
  go_enter Try.func34, Try.ntmps34
  go_wp2_with fail
  refine (ru32_nil w).mono ?_; rintro x w1 ⟨rfl, hb⟩
  go_wp2_with fail
  refine (reverse_zero w1).mono ?_; rintro x w2 ⟨rfl, rfl⟩
  go_wp2_with fail
  go_ret
  exact ⟨rfl, hb⟩

end Go.Proofs.Ytdllncbacbpedaa.Wire
