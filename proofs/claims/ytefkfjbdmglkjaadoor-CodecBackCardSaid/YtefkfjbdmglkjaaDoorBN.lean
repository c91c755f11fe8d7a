/-
  Nobody's Reader: fixed numbers.
-/
import Derived.Test.YtefkfjbdmglkjaaDoorB14
namespace Go.Proofs.YtefkfjbdmglkjaaDoor.Wire
open Go.RowKit

set_option maxRecDepth 100000 in
set_option maxHeartbeats 400000 in
theorem rfix8_nil (w : World) : Calls Tryd.prog 77 #[.pointer none] w fun x w' => x = .returned (.int .u8 0) ∧ Below w.heap.size w w' := by
  go_enter Tryd.func77, Tryd.ntmps77
  go_wp2_with fail
  refine (len_255 w).mono ?_; rintro x w1 ⟨rfl, rfl⟩
  go_wp2_with fail
  refine (take_nil _ w).mono ?_; rintro x w1 ⟨rfl, rfl⟩
  have hconv := run_bytes_of_string (P := Tryd.prog) w 9 70 5 ⟨#[]⟩ Tryd.underlying9 Tryd.underlying70 Tryd.underlying5
  generalize grownCap w (ByteArray.size ⟨#[]⟩) 0 5 = cap at *
  generalize bytesRow ⟨#[]⟩ cap = R at *
  go_wp2_with fail
  clear hconv
  have HB : Hid (Below w.heap.size w (w.alloc (Obj.cells R 5 (R.size, R.size + 1))).drew) := ((Below.refl _ _).alloc (Nat.le_refl _) _).drew
  go_loop [4, 17] (fun n j => j = .int .i64 0 ∧ n = .int .u64 0) (fun _ _ => 0)
  case atStart => exact ⟨rfl, rfl⟩
  case round =>
    obtain ⟨rfl, rfl⟩ := hrel
    go_wp2_with fail
    go_ret
    exact ⟨rfl, HB.out⟩
theorem ru8_nil (w : World) : Calls Tryd.prog 47 #[.pointer none] w fun x w' => x = .returned (.int .u8 0) ∧ Below w.heap.size w w' := by
  go_enter Tryd.func47, Tryd.ntmps47
  go_wp2_with fail
  refine (rfix8_nil w).mono ?_; rintro x w1 ⟨rfl, hb⟩
  go_wp2_with fail
  go_ret
  exact ⟨rfl, hb⟩
theorem rev_zero : revN 0 = 0 := by decide +kernel
end Go.Proofs.YtefkfjbdmglkjaaDoor.Wire
