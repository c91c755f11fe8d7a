/-
  The walk of the statement CrcNames.
-/
import Derived.Test.YtmmggkjfhiflaaaLBoth
import Derived.Test.YtmmggkjfhiflaaaLForge
namespace Go.Proofs.Ytmmggkjfhiflaaa.Crc
open Go.RowKit

theorem tabs_same (w : World) : (binOp .neq 24 (.agg (cellsW tabs)) (.agg (cellsW tabs))).run Try.prog w = .ok (.bool false) w := by kernel_rfl
theorem index_1 (w : World) : (Instr.index 24 (.agg (cellsW tabs)) (.int .i64 1)).run Try.prog w = .ok (.int .u32 1996959894) w := by
  have h := index_tabs 1 (by omega) w
  have e : V (tab 1) = 1996959894 := by decide +kernel
  rw [e] at h; exact h
theorem index_128 (w : World) : (Instr.index 24 (.agg (cellsW tabs)) (.int .i64 128)).run Try.prog w = .ok (.int .u32 3988292384) w := by
  have h := index_tabs 128 (by omega) w
  have e : V (tab 128) = 3988292384 := by decide +kernel
  rw [e] at h; exact h
theorem openA (w : World) : Calls Try.prog 15 #[.string ⟨#[97, 98, 99]⟩] w fun e w' => e = .returned (.tuple #[.string ⟨#[]⟩, .int .i64 8]) ∧ Below w.heap.size w w' :=
  open_short _ w (by decide)
theorem openB (w : World) : Calls Try.prog 15 #[.string ⟨#[97, 0, 0, 0, 0]⟩] w fun e w' => e = .returned (.tuple #[.string ⟨#[]⟩, .int .i64 42]) ∧ Below w.heap.size w w' :=
  open_sum ⟨#[97, 0, 0, 0, 0]⟩ w (by decide) (by decide) (by decide +kernel)
theorem openC (w : World) : Calls Try.prog 15 #[.string ⟨#[0, 0, 0, 0]⟩] w fun e w' => e = .returned (.tuple #[.string ⟨#[]⟩, .int .i64 0]) ∧ Below w.heap.size w w' :=
  open_ok ⟨#[0, 0, 0, 0]⟩ w (by decide) (by decide) (by decide +kernel)
def forged5 : ByteArray := S (forgeL [97, 98, 99, 100] 0 5)
theorem forged5_size : forged5.size = 4 := by unfold forged5; rw [S_size]; decide +kernel
theorem forgeA (w : World) : Calls Try.prog 16 #[.string ⟨#[97, 98, 99, 100]⟩, .int .i64 0, .int .u32 5] w fun e w' => e = .returned (.tuple #[.string forged5, .int .i64 0]) ∧ Below w.heap.size w w' :=
  forge_long ⟨#[97, 98, 99, 100]⟩ 0 5 (by decide) w (by decide)
theorem both_7 (w : World) : Calls Try.prog 17 #[.int .u32 7, .int .u32 9, .int .i64 0] w fun e w' => e = .returned (.int .u32 14) ∧ w = w' :=
  both_any 7 9 7 9 rfl rfl 0 (by decide) w
theorem both_9 (w : World) : Calls Try.prog 17 #[.int .u32 0, .int .u32 9, .int .i64 4611686018427387904] w fun e w' => e = .returned (.int .u32 9) ∧ w = w' := by
  have h := both_any 0 9 0 9 rfl rfl 4611686018427387904 (by decide) w
  have e : V (bothW 0 9 4611686018427387904) = 9 := by
    unfold bothW; rw [it_zero]; decide
  rw [e] at h; exact h

set_option maxRecDepth 100000 in
set_option maxHeartbeats 1000000 in
theorem crcNames_walk (w : World) :
    Calls Try.prog 3 #[] w fun e w' => e = .returned (.bool true) ∧ Below w.heap.size w w' := by
  have hb0 : Below w.heap.size w w := Below.refl _ _
  have hsame := tabs_same
  have hi1 := index_1
  have hi128 := index_128
  have hz := zero24
  have h5 := forged5_size
  go_enter Try.func3, Try.ntmps3
  go_wp2_with (first | (go_at_call 12; refine (carry ‹Below w.heap.size w _› (awake_any _)).mono ?_; rintro e w1 ⟨rfl, hb1⟩) | (go_at_call 14; refine (carry ‹Below w.heap.size w _› (refTable_any _)).mono ?_; rintro e w1 ⟨rfl, hb1⟩))
  refine (carry ‹Below w.heap.size w _› (table_any _)).mono ?_; rintro e w1 ⟨rfl, hb1⟩
  go_wp2_with (go_at_call 14; refine (carry ‹Below w.heap.size w _› (refTable_any _)).mono ?_; rintro e w1 ⟨rfl, hb1⟩)
  refine (carry ‹Below w.heap.size w _› (table_any _)).mono ?_; rintro e w1 ⟨rfl, hb1⟩
  go_wp2_with (refine wpList_store_row rfl 24 _ _ rfl _ (cellsW tabs) rfl rfl 24 (cellsW zeros) (heap_alloc_new _ _) info24' (by rw [cellsW_size, cellsW_size, tabs_length]; exact List.length_replicate) (cellsW_one _) ?_; rw [setRow_alloc])
  have hbA : Below w.heap.size w (w1.alloc (.cells ((cellsW tabs).setIfInBounds 1 (.int .u32 7)) 24)) := Below.alloc hb1 hb1.size _
  refine (carry ‹Below w.heap.size w _› (openA _)).mono ?_; rintro e w1 ⟨rfl, hb1⟩
  go_wp2_with fail
  refine (carry ‹Below w.heap.size w _› (openB _)).mono ?_; rintro e w1 ⟨rfl, hb1⟩
  go_wp2_with fail
  refine (carry ‹Below w.heap.size w _› (openC _)).mono ?_; rintro e w1 ⟨rfl, hb1⟩
  go_wp2_with fail
  refine (carry ‹Below w.heap.size w _› (forge_short ⟨#[97, 98, 99]⟩ 0 1 (Or.inr (by decide)) _ (by decide))).mono ?_; rintro e w1 ⟨rfl, hb1⟩
  go_wp2_with fail
  refine (carry ‹Below w.heap.size w _› (forge_short ⟨#[97, 98, 99, 100]⟩ 1 1 (Or.inr (by decide)) _ (by decide))).mono ?_; rintro e w1 ⟨rfl, hb1⟩
  go_wp2_with fail
  refine (carry ‹Below w.heap.size w _› (forge_short ⟨#[97, 98, 99, 100]⟩ (-1) 1 (Or.inl (by decide)) _ (by decide))).mono ?_; rintro e w1 ⟨rfl, hb1⟩
  go_wp2_with fail
  refine (carry ‹Below w.heap.size w _› (forgeA _)).mono ?_; rintro e w1 ⟨rfl, hb1⟩
  go_wp2_with fail
  refine (carry ‹Below w.heap.size w _› (forge_short ⟨#[97, 98, 99, 100]⟩ 4611686018427387904 1 (Or.inr (by decide)) _ (by decide))).mono ?_; rintro e w1 ⟨rfl, hb1⟩
  go_wp2_with fail
  refine (carry ‹Below w.heap.size w _› (table_any _)).mono ?_; rintro e w1 ⟨rfl, hb1⟩
  go_wp2_with fail
  refine (carry ‹Below w.heap.size w _› (table_any _)).mono ?_; rintro e w1 ⟨rfl, hb1⟩
  go_wp2_with fail
  refine (both_neg 7 9 (-1) (by decide) _).mono ?_; rintro e w1 ⟨rfl, rfl⟩
  go_wp2_with fail
  refine (both_7 _).mono ?_; rintro e w1 ⟨rfl, rfl⟩
  go_wp2_with fail
  refine (both_9 _).mono ?_; rintro e w1 ⟨rfl, rfl⟩
  go_wp2_with fail
  go_ret
  exact ⟨rfl, ‹Below w.heap.size w _›⟩

end Go.Proofs.Ytmmggkjfhiflaaa.Crc
