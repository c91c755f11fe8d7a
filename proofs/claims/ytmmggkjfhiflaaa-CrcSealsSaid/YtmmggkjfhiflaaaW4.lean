/-
  The walks over the table: its highest bytes, forward and back.
-/
import Derived.Test.YtmmggkjfhiflaaaW3
import Derived.BigQuiet
import Derived.Deep.QuietTactic
namespace Go.Proofs.Ytmmggkjfhiflaaa.Crc
open Go.RowKit

/-- bytes as cells -/
def cells8 (T : List Nat) : Array Value := (T.map fun v : Nat => Value.int .u8 (v : Int)).toArray
def nat (T : List Nat) (n : Nat) : Nat := T.getD n 0
theorem cells8_get (T : List Nat) (n : Nat) (h : n < T.length) : (cells8 T)[n]? = some (.int .u8 (nat T n : Int)) := by
  unfold cells8 nat
  rw [List.getElem?_toArray, List.getElem?_map, List.getElem?_eq_getElem h, List.getD_eq_getElem?_getD, List.getElem?_eq_getElem h]; rfl
theorem cells8_set (T : List Nat) (n v : Nat) : (cells8 T).setIfInBounds n (.int .u8 (v : Int)) = cells8 (T.set n v) := by
  unfold cells8
  rw [List.setIfInBounds_toArray, List.map_set]
theorem cells8_size (T : List Nat) : (cells8 T).size = T.length := by unfold cells8; simp
theorem cells8_one (T : List Nat) : (cells8 T).all (·.oneCell') = true := by
  unfold cells8; rw [List.all_toArray, List.all_map, List.all_eq_true]; intro x _; rfl
theorem info57 {T : List Nat} (h : T.length = 256) : (Try.prog.info? 57).map (·.size) = some (cells8 T).size := by
  rw [cells8_size, h]; kernel_rfl
def zeros8 : List Nat := List.replicate 256 0
theorem zero57 (w : World) : (zeroValue 57).run Try.prog w = .ok (.agg (cells8 zeros8)) w := by kernel_rfl
theorem agg23 (w : World) : (isAgg 23).run Try.prog w = .ok false w := by kernel_rfl
theorem size23 (w : World) : (sizeOf 23).run Try.prog w = .ok 1 w := by kernel_rfl
theorem index_tabs (n : Nat) (h : n < 256) (w : World) : (Instr.index 24 (.agg (cellsW tabs)) (.int .i64 (n : Int))).run Try.prog w = .ok (.int .u32 (V (tab n))) w := by
  have hc := cellsW_get tabs n (by rw [tabs_length]; exact h)
  rw [tabs_getD n h] at hc
  have hn : (n : Int) < 256 := by omega
  simp [Instr.index, run_underlying Try.underlying24, asIntOf, part, hc]
  omega

theorem heap3_0 (w : World) (A B C : Obj) : (((w.alloc A).alloc B).alloc C).heap[w.heap.size]? = some A := by
  rw [heap_alloc_old _ C (by simp; omega), heap_alloc_old _ B (by simp)]; exact heap_alloc_new w A
theorem heap3_1 (w : World) (A B C : Obj) : (((w.alloc A).alloc B).alloc C).heap[w.heap.size + 1]? = some B := by
  rw [heap_alloc_old _ C (by simp)]; exact heap_alloc2_new w A B
theorem heap3_2 (w : World) (A B C : Obj) : (((w.alloc A).alloc B).alloc C).heap[w.heap.size + 1 + 1]? = some C := by
  have h := heap_alloc_new ((w.alloc A).alloc B) C
  have e : ((w.alloc A).alloc B).heap.size = w.heap.size + 1 + 1 := by simp
  rwa [e] at h
theorem setRow3_1 (w : World) (A : Obj) (a b : Array Value) (t : TypeId) (o : Obj) : (((w.alloc A).alloc (.cells a t)).alloc o).setRow (w.heap.size + 1) b = ((w.alloc A).alloc (.cells b t)).alloc o := by
  have h := setRow_alloc2 (w.alloc A) a b t o
  have e : (w.alloc A).heap.size = w.heap.size + 1 := by simp
  rwa [e] at h
theorem cell3_2 (w : World) (A B : Obj) (cs : Array Value) (t : TypeId) (n : Nat) (v : Value) (h : cs[n]? = some v) : (((w.alloc A).alloc B).alloc (.cells cs t)).cell? ⟨w.heap.size + 1 + 1, n, none⟩ = some v := by
  rw [cell_of_row _ _ _ _ _ _ (heap3_2 w A B _)]; exact h
theorem toNat_top (c : W) : (V c / (16777216 : Int)).toNat = c.toNat / 16777216 := by
  have e : V c / (16777216 : Int) = ((c.toNat / 16777216 : Nat) : Int) := rfl
  rw [e, Int.toNat_natCast]
theorem nums_next (k : Nat) : (cells8 (nums k)).setIfInBounds (V (tab k) / (16777216 : Int)).toNat (.int .u8 (k : Int)) = cells8 (nums (k + 1)) := by
  rw [cells8_set, toNat_top, nums_succ]; rfl

set_option maxRecDepth 100000 in
set_option maxHeartbeats 400000 in
theorem byTop_any (w : World) :
    Calls Try.prog 43 #[.agg (cellsW tabs)] w fun e w' => e = .returned (.agg (cells8 (nums 256))) ∧ Below w.heap.size w w' := by
  have hz := zero57
  go_enter Try.func43, Try.ntmps43
  go_wp2_with (refine wpList_load_row rfl 24 _ rfl w.heap.size rfl 24 (cellsW tabs) (0, 0) _ (heap3_0 _ _ _ _) Try.underlying24 rfl (info24 tabs_length) ?_)
  go_loopw [7] (fun x wr => ∃ k : Nat, k ≤ 256 ∧ x = .int .i64 k ∧ wr = ((w.alloc (.cells (cellsW tabs) 24)).alloc (.cells (cells8 zeros8) 57)).alloc (.cells (cells8 (nums k)) 57)) (fun x _ => 256 - (intOf x).toNat)
  case atStart => exact ⟨0, by omega, rfl, rfl⟩
  case round =>
    obtain ⟨k, hk, rfl, rfl⟩ := hrel
    by_cases hlt : k < 256
    · have hix := index_tabs k hlt
      obtain ⟨q, hq, hq2⟩ : ∃ q : Nat, V (tab k) / (16777216 : Int) = (q : Int) ∧ q < 256 := ⟨(tab k).toNat / 16777216, rfl, by have := (tab k).isLt; omega⟩
      have hg := cell3_2 w (.cells (cellsW tabs) 24) (.cells (cells8 zeros8) 57) (cells8 (nums k)) 57 q _ (cells8_get _ _ (by rw [nums_length]; omega))
      have HX : Hid ((cells8 (nums k)).setIfInBounds q (.int .u8 (k : Int)) = cells8 (nums (k + 1))) := by have := nums_next k; rw [hq, Int.toNat_natCast] at this; exact this
      go_wp2_with fail
      go_roundw
      case rel => exact ⟨k + 1, by omega, by go_num, by rw [HX.out]⟩
      case measure => simp [intOf]; omega
    · obtain rfl : k = 256 := by omega
      go_wp2_with (first | (refine wpList_store_row rfl 57 _ _ rfl (w.heap.size + 1) (cells8 (nums 256)) rfl rfl 57 (cells8 zeros8) (heap3_1 _ _ _ _) (info57 (nums_length _)) (by rw [cells8_size, cells8_size, nums_length]; exact List.length_replicate) (cells8_one _) ?_; rw [setRow3_1]) | refine wpList_load_row rfl 57 _ rfl (w.heap.size + 1 + 1) rfl 57 (cells8 (nums 256)) (0, 0) _ (heap3_2 _ _ _ _) Try.underlying57 rfl (info57 (nums_length _)) ?_)
      refine bodyPost_ret (v := .agg (cells8 (nums 256))) (results_cell_row rfl _ _ (w.heap.size + 1) 57 (cells8 (nums 256)) (0, 0) _ rfl (heap3_1 _ _ _ _) Try.underlying57 rfl (info57 (nums_length _))) rfl ⟨rfl, ?_⟩
      exact (((Below.refl _ _).alloc (Nat.le_refl _) _).alloc (by simp) _).alloc (by simp; omega) _

end Go.Proofs.Ytmmggkjfhiflaaa.Crc
