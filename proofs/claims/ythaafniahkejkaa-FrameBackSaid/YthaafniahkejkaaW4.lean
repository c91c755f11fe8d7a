/-
  The walks over the table: its highest bytes, forward and back.
-/
import Derived.Test.YthaafniahkejkaaW3
import Derived.BigQuiet
import Derived.Deep.QuietTactic
namespace Go.Proofs.Ythaafniahkejkaa.Crc
open Go.RowKit

/-- bytes as cells -/
def cells8 (T : List Nat) : Array Value := (T.map fun v : Nat => Value.int .u8 (v : Int)).toArray
def nat (T : List Nat) (n : Nat) : Nat := T.getD n 0
theorem cells8_get (T : List Nat) (n : Nat) (h : n < T.length) : (cells8 T)[n]? = some (.int .u8 (nat T n : Int)) := by
  unfold cells8 nat
  rw [List.getElem?_toArray, List.getElem?_map, List.getElem?_eq_getElem h, List.getD_eq_getElem?_getD, List.getElem?_eq_getElem h]; rfl
theorem cells8_set (T : List Nat) (n v : Nat) : (cells8 T).setIfInBounds n (.int .u8 (v : Int)) = cells8 (T.set n v) := by
  unfold cells8
  rw [List.setIfInBounds_toArray, List.map_set]
theorem cells8_size (T : List Nat) : (cells8 T).size = T.length := by unfold cells8; simp
theorem cells8_one (T : List Nat) : (cells8 T).all (·.oneCell') = true := by
  unfold cells8; rw [List.all_toArray, List.all_map, List.all_eq_true]; intro x _; rfl
def zeros8 : List Nat := List.replicate 256 0
theorem agg23 (w : World) : (isAgg 51).run Try.prog w = .ok false w := by kernel_rfl
theorem size23 (w : World) : (sizeOf 51).run Try.prog w = .ok 1 w := by kernel_rfl
theorem index_tabs (n : Nat) (h : n < 256) (w : World) : (Instr.index 98 (.agg (cellsW tabs)) (.int .i64 (n : Int))).run Try.prog w = .ok (.int .u32 (V (tab n))) w := by
  have hc := cellsW_get tabs n (by rw [tabs_length]; exact h)
  rw [tabs_getD n h] at hc
  have hn : (n : Int) < 256 := by omega
  simp [Instr.index, run_underlying Try.underlying98, asIntOf, part, hc]
  omega

theorem heap3_0 (w : World) (A B C : Obj) : (((w.alloc A).alloc B).alloc C).heap[w.heap.size]? = some A := by
  rw [heap_alloc_old _ C (by simp; omega), heap_alloc_old _ B (by simp)]; exact heap_alloc_new w A
theorem heap3_1 (w : World) (A B C : Obj) : (((w.alloc A).alloc B).alloc C).heap[w.heap.size + 1]? = some B := by
  rw [heap_alloc_old _ C (by simp)]; exact heap_alloc2_new w A B
theorem heap3_2 (w : World) (A B C : Obj) : (((w.alloc A).alloc B).alloc C).heap[w.heap.size + 1 + 1]? = some C := by
  have h := heap_alloc_new ((w.alloc A).alloc B) C
  have e : ((w.alloc A).alloc B).heap.size = w.heap.size + 1 + 1 := by simp
  rwa [e] at h
theorem setRow3_1 (w : World) (A : Obj) (a b : Array Value) (t : TypeId) (o : Obj) : (((w.alloc A).alloc (.cells a t)).alloc o).setRow (w.heap.size + 1) b = ((w.alloc A).alloc (.cells b t)).alloc o := by
  have h := setRow_alloc2 (w.alloc A) a b t o
  have e : (w.alloc A).heap.size = w.heap.size + 1 := by simp
  rwa [e] at h
theorem cell3_2 (w : World) (A B : Obj) (cs : Array Value) (t : TypeId) (n : Nat) (v : Value) (h : cs[n]? = some v) : (((w.alloc A).alloc B).alloc (.cells cs t)).cell? ⟨w.heap.size + 1 + 1, n, none⟩ = some v := by
  rw [cell_of_row _ _ _ _ _ _ (heap3_2 w A B _)]; exact h
theorem toNat_top (c : W) : (V c / (16777216 : Int)).toNat = c.toNat / 16777216 := by
  have e : V c / (16777216 : Int) = ((c.toNat / 16777216 : Nat) : Int) := rfl
  rw [e, Int.toNat_natCast]
theorem nums_next (k : Nat) : (cells8 (nums k)).setIfInBounds (V (tab k) / (16777216 : Int)).toNat (.int .u8 (k : Int)) = cells8 (nums (k + 1)) := by
  rw [cells8_set, toNat_top, nums_succ]; rfl

end Go.Proofs.Ythaafniahkejkaa.Crc
