import Derived.Test.YticfnfekkmkclaaGreatDoorRows
import Derived.Test.YticfnfekkmkclaaGreatDoorVal
import Derived.WalkKit
import Derived.Lib.Hide
import Derived.WalkSpells
import Derived.WalkLawsBesides
import Derived.Deep.LoopGhost
import Derived.BigQuiet
import Derived.Deep.QuietTactic
import Derived.Lib.Strings
import Derived.Lib.Walk
import Derived.Lib.BufferWrite
import Derived.Lib.UnsafeStr
import Derived.Laws.MakeOwn
/-
  The walks of the small functions of package crc, and of the document's own answers.
-/
namespace Go.Proofs.YticfnfekkmkclaaGreatDoor.Crc
open Go.RowKit

set_option maxHeartbeats 400000 in
theorem shift_any (c : W) (w : World) :
    Calls Tryz.prog 168 #[.int .u32 (V c)] w fun e w' => e = .returned (.int .u32 (V (sh c))) ∧ w = w' := by
  cases hb : c.getLsbD 0
  · have h1 : (bits BinOp.and IntKind.u32 (V c) 1 == 1) = false := by rw [bits_and_1, hb]; rfl
    have H := Lib.hid hb; clear hb
    go_enter Tryz.func168, Tryz.ntmps168
    go_wp2
    go_ret
    exact ⟨ret_u32 (by rw [sh_nil H.out]; exact shr_V c 1), rfl⟩
  · have h1 : (bits BinOp.and IntKind.u32 (V c) 1 == 1) = true := by rw [bits_and_1, hb]; rfl
    have H := Lib.hid hb; clear hb
    go_enter Tryz.func168, Tryz.ntmps168
    go_wp2
    go_ret
    exact ⟨ret_u32 (by rw [sh_one H.out, V_shr1, bits_xor_poly]), rfl⟩

set_option maxHeartbeats 400000 in
theorem refshift_any (c : W) (b : Bool) (x : Int) (hx : x = V (bit b)) (w : World) :
    Calls Tryz.prog 197 #[.int .u32 (V c), .int .u32 x] w fun e w' => e = .returned (.int .u32 (V (sh (c ^^^ bit b)))) ∧ w = w' := by
  cases hb : (c.getLsbD 0 != b)
  · have h1 : (bits BinOp.and IntKind.u32 (V c) 1 != x) = false := by rw [bits_and_1, hx, bit_bne]; exact hb
    have H := Lib.hid hb; clear hb hx
    go_enter Tryz.func197, Tryz.ntmps197
    go_wp2
    go_ret
    exact ⟨ret_u32 (by rw [sh_bit, H.out, V_shr1]; rfl), rfl⟩
  · have h1 : (bits BinOp.and IntKind.u32 (V c) 1 != x) = true := by rw [bits_and_1, hx, bit_bne]; exact hb
    have H := Lib.hid hb; clear hb hx
    go_enter Tryz.func197, Tryz.ntmps197
    go_wp2
    go_ret
    exact ⟨ret_u32 (by rw [sh_bit, H.out, V_shr1, bits_xor_poly]; rfl), rfl⟩

set_option maxHeartbeats 400000 in
theorem over_any (c : W) (b : UInt8) (w : World) :
    Calls Tryz.prog 177 #[.int .u32 (V c), .int .u8 (b.toNat : Int)] w fun e w' => e = .returned (.int .u32 (V (step c b))) ∧ w = w' := by
  go_enter Tryz.func177, Tryz.ntmps177
  go_wp2
  go_loop [0, 5] (fun x i => ∃ k : Nat, k ≤ 8 ∧ i = .int .i64 k ∧ x = .int .u32 (V (rb c (fun i => b.toNat.testBit i) k))) (fun _ i => 8 - (intOf i).toNat)
  case atStart => exact ⟨0, Nat.zero_le _, rfl, rfl⟩
  case round =>
    obtain ⟨k, hk, rfl, rfl⟩ := hrel
    by_cases hlt : k < 8
    · go_wp2_with (go_at_call 197; refine (refshift_any _ _ _ (byte_bit b k) _).mono ?_; rintro e w' ⟨rfl, rfl⟩)
      go_round
      case rel => exact ⟨k + 1, by omega, by go_num, rfl⟩
      case measure => simp [intOf]; omega
    · go_wp2
      go_ret
      obtain rfl : k = 8 := by omega
      exact ⟨ret_u32 (by rw [rb_byte]), rfl⟩

/-- the state behind the first k bytes -/
theorem raw_take (c : W) (s : ByteArray) (k : Nat) (h : k < s.size) : raw c (s.data.toList.take (k + 1)) = step (raw c (s.data.toList.take k)) s[k] := by
  rw [List.take_succ_eq_append_getElem (by simpa using h), raw_append]; rfl
theorem raw_all (c : W) (s : ByteArray) (k : Nat) (h : s.size ≤ k) : raw c (s.data.toList.take k) = raw c s.data.toList := by
  rw [List.take_of_length_le (by simpa using h)]
set_option maxHeartbeats 400000 in
theorem refAdd_any (c : W) (s : ByteArray) (x : Int) (hx : x = V c) (w : World) (hs : s.size ≤ maxLen) :
    Calls Tryz.prog 156 #[.int .u32 x, .string s] w fun e w' => e = .returned (.int .u32 (V (addW c s.data.toList))) ∧ w = w' := by
  unfold maxLen at hs
  go_enter Tryz.func156, Tryz.ntmps156
  go_wp2_with fail
  rw [not_V]
  go_loop [0, 5] (fun x i => ∃ k : Nat, k ≤ s.size ∧ i = .int .i64 k ∧ x = .int .u32 (V (raw (~~~ c) (s.data.toList.take k)))) (fun _ i => s.size - (intOf i).toNat)
  case atStart => exact ⟨0, Nat.zero_le _, rfl, rfl⟩
  case round =>
    obtain ⟨k, hk, rfl, rfl⟩ := hrel
    by_cases hlt : k < s.size
    · have H := Lib.hid (raw_take (~~~ c) s k hlt)
      go_wp2_with (go_at_call 177; refine (over_any _ _ _).mono ?_; rintro e w' ⟨rfl, rfl⟩)
      go_round
      case rel => exact ⟨k + 1, by omega, by go_num, by rw [H.out]⟩
      case measure => simp [intOf]; omega
    · have H := Lib.hid (raw_all (~~~ c) s k (by omega))
      go_wp2
      go_ret
      exact ⟨ret_u32 (by rw [not_V, H.out]; rfl), rfl⟩

theorem refOf_any (s : ByteArray) (w : World) (hs : s.size ≤ maxLen) :
    Calls Tryz.prog 136 #[.string s] w fun e w' => e = .returned (.int .u32 (V (ofW s.data.toList))) ∧ w = w' := by
  go_enter Tryz.func136, Tryz.ntmps136
  go_wp2_with (go_at_call 156; refine (refAdd_any 0 s _ rfl _ hs).mono ?_; rintro e w' ⟨rfl, rfl⟩)
  go_ret
  exact ⟨rfl, rfl⟩

end Go.Proofs.YticfnfekkmkclaaGreatDoor.Crc

/-
  The walk of the table.
-/
namespace Go.Proofs.YticfnfekkmkclaaGreatDoor.Crc
open Go.RowKit

/-- words as cells -/
def cellsW (T : List W) : Array Value := (T.map fun v => Value.int .u32 (V v)).toArray
theorem cellsW_get (T : List W) (n : Nat) (h : n < T.length) : (cellsW T)[n]? = some (.int .u32 (V (wat T n))) := by
  unfold cellsW wat
  rw [List.getElem?_toArray, List.getElem?_map, List.getElem?_eq_getElem h, List.getD_eq_getElem?_getD, List.getElem?_eq_getElem h]; rfl
theorem cellsW_set (T : List W) (n : Nat) (v : W) : (cellsW T).setIfInBounds n (.int .u32 (V v)) = cellsW (T.set n v) := by
  unfold cellsW
  rw [List.setIfInBounds_toArray, List.map_set]
theorem cellsW_size (T : List W) : (cellsW T).size = T.length := by unfold cellsW; simp
theorem zero24 (w : World) : (zeroValue 188).run Tryz.prog w = .ok (.agg (cellsW zeros)) w := by kernel_rfl

theorem info24 {T : List W} (h : T.length = 256) : (Tryz.prog.info? 188).map (·.size) = some (cellsW T).size := by
  rw [cellsW_size, h]; kernel_rfl
theorem cellsW_one (T : List W) : (cellsW T).all (·.oneCell') = true := by
  unfold cellsW; rw [List.all_toArray, List.all_map, List.all_eq_true]; intro x _; rfl
theorem cell_new2 (w : World) (A : Obj) (cs : Array Value) (t : TypeId) (n : Nat) (v : Value) (h : cs[n]? = some v) : ((w.alloc A).alloc (.cells cs t)).cell? ⟨w.heap.size + 1, n, none⟩ = some v := by
  rw [cell_of_row _ _ _ _ _ _ (heap_alloc2_new w A _)]; exact h
theorem setRow_alloc (w : World) (a b : Array Value) (t : TypeId) : (w.alloc (.cells a t)).setRow w.heap.size b = w.alloc (.cells b t) := by
  unfold World.setRow World.alloc
  congr 1
  apply Array.ext_getElem?
  intro i
  rw [Array.getElem?_modify, Array.getElem?_push, Array.getElem?_push]
  by_cases h : w.heap.size = i
  · subst h; simp
  · rw [if_neg h, if_neg (fun e => h e.symm), if_neg (fun e => h e.symm)]
theorem setRow_alloc2 (w : World) (a b : Array Value) (t : TypeId) (o : Obj) : ((w.alloc (.cells a t)).alloc o).setRow w.heap.size b = (w.alloc (.cells b t)).alloc o := by
  unfold World.setRow World.alloc
  congr 1
  apply Array.ext_getElem?
  intro i
  rw [Array.getElem?_modify, Array.getElem?_push, Array.getElem?_push, Array.getElem?_push, Array.getElem?_push]
  simp only [Array.size_push]
  by_cases h : w.heap.size = i
  · subst h; simp
  · rw [if_neg h, if_neg (fun e : i = w.heap.size => h e.symm), if_neg (fun e : i = w.heap.size => h e.symm)]
theorem fill_next (T : List W) (r B j n : Nat) (h : n = 2 * B * j) : (cellsW (fillIn (it (r + 1) w1) B j T)).setIfInBounds (n + B) (.int .u32 (bits .xor .u32 (V (wat (fillIn (it (r + 1) w1) B j T) n)) (V (sh (it r w1))))) = cellsW (fillIn (it (r + 1) w1) B (j + 1) T) := by
  rw [bits_xor_V, cellsW_set, h]; rfl
theorem halves : ∀ r < 8, 1 ≤ 128 / 2 ^ r ∧ 128 / 2 ^ r ≤ 128 ∧ 2 * (128 / 2 ^ r) * 2 ^ r = 256 ∧ 128 / 2 ^ r / 2 = 128 / 2 ^ (r + 1) := by decide
theorem room_left {B j R n : Nat} (h : 2 * B * R = 256) (hn : n = 2 * B * j) (hj : j ≤ R) (hlt : n < 256) : n + 2 * B ≤ 256 ∧ j < R := by
  subst hn
  have hjR : j < R := by
    apply Nat.lt_of_le_of_ne hj
    rintro rfl; omega
  have : 2 * B * (j + 1) ≤ 2 * B * R := Nat.mul_le_mul_left _ hjR
  rw [Nat.mul_add] at this
  exact ⟨by omega, hjR⟩
theorem all_done {B j R : Nat} (h : 2 * B * R = 256) (hB : 1 ≤ B) (hj : j ≤ R) (hlt : ¬ 2 * B * j < 256) : j = R := by
  apply Nat.le_antisymm hj
  apply Nat.le_of_not_lt
  intro g
  have : 2 * B * (j + 1) ≤ 2 * B * R := Nat.mul_le_mul_left _ g
  rw [Nat.mul_add] at this
  omega

set_option maxRecDepth 100000 in
set_option maxHeartbeats 400000 in
theorem table_any (w : World) :
    Calls Tryz.prog 148 #[] w fun e w' => e = .returned (.agg (cellsW tabs)) ∧ Below w.heap.size w w' := by
  have hz := zero24
  go_enter Tryz.func148, Tryz.ntmps148
  go_wp2_with fail
  go_loopw [2, 3] (fun x y wr => ∃ r B : Nat, r ≤ 8 ∧ Hid (B = 128 / 2 ^ r) ∧ B ≤ 128 ∧ x = .int .u32 (V (it r w1)) ∧ y = .int .i64 B ∧ wr = (w.alloc (.cells (cellsW zeros) 188)).alloc (.cells (cellsW (fill r)) 188)) (fun _ y _ => (intOf y).toNat)
  case atStart => exact ⟨0, 128, by omega, rfl, by omega, rfl, rfl, rfl⟩
  case round =>
    obtain ⟨r, B, hr, HB, hb, rfl, rfl, rfl⟩ := hrel
    by_cases h8 : r < 8
    · have hv := halves r h8
      rw [← HB.out] at hv
      obtain ⟨hB1, hB2, hB3, hB4⟩ := hv
      have H3 := Lib.hid hB3; have H4 := Lib.hid hB4; clear hB3 hB4
      go_wp2_with (go_at_call 168; refine (shift_any _ _).mono ?_; rintro e w' ⟨rfl, rfl⟩)
      have HF : Hid (fill (r + 1) = fillIn (it (r + 1) w1) B (2 ^ r) (fill r)) := by show fill (r + 1) = _; rw [HB.out]; rfl
      go_loopw [4] (fun x wr => ∃ j n : Nat, Hid (n = 2 * B * j) ∧ j ≤ 2 ^ r ∧ n ≤ 256 ∧ x = .int .i64 n ∧ wr = (w.alloc (.cells (cellsW zeros) 188)).alloc (.cells (cellsW (fillIn (it (r + 1) w1) B j (fill r))) 188)) (fun x _ => 256 - (intOf x).toNat)
      case atStart => exact ⟨0, 0, rfl, Nat.zero_le _, by omega, rfl, rfl⟩
      case round =>
        obtain ⟨j, n, HN, hj, hn, rfl, rfl⟩ := hrel
        have HJ := Lib.hid hj; clear hj
        by_cases hlt : n < 256
        · obtain ⟨hr2, hj2⟩ := room_left H3.out HN.out HJ.out hlt
          have HJ2 := Lib.hid hj2; clear hj2
          have hg := cell_new2 w (.cells (cellsW zeros) 188) _ 188 n _ (cellsW_get (fillIn (it (r + 1) w1) B j (fill r)) n (by rw [fillIn_length, fill_length]; exact hlt))
          have hg2 := cell_new2 w (.cells (cellsW zeros) 188) _ 188 (n + B) _ (cellsW_get (fillIn (it (r + 1) w1) B j (fill r)) (n + B) (by rw [fillIn_length, fill_length]; omega))
          have HX := Lib.hid (fill_next (fill r) r B j n HN.out)
          have HN2 : Hid (n + 2 * B = 2 * B * (j + 1)) := by show _ = _; rw [HN.out, Nat.mul_add]; omega
          go_wp2
          go_roundw
          case rel => exact ⟨j + 1, n + 2 * B, HN2, HJ2.out, hr2, by go_num, by rw [HX.out]⟩
          case measure => simp [intOf]; omega
        · have HA := Lib.hid (all_done H3.out hB1 HJ.out (by rw [← HN.out]; exact hlt))
          have HF2 : Hid (fillIn (it (r + 1) w1) B j (fill r) = fill (r + 1)) := by show _ = fill (r + 1); rw [HA.out]; exact HF.out.symm
          go_wp2
          go_roundw
          case rel => exact ⟨r + 1, B / 2, h8, (by show _ = _; exact H4.out.symm ▸ rfl), by omega, rfl, by go_num, by rw [HF2.out]⟩
          case measure => simp [intOf]; omega
    · obtain rfl : r = 8 := by omega
      have hB0 : B = 0 := HB.out
      subst hB0
      go_wp2_with (first | (refine wpList_store_row rfl 188 _ _ rfl w.heap.size (cellsW (fill 8)) rfl rfl 188 (cellsW zeros) (heap_alloc2_old _ _ _) (info24 (fill_length 8)) (by rw [cellsW_size, cellsW_size, fill_length]; exact List.length_replicate) (cellsW_one _) ?_; rw [setRow_alloc2]) | refine wpList_load_row rfl 188 _ rfl (w.heap.size + 1) rfl 188 (cellsW (fill 8)) (0, 0) _ (heap_alloc2_new _ _ _) Tryz.underlying188 rfl (info24 (fill_length 8)) ?_)
      refine bodyPost_ret (v := .agg (cellsW (fill 8))) (results_cell_row rfl _ _ w.heap.size 188 (cellsW (fill 8)) (0, 0) _ rfl (heap_alloc2_old _ _ _) Tryz.underlying188 rfl (info24 (fill_length 8))) rfl ⟨by rw [fill_tabs], ?_⟩
      exact ((Below.refl _ _).alloc (Nat.le_refl _) _).alloc (by simp) _

end Go.Proofs.YticfnfekkmkclaaGreatDoor.Crc

/-
  The walks over the table: its highest bytes, forward and back.
-/
namespace Go.Proofs.YticfnfekkmkclaaGreatDoor.Crc
open Go.RowKit

/-- bytes as cells -/
def cells8 (T : List Nat) : Array Value := (T.map fun v : Nat => Value.int .u8 (v : Int)).toArray
def nat (T : List Nat) (n : Nat) : Nat := T.getD n 0
theorem cells8_get (T : List Nat) (n : Nat) (h : n < T.length) : (cells8 T)[n]? = some (.int .u8 (nat T n : Int)) := by
  unfold cells8 nat
  rw [List.getElem?_toArray, List.getElem?_map, List.getElem?_eq_getElem h, List.getD_eq_getElem?_getD, List.getElem?_eq_getElem h]; rfl
theorem cells8_set (T : List Nat) (n v : Nat) : (cells8 T).setIfInBounds n (.int .u8 (v : Int)) = cells8 (T.set n v) := by
  unfold cells8
  rw [List.setIfInBounds_toArray, List.map_set]
theorem cells8_size (T : List Nat) : (cells8 T).size = T.length := by unfold cells8; simp
theorem cells8_one (T : List Nat) : (cells8 T).all (·.oneCell') = true := by
  unfold cells8; rw [List.all_toArray, List.all_map, List.all_eq_true]; intro x _; rfl
def zeros8 : List Nat := List.replicate 256 0
theorem agg23 (w : World) : (isAgg 85).run Tryz.prog w = .ok false w := by kernel_rfl
theorem size23 (w : World) : (sizeOf 85).run Tryz.prog w = .ok 1 w := by kernel_rfl
theorem index_tabs (n : Nat) (h : n < 256) (w : World) : (Instr.index 188 (.agg (cellsW tabs)) (.int .i64 (n : Int))).run Tryz.prog w = .ok (.int .u32 (V (tab n))) w := by
  have hc := cellsW_get tabs n (by rw [tabs_length]; exact h)
  rw [tabs_getD n h] at hc
  have hn : (n : Int) < 256 := by omega
  simp [Instr.index, run_underlying Tryz.underlying188, asIntOf, part, hc]
  omega

theorem heap3_0 (w : World) (A B C : Obj) : (((w.alloc A).alloc B).alloc C).heap[w.heap.size]? = some A := by
  rw [heap_alloc_old _ C (by simp; omega), heap_alloc_old _ B (by simp)]; exact heap_alloc_new w A
theorem heap3_1 (w : World) (A B C : Obj) : (((w.alloc A).alloc B).alloc C).heap[w.heap.size + 1]? = some B := by
  rw [heap_alloc_old _ C (by simp)]; exact heap_alloc2_new w A B
theorem heap3_2 (w : World) (A B C : Obj) : (((w.alloc A).alloc B).alloc C).heap[w.heap.size + 1 + 1]? = some C := by
  have h := heap_alloc_new ((w.alloc A).alloc B) C
  have e : ((w.alloc A).alloc B).heap.size = w.heap.size + 1 + 1 := by simp
  rwa [e] at h
theorem setRow3_1 (w : World) (A : Obj) (a b : Array Value) (t : TypeId) (o : Obj) : (((w.alloc A).alloc (.cells a t)).alloc o).setRow (w.heap.size + 1) b = ((w.alloc A).alloc (.cells b t)).alloc o := by
  have h := setRow_alloc2 (w.alloc A) a b t o
  have e : (w.alloc A).heap.size = w.heap.size + 1 := by simp
  rwa [e] at h
theorem cell3_2 (w : World) (A B : Obj) (cs : Array Value) (t : TypeId) (n : Nat) (v : Value) (h : cs[n]? = some v) : (((w.alloc A).alloc B).alloc (.cells cs t)).cell? ⟨w.heap.size + 1 + 1, n, none⟩ = some v := by
  rw [cell_of_row _ _ _ _ _ _ (heap3_2 w A B _)]; exact h
theorem toNat_top (c : W) : (V c / (16777216 : Int)).toNat = c.toNat / 16777216 := by
  have e : V c / (16777216 : Int) = ((c.toNat / 16777216 : Nat) : Int) := rfl
  rw [e, Int.toNat_natCast]
theorem nums_next (k : Nat) : (cells8 (nums k)).setIfInBounds (V (tab k) / (16777216 : Int)).toNat (.int .u8 (k : Int)) = cells8 (nums (k + 1)) := by
  rw [cells8_set, toNat_top, nums_succ]; rfl

end Go.Proofs.YticfnfekkmkclaaGreatDoor.Crc

/-
  The walks over the table: forward and back, over texts and over bytes.
-/
namespace Go.Proofs.YticfnfekkmkclaaGreatDoor.Crc
open Go.RowKit

theorem cell1_tab (w : World) (q : Nat) (h : q < 256) : (w.alloc (.cells (cellsW tabs) 188)).cell? ⟨w.heap.size, q, none⟩ = some (.int .u32 (V (tab q))) := by
  rw [cell_of_row _ _ _ _ _ _ (heap_alloc_new w _), cellsW_get tabs q (by rw [tabs_length]; exact h), tabs_getD q h]

set_option maxRecDepth 100000 in
set_option maxHeartbeats 400000 in
theorem forward_any (c : W) (s : ByteArray) (x : Int) (hx : x = V c) (w : World) (hs : s.size ≤ maxLen) :
    Calls Tryz.prog 147 #[.agg (cellsW tabs), .int .u32 x, .string s] w fun e w' => e = .returned (.int .u32 (V (addW c s.data.toList))) ∧ Below w.heap.size w w' := by
  unfold maxLen at hs
  go_enter Tryz.func147, Tryz.ntmps147
  go_wp2_with fail
  rw [not_V]
  go_loop [1, 12] (fun x i => ∃ k : Nat, k ≤ s.size ∧ i = .int .i64 k ∧ x = .int .u32 (V (raw (~~~ c) (s.data.toList.take k)))) (fun _ i => s.size - (intOf i).toNat)
  case atStart => exact ⟨0, Nat.zero_le _, rfl, rfl⟩
  case round =>
    obtain ⟨k, hk, rfl, rfl⟩ := hrel
    by_cases hlt : k < s.size
    · have H := Lib.hid (raw_take (~~~ c) s k hlt)
      generalize raw (~~~ c) (s.data.toList.take k) = st at *
      have hq := ix_V st s[k]
      have hq2 := ix_lt st s[k]
      have hv := cell1_tab w (ix st s[k]) hq2
      have HS := Lib.hid (step_V st s[k])
      go_wp2_with fail
      go_round
      case rel => exact ⟨k + 1, by omega, by go_num, int_u32 (HS.out.trans (by rw [H.out]))⟩
      case measure => simp [intOf]; omega
    · have H := Lib.hid (raw_all (~~~ c) s k (by omega))
      go_wp2_with fail
      go_ret
      exact ⟨ret_u32 (by rw [not_V, H.out]; rfl), (Below.refl _ _).alloc (Nat.le_refl _) _⟩


theorem info24' : (Tryz.prog.info? 188).map (·.size) = some (cellsW tabs).size := info24 tabs_length
theorem bcell {W w1 : World} (hb : Below W.heap.size W w1) : (∀ b o, b < W.heap.size → w1.cell? ⟨b, o, none⟩ = W.cell? ⟨b, o, none⟩) ∧ (∀ b o, b < W.heap.size → w1.frozen? ⟨b, o, none⟩ = W.frozen? ⟨b, o, none⟩) :=
  ⟨fun b o h => hb.cell (p := ⟨b, o, none⟩) h, fun b o h => hb.frozen (p := ⟨b, o, none⟩) h⟩
end Go.Proofs.YticfnfekkmkclaaGreatDoor.Crc

/-
  The walks over the table: forward and back, over bytes in memory.
-/
namespace Go.Proofs.YticfnfekkmkclaaGreatDoor.Crc
open Go.RowKit

/-- bytes in a row of cells -/
def Row8 (w : World) (b off : Nat) (l : List UInt8) : Prop := b < w.heap.size ∧ ∀ i (h : i < l.length), w.cell? ⟨b, off + i, none⟩ = some (.int .u8 (l[i].toNat : Int))
theorem Row8.below {w w' : World} {b off : Nat} {l : List UInt8} (h : Row8 w b off l) (hb : Below w.heap.size w w') : Row8 w' b off l :=
  ⟨Nat.lt_of_lt_of_le h.1 hb.size, fun i hi => by rw [hb.cell (p := ⟨b, off + i, none⟩) h.1]; exact h.2 i hi⟩
theorem raw_takeL (c : W) (l : List UInt8) (k : Nat) (h : k < l.length) : raw c (l.take (k + 1)) = step (raw c (l.take k)) l[k] := by
  rw [List.take_succ_eq_append_getElem h, raw_append]; rfl
theorem raw_allL (c : W) (l : List UInt8) (k : Nat) (h : l.length ≤ k) : raw c (l.take k) = raw c l := by
  rw [List.take_of_length_le h]
theorem unraw_dropL (c : W) (l : List UInt8) (k : Nat) (h : k < l.length) : unraw c (l.drop k) = unstep (unraw c (l.drop (k + 1))) l[k] := by
  rw [List.drop_eq_getElem_cons h]; rfl
theorem unraw_noneL (c : W) (l : List UInt8) : unraw c (l.drop l.length) = c := by
  rw [List.drop_length]; rfl

end Go.Proofs.YticfnfekkmkclaaGreatDoor.Crc

/-
  The walks of Of, Add, Back, and of the document's own table, and its way back.
-/
namespace Go.Proofs.YticfnfekkmkclaaGreatDoor.Crc
open Go.RowKit

theorem add_any (c : W) (s : ByteArray) (x : Int) (hx : x = V c) (w : World) (hs : s.size ≤ maxLen) :
    Calls Tryz.prog 127 #[.int .u32 x, .string s] w fun e w' => e = .returned (.int .u32 (V (addW c s.data.toList))) ∧ Below w.heap.size w w' := by
  have HX := Lib.hid hx; clear hx
  go_enter Tryz.func127, Tryz.ntmps127
  go_wp2_with (first | (go_at_call 148; refine (table_any _).mono ?_; rintro e w1 ⟨rfl, hb1⟩) | (go_at_call 147; refine (forward_any c s x HX.out _ hs).mono ?_; rintro e w2 ⟨rfl, hb2⟩))
  go_ret
  exact ⟨rfl, hb1.trans (hb2.mono hb1.size)⟩
theorem of_any (s : ByteArray) (w : World) (hs : s.size ≤ maxLen) :
    Calls Tryz.prog 96 #[.string s] w fun e w' => e = .returned (.int .u32 (V (ofW s.data.toList))) ∧ Below w.heap.size w w' := by
  go_enter Tryz.func96, Tryz.ntmps96
  go_wp2_with (go_at_call 127; refine (add_any 0 s _ rfl _ hs).mono ?_; rintro e w1 ⟨rfl, hb1⟩)
  go_ret
  exact ⟨rfl, hb1⟩
/-- bytes as cells -/
def cellsB (l : List UInt8) : Array Value := (l.map fun b : UInt8 => Value.int .u8 (b.toNat : Int)).toArray
theorem cellsB_get (l : List UInt8) (n : Nat) (h : n < l.length) : (cellsB l)[n]? = some (.int .u8 (l[n].toNat : Int)) := by
  unfold cellsB
  rw [List.getElem?_toArray, List.getElem?_map, List.getElem?_eq_getElem h]; rfl
theorem cellsB_size (l : List UInt8) : (cellsB l).size = l.length := by unfold cellsB; simp
theorem cellsB_one (l : List UInt8) : (cellsB l).all (·.oneCell') = true := by
  unfold cellsB; rw [List.all_toArray, List.all_map, List.all_eq_true]; intro x _; rfl
theorem low_0 (c : W) : V c % (256 : Int) = ((UInt8.ofNat c.toNat).toNat : Int) := by
  rw [UInt8.toNat_ofNat']; rfl
theorem low_1 (c : W) : V c / (256 : Int) % (256 : Int) = ((UInt8.ofNat (c.toNat / 256)).toNat : Int) := by
  rw [UInt8.toNat_ofNat']; rfl
theorem low_2 (c : W) : V c / (65536 : Int) % (256 : Int) = ((UInt8.ofNat (c.toNat / 65536)).toNat : Int) := by
  rw [UInt8.toNat_ofNat']; rfl
theorem low_3 (c : W) : V c / (16777216 : Int) % (256 : Int) = ((UInt8.ofNat (c.toNat / 16777216)).toNat : Int) := by
  rw [UInt8.toNat_ofNat']; rfl
theorem low_cells (c : W) : #[Value.int .u8 (V c % (256 : Int)), .int .u8 (V c / (256 : Int) % (256 : Int)), .int .u8 (V c / (65536 : Int) % (256 : Int)), .int .u8 (V c / (16777216 : Int) % (256 : Int))] = cellsB (fourL c) := by
  rw [low_0, low_1, low_2, low_3]; rfl
theorem info49 {l : List UInt8} (h : l.length = 4) : (Tryz.prog.info? 145).map (·.size) = some (cellsB l).size := by
  rw [cellsB_size, h]; kernel_rfl
theorem zero49 (w : World) : (zeroValue 145).run Tryz.prog w = .ok (.agg #[.int .u8 0, .int .u8 0, .int .u8 0, .int .u8 0]) w := by kernel_rfl
set_option maxHeartbeats 400000 in
theorem low_any (c : W) (w : World) :
    Calls Tryz.prog 95 #[.int .u32 (V c)] w fun e w' => e = .returned (.agg (cellsB (fourL c))) ∧ Below w.heap.size w w' := by
  have hz := zero49
  go_enter Tryz.func95, Tryz.ntmps95
  have HL := Lib.hid (low_cells c)
  go_wp2_with fail
  rw [HL.out]
  refine bodyPost_ret (v := .agg (cellsB (fourL c))) (results_cell_row rfl _ _ w.heap.size 145 (cellsB (fourL c)) (0, 0) _ rfl (heap_alloc_new _ _) Tryz.underlying145 rfl (info49 rfl)) rfl ⟨rfl, ?_⟩
  exact (Below.refl _ _).alloc (Nat.le_refl _) _

theorem over_int (c : W) (x y : Int) (hx : x = V c) (hy : y = 0) (w : World) :
    Calls Tryz.prog 177 #[.int .u32 x, .int .u8 y] w fun e w' => e = .returned (.int .u32 (V (it 8 c))) ∧ w = w' := by
  subst hx hy
  have h : step c 0 = it 8 c := by
    unfold step
    have : w8 0 = BitVec.ofNat 32 0 := rfl
    rw [this, BitVec.xor_zero]
  rw [← h]
  exact over_any c 0 w
theorem V_ofNat (k : Nat) (h : k < 256) : (k : Int) = V (BitVec.ofNat 32 k) := by
  unfold V; rw [BitVec.toNat_ofNat, Nat.mod_eq_of_lt (by omega)]
/-! ### the document's way back -/
def fromBit (b : UInt8) (t i : Nat) : Bool := b.toNat.testBit (t + i)
theorem rb_un (d : W) (b : UInt8) (t : Nat) (ht : t < 8) (st : W) (h : rb d (fromBit b (t + 1)) (8 - (t + 1)) = st) : rb (un d ^^^ bit (b.toNat.testBit t)) (fromBit b t) (8 - t) = st := by
  rw [show 8 - t = 1 + (8 - (t + 1)) by omega, rb_add]
  have e1 : rb (un d ^^^ bit (b.toNat.testBit t)) (fromBit b t) 1 = d := by
    show sh (un d ^^^ bit (b.toNat.testBit t) ^^^ bit (b.toNat.testBit (t + 0))) = d
    rw [Nat.add_zero, BitVec.xor_assoc, BitVec.xor_self, BitVec.xor_zero, sh_un]
  rw [e1, ← h]
  apply rb_congr
  intro i _
  unfold fromBit; congr 1; omega
theorem rb_un_all (d : W) (b : UInt8) (st : W) (h : rb d (fromBit b 0) 8 = st) : d = unstep st b := by
  apply unstep_of
  rw [← rb_byte, ← h]
  apply rb_congr
  intro i _
  unfold fromBit; rw [Nat.zero_add]
theorem or_xor_low (y : W) (b c : Bool) : (y <<< 1) ||| (bit b ^^^ bit c) = (y <<< 1) ^^^ bit b ^^^ bit c := by
  apply BitVec.eq_of_getLsbD_eq; intro i hi
  rw [BitVec.getLsbD_or, BitVec.getLsbD_xor, BitVec.getLsbD_xor, BitVec.getLsbD_xor, getLsbD_bit, getLsbD_bit, BitVec.getLsbD_shiftLeft]
  by_cases h : i = 0
  · subst h; simp
  · simp [h]
theorem un_V1 (d : W) (b : UInt8) (t : Nat) (h : d.getLsbD 31 = true) : bits .or .u32 (bits .xor .u32 (V d) 3988292384 * (2 : Int) % (4294967296 : Int)) (bits .xor .u32 1 (bits .and .u32 ((b.toNat : Int) % 4294967296 / 2 ^ t) 1)) = V (un d ^^^ bit (b.toNat.testBit t)) := by
  have e1 : ∀ a : W, V a * (2 : Int) % (4294967296 : Int) = V (a <<< 1) := by intro a; rw [← IntKind.wrap_u32']; exact shl_V a 1
  have e2 : (1 : Int) = V (bit true) := rfl
  rw [byte_bit, bits_xor_poly, e1, e2, bits_xor_V, bits_or_V, or_xor_low]
  unfold un; rw [h]; rfl
theorem un_V0 (d : W) (b : UInt8) (t : Nat) (h : d.getLsbD 31 = false) : bits .or .u32 (V d * (2 : Int) % (4294967296 : Int)) (bits .xor .u32 0 (bits .and .u32 ((b.toNat : Int) % 4294967296 / 2 ^ t) 1)) = V (un d ^^^ bit (b.toNat.testBit t)) := by
  have e1 : ∀ a : W, V a * (2 : Int) % (4294967296 : Int) = V (a <<< 1) := by intro a; rw [← IntKind.wrap_u32']; exact shl_V a 1
  have e2 : (0 : Int) = V (bit false) := rfl
  rw [byte_bit, e1, e2, bits_xor_V, bits_or_V, or_xor_low]
  unfold un; rw [h]; rfl
theorem topV (d : W) : V d / (2147483648 : Int) = V (bit (d.getLsbD 31)) := by
  have h := top_bit d
  cases hb : d.getLsbD 31
  · rw [hb] at h
    have e : V d / (2147483648 : Int) = V (d >>> 31) := shr_V d 31
    have g : d >>> 31 = 0 := by
      apply BitVec.eq_of_getLsbD_eq; intro i hi
      rw [BitVec.getLsbD_ushiftRight]
      by_cases h0 : i = 0
      · subst h0; rw [hb]; simp
      · rw [BitVec.getLsbD_of_ge _ _ (by omega)]; simp
    rw [e, g]; rfl
  · rw [hb] at h; exact beq_iff_eq.1 h

end Go.Proofs.YticfnfekkmkclaaGreatDoor.Crc

/-
  The walks of Clone, Seal and Open.
-/
namespace Go.Proofs.YticfnfekkmkclaaGreatDoor.Crc
open Go.RowKit

theorem info5 : (Tryz.prog.info? 5).map (fun i => (i.zero, i.size, i.bytes)) = some (some (.int .u8 0), 1, 1) := by kernel_rfl

set_option maxHeartbeats 4000000 in
set_option maxRecDepth 100000 in
theorem liteClone_any (s : ByteArray) (w : World) (hlim : s.size ≤ 281474976710656) :
    Calls Tryz.prog 130 #[.string s] w fun e w' => e = .returned (.string s) ∧ Below w.heap.size w w' := by
  by_cases h0 : s.size = 0
  · have hs : s = ⟨#[]⟩ := by
      apply ByteArray.ext
      exact Array.eq_empty_of_size_eq_zero h0
    subst hs
    go_enter Tryz.func130, Tryz.ntmps130
    go_wp2
    go_ret
    exact ⟨rfl, Below.refl _ _⟩
  · obtain ⟨i0, hi, hz0, hz1, hz2⟩ := info_parts info5
    have hinfo : (Tryz.prog.info? 5).map (·.size) = some 1 := by rw [hi]; simp [hz1]
    have hco : Tryz.prog.cellsOf 5 = 1 := by simp [Program.cellsOf, hi, hz1]
    obtain ⟨M, hM⟩ : ∃ M, M = madeCells (Value.int .u8 0).cells (((s.size : Nat) : Int).toNat * i0.size) := ⟨_, rfl⟩
    have hMs : M.size = s.size := by rw [hM, size_madeCells, hz1]; simp
    have hmk : ∀ W : World, (Instr.makeSlice 86 (.int .i64 (s.size : Int)) (.int .i64 (s.size : Int))).run Tryz.prog W = .ok (.slice (some ⟨W.heap.size, 0, none⟩) s.size s.size) (W.alloc (.cells M 5)) := fun W => by
      have h := run_make (P := Tryz.prog) W 86 5 i0 (.int .u8 0) Tryz.underlying86 hi hz0 .i64 .i64 (s.size : Int) (s.size : Int) (by omega) (by omega) (by rw [hz2]; omega) (by omega)
      rw [← hM] at h
      simpa using h
    clear hM
    have hcp := Lib.run_copy_row_string (P := Tryz.prog) (w.alloc (.cells M 5)) 86 9 3 5 w.heap.size 0 s.size s.size s M 5 Tryz.underlying86 hinfo (heap_alloc_new w _) (Nat.le_refl _) (by omega)
    obtain ⟨Y, hY⟩ : ∃ Y, Y = (M.toList.take 0 ++ Lib.byteCells s.data.toList ++ M.toList.drop (0 + s.size)).toArray := ⟨_, rfl⟩
    rw [← hY] at hcp
    have hYl : Y.toList = Lib.byteCells s.data.toList := by
      rw [hY, List.toList_toArray, List.take_zero, List.nil_append, List.drop_of_length_le (by rw [Array.length_toList]; omega), List.append_nil]
    have hYs : Y.size = s.size := by rw [← Array.length_toList, hYl, Lib.byteCells_length, ← Lib.size_eq]
    have hgY : ((w.alloc (.cells M 5)).setRow w.heap.size Y).heap[w.heap.size]? = some (.cells Y 5 (0, 0)) := setRow_heap _ _ M _ 5 (0, 0) (heap_alloc_new w _)
    have hne : s.data.toList ≠ [] := fun e => h0 (by rw [Lib.size_eq, e]; rfl)
    have hUS := Lib.run_unsafeString_row (P := Tryz.prog) ((w.alloc (.cells M 5)).setRow w.heap.size Y) 198 3 9 5 Tryz.underlying198 hco w.heap.size Y.size (by unfold World.shape?; rw [hgY]) s.data.toList hne (by rw [← Lib.size_eq]; omega) (by rw [← Lib.size_eq]; omega)
      (fun j x hx => Lib.cells_of_row hgY Y.size j _ (by rw [List.take_of_length_le (by rw [Array.length_toList]; exact Nat.le_refl _), hYl]; simp [Lib.byteCells, hx]))
    rw [← Lib.size_eq] at hUS
    clear hY
    go_enter Tryz.func130, Tryz.ntmps130
    go_wp2
    go_ret
    have hb1 : Below w.heap.size w (w.alloc (.cells M 5)) := (Below.refl _ w).alloc (Nat.le_refl _) _
    have hb2 : Below w.heap.size (w.alloc (.cells M 5)) ((w.alloc (.cells M 5)).setRow w.heap.size Y) := ⟨rfl, rfl, rfl, by simp, fun k hk => setRow_other _ _ _ _ (by omega)⟩
    exact ⟨rfl, Lib.below_freeze (hb1.trans hb2) (p := ⟨w.heap.size, 0, none⟩) (Nat.le_refl _) _⟩
theorem clone_any (s : ByteArray) (w : World) (hlim : s.size ≤ 281474976710656) :
    Calls Tryz.prog 104 #[.string s] w fun e w' => e = .returned (.string s) ∧ Below w.heap.size w w' := by
  go_enter Tryz.func104, Tryz.ntmps104
  go_wp2_with (go_at_call 130; refine (liteClone_any s _ hlim).mono ?_; rintro e w1 ⟨rfl, hb1⟩)
  go_ret
  exact ⟨rfl, hb1⟩

/-- a text of bytes -/
def S (l : List UInt8) : ByteArray := ⟨l.toArray⟩
theorem S_list (l : List UInt8) : (S l).data.toList = l := rfl
theorem S_size (l : List UInt8) : (S l).size = l.length := by unfold S; simp [ByteArray.size]
theorem conv_bytes (w : World) (b off n cap : Nat) (l : List UInt8) (hn : n = l.length) (hc : ∀ i (h : i < l.length), w.cell? ⟨b, off + i, none⟩ = some (.int .u8 (l[i].toNat : Int))) :
    (convert 86 9 (.slice (some ⟨b, off, none⟩) n cap)).run Tryz.prog w = .ok (.string (S l)) w := by
  subst hn
  have h := run_convert_bytes_arg (P := Tryz.prog) w 86 5 Tryz.underlying86 Tryz.underlying5 b off l.length cap (l.map fun x => (x.toNat : Int)) (by simp)
    (fun i hi => by rw [hc i hi]; simp [List.getD, hi]) 9 Tryz.underlying9
  have hS : strOfNums (l.map fun x => (x.toNat : Int)) = S l := by
    unfold strOfNums S
    rw [List.map_map]
    have hm : l.map ((fun v : Int => UInt8.ofNat v.toNat) ∘ fun x : UInt8 => (x.toNat : Int)) = l := by
      conv => rhs; rw [← List.map_id l]
      apply List.map_congr_left
      intro x _
      show UInt8.ofNat ((x.toNat : Int).toNat) = x
      rw [Int.toNat_natCast]; exact UInt8.ofNat_toNat
    exact congrArg (fun z : List UInt8 => (⟨z.toArray⟩ : ByteArray)) hm
  rw [hS] at h
  exact h

def sealS (s : ByteArray) : ByteArray := s ++ S (fourL (ofW s.data.toList))
theorem sealS_list (s : ByteArray) : (sealS s).data.toList = s.data.toList ++ fourL (ofW s.data.toList) := by
  unfold sealS; simp [S]
theorem sealS_size (s : ByteArray) : (sealS s).size = s.size + 4 := by
  unfold sealS; rw [ByteArray.size_append, S_size]; rfl
set_option maxRecDepth 100000 in
set_option maxHeartbeats 400000 in
theorem seal_any (s : ByteArray) (w : World) (hs : s.size ≤ 281474976710656) :
    Calls Tryz.prog 48 #[.string s] w fun e w' => e = .returned (.string (sealS s)) ∧ Below w.heap.size w w' := by
  have hz := zero49
  go_enter Tryz.func48, Tryz.ntmps48
  go_wp2_with fail
  refine (of_any s _ (by unfold maxLen; omega)).mono ?_; rintro e w1 ⟨rfl, hb1⟩
  go_wp2_with fail
  refine (low_any _ _).mono ?_; rintro e w2 ⟨rfl, hb2⟩
  have hcv := conv_bytes (w2.alloc (.cells (cellsB (fourL (ofW s.data.toList))) 145)) w2.heap.size 0 4 4 (fourL (ofW s.data.toList)) rfl (fun i hi => by
    rw [Nat.zero_add, cell_of_row _ _ _ _ _ _ (heap_alloc_new w2 _)]; exact cellsB_get _ i hi)
  have hS4 : (S (fourL (ofW s.data.toList))).size = 4 := rfl
  go_wp2_with (refine wpList_store_row rfl 145 _ _ rfl _ (cellsB (fourL (ofW s.data.toList))) rfl rfl 145 _ (heap_alloc_new _ _) (info49 rfl) (by rw [cellsB_size]; rfl) (cellsB_one _) ?_; rw [setRow_alloc])
  go_ret
  exact ⟨rfl, ((hb1.trans (hb2.mono hb1.size)).alloc (Nat.le_trans hb1.size hb2.size) _)⟩


set_option maxHeartbeats 400000 in
theorem open_short (s : ByteArray) (w : World) (hs : s.size < 4) :
    Calls Tryz.prog 63 #[.string s] w fun e w' => e = .returned (.tuple #[.string ⟨#[]⟩, .int .i64 8]) ∧ Below w.heap.size w w' := by
  go_enter Tryz.func63, Tryz.ntmps63
  go_wp2_with fail
  go_ret2
  exact ⟨rfl, Below.refl _ _⟩
set_option maxRecDepth 100000 in
set_option maxHeartbeats 400000 in
theorem open_yes (s : ByteArray) (n : Nat) (w : World) (hn : s.size = n + 4) (hs : n ≤ 281474976710000) (hv : ((s.extract n (n + 4)).toList == (S (fourL (ofW (s.data.toList.take n)))).toList) = true) :
    Calls Tryz.prog 63 #[.string s] w fun e w' => e = .returned (.tuple #[.string (s.extract 0 n), .int .i64 0]) ∧ Below w.heap.size w w' := by
  have hz := zero49
  have hu : (s.extract 0 n).size ≤ 281474976710000 := by rw [ByteArray.size_extract]; omega
  go_enter Tryz.func63, Tryz.ntmps63
  go_wp2_with fail
  refine (of_any _ _ (by unfold maxLen; omega)).mono ?_; rintro e w1 ⟨rfl, hb1⟩
  go_wp2_with fail
  refine (low_any _ _).mono ?_; rintro e w2 ⟨rfl, hb2⟩
  have HB : Hid (Below w.heap.size w (w2.alloc (.cells (cellsB (fourL (ofW (s.data.toList.take n)))) 145))) := ((hb1.trans (hb2.mono hb1.size)).alloc (Nat.le_trans hb1.size hb2.size) _)
  generalize hF : fourL (ofW (s.data.toList.take n)) = F at *
  have hF4 : F.length = 4 := by rw [← hF]; rfl
  have HF := Lib.hid hF; have HF4 := Lib.hid hF4; clear hF hF4 hb1 hb2
  have hcv := fun m => conv_bytes ((w2.alloc (.cells (cellsB F) 145)).drewN m) w2.heap.size 0 4 4 F HF4.out.symm (fun i hi => by
    rw [Nat.zero_add, World.cell?_drewN, cell_of_row _ _ _ _ _ _ (heap_alloc_new w2 _)]; exact cellsB_get _ i hi)
  go_wp2_with (refine wpList_store_row rfl 145 _ _ rfl _ (cellsB F) rfl rfl 145 _ (heap_alloc_new _ _) (info49 HF4.out) (by rw [cellsB_size, HF4.out]; rfl) (cellsB_one _) ?_; rw [setRow_alloc])
  have hn0 : (0 : Int) ≤ (n : Int) := by omega
  have hn1 : (n : Int) ≤ (n : Int) + 4 := by omega
  go_quiet (fail)
  go_wp2_with fail
  refine (clone_any _ _ (by omega)).mono ?_; rintro e w3 ⟨rfl, hb3⟩
  go_wp2_with fail
  go_ret2
  exact ⟨rfl, (below_drewN HB.out nq).trans (hb3.mono (Nat.le_trans HB.out.size (Nat.le_refl _)))⟩

set_option maxRecDepth 100000 in
set_option maxHeartbeats 400000 in
theorem open_no (s : ByteArray) (n : Nat) (w : World) (hn : s.size = n + 4) (hs : n ≤ 281474976710000) (hv : ((s.extract n (n + 4)).toList == (S (fourL (ofW (s.data.toList.take n)))).toList) = false) :
    Calls Tryz.prog 63 #[.string s] w fun e w' => e = .returned (.tuple #[.string ⟨#[]⟩, .int .i64 42]) ∧ Below w.heap.size w w' := by
  have hz := zero49
  have hu : (s.extract 0 n).size ≤ 281474976710000 := by rw [ByteArray.size_extract]; omega
  go_enter Tryz.func63, Tryz.ntmps63
  go_wp2_with fail
  refine (of_any _ _ (by unfold maxLen; omega)).mono ?_; rintro e w1 ⟨rfl, hb1⟩
  go_wp2_with fail
  refine (low_any _ _).mono ?_; rintro e w2 ⟨rfl, hb2⟩
  have HB : Hid (Below w.heap.size w (w2.alloc (.cells (cellsB (fourL (ofW (s.data.toList.take n)))) 145))) := ((hb1.trans (hb2.mono hb1.size)).alloc (Nat.le_trans hb1.size hb2.size) _)
  generalize hF : fourL (ofW (s.data.toList.take n)) = F at *
  have hF4 : F.length = 4 := by rw [← hF]; rfl
  have HF := Lib.hid hF; have HF4 := Lib.hid hF4; clear hF hF4 hb1 hb2
  have hcv := fun m => conv_bytes ((w2.alloc (.cells (cellsB F) 145)).drewN m) w2.heap.size 0 4 4 F HF4.out.symm (fun i hi => by
    rw [Nat.zero_add, World.cell?_drewN, cell_of_row _ _ _ _ _ _ (heap_alloc_new w2 _)]; exact cellsB_get _ i hi)
  go_wp2_with (refine wpList_store_row rfl 145 _ _ rfl _ (cellsB F) rfl rfl 145 _ (heap_alloc_new _ _) (info49 HF4.out) (by rw [cellsB_size, HF4.out]; rfl) (cellsB_one _) ?_; rw [setRow_alloc])
  have hn0 : (0 : Int) ≤ (n : Int) := by omega
  have hn1 : (n : Int) ≤ (n : Int) + 4 := by omega
  go_quiet (fail)
  go_wp2_with fail
  go_ret2
  exact ⟨rfl, below_drewN HB.out nq⟩


/-- what Open tells -/
theorem open_any (s : ByteArray) (w : World) (hs : s.size ≤ 281474976710000) :
    Calls Tryz.prog 63 #[.string s] w fun e w' => (∃ (x : ByteArray) (k : Nat), e = .returned (.tuple #[.string x, .int .i64 (k : Int)]) ∧
      ((s.size < 4 ∧ x = S [] ∧ k = 8) ∨ (4 ≤ s.size ∧ s.data.toList.drop (s.size - 4) = fourL (ofW (s.data.toList.take (s.size - 4))) ∧ x = S (s.data.toList.take (s.size - 4)) ∧ k = 0) ∨
        (4 ≤ s.size ∧ s.data.toList.drop (s.size - 4) ≠ fourL (ofW (s.data.toList.take (s.size - 4))) ∧ x = S [] ∧ k = 42))) ∧ Below w.heap.size w w' := by
  by_cases h4 : s.size < 4
  · exact (open_short s w h4).mono fun e w' ⟨he, hb⟩ => ⟨⟨S [], 8, he, Or.inl ⟨h4, rfl, rfl⟩⟩, hb⟩
  · obtain ⟨n, hn⟩ : ∃ n, s.size = n + 4 := ⟨s.size - 4, by omega⟩
    have en : s.size - 4 = n := by omega
    rw [en]
    have e1 : (s.extract n (n + 4)).toList = s.data.toList.drop n := by
      rw [ByteArray.toList_eq, Lib.extract_data, List.take_of_length_le]
      rw [List.length_drop, Array.length_toList]
      have : s.data.size = n + 4 := hn
      omega
    have e2 : s.extract 0 n = S (s.data.toList.take n) := by
      apply ByteArray.ext
      apply Array.toList_inj.1
      rw [Lib.extract_data]; rfl
    have e3 : (S (fourL (ofW (s.data.toList.take n)))).toList = fourL (ofW (s.data.toList.take n)) := by rw [ByteArray.toList_eq]; rfl
    by_cases hv : s.data.toList.drop n = fourL (ofW (s.data.toList.take n))
    · exact (open_yes s n w hn (by omega) (by rw [e1, e3, hv]; exact beq_self_eq_true _)).mono fun e w' ⟨he, hb⟩ => ⟨⟨_, 0, he, Or.inr (Or.inl ⟨by omega, hv, e2, rfl⟩)⟩, hb⟩
    · exact (open_no s n w hn (by omega) (by rw [e1, e3]; exact beq_eq_false_iff_ne.2 hv)).mono fun e w' ⟨he, hb⟩ => ⟨⟨S [], 42, he, Or.inr (Or.inr ⟨by omega, hv, rfl, rfl⟩)⟩, hb⟩

end Go.Proofs.YticfnfekkmkclaaGreatDoor.Crc
