/-
  The walk of the table.
-/
import Derived.Test.YthaafniahkejkaaW1
import Derived.Deep.LoopGhost
namespace Go.Proofs.Ythaafniahkejkaa.Crc
open Go.RowKit

/-- words as cells -/
def cellsW (T : List W) : Array Value := (T.map fun v => Value.int .u32 (V v)).toArray
theorem cellsW_get (T : List W) (n : Nat) (h : n < T.length) : (cellsW T)[n]? = some (.int .u32 (V (wat T n))) := by
  unfold cellsW wat
  rw [List.getElem?_toArray, List.getElem?_map, List.getElem?_eq_getElem h, List.getD_eq_getElem?_getD, List.getElem?_eq_getElem h]; rfl
theorem cellsW_set (T : List W) (n : Nat) (v : W) : (cellsW T).setIfInBounds n (.int .u32 (V v)) = cellsW (T.set n v) := by
  unfold cellsW
  rw [List.setIfInBounds_toArray, List.map_set]
theorem cellsW_size (T : List W) : (cellsW T).size = T.length := by unfold cellsW; simp
theorem zero24 (w : World) : (zeroValue 98).run Try.prog w = .ok (.agg (cellsW zeros)) w := by kernel_rfl

theorem info24 {T : List W} (h : T.length = 256) : (Try.prog.info? 98).map (·.size) = some (cellsW T).size := by
  rw [cellsW_size, h]; kernel_rfl
theorem cellsW_one (T : List W) : (cellsW T).all (·.oneCell') = true := by
  unfold cellsW; rw [List.all_toArray, List.all_map, List.all_eq_true]; intro x _; rfl
theorem cell_new2 (w : World) (A : Obj) (cs : Array Value) (t : TypeId) (n : Nat) (v : Value) (h : cs[n]? = some v) : ((w.alloc A).alloc (.cells cs t)).cell? ⟨w.heap.size + 1, n, none⟩ = some v := by
  rw [cell_of_row _ _ _ _ _ _ (heap_alloc2_new w A _)]; exact h
theorem setRow_alloc (w : World) (a b : Array Value) (t : TypeId) : (w.alloc (.cells a t)).setRow w.heap.size b = w.alloc (.cells b t) := by
  unfold World.setRow World.alloc
  congr 1
  apply Array.ext_getElem?
  intro i
  rw [Array.getElem?_modify, Array.getElem?_push, Array.getElem?_push]
  by_cases h : w.heap.size = i
  · subst h; simp
  · rw [if_neg h, if_neg (fun e => h e.symm), if_neg (fun e => h e.symm)]
theorem setRow_alloc2 (w : World) (a b : Array Value) (t : TypeId) (o : Obj) : ((w.alloc (.cells a t)).alloc o).setRow w.heap.size b = (w.alloc (.cells b t)).alloc o := by
  unfold World.setRow World.alloc
  congr 1
  apply Array.ext_getElem?
  intro i
  rw [Array.getElem?_modify, Array.getElem?_push, Array.getElem?_push, Array.getElem?_push, Array.getElem?_push]
  simp only [Array.size_push]
  by_cases h : w.heap.size = i
  · subst h; simp
  · rw [if_neg h, if_neg (fun e : i = w.heap.size => h e.symm), if_neg (fun e : i = w.heap.size => h e.symm)]
theorem fill_next (T : List W) (r B j n : Nat) (h : n = 2 * B * j) : (cellsW (fillIn (it (r + 1) w1) B j T)).setIfInBounds (n + B) (.int .u32 (bits .xor .u32 (V (wat (fillIn (it (r + 1) w1) B j T) n)) (V (sh (it r w1))))) = cellsW (fillIn (it (r + 1) w1) B (j + 1) T) := by
  rw [bits_xor_V, cellsW_set, h]; rfl
theorem halves : ∀ r < 8, 1 ≤ 128 / 2 ^ r ∧ 128 / 2 ^ r ≤ 128 ∧ 2 * (128 / 2 ^ r) * 2 ^ r = 256 ∧ 128 / 2 ^ r / 2 = 128 / 2 ^ (r + 1) := by decide
theorem room_left {B j R n : Nat} (h : 2 * B * R = 256) (hn : n = 2 * B * j) (hj : j ≤ R) (hlt : n < 256) : n + 2 * B ≤ 256 ∧ j < R := by
  subst hn
  have hjR : j < R := by
    apply Nat.lt_of_le_of_ne hj
    rintro rfl; omega
  have : 2 * B * (j + 1) ≤ 2 * B * R := Nat.mul_le_mul_left _ hjR
  rw [Nat.mul_add] at this
  exact ⟨by omega, hjR⟩
theorem all_done {B j R : Nat} (h : 2 * B * R = 256) (hB : 1 ≤ B) (hj : j ≤ R) (hlt : ¬ 2 * B * j < 256) : j = R := by
  apply Nat.le_antisymm hj
  apply Nat.le_of_not_lt
  intro g
  have : 2 * B * (j + 1) ≤ 2 * B * R := Nat.mul_le_mul_left _ g
  rw [Nat.mul_add] at this
  omega

set_option maxRecDepth 100000 in
set_option maxHeartbeats 400000 in
theorem table_any (w : World) :
    Calls Try.prog 57 #[] w fun e w' => e = .returned (.agg (cellsW tabs)) ∧ Below w.heap.size w w' := by
  have hz := zero24
  go_enter Try.func57, Try.ntmps57
  go_wp2_with fail
  go_loopw [2, 3] (fun x y wr => ∃ r B : Nat, r ≤ 8 ∧ Hid (B = 128 / 2 ^ r) ∧ B ≤ 128 ∧ x = .int .u32 (V (it r w1)) ∧ y = .int .i64 B ∧ wr = (w.alloc (.cells (cellsW zeros) 98)).alloc (.cells (cellsW (fill r)) 98)) (fun _ y _ => (intOf y).toNat)
  case atStart => exact ⟨0, 128, by omega, rfl, by omega, rfl, rfl, rfl⟩
  case round =>
    obtain ⟨r, B, hr, HB, hb, rfl, rfl, rfl⟩ := hrel
    by_cases h8 : r < 8
    · have hv := halves r h8
      rw [← HB.out] at hv
      obtain ⟨hB1, hB2, hB3, hB4⟩ := hv
      have H3 := Lib.hid hB3; have H4 := Lib.hid hB4; clear hB3 hB4
      go_wp2_with (go_at_call 60; refine (shift_any _ _).mono ?_; rintro e w' ⟨rfl, rfl⟩)
      have HF : Hid (fill (r + 1) = fillIn (it (r + 1) w1) B (2 ^ r) (fill r)) := by show fill (r + 1) = _; rw [HB.out]; rfl
      go_loopw [4] (fun x wr => ∃ j n : Nat, Hid (n = 2 * B * j) ∧ j ≤ 2 ^ r ∧ n ≤ 256 ∧ x = .int .i64 n ∧ wr = (w.alloc (.cells (cellsW zeros) 98)).alloc (.cells (cellsW (fillIn (it (r + 1) w1) B j (fill r))) 98)) (fun x _ => 256 - (intOf x).toNat)
      case atStart => exact ⟨0, 0, rfl, Nat.zero_le _, by omega, rfl, rfl⟩
      case round =>
        obtain ⟨j, n, HN, hj, hn, rfl, rfl⟩ := hrel
        have HJ := Lib.hid hj; clear hj
        by_cases hlt : n < 256
        · obtain ⟨hr2, hj2⟩ := room_left H3.out HN.out HJ.out hlt
          have HJ2 := Lib.hid hj2; clear hj2
          have hg := cell_new2 w (.cells (cellsW zeros) 98) _ 98 n _ (cellsW_get (fillIn (it (r + 1) w1) B j (fill r)) n (by rw [fillIn_length, fill_length]; exact hlt))
          have hg2 := cell_new2 w (.cells (cellsW zeros) 98) _ 98 (n + B) _ (cellsW_get (fillIn (it (r + 1) w1) B j (fill r)) (n + B) (by rw [fillIn_length, fill_length]; omega))
          have HX := Lib.hid (fill_next (fill r) r B j n HN.out)
          have HN2 : Hid (n + 2 * B = 2 * B * (j + 1)) := by show _ = _; rw [HN.out, Nat.mul_add]; omega
          go_wp2
          go_roundw
          case rel => exact ⟨j + 1, n + 2 * B, HN2, HJ2.out, hr2, by go_num, by rw [HX.out]⟩
          case measure => simp [intOf]; omega
        · have HA := Lib.hid (all_done H3.out hB1 HJ.out (by rw [← HN.out]; exact hlt))
          have HF2 : Hid (fillIn (it (r + 1) w1) B j (fill r) = fill (r + 1)) := by show _ = fill (r + 1); rw [HA.out]; exact HF.out.symm
          go_wp2
          go_roundw
          case rel => exact ⟨r + 1, B / 2, h8, (by show _ = _; exact H4.out.symm ▸ rfl), by omega, rfl, by go_num, by rw [HF2.out]⟩
          case measure => simp [intOf]; omega
    · obtain rfl : r = 8 := by omega
      have hB0 : B = 0 := HB.out
      subst hB0
      go_wp2_with (first | (refine wpList_store_row rfl 98 _ _ rfl w.heap.size (cellsW (fill 8)) rfl rfl 98 (cellsW zeros) (heap_alloc2_old _ _ _) (info24 (fill_length 8)) (by rw [cellsW_size, cellsW_size, fill_length]; exact List.length_replicate) (cellsW_one _) ?_; rw [setRow_alloc2]) | refine wpList_load_row rfl 98 _ rfl (w.heap.size + 1) rfl 98 (cellsW (fill 8)) (0, 0) _ (heap_alloc2_new _ _ _) Try.underlying98 rfl (info24 (fill_length 8)) ?_)
      refine bodyPost_ret (v := .agg (cellsW (fill 8))) (results_cell_row rfl _ _ w.heap.size 98 (cellsW (fill 8)) (0, 0) _ rfl (heap_alloc2_old _ _ _) Try.underlying98 rfl (info24 (fill_length 8))) rfl ⟨by rw [fill_tabs], ?_⟩
      exact ((Below.refl _ _).alloc (Nat.le_refl _) _).alloc (by simp) _

end Go.Proofs.Ythaafniahkejkaa.Crc
