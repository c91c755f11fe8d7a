/-
  The walk of the document's own Both.
-/
import Derived.Test.YtmmggkjfhiflaaaW12
import Derived.Deep.MidRow
import Derived.Deep.RegionHeld3
namespace Go.Proofs.Ytmmggkjfhiflaaa.Crc
open Go.RowKit

def fillN (n k : Nat) : List W := (List.range 32).map fun i => if i < k then it n ((1 : W) <<< i) else 0
def zeros32 : List W := List.replicate 32 0
theorem fillN_length (n k : Nat) : (fillN n k).length = 32 := by unfold fillN; simp
theorem fillN_zero (n : Nat) : fillN n 0 = zeros32 := by
  unfold fillN zeros32
  apply List.ext_getElem
  · rw [List.length_map, List.length_range, List.length_replicate]
  · intro i h1 h2; rw [List.getElem_map, List.getElem_range, List.getElem_replicate]; rfl
theorem fillN_all (n : Nat) : fillN n 32 = basis n := by
  unfold fillN basis
  apply List.map_congr_left
  intro i hi
  rw [if_pos (List.mem_range.1 hi)]
theorem fillN_succ (n k : Nat) : (fillN n k).set k (it n ((1 : W) <<< k)) = fillN n (k + 1) := by
  unfold fillN
  apply List.ext_getElem
  · rw [List.length_set, List.length_map, List.length_map]
  · intro i h1 h2
    rw [List.getElem_set]
    simp only [List.getElem_map, List.getElem_range]
    by_cases e : k = i
    · subst e; simp
    · rw [if_neg e]
      by_cases g : i < k
      · simp [g, Nat.lt_succ_of_lt g]
      · have : ¬ i < k + 1 := by omega
        simp [g, this]
theorem zero54 (w : World) : (zeroValue 54).run Try.prog w = .ok (.agg (cellsW zeros32)) w := by kernel_rfl
/-- thirty-two words in a block of their own -/
structure Mat (g : Nat) (M : List W) (w w' : World) : Prop where
  row : w'.heap[g]? = some (.cells (cellsW M) 54 (0, 0))
  bel : Below w.heap.size w w'
  old : w.heap.size ≤ g
theorem Mat.lt {g : Nat} {M : List W} {w w' : World} (h : Mat g M w w') : g < w'.heap.size := by
  rcases Nat.lt_or_ge g w'.heap.size with k | k
  · exact k
  · have := h.row; rw [Array.getElem?_eq_none k] at this; cases this
theorem Mat.below {g : Nat} {M : List W} {w w' w2 : World} (h : Mat g M w w') (hb : Below w'.heap.size w' w2) : Mat g M w w2 :=
  ⟨by rw [hb.block g h.lt]; exact h.row, h.bel.trans (hb.mono h.bel.size), h.old⟩
theorem Mat.drew {g : Nat} {M : List W} {w w' : World} (h : Mat g M w w') : Mat g M w w'.drew := ⟨h.row, h.bel.drew, h.old⟩
theorem Mat.alloc {g : Nat} {M : List W} {w w' : World} (h : Mat g M w w') (o : Obj) : Mat g M w (w'.alloc o) := h.below ((Below.refl _ _).alloc (Nat.le_refl _) _)
theorem Mat.setCell {g d : Nat} {M : List W} {w w' : World} (h : Mat g M w w') (hd : g < d) (i : Nat) (v : Value) : Mat g M w (w'.setCell ⟨d, i, none⟩ v) :=
  ⟨by rw [heap_setCell_other w' ⟨d, i, none⟩ g v (by show g ≠ d; omega)]; exact h.row, h.bel.setCell (p := ⟨d, i, none⟩) (by show w.heap.size ≤ d; have := h.old; omega) v, h.old⟩
theorem Mat.setRow {g : Nat} {M N : List W} {w w' : World} (h : Mat g M w w') : Mat g N w (w'.setRow g (cellsW N)) :=
  ⟨setRow_heap _ _ _ _ _ _ h.row, h.bel.trans ⟨rfl, rfl, rfl, by rw [setRow_size]; exact Nat.le_refl _, fun k hk => setRow_other _ _ _ _ (by have := h.old; omega)⟩, h.old⟩
theorem Mat.range {g : Nat} {M : List W} {w w' : World} (h : Mat g M w w') : w'.rangeAt g 0 (cellsW M).toList := fun j v hv => by
  rw [cell_of_row _ _ _ _ _ _ h.row, Nat.zero_add]; simpa using hv
theorem Mat.cell {g : Nat} {M : List W} {w w' : World} (h : Mat g M w w') (i : Nat) (hi : i < M.length) : w'.cell? ⟨g, i, none⟩ = some (.int .u32 (V (wat M i))) := by
  rw [cell_of_row _ _ _ _ _ _ h.row, cellsW_get M i hi]
theorem info54' {T : List W} (h : T.length = 32) : (Try.prog.info? 54).map (·.size) = some (cellsW T).toList.length := by rw [Array.length_toList]; exact info54 h
theorem one_shl (i : Nat) : (2 : Int) ^ i % (4294967296 : Int) = V ((1 : W) <<< i) := by
  have h := shl_V 1 i
  rw [IntKind.wrap_u32'] at h
  rw [← h]
  show _ = (1 : Int) * 2 ^ i % 4294967296
  rw [Int.one_mul]

/-- the k-th bit alone -/
def unit (k : Nat) : W := (1 : W) <<< k
theorem over_unit (k : Nat) (x y : Int) (hx : x = (2 : Int) ^ k % (4294967296 : Int)) (hy : y = 0) (w : World) :
    Calls Try.prog 31 #[.int .u32 x, .int .u8 y] w fun e w' => e = .returned (.int .u32 (V (it 8 (unit k)))) ∧ w = w' :=
  over_int (unit k) x y (hx.trans (one_shl k)) hy w

set_option maxHeartbeats 400000 in
theorem refBoth_neg (a b : Int) (n : Int) (hn : n < 0) (w : World) :
    Calls Try.prog 24 #[.int .u32 a, .int .u32 b, .int .i64 n] w fun e w' => e = .returned (.int .u32 0) ∧ Below w.heap.size w w' := by
  go_enter Try.func24, Try.ntmps24
  go_wp2_with fail
  go_ret
  exact ⟨rfl, Below.refl _ _⟩

set_option maxRecDepth 100000 in
set_option maxHeartbeats 1000000 in
theorem refBoth_any (a b : W) (n : Nat) (hn : n < 9223372036854775808) (w : World) :
    Calls Try.prog 24 #[.int .u32 (V a), .int .u32 (V b), .int .i64 n] w fun e w' => e = .returned (.int .u32 (V (bothW a b n))) ∧ Below w.heap.size w w' := by
  have HN := Lib.hid hn
  obtain ⟨n0, H0⟩ : ∃ n0 : Nat, Hid (n0 = n) := ⟨n, rfl⟩
  have hn2 : n ≤ n0 := Nat.le_of_eq H0.out.symm
  clear hn
  have hbd : n0 < 9223372036854775808 := by have := H0.out; have := HN.out; omega
  have hz := zero54
  have hnf : decide ((n : Int) < 0) = false := decide_eq_false (by omega)
  go_enter Try.func24, Try.ntmps24
  go_wp2_with fail
  go_loopw [8] (fun x wr => ∃ k : Nat, k ≤ 32 ∧ x = .int .i64 k ∧ wr = w.alloc (.cells (cellsW (fillN 8 k)) 54)) (fun x _ => 32 - (intOf x).toNat)
  case atStart => exact ⟨0, by omega, rfl, by rw [fillN_zero]⟩
  case round =>
    obtain ⟨k, hk, rfl, rfl⟩ := hrel
    by_cases hlt : k < 32
    · have hcl := cell1_w w (fillN 8 k) 54 k (by rw [fillN_length]; exact hlt)
      have HT : Hid ((cellsW (fillN 8 k)).setIfInBounds k (.int .u32 (V (it 8 (unit k)))) = cellsW (fillN 8 (k + 1))) := by
        show _ = _; rw [cellsW_set]; unfold unit; rw [fillN_succ]
      go_wp2_with (go_at_call 31; refine (over_unit k _ _ rfl rfl _).mono ?_; rintro e w1 ⟨rfl, rfl⟩)
      go_roundw
      case rel => exact ⟨k + 1, by omega, by go_num, by rw [HT.out]⟩
      case measure => simp [intOf]; omega
    · have HM0 : Hid (Mat w.heap.size (basis 8) w (w.alloc (.cells (cellsW (fillN 8 k)) 54))) := ⟨by rw [show k = 32 by omega, fillN_all]; exact heap_alloc_new w _, (Below.refl _ _).alloc (Nat.le_refl _) _, Nat.le_refl _⟩
      have hk32 : ¬ ((k : Int) < 32) := by omega
      generalize w.alloc (.cells (cellsW (fillN 8 k)) 54) = W0 at *
      go_wp2_with fail
      go_loopw [0, 2] (fun x z wr => ∃ (r m : Nat) (c : W), m ≤ n0 ∧ x = .int .u32 (V c) ∧ z = .int .i64 m ∧ Hid (Mat w.heap.size (basis (8 * 2 ^ r)) w wr) ∧ Hid (it (8 * 2 ^ r * m) c = it (8 * n0) a)) (fun _ z _ => (intOf z).toNat)
      case atStart => exact ⟨0, n, a, hn2, rfl, rfl, HM0, (by show it _ a = _; rw [H0.out, Nat.pow_zero, Nat.mul_one])⟩
      case round =>
        obtain ⟨r, m, c, hm, rfl, rfl, HM, HL⟩ := hrel
        by_cases hz0 : m = 0
        · subst hz0
          go_wp2_with fail
          go_ret
          refine ⟨ret_u32 ?_, HM.out.bel⟩
          rw [bits_xor_V, bothW, ← H0.out, ← HL.out]; simp [it]
        · have hp : 0 < m := by omega
          clear hz0
          have HB2 : Hid (8 * 2 ^ r + 8 * 2 ^ r = 8 * 2 ^ (r + 1)) := by show _ = _; rw [Nat.pow_succ]; omega
          have HLen := Lib.hid (basis_length (8 * 2 ^ r))
          by_cases h1 : m % 2 = 1
          · have t1 : ((m : Int) % 2 == 1) = true := beq_iff_eq.2 (by omega)
            have HO := Lib.hid (left_odd c r m h1)
            have HC := Lib.hid (im_all (8 * 2 ^ r) c)
            clear h1
            have hrow := HM.out.row
            have HRow := Lib.hid hrow; clear hrow
            go_wp2_with (first | (go_at_call 39; refine (image_any (basis (8 * 2 ^ r)) HLen.out c _).mono ?_; rintro e w1 ⟨rfl, hb1⟩) | refine wpList_load_row rfl 54 _ rfl w.heap.size rfl 54 (cellsW (basis (8 * 2 ^ r))) (0, 0) _ HRow.out Try.underlying54 rfl (info54 HLen.out) ?_)
            have HM1 := Lib.hid (HM.out.below hb1)
            clear hb1
            have hlow := (HM1.out).lt
            have hDlt : w.heap.size < w1.heap.size := hlow
            have HMd : Hid (Mat w.heap.size (basis (8 * 2 ^ r)) w (w1.alloc (.cells (cellsW zeros32) 54))) := (HM1.out).alloc _
            have HD0 : Hid ((w1.alloc (.cells (cellsW zeros32) 54)).heap[w1.heap.size]? = some (.cells (cellsW (fillN (8 * 2 ^ r + 8 * 2 ^ r) 0)) 54 (0, 0))) := by show _ = _; rw [fillN_zero]; exact heap_alloc_new _ _
            clear hlow
            generalize w1.alloc (.cells (cellsW zeros32) 54) = W5 at *
            generalize w1.heap.size = d at *
            go_loopw [10] (fun x wx => ∃ i : Nat, i ≤ 32 ∧ x = .int .i64 i ∧ Hid (Mat w.heap.size (basis (8 * 2 ^ r)) w wx) ∧ Hid (wx.heap[d]? = some (.cells (cellsW (fillN (8 * 2 ^ r + 8 * 2 ^ r) i)) 54 (0, 0)))) (fun x _ => 32 - (intOf x).toNat)
            case atStart => exact ⟨0, by omega, rfl, HMd, HD0⟩
            case round =>
              obtain ⟨i, hi, rfl, HMi, HDi⟩ := hrel
              by_cases hlt : i < 32
              · have HX : Hid ((cellsW (fillN (8 * 2 ^ r + 8 * 2 ^ r) i)).setIfInBounds i (.int .u32 (V (im (basis (8 * 2 ^ r)) (wat (basis (8 * 2 ^ r)) i) 32))) = cellsW (fillN (8 * 2 ^ r + 8 * 2 ^ r) (i + 1))) := by
                  show _ = _; rw [basis_twice _ _ hlt, basis_wat _ _ hlt, cellsW_set, fillN_succ]
                have hi0 : (0 : Int) ≤ (i : Int) := by omega
                have hi1 : (i : Int) < 32 := by omega
                have hi2 : (i : Int).toNat = i := Int.toNat_natCast i
                have hu := Try.underlying54
                have hinf := info54' HLen.out
                have hM := HMi.out
                go_wp2_with fail
                refine wp_region_held_drew (S := fun w' => Mat w.heap.size (basis (8 * 2 ^ r)) w w') (by kernel_rfl) hM.drew (fun hHeld => ?_)
                refine wpAnyH_take (i := 0) (oi := _) (v := ?_) rfl (by kernel_rfl) (by kernel_rfl) (by kernel_rfl) (fun _ _ _ h => h) (Or.inl ⟨by rfl, ?_⟩) (by assumption) ?_
                rotate_left
                · intro wx hSw
                  (try dsimp only at hSw)
                  go_simp
                  (try with_reducible rfl)
                (try simp only [List.getElem_toArray, List.getElem_cons_zero, List.getElem_cons_succ, Act.put, List.setIfInBounds_toArray, List.set_cons_zero, List.set_cons_succ, Array.toArray_toList])
                refine wpAnyH_take (i := 1) (oi := _) (v := _) rfl (by kernel_rfl) (by kernel_rfl) (by kernel_rfl) (fun _ _ _ h => h) (yieldsIf_load_mid (by rfl) _ _ rfl _ _ rfl _ _ (fun wx hSw => hSw.range) hu rfl hinf) (by assumption) ?_
                (try simp only [List.getElem_toArray, List.getElem_cons_zero, List.getElem_cons_succ, Act.put, List.setIfInBounds_toArray, List.set_cons_zero, List.set_cons_succ, Array.toArray_toList])
                refine wpAnyH_take (i := 2) (oi := _) (v := ?_) rfl (by kernel_rfl) (by kernel_rfl) (by kernel_rfl) (fun _ _ _ h => h) (Or.inl ⟨by rfl, ?_⟩) (by assumption) ?_
                rotate_left
                · intro wx hSw
                  (try dsimp only at hSw)
                  go_simp
                  (try with_reducible rfl)
                (try simp only [List.getElem_toArray, List.getElem_cons_zero, List.getElem_cons_succ, Act.put, List.setIfInBounds_toArray, List.set_cons_zero, List.set_cons_succ, Array.toArray_toList])
                refine wpAnyH_take (i := 3) (oi := _) (v := ?_) rfl (by kernel_rfl) (by kernel_rfl) (by kernel_rfl) (fun _ _ _ h => h) (Or.inl ⟨by rfl, ?_⟩) (by assumption) ?_
                rotate_left
                · intro wx hSw
                  (try dsimp only at hSw)
                  go_simp
                  (try with_reducible rfl)
                (try simp only [List.getElem_toArray, List.getElem_cons_zero, List.getElem_cons_succ, Act.put, List.setIfInBounds_toArray, List.set_cons_zero, List.set_cons_succ, Array.toArray_toList])
                refine wpAnyH_take (i := 4) (oi := _) (v := ?_) rfl (by kernel_rfl) (by kernel_rfl) (by kernel_rfl) (fun _ _ _ h => h) (Or.inl ⟨by rfl, ?_⟩) (by assumption) ?_
                rotate_left
                · intro wx hSw
                  (try dsimp only at hSw)
                  have hcx := hSw.cell i (by rw [HLen.out]; exact hlt)
                  go_simp
                  (try with_reducible rfl)
                (try simp only [List.getElem_toArray, List.getElem_cons_zero, List.getElem_cons_succ, Act.put, List.setIfInBounds_toArray, List.set_cons_zero, List.set_cons_succ, Array.toArray_toList])
                refine wpAnyH_ready (rs := [5]) (by kernel_rfl) (by simp) ?_
                refine AllReadyH.cons (o := _) rfl (fun K hK => ?_) ?_
                · (try simp only [List.getElem_toArray, List.getElem_cons_zero, List.getElem_cons_succ])
                  go_simp
                  refine (image_any (basis (8 * 2 ^ r)) HLen.out _ _).mono ?_; rintro e w5 ⟨rfl, hb5⟩
                  (try dsimp only)
                  refine hK.out _ _ (Mat.below (by assumption) (by assumption)) (fun hH5 => ?_)
                  clear hK K
                  (try simp only [List.getElem_toArray, List.getElem_cons_zero, List.getElem_cons_succ, Act.put, List.setIfInBounds_toArray, List.set_cons_zero, List.set_cons_succ, Array.toArray_toList])
                  have hd5 : w5.heap[d]? = some (.cells (cellsW (fillN (8 * 2 ^ r + 8 * 2 ^ r) i)) 54 (0, 0)) := by rw [hb5.block d (by have h := HDi.out; rcases Nat.lt_or_ge d wr.heap.size with g | g; exact g; rw [Array.getElem?_eq_none g] at h; cases h)]; exact HDi.out
                  have hdc : w5.cell? ⟨d, i, none⟩ = some (.int .u32 (V (wat (fillN (8 * 2 ^ r + 8 * 2 ^ r) i) i))) := by rw [cell_of_row _ _ _ _ _ _ hd5, cellsW_get _ i (by rw [fillN_length]; exact hlt)]
                  have hdf : w5.frozen? ⟨d, i, none⟩ = false := frozen_of_row _ _ _ _ _ hd5
                  have HD5 := Lib.hid hd5; clear hd5
                  refine wpAnyH_take (i := 6) (oi := _) (v := ?_) rfl (by kernel_rfl) (by kernel_rfl) (by kernel_rfl) (fun _ _ _ h => h) (Or.inl ⟨by rfl, ?_⟩) (by assumption) ?_
                  rotate_left
                  · intro wx hSw
                    (try dsimp only at hSw)
                    go_simp
                    (try with_reducible rfl)
                  (try simp only [List.getElem_toArray, List.getElem_cons_zero, List.getElem_cons_succ, Act.put, List.setIfInBounds_toArray, List.set_cons_zero, List.set_cons_succ, Array.toArray_toList])
                  refine wpAnyH_ready (rs := [7]) (by kernel_rfl) (by simp) ?_
                  refine AllReadyH.cons (o := _) rfl (fun K hK => ?_) ?_
                  · (try simp only [List.getElem_toArray, List.getElem_cons_zero, List.getElem_cons_succ])
                    go_simp
                    refine hK.out _ _ (Mat.setCell hH5 hDlt _ _) (fun hH7 => ?_)
                    clear hK K
                    (try simp only [List.getElem_toArray, List.getElem_cons_zero, List.getElem_cons_succ, Act.put, List.setIfInBounds_toArray, List.set_cons_zero, List.set_cons_succ, Array.toArray_toList])
                    refine wpAnyH_done (by kernel_rfl) ?_ _
                    clear hdc hdf hu hinf hM
                    go_wp2_with fail
                    go_roundw
                    case rel => exact ⟨i + 1, by omega, by go_num, hH7, (by show _ = _; rw [heap_setCell_same _ _ _ _ _ _ HD5.out, HX.out])⟩
                    case measure => simp [intOf]; omega
                  exact AllReadyH.nil
                exact AllReadyH.nil
              · obtain rfl : i = 32 := by omega
                have hD := HDi.out
                rw [fillN_all, HB2.out] at hD
                have HLen2 := Lib.hid (basis_length (8 * 2 ^ (r + 1)))
                have HD := Lib.hid hD; clear hD
                go_wp2_with (first | (refine wpList_store_row rfl 54 _ _ rfl w.heap.size (cellsW (basis (8 * 2 ^ (r + 1)))) rfl rfl 54 (cellsW (basis (8 * 2 ^ r))) HMi.out.row (info54 HLen2.out) (by rw [cellsW_size, cellsW_size, HLen.out, HLen2.out]) (cellsW_one _) ?_) | refine wpList_load_row rfl 54 _ rfl d rfl 54 (cellsW (basis (8 * 2 ^ (r + 1)))) (0, 0) _ HD.out Try.underlying54 rfl (info54 HLen2.out) ?_)
                go_roundw
                case rel => exact ⟨r + 1, m / 2, im (basis (8 * 2 ^ r)) c 32, by omega, rfl, by go_num, Mat.setRow HMi.out, (by show _ = _; rw [HC.out, HO.out, HL.out])⟩
                case measure => simp [intOf]; omega
          · have t1 : ((m : Int) % 2 == 1) = false := beq_eq_false_iff_ne.2 (by omega)
            have HO := Lib.hid (left_even c r m (by omega))
            clear h1
            go_wp2_with fail
            have hlow := (HM.out).lt
            have hDlt : w.heap.size < wr.heap.size := hlow
            have HMd : Hid (Mat w.heap.size (basis (8 * 2 ^ r)) w (wr.alloc (.cells (cellsW zeros32) 54))) := (HM.out).alloc _
            have HD0 : Hid ((wr.alloc (.cells (cellsW zeros32) 54)).heap[wr.heap.size]? = some (.cells (cellsW (fillN (8 * 2 ^ r + 8 * 2 ^ r) 0)) 54 (0, 0))) := by show _ = _; rw [fillN_zero]; exact heap_alloc_new _ _
            clear hlow
            generalize wr.alloc (.cells (cellsW zeros32) 54) = W5 at *
            generalize wr.heap.size = d at *
            go_loopw [10] (fun x wx => ∃ i : Nat, i ≤ 32 ∧ x = .int .i64 i ∧ Hid (Mat w.heap.size (basis (8 * 2 ^ r)) w wx) ∧ Hid (wx.heap[d]? = some (.cells (cellsW (fillN (8 * 2 ^ r + 8 * 2 ^ r) i)) 54 (0, 0)))) (fun x _ => 32 - (intOf x).toNat)
            case atStart => exact ⟨0, by omega, rfl, HMd, HD0⟩
            case round =>
              obtain ⟨i, hi, rfl, HMi, HDi⟩ := hrel
              by_cases hlt : i < 32
              · have HX : Hid ((cellsW (fillN (8 * 2 ^ r + 8 * 2 ^ r) i)).setIfInBounds i (.int .u32 (V (im (basis (8 * 2 ^ r)) (wat (basis (8 * 2 ^ r)) i) 32))) = cellsW (fillN (8 * 2 ^ r + 8 * 2 ^ r) (i + 1))) := by
                  show _ = _; rw [basis_twice _ _ hlt, basis_wat _ _ hlt, cellsW_set, fillN_succ]
                have hi0 : (0 : Int) ≤ (i : Int) := by omega
                have hi1 : (i : Int) < 32 := by omega
                have hi2 : (i : Int).toNat = i := Int.toNat_natCast i
                have hu := Try.underlying54
                have hinf := info54' HLen.out
                have hM := HMi.out
                go_wp2_with fail
                refine wp_region_held_drew (S := fun w' => Mat w.heap.size (basis (8 * 2 ^ r)) w w') (by kernel_rfl) hM.drew (fun hHeld => ?_)
                refine wpAnyH_take (i := 0) (oi := _) (v := ?_) rfl (by kernel_rfl) (by kernel_rfl) (by kernel_rfl) (fun _ _ _ h => h) (Or.inl ⟨by rfl, ?_⟩) (by assumption) ?_
                rotate_left
                · intro wx hSw
                  (try dsimp only at hSw)
                  go_simp
                  (try with_reducible rfl)
                (try simp only [List.getElem_toArray, List.getElem_cons_zero, List.getElem_cons_succ, Act.put, List.setIfInBounds_toArray, List.set_cons_zero, List.set_cons_succ, Array.toArray_toList])
                refine wpAnyH_take (i := 1) (oi := _) (v := _) rfl (by kernel_rfl) (by kernel_rfl) (by kernel_rfl) (fun _ _ _ h => h) (yieldsIf_load_mid (by rfl) _ _ rfl _ _ rfl _ _ (fun wx hSw => hSw.range) hu rfl hinf) (by assumption) ?_
                (try simp only [List.getElem_toArray, List.getElem_cons_zero, List.getElem_cons_succ, Act.put, List.setIfInBounds_toArray, List.set_cons_zero, List.set_cons_succ, Array.toArray_toList])
                refine wpAnyH_take (i := 2) (oi := _) (v := ?_) rfl (by kernel_rfl) (by kernel_rfl) (by kernel_rfl) (fun _ _ _ h => h) (Or.inl ⟨by rfl, ?_⟩) (by assumption) ?_
                rotate_left
                · intro wx hSw
                  (try dsimp only at hSw)
                  go_simp
                  (try with_reducible rfl)
                (try simp only [List.getElem_toArray, List.getElem_cons_zero, List.getElem_cons_succ, Act.put, List.setIfInBounds_toArray, List.set_cons_zero, List.set_cons_succ, Array.toArray_toList])
                refine wpAnyH_take (i := 3) (oi := _) (v := ?_) rfl (by kernel_rfl) (by kernel_rfl) (by kernel_rfl) (fun _ _ _ h => h) (Or.inl ⟨by rfl, ?_⟩) (by assumption) ?_
                rotate_left
                · intro wx hSw
                  (try dsimp only at hSw)
                  go_simp
                  (try with_reducible rfl)
                (try simp only [List.getElem_toArray, List.getElem_cons_zero, List.getElem_cons_succ, Act.put, List.setIfInBounds_toArray, List.set_cons_zero, List.set_cons_succ, Array.toArray_toList])
                refine wpAnyH_take (i := 4) (oi := _) (v := ?_) rfl (by kernel_rfl) (by kernel_rfl) (by kernel_rfl) (fun _ _ _ h => h) (Or.inl ⟨by rfl, ?_⟩) (by assumption) ?_
                rotate_left
                · intro wx hSw
                  (try dsimp only at hSw)
                  have hcx := hSw.cell i (by rw [HLen.out]; exact hlt)
                  go_simp
                  (try with_reducible rfl)
                (try simp only [List.getElem_toArray, List.getElem_cons_zero, List.getElem_cons_succ, Act.put, List.setIfInBounds_toArray, List.set_cons_zero, List.set_cons_succ, Array.toArray_toList])
                refine wpAnyH_ready (rs := [5]) (by kernel_rfl) (by simp) ?_
                refine AllReadyH.cons (o := _) rfl (fun K hK => ?_) ?_
                · (try simp only [List.getElem_toArray, List.getElem_cons_zero, List.getElem_cons_succ])
                  go_simp
                  refine (image_any (basis (8 * 2 ^ r)) HLen.out _ _).mono ?_; rintro e w5 ⟨rfl, hb5⟩
                  (try dsimp only)
                  refine hK.out _ _ (Mat.below (by assumption) (by assumption)) (fun hH5 => ?_)
                  clear hK K
                  (try simp only [List.getElem_toArray, List.getElem_cons_zero, List.getElem_cons_succ, Act.put, List.setIfInBounds_toArray, List.set_cons_zero, List.set_cons_succ, Array.toArray_toList])
                  have hd5 : w5.heap[d]? = some (.cells (cellsW (fillN (8 * 2 ^ r + 8 * 2 ^ r) i)) 54 (0, 0)) := by rw [hb5.block d (by have h := HDi.out; rcases Nat.lt_or_ge d wr.heap.size with g | g; exact g; rw [Array.getElem?_eq_none g] at h; cases h)]; exact HDi.out
                  have hdc : w5.cell? ⟨d, i, none⟩ = some (.int .u32 (V (wat (fillN (8 * 2 ^ r + 8 * 2 ^ r) i) i))) := by rw [cell_of_row _ _ _ _ _ _ hd5, cellsW_get _ i (by rw [fillN_length]; exact hlt)]
                  have hdf : w5.frozen? ⟨d, i, none⟩ = false := frozen_of_row _ _ _ _ _ hd5
                  have HD5 := Lib.hid hd5; clear hd5
                  refine wpAnyH_take (i := 6) (oi := _) (v := ?_) rfl (by kernel_rfl) (by kernel_rfl) (by kernel_rfl) (fun _ _ _ h => h) (Or.inl ⟨by rfl, ?_⟩) (by assumption) ?_
                  rotate_left
                  · intro wx hSw
                    (try dsimp only at hSw)
                    go_simp
                    (try with_reducible rfl)
                  (try simp only [List.getElem_toArray, List.getElem_cons_zero, List.getElem_cons_succ, Act.put, List.setIfInBounds_toArray, List.set_cons_zero, List.set_cons_succ, Array.toArray_toList])
                  refine wpAnyH_ready (rs := [7]) (by kernel_rfl) (by simp) ?_
                  refine AllReadyH.cons (o := _) rfl (fun K hK => ?_) ?_
                  · (try simp only [List.getElem_toArray, List.getElem_cons_zero, List.getElem_cons_succ])
                    go_simp
                    refine hK.out _ _ (Mat.setCell hH5 hDlt _ _) (fun hH7 => ?_)
                    clear hK K
                    (try simp only [List.getElem_toArray, List.getElem_cons_zero, List.getElem_cons_succ, Act.put, List.setIfInBounds_toArray, List.set_cons_zero, List.set_cons_succ, Array.toArray_toList])
                    refine wpAnyH_done (by kernel_rfl) ?_ _
                    clear hdc hdf hu hinf hM
                    go_wp2_with fail
                    go_roundw
                    case rel => exact ⟨i + 1, by omega, by go_num, hH7, (by show _ = _; rw [heap_setCell_same _ _ _ _ _ _ HD5.out, HX.out])⟩
                    case measure => simp [intOf]; omega
                  exact AllReadyH.nil
                exact AllReadyH.nil
              · obtain rfl : i = 32 := by omega
                have hD := HDi.out
                rw [fillN_all, HB2.out] at hD
                have HLen2 := Lib.hid (basis_length (8 * 2 ^ (r + 1)))
                have HD := Lib.hid hD; clear hD
                go_wp2_with (first | (refine wpList_store_row rfl 54 _ _ rfl w.heap.size (cellsW (basis (8 * 2 ^ (r + 1)))) rfl rfl 54 (cellsW (basis (8 * 2 ^ r))) HMi.out.row (info54 HLen2.out) (by rw [cellsW_size, cellsW_size, HLen.out, HLen2.out]) (cellsW_one _) ?_) | refine wpList_load_row rfl 54 _ rfl d rfl 54 (cellsW (basis (8 * 2 ^ (r + 1)))) (0, 0) _ HD.out Try.underlying54 rfl (info54 HLen2.out) ?_)
                go_roundw
                case rel => exact ⟨r + 1, m / 2, c, by omega, rfl, by go_num, Mat.setRow HMi.out, (by show _ = _; rw [HO.out, HL.out])⟩
                case measure => simp [intOf]; omega

end Go.Proofs.Ytmmggkjfhiflaaa.Crc
