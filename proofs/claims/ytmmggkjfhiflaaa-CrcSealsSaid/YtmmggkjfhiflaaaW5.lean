/-
  The walks over the table: forward and back, over texts and over bytes.
-/
import Derived.Test.YtmmggkjfhiflaaaW4
namespace Go.Proofs.Ytmmggkjfhiflaaa.Crc
open Go.RowKit

theorem cell1_tab (w : World) (q : Nat) (h : q < 256) : (w.alloc (.cells (cellsW tabs) 24)).cell? ⟨w.heap.size, q, none⟩ = some (.int .u32 (V (tab q))) := by
  rw [cell_of_row _ _ _ _ _ _ (heap_alloc_new w _), cellsW_get tabs q (by rw [tabs_length]; exact h), tabs_getD q h]

set_option maxRecDepth 100000 in
set_option maxHeartbeats 400000 in
theorem forward_any (c : W) (s : ByteArray) (x : Int) (hx : x = V c) (w : World) (hs : s.size ≤ maxLen) :
    Calls Try.prog 37 #[.agg (cellsW tabs), .int .u32 x, .string s] w fun e w' => e = .returned (.int .u32 (V (addW c s.data.toList))) ∧ Below w.heap.size w w' := by
  unfold maxLen at hs
  go_enter Try.func37, Try.ntmps37
  go_wp2_with fail
  rw [not_V]
  go_loop [1, 12] (fun x i => ∃ k : Nat, k ≤ s.size ∧ i = .int .i64 k ∧ x = .int .u32 (V (raw (~~~ c) (s.data.toList.take k)))) (fun _ i => s.size - (intOf i).toNat)
  case atStart => exact ⟨0, Nat.zero_le _, rfl, rfl⟩
  case round =>
    obtain ⟨k, hk, rfl, rfl⟩ := hrel
    by_cases hlt : k < s.size
    · have H := Lib.hid (raw_take (~~~ c) s k hlt)
      generalize raw (~~~ c) (s.data.toList.take k) = st at *
      have hq := ix_V st s[k]
      have hq2 := ix_lt st s[k]
      have hv := cell1_tab w (ix st s[k]) hq2
      have HS := Lib.hid (step_V st s[k])
      go_wp2_with fail
      go_round
      case rel => exact ⟨k + 1, by omega, by go_num, int_u32 (HS.out.trans (by rw [H.out]))⟩
      case measure => simp [intOf]; omega
    · have H := Lib.hid (raw_all (~~~ c) s k (by omega))
      go_wp2_with fail
      go_ret
      exact ⟨ret_u32 (by rw [not_V, H.out]; rfl), (Below.refl _ _).alloc (Nat.le_refl _) _⟩


theorem info24' : (Try.prog.info? 24).map (·.size) = some (cellsW tabs).size := info24 tabs_length
theorem bcell {W w1 : World} (hb : Below W.heap.size W w1) : (∀ b o, b < W.heap.size → w1.cell? ⟨b, o, none⟩ = W.cell? ⟨b, o, none⟩) ∧ (∀ b o, b < W.heap.size → w1.frozen? ⟨b, o, none⟩ = W.frozen? ⟨b, o, none⟩) :=
  ⟨fun b o h => hb.cell (p := ⟨b, o, none⟩) h, fun b o h => hb.frozen (p := ⟨b, o, none⟩) h⟩
set_option maxRecDepth 100000 in
set_option maxHeartbeats 400000 in
theorem backward_any (c : W) (s : ByteArray) (x : Int) (hx : x = V c) (w : World) (hs : s.size ≤ maxLen) :
    Calls Try.prog 38 #[.agg (cellsW tabs), .int .u32 x, .string s] w fun e w' => e = .returned (.int .u32 (V (backW c s.data.toList))) ∧ Below w.heap.size w w' := by
  unfold maxLen at hs
  have hz := zero57
  go_enter Try.func38, Try.ntmps38
  go_wp2_with (first | (go_at_call 43; refine (byTop_any _).mono ?_; rintro e w1 ⟨rfl, hb1⟩) | refine wpList_store_row rfl 57 _ _ rfl _ (cells8 (nums 256)) rfl rfl 57 (cells8 zeros8) (heap_alloc_new _ _) (info57 (nums_length _)) (by rw [cells8_size, cells8_size, nums_length]; exact List.length_replicate) (cells8_one _) ?_; rw [setRow_alloc] | refine wpList_load_row rfl 24 _ rfl w.heap.size rfl 24 (cellsW tabs) (0, 0) _ (heap_alloc_new _ _) Try.underlying24 rfl info24' ?_)
  rw [not_V]
  have hc0 : ∀ q, q < 256 → w1.cell? ⟨w.heap.size, q, none⟩ = some (.int .u32 (V (tab q))) := fun q hq => by rw [(bcell hb1).1 _ _ (by simp), cell1_tab w q hq]
  have hc0' : ∀ q, q < 256 → (w1.alloc (.cells (cells8 (nums 256)) 57)).cell? ⟨w.heap.size, q, none⟩ = some (.int .u32 (V (tab q))) := fun q hq => by rw [← hc0 q hq]; exact World.cell?_alloc_lt _ _ _ (by have := hb1.size; simp at this; simp; omega)
  have hc1 : ∀ q, q < 256 → (w1.alloc (.cells (cells8 (nums 256)) 57)).cell? ⟨w1.heap.size, q, none⟩ = some (.int .u8 (num q : Int)) := fun q hq => by
    rw [cell_of_row _ _ _ _ _ _ (heap_alloc_new w1 _), cells8_get (nums 256) q (by rw [nums_length]; exact hq)]; rfl
  have hsz : w.heap.size < w1.heap.size := by have := hb1.size; simp at this; omega
  have HB : Hid (Below w.heap.size w (w1.alloc (.cells (cells8 (nums 256)) 57))) := ((((Below.refl _ _).alloc (Nat.le_refl _) _).trans (hb1.mono (by simp))).alloc (by omega) _)
  have H0 := Lib.hid hc0; have H0' := Lib.hid hc0'; have H1 := Lib.hid hc1; clear hc0 hc0' hc1 hb1 hz
  go_loopw [1, 8] (fun x i wr => ∃ k m : Nat, k ≤ s.size ∧ i = .int .i64 ((k : Int) - 1) ∧ x = .int .u32 (V (unraw (~~~ c) (s.data.toList.drop k))) ∧ wr = (w1.alloc (.cells (cells8 (nums 256)) 57)).drewN m) (fun _ i _ => (intOf i + 1).toNat)
  case atStart => exact ⟨s.size, 0, Nat.le_refl _, rfl, by rw [unraw_none], rfl⟩
  case round =>
    obtain ⟨k, m, hk, rfl, rfl, rfl⟩ := hrel
    cases k with
    | zero =>
      have ei : (((0 : Nat) : Int) - 1) = -1 := by omega
      rw [ei]
      go_wp2_with fail
      go_ret
      exact ⟨ret_u32 (by rw [not_V]; rfl), below_drewN HB.out m⟩
    | succ k =>
      have ei : (((k + 1 : Nat) : Int) - 1) = (k : Int) := by omega
      rw [ei]; clear ei
      have H := Lib.hid (unraw_drop (~~~ c) s k hk)
      generalize unraw (~~~ c) (s.data.toList.drop (k + 1)) = st at *
      have hq := top_q st
      have hx := num_xor st s[k]
      have HS := Lib.hid (unstep_V st s[k])
      have HM : Hid (((num (st.toNat / 16777216) ^^^ s[k].toNat : Nat) : Int) % (4294967296 : Int) = ((num (st.toNat / 16777216) ^^^ s[k].toNat : Nat) : Int)) := by
        show _ % _ = _
        have := Nat.xor_lt_two_pow (n := 8) (num_lt _ (top_lt st)) s[k].toNat_lt
        omega
      have hlt := top_lt st
      have h1 := H1.out _ hlt
      have h0 := H0.out _ (num_lt _ hlt)
      have h0' := H0'.out _ (num_lt _ hlt)
      have hnl := num_lt _ hlt
      generalize num (st.toNat / 16777216) = n at *
      have hn0 : (0 : Int) ≤ (n : Int) := by omega
      have hn1 : (n : Int) < 256 := by omega
      have hk0 : (0 : Int) ≤ (k : Int) := by omega
      have hk1 : (k : Int) < (s.size : Int) := by omega
      go_wp2_with fail
      go_quiet (fail)
      go_wp2_with fail
      go_roundw
      case rel => exact ⟨k, m + nq, by omega, rfl, int_u32 (by rw [HM.out]; exact HS.out.trans (by rw [H.out])), rfl⟩
      case measure => simp [intOf]

end Go.Proofs.Ytmmggkjfhiflaaa.Crc
