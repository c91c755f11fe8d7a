/-
  The walks over the table: forward and back, over texts and over bytes.
-/
import Derived.Test.YthaafniahkejkaaW4
namespace Go.Proofs.Ythaafniahkejkaa.Crc
open Go.RowKit

theorem cell1_tab (w : World) (q : Nat) (h : q < 256) : (w.alloc (.cells (cellsW tabs) 98)).cell? ⟨w.heap.size, q, none⟩ = some (.int .u32 (V (tab q))) := by
  rw [cell_of_row _ _ _ _ _ _ (heap_alloc_new w _), cellsW_get tabs q (by rw [tabs_length]; exact h), tabs_getD q h]

set_option maxRecDepth 100000 in
set_option maxHeartbeats 400000 in
theorem forward_any (c : W) (s : ByteArray) (x : Int) (hx : x = V c) (w : World) (hs : s.size ≤ maxLen) :
    Calls Try.prog 56 #[.agg (cellsW tabs), .int .u32 x, .string s] w fun e w' => e = .returned (.int .u32 (V (addW c s.data.toList))) ∧ Below w.heap.size w w' := by
  unfold maxLen at hs
  go_enter Try.func56, Try.ntmps56
  go_wp2_with fail
  rw [not_V]
  go_loop [1, 12] (fun x i => ∃ k : Nat, k ≤ s.size ∧ i = .int .i64 k ∧ x = .int .u32 (V (raw (~~~ c) (s.data.toList.take k)))) (fun _ i => s.size - (intOf i).toNat)
  case atStart => exact ⟨0, Nat.zero_le _, rfl, rfl⟩
  case round =>
    obtain ⟨k, hk, rfl, rfl⟩ := hrel
    by_cases hlt : k < s.size
    · have H := Lib.hid (raw_take (~~~ c) s k hlt)
      generalize raw (~~~ c) (s.data.toList.take k) = st at *
      have hq := ix_V st s[k]
      have hq2 := ix_lt st s[k]
      have hv := cell1_tab w (ix st s[k]) hq2
      have HS := Lib.hid (step_V st s[k])
      go_wp2_with fail
      go_round
      case rel => exact ⟨k + 1, by omega, by go_num, int_u32 (HS.out.trans (by rw [H.out]))⟩
      case measure => simp [intOf]; omega
    · have H := Lib.hid (raw_all (~~~ c) s k (by omega))
      go_wp2_with fail
      go_ret
      exact ⟨ret_u32 (by rw [not_V, H.out]; rfl), (Below.refl _ _).alloc (Nat.le_refl _) _⟩


theorem info24' : (Try.prog.info? 98).map (·.size) = some (cellsW tabs).size := info24 tabs_length
theorem bcell {W w1 : World} (hb : Below W.heap.size W w1) : (∀ b o, b < W.heap.size → w1.cell? ⟨b, o, none⟩ = W.cell? ⟨b, o, none⟩) ∧ (∀ b o, b < W.heap.size → w1.frozen? ⟨b, o, none⟩ = W.frozen? ⟨b, o, none⟩) :=
  ⟨fun b o h => hb.cell (p := ⟨b, o, none⟩) h, fun b o h => hb.frozen (p := ⟨b, o, none⟩) h⟩
end Go.Proofs.Ythaafniahkejkaa.Crc
