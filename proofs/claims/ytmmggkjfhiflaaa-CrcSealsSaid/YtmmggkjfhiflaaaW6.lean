/-
  The walks over the table: forward and back, over bytes in memory.
-/
import Derived.Test.YtmmggkjfhiflaaaW5
namespace Go.Proofs.Ytmmggkjfhiflaaa.Crc
open Go.RowKit

/-- bytes in a row of cells -/
def Row8 (w : World) (b off : Nat) (l : List UInt8) : Prop := b < w.heap.size ∧ ∀ i (h : i < l.length), w.cell? ⟨b, off + i, none⟩ = some (.int .u8 (l[i].toNat : Int))
theorem Row8.below {w w' : World} {b off : Nat} {l : List UInt8} (h : Row8 w b off l) (hb : Below w.heap.size w w') : Row8 w' b off l :=
  ⟨Nat.lt_of_lt_of_le h.1 hb.size, fun i hi => by rw [hb.cell (p := ⟨b, off + i, none⟩) h.1]; exact h.2 i hi⟩
theorem raw_takeL (c : W) (l : List UInt8) (k : Nat) (h : k < l.length) : raw c (l.take (k + 1)) = step (raw c (l.take k)) l[k] := by
  rw [List.take_succ_eq_append_getElem h, raw_append]; rfl
theorem raw_allL (c : W) (l : List UInt8) (k : Nat) (h : l.length ≤ k) : raw c (l.take k) = raw c l := by
  rw [List.take_of_length_le h]
theorem unraw_dropL (c : W) (l : List UInt8) (k : Nat) (h : k < l.length) : unraw c (l.drop k) = unstep (unraw c (l.drop (k + 1))) l[k] := by
  rw [List.drop_eq_getElem_cons h]; rfl
theorem unraw_noneL (c : W) (l : List UInt8) : unraw c (l.drop l.length) = c := by
  rw [List.drop_length]; rfl

set_option maxRecDepth 100000 in
set_option maxHeartbeats 400000 in
theorem forwardB_any (c : W) (l : List UInt8) (b off cap : Nat) (x : Int) (hx : x = V c) (w : World) (hs : l.length ≤ maxLen) (hl : Row8 w b off l) :
    Calls Try.prog 34 #[.agg (cellsW tabs), .int .u32 x, .slice (some ⟨b, off, none⟩) l.length cap] w fun e w' => e = .returned (.int .u32 (V (addW c l))) ∧ Below w.heap.size w w' := by
  unfold maxLen at hs
  have HR := Lib.hid hl
  clear hl
  go_enter Try.func34, Try.ntmps34
  go_wp2_with fail
  rw [not_V]
  go_loop [1, 12] (fun x i => ∃ k : Nat, k ≤ l.length ∧ i = .int .i64 k ∧ x = .int .u32 (V (raw (~~~ c) (l.take k)))) (fun _ i => l.length - (intOf i).toNat)
  case atStart => exact ⟨0, Nat.zero_le _, rfl, rfl⟩
  case round =>
    obtain ⟨k, hk, rfl, rfl⟩ := hrel
    by_cases hlt : k < l.length
    · have H := Lib.hid (raw_takeL (~~~ c) l k hlt)
      have hcell := HR.out.2 k hlt
      have hblk := HR.out.1
      have hcell' : (w.alloc (.cells (cellsW tabs) 24)).cell? ⟨b, off + k, none⟩ = some (.int .u8 (l[k].toNat : Int)) := (World.cell?_alloc_lt _ _ _ hblk).trans hcell
      generalize raw (~~~ c) (l.take k) = st at *
      have hq := ix_V st l[k]
      have hq2 := ix_lt st l[k]
      have hv := cell1_tab w (ix st l[k]) hq2
      have HS := Lib.hid (step_V st l[k])
      generalize l[k] = bk at *
      go_wp2_with fail
      go_round
      case rel => exact ⟨k + 1, by omega, by go_num, int_u32 (HS.out.trans (by rw [H.out]))⟩
      case measure => simp [intOf]; omega
    · have H := Lib.hid (raw_allL (~~~ c) l k (by omega))
      go_wp2_with fail
      go_ret
      exact ⟨ret_u32 (by rw [not_V, H.out]; rfl), (Below.refl _ _).alloc (Nat.le_refl _) _⟩

set_option maxRecDepth 100000 in
set_option maxHeartbeats 400000 in
theorem backwardB_any (c : W) (l : List UInt8) (b off cap : Nat) (x : Int) (hx : x = V c) (w : World) (hs : l.length ≤ maxLen) (hl : Row8 w b off l) :
    Calls Try.prog 35 #[.agg (cellsW tabs), .int .u32 x, .slice (some ⟨b, off, none⟩) l.length cap] w fun e w' => e = .returned (.int .u32 (V (backW c l))) ∧ Below w.heap.size w w' := by
  unfold maxLen at hs
  have HR := Lib.hid hl
  have hblk := hl.1
  clear hl
  have hz := zero57
  go_enter Try.func35, Try.ntmps35
  go_wp2_with (first | (go_at_call 43; refine (byTop_any _).mono ?_; rintro e w1 ⟨rfl, hb1⟩) | refine wpList_store_row rfl 57 _ _ rfl _ (cells8 (nums 256)) rfl rfl 57 (cells8 zeros8) (heap_alloc_new _ _) (info57 (nums_length _)) (by rw [cells8_size, cells8_size, nums_length]; exact List.length_replicate) (cells8_one _) ?_; rw [setRow_alloc] | refine wpList_load_row rfl 24 _ rfl w.heap.size rfl 24 (cellsW tabs) (0, 0) _ (heap_alloc_new _ _) Try.underlying24 rfl info24' ?_)
  rw [not_V]
  have hc0 : ∀ q, q < 256 → w1.cell? ⟨w.heap.size, q, none⟩ = some (.int .u32 (V (tab q))) := fun q hq => by rw [(bcell hb1).1 _ _ (by simp), cell1_tab w q hq]
  have hc0' : ∀ q, q < 256 → (w1.alloc (.cells (cells8 (nums 256)) 57)).cell? ⟨w.heap.size, q, none⟩ = some (.int .u32 (V (tab q))) := fun q hq => by rw [← hc0 q hq]; exact World.cell?_alloc_lt _ _ _ (by have := hb1.size; simp at this; simp; omega)
  have hc1 : ∀ q, q < 256 → (w1.alloc (.cells (cells8 (nums 256)) 57)).cell? ⟨w1.heap.size, q, none⟩ = some (.int .u8 (num q : Int)) := fun q hq => by
    rw [cell_of_row _ _ _ _ _ _ (heap_alloc_new w1 _), cells8_get (nums 256) q (by rw [nums_length]; exact hq)]; rfl
  have hsz : w.heap.size < w1.heap.size := by have := hb1.size; simp at this; omega
  have HR1 : Hid (Row8 w1 b off l) := HR.out.below (((Below.refl _ _).alloc (Nat.le_refl _) _).trans (hb1.mono (by simp)))
  have HB : Hid (Below w.heap.size w (w1.alloc (.cells (cells8 (nums 256)) 57))) := ((((Below.refl _ _).alloc (Nat.le_refl _) _).trans (hb1.mono (by simp))).alloc (by omega) _)
  have H0 := Lib.hid hc0; have H0' := Lib.hid hc0'; have H1 := Lib.hid hc1; clear hc0 hc0' hc1 hb1 hz
  go_loopw [1, 8] (fun x i wr => ∃ k m : Nat, k ≤ l.length ∧ i = .int .i64 ((k : Int) - 1) ∧ x = .int .u32 (V (unraw (~~~ c) (l.drop k))) ∧ wr = (w1.alloc (.cells (cells8 (nums 256)) 57)).drewN m) (fun _ i _ => (intOf i + 1).toNat)
  case atStart => exact ⟨l.length, 0, Nat.le_refl _, rfl, by rw [unraw_noneL], rfl⟩
  case round =>
    obtain ⟨k, m, hk, rfl, rfl, rfl⟩ := hrel
    cases k with
    | zero =>
      have ei : (((0 : Nat) : Int) - 1) = -1 := by omega
      rw [ei]
      go_wp2_with fail
      go_ret
      exact ⟨ret_u32 (by rw [not_V]; rfl), below_drewN HB.out m⟩
    | succ k =>
      have ei : (((k + 1 : Nat) : Int) - 1) = (k : Int) := by omega
      rw [ei]; clear ei
      have H := Lib.hid (unraw_dropL (~~~ c) l k hk)
      have hcell := HR1.out.2 k hk
      have hblk1 := HR1.out.1
      have hcell' : (w1.alloc (.cells (cells8 (nums 256)) 57)).cell? ⟨b, off + k, none⟩ = some (.int .u8 (l[k].toNat : Int)) := (World.cell?_alloc_lt _ _ _ hblk1).trans hcell
      generalize unraw (~~~ c) (l.drop (k + 1)) = st at *
      have hq := top_q st
      have hx := num_xor st l[k]
      have HS := Lib.hid (unstep_V st l[k])
      have HM : Hid (((num (st.toNat / 16777216) ^^^ l[k].toNat : Nat) : Int) % (4294967296 : Int) = ((num (st.toNat / 16777216) ^^^ l[k].toNat : Nat) : Int)) := by
        show _ % _ = _
        have := Nat.xor_lt_two_pow (n := 8) (num_lt _ (top_lt st)) l[k].toNat_lt
        omega
      have hlt := top_lt st
      have h1 := H1.out _ hlt
      have h0 := H0.out _ (num_lt _ hlt)
      have h0' := H0'.out _ (num_lt _ hlt)
      have hnl := num_lt _ hlt
      generalize num (st.toNat / 16777216) = n at *
      generalize l[k] = bk at *
      have hn0 : (0 : Int) ≤ (n : Int) := by omega
      have hn1 : (n : Int) < 256 := by omega
      have hk0 : (0 : Int) ≤ (k : Int) := by omega
      have hk1 : (k : Int) < (l.length : Int) := by omega
      have hk2 : (k : Int).toNat = k := Int.toNat_natCast k
      go_wp2_with fail
      go_quiet (fail)
      go_wp2_with fail
      go_roundw
      case rel => exact ⟨k, m + nq, by omega, rfl, int_u32 (by rw [HM.out]; exact HS.out.trans (by rw [H.out])), rfl⟩
      case measure => simp [intOf]

end Go.Proofs.Ytmmggkjfhiflaaa.Crc
