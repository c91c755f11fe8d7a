/-
  The walks of the document's own product: the image of a number, and the checksum of two texts put together.
-/
import Derived.Test.YtmmggkjfhiflaaaLBoth
import Derived.Test.YtmmggkjfhiflaaaW10
namespace Go.Proofs.Ytmmggkjfhiflaaa.Crc
open Go.RowKit

/-- the image of c under the words M, as far as k -/
def im (M : List W) (c : W) : Nat → W
  | 0 => 0
  | k + 1 => if c.getLsbD k then im M c k ^^^ wat M k else im M c k
def basis (n : Nat) : List W := (List.range 32).map fun i => it n ((1 : W) <<< i)
theorem basis_length (n : Nat) : (basis n).length = 32 := by unfold basis; simp
theorem basis_wat (n i : Nat) (h : i < 32) : wat (basis n) i = it n ((1 : W) <<< i) := by
  unfold wat basis; rw [List.getD_eq_getElem?_getD, List.getElem?_map, List.getElem?_range h]; rfl
def imB (c : W) : Nat → W
  | 0 => 0
  | k + 1 => if c.getLsbD k then imB c k ^^^ ((1 : W) <<< k) else imB c k
theorem imB_bit (c : W) (k : Nat) (hk : k ≤ 32) : ∀ i, i < 32 → (imB c k).getLsbD i = (decide (i < k) && c.getLsbD i) := by
  induction k with
  | zero => intro i _; simp [imB]
  | succ k ih =>
    intro i hi
    have hih := ih (by omega) i hi
    have h1 : ((1 : W) <<< k).getLsbD i = decide (i = k) := by
      rw [BitVec.getLsbD_shiftLeft]
      have : (1 : W).getLsbD (i - k) = decide (i - k = 0) := by simp [BitVec.getLsbD_one]
      rw [this]
      by_cases e : i = k
      · subst e; simp [hi]
      · by_cases g : i < k
        · simp [g]; omega
        · simp [hi, g, e]; omega
    simp only [imB]
    cases hc : c.getLsbD k
    · simp only [Bool.false_eq_true, if_false]
      rw [hih]
      by_cases e : i = k
      · subst e; simp [hc]
      · have : (i < k) ↔ (i < k + 1) := by omega
        simp [this]
    · simp only [if_true]
      rw [BitVec.getLsbD_xor, hih, h1]
      by_cases e : i = k
      · subst e; simp [hc]
      · have : (i < k) ↔ (i < k + 1) := by omega
        simp [this, e]
theorem imB_all (c : W) : imB c 32 = c := by
  apply BitVec.eq_of_getLsbD_eq; intro i hi
  rw [imB_bit c 32 (by omega) i hi]; simp [hi]
theorem im_basis (n : Nat) (c : W) (k : Nat) (hk : k ≤ 32) : im (basis n) c k = it n (imB c k) := by
  induction k with
  | zero => exact (it_zero n).symm
  | succ k ih =>
    simp only [im, imB]
    rw [ih (by omega), basis_wat n k (by omega)]
    split
    · rw [it_xor]
    · rfl
theorem im_all (n : Nat) (c : W) : im (basis n) c 32 = it n c := by rw [im_basis n c 32 (by omega), imB_all]
/-- a matrix whose words are images of images is the second power -/
theorem basis_twice (n i : Nat) (h : i < 32) : im (basis n) (wat (basis n) i) 32 = wat (basis (n + n)) i := by
  rw [im_all, basis_wat n i h, basis_wat (n + n) i h, ← it_add]

theorem info54 {T : List W} (h : T.length = 32) : (Try.prog.info? 54).map (·.size) = some (cellsW T).size := by
  rw [cellsW_size, h]; kernel_rfl
theorem cell1_w (w : World) (M : List W) (t : TypeId) (q : Nat) (h : q < M.length) : (w.alloc (.cells (cellsW M) t)).cell? ⟨w.heap.size, q, none⟩ = some (.int .u32 (V (wat M q))) := by
  rw [cell_of_row _ _ _ _ _ _ (heap_alloc_new w _), cellsW_get M q h]

set_option maxRecDepth 100000 in
set_option maxHeartbeats 400000 in
theorem image_any (M : List W) (hM : M.length = 32) (c : W) (w : World) :
    Calls Try.prog 39 #[.agg (cellsW M), .int .u32 (V c)] w fun e w' => e = .returned (.int .u32 (V (im M c 32))) ∧ Below w.heap.size w w' := by
  have HM := Lib.hid hM; clear hM
  go_enter Try.func39, Try.ntmps39
  go_wp2_with fail
  go_loop [5, 6] (fun x i => ∃ k : Nat, k ≤ 32 ∧ i = .int .i64 k ∧ x = .int .u32 (V (im M c k))) (fun _ i => 32 - (intOf i).toNat)
  case atStart => exact ⟨0, by omega, rfl, rfl⟩
  case round =>
    obtain ⟨k, hk, rfl, rfl⟩ := hrel
    by_cases hlt : k < 32
    · have hv := cell1_w w M 54 k (by rw [HM.out]; exact hlt)
      have hpb := word_bit c k
      cases hp : c.getLsbD k
      · rw [hp] at hpb
        have hp0 : bits .and .u32 (V c / 2 ^ k) 1 = 0 := hpb
        have HN : Hid (im M c (k + 1) = im M c k) := by show _ = _; simp only [im]; rw [hp]; rfl
        clear hpb hp
        go_wp2_with fail
        go_round
        case rel => exact ⟨k + 1, by omega, by go_num, by rw [HN.out]⟩
        case measure => simp [intOf]; omega
      · rw [hp] at hpb
        have hp1 : bits .and .u32 (V c / 2 ^ k) 1 = 1 := hpb
        have HN : Hid (im M c (k + 1) = im M c k ^^^ wat M k) := by show _ = _; simp only [im]; rw [hp]; rfl
        clear hpb hp
        go_wp2_with fail
        go_round
        case rel => exact ⟨k + 1, by omega, by go_num, by rw [HN.out, bits_xor_V]⟩
        case measure => simp [intOf]; omega
    · obtain rfl : k = 32 := by omega
      go_wp2_with fail
      go_ret
      exact ⟨rfl, (Below.refl _ _).alloc (Nat.le_refl _) _⟩

end Go.Proofs.Ytmmggkjfhiflaaa.Crc
