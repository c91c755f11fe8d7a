/-
  The walks of the document's four, Seal and Open.
-/
import Derived.Test.YtkjnddgjnlbopaaW8
import Derived.Deep.RegionHeld3
namespace Go.Proofs.Ytkjnddgjnlbopaa.Crc
open Go.RowKit

theorem carry {P : Program} {f : FuncId} {args : Array Value} {w0 w : World} {v : Ending} (h : Below w0.heap.size w0 w) (c : Calls P f args w (fun e w' => e = v ∧ Below w.heap.size w w')) :
    Calls P f args w (fun e w' => e = v ∧ Below w0.heap.size w0 w') :=
  c.mono fun _ _ ⟨he, hb⟩ => ⟨he, h.trans (hb.mono h.size)⟩
theorem u8_V (o : W) : strOfNums [V o % (256 : Int), V o / (256 : Int) % (256 : Int), V o / (65536 : Int) % (256 : Int), V o / (16777216 : Int) % (256 : Int)] = S (fourL o) := by
  rw [low_0, low_1, low_2, low_3]
  have hb : ∀ b : UInt8, UInt8.ofNat ((b.toNat : Int).toNat) = b := fun b => by rw [Int.toNat_natCast]; exact UInt8.ofNat_toNat
  unfold strOfNums S fourL
  simp only [List.map_cons, List.map_nil, hb]
/-- a literal of four bytes, as a text: in a function of one block -/
theorem conv_lit (W : World) (x0 x1 x2 x3 : Int) : (convert 110 9 (.slice (some ⟨W.heap.size, 0, none⟩) 4 4)).run Try.prog (W.alloc (.cells #[.int .u8 x0, .int .u8 x1, .int .u8 x2, .int .u8 x3] 5)) = .ok (.string (strOfNums [x0, x1, x2, x3])) (W.alloc (.cells #[.int .u8 x0, .int .u8 x1, .int .u8 x2, .int .u8 x3] 5)) := by
  refine run_convert_bytes_arg (P := Try.prog) _ 110 5 Try.underlying110 Try.underlying5 W.heap.size 0 4 4 [x0, x1, x2, x3] rfl (fun i hi => ?_) 9 Try.underlying9
  rw [Nat.zero_add, cell_of_row _ _ _ _ _ _ (heap_alloc_new W _)]
  have hi2 : i = 0 ∨ i = 1 ∨ i = 2 ∨ i = 3 := by omega
  rcases hi2 with rfl | rfl | rfl | rfl <;> rfl
set_option maxRecDepth 100000 in
set_option maxHeartbeats 400000 in
theorem four_any (a : W) (w : World) :
    Calls Try.prog 100 #[.int .u32 (V a)] w fun e w' => e = .returned (.string (S (fourL a))) ∧ Below w.heap.size w w' := by
  have hcv := conv_lit w
  go_enter Try.func100, Try.ntmps100
  go_wp2_with fail
  rw [u8_V a]
  go_ret
  exact ⟨rfl, (Below.refl _ w).alloc (Nat.le_refl _) _⟩

set_option maxHeartbeats 400000 in
theorem refOpen_short (s : ByteArray) (w : World) (hs : s.size < 4) :
    Calls Try.prog 88 #[.string s] w fun e w' => e = .returned (.tuple #[.string ⟨#[]⟩, .int .i64 8]) ∧ Below w.heap.size w w' := by
  go_enter Try.func88, Try.ntmps88
  go_wp2_with fail
  go_ret2
  exact ⟨rfl, Below.refl _ _⟩
set_option maxRecDepth 100000 in
set_option maxHeartbeats 400000 in
theorem refOpen_yes (s : ByteArray) (n : Nat) (w : World) (hn : s.size = n + 4) (hs : n ≤ 281474976710000) (hv : ((S (fourL (ofW (s.data.toList.take n)))).toList == (s.extract n (n + 4)).toList) = true) :
    Calls Try.prog 88 #[.string s] w fun e w' => e = .returned (.tuple #[.string (s.extract 0 n), .int .i64 0]) ∧ Below w.heap.size w w' := by
  have hu : (s.extract 0 n).size ≤ 281474976710000 := by rw [ByteArray.size_extract]; omega
  have e0 : (s.extract 0 n).data.toList = s.data.toList.take n := by rw [Lib.extract_data]; rfl
  go_enter Try.func88, Try.ntmps88
  go_wp2_with fail
  have hn0 : (0 : Int) ≤ (n : Int) := by omega
  have hn1 : (n : Int) ≤ (n : Int) + 4 := by omega
  have hb0 : Below w.heap.size w w := Below.refl _ w
  go_region_held3 (fun w' => Below w.heap.size w w') (first | exact Below.drew (by assumption) | assumption) (first | (go_at_call 72; refine (carry (by assumption) ((refOf_any (s.extract 0 n) _ (by unfold maxLen; omega)).mono fun e w' h => ⟨h.1, h.2 ▸ Below.refl _ _⟩)).mono ?_; rintro e w' ⟨rfl, hbw⟩) | (go_at_call 100; refine (carry (by assumption) (four_any _ _)).mono ?_; rintro e w' ⟨rfl, hbw⟩))
  go_wp2_with fail
  go_ret2
  exact ⟨rfl, hbw⟩
set_option maxRecDepth 100000 in
set_option maxHeartbeats 400000 in
theorem refOpen_no (s : ByteArray) (n : Nat) (w : World) (hn : s.size = n + 4) (hs : n ≤ 281474976710000) (hv : ((S (fourL (ofW (s.data.toList.take n)))).toList == (s.extract n (n + 4)).toList) = false) :
    Calls Try.prog 88 #[.string s] w fun e w' => e = .returned (.tuple #[.string ⟨#[]⟩, .int .i64 42]) ∧ Below w.heap.size w w' := by
  have hu : (s.extract 0 n).size ≤ 281474976710000 := by rw [ByteArray.size_extract]; omega
  have e0 : (s.extract 0 n).data.toList = s.data.toList.take n := by rw [Lib.extract_data]; rfl
  go_enter Try.func88, Try.ntmps88
  go_wp2_with fail
  have hn0 : (0 : Int) ≤ (n : Int) := by omega
  have hn1 : (n : Int) ≤ (n : Int) + 4 := by omega
  have hb0 : Below w.heap.size w w := Below.refl _ w
  go_region_held3 (fun w' => Below w.heap.size w w') (first | exact Below.drew (by assumption) | assumption) (first | (go_at_call 72; refine (carry (by assumption) ((refOf_any (s.extract 0 n) _ (by unfold maxLen; omega)).mono fun e w' h => ⟨h.1, h.2 ▸ Below.refl _ _⟩)).mono ?_; rintro e w' ⟨rfl, hbw⟩) | (go_at_call 100; refine (carry (by assumption) (four_any _ _)).mono ?_; rintro e w' ⟨rfl, hbw⟩))
  go_wp2_with fail
  go_ret2
  exact ⟨rfl, hbw⟩

/-- what the document's Open tells: as the code's own -/
theorem refOpen_any (s : ByteArray) (w : World) (hs : s.size ≤ 281474976710000) :
    Calls Try.prog 88 #[.string s] w fun e w' => (∃ (x : ByteArray) (k : Nat), e = .returned (.tuple #[.string x, .int .i64 (k : Int)]) ∧
      ((s.size < 4 ∧ x = S [] ∧ k = 8) ∨ (4 ≤ s.size ∧ s.data.toList.drop (s.size - 4) = fourL (ofW (s.data.toList.take (s.size - 4))) ∧ x = S (s.data.toList.take (s.size - 4)) ∧ k = 0) ∨
        (4 ≤ s.size ∧ s.data.toList.drop (s.size - 4) ≠ fourL (ofW (s.data.toList.take (s.size - 4))) ∧ x = S [] ∧ k = 42))) ∧ Below w.heap.size w w' := by
  by_cases h4 : s.size < 4
  · exact (refOpen_short s w h4).mono fun e w' ⟨he, hb⟩ => ⟨⟨S [], 8, he, Or.inl ⟨h4, rfl, rfl⟩⟩, hb⟩
  · obtain ⟨n, hn⟩ : ∃ n, s.size = n + 4 := ⟨s.size - 4, by omega⟩
    have en : s.size - 4 = n := by omega
    rw [en]
    have e1 : (s.extract n (n + 4)).toList = s.data.toList.drop n := by
      rw [ByteArray.toList_eq, Lib.extract_data, List.take_of_length_le]
      rw [List.length_drop, Array.length_toList]
      have : s.data.size = n + 4 := hn
      omega
    have e2 : s.extract 0 n = S (s.data.toList.take n) := by
      apply ByteArray.ext
      apply Array.toList_inj.1
      rw [Lib.extract_data]; rfl
    have e3 : (S (fourL (ofW (s.data.toList.take n)))).toList = fourL (ofW (s.data.toList.take n)) := by rw [ByteArray.toList_eq]; rfl
    by_cases hv : s.data.toList.drop n = fourL (ofW (s.data.toList.take n))
    · exact (refOpen_yes s n w hn (by omega) (by rw [e1, e3, hv]; exact beq_self_eq_true _)).mono fun e w' ⟨he, hb⟩ => ⟨⟨_, 0, he, Or.inr (Or.inl ⟨by omega, hv, e2, rfl⟩)⟩, hb⟩
    · exact (refOpen_no s n w hn (by omega) (by rw [e1, e3]; exact beq_eq_false_iff_ne.2 (fun h => hv h.symm))).mono fun e w' ⟨he, hb⟩ => ⟨⟨S [], 42, he, Or.inr (Or.inr ⟨by omega, hv, rfl, rfl⟩)⟩, hb⟩

end Go.Proofs.Ytkjnddgjnlbopaa.Crc
