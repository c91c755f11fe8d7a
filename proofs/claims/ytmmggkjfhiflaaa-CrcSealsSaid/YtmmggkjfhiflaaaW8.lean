/-
  The walks of Clone, Seal and Open.
-/
import Derived.Test.YtmmggkjfhiflaaaW7
import Derived.Lib.Strings
import Derived.Lib.Walk
import Derived.Lib.BufferWrite
import Derived.Lib.UnsafeStr
import Derived.Laws.MakeOwn
namespace Go.Proofs.Ytmmggkjfhiflaaa.Crc
open Go.RowKit

theorem info5 : (Try.prog.info? 5).map (fun i => (i.zero, i.size, i.bytes)) = some (some (.int .u8 0), 1, 1) := by kernel_rfl

set_option maxHeartbeats 4000000 in
set_option maxRecDepth 100000 in
theorem liteClone_any (s : ByteArray) (w : World) (hlim : s.size ≤ 281474976710656) :
    Calls Try.prog 42 #[.string s] w fun e w' => e = .returned (.string s) ∧ Below w.heap.size w w' := by
  by_cases h0 : s.size = 0
  · have hs : s = ⟨#[]⟩ := by
      apply ByteArray.ext
      exact Array.eq_empty_of_size_eq_zero h0
    subst hs
    go_enter Try.func42, Try.ntmps42
    go_wp2
    go_ret
    exact ⟨rfl, Below.refl _ _⟩
  · obtain ⟨i0, hi, hz0, hz1, hz2⟩ := info_parts info5
    have hinfo : (Try.prog.info? 5).map (·.size) = some 1 := by rw [hi]; simp [hz1]
    have hco : Try.prog.cellsOf 5 = 1 := by simp [Program.cellsOf, hi, hz1]
    obtain ⟨M, hM⟩ : ∃ M, M = madeCells (Value.int .u8 0).cells (((s.size : Nat) : Int).toNat * i0.size) := ⟨_, rfl⟩
    have hMs : M.size = s.size := by rw [hM, size_madeCells, hz1]; simp
    have hmk : ∀ W : World, (Instr.makeSlice 42 (.int .i64 (s.size : Int)) (.int .i64 (s.size : Int))).run Try.prog W = .ok (.slice (some ⟨W.heap.size, 0, none⟩) s.size s.size) (W.alloc (.cells M 5)) := fun W => by
      have h := run_make (P := Try.prog) W 42 5 i0 (.int .u8 0) Try.underlying42 hi hz0 .i64 .i64 (s.size : Int) (s.size : Int) (by omega) (by omega) (by rw [hz2]; omega) (by omega)
      rw [← hM] at h
      simpa using h
    clear hM
    have hcp := Lib.run_copy_row_string (P := Try.prog) (w.alloc (.cells M 5)) 42 9 3 5 w.heap.size 0 s.size s.size s M 5 Try.underlying42 hinfo (heap_alloc_new w _) (Nat.le_refl _) (by omega)
    obtain ⟨Y, hY⟩ : ∃ Y, Y = (M.toList.take 0 ++ Lib.byteCells s.data.toList ++ M.toList.drop (0 + s.size)).toArray := ⟨_, rfl⟩
    rw [← hY] at hcp
    have hYl : Y.toList = Lib.byteCells s.data.toList := by
      rw [hY, List.toList_toArray, List.take_zero, List.nil_append, List.drop_of_length_le (by rw [Array.length_toList]; omega), List.append_nil]
    have hYs : Y.size = s.size := by rw [← Array.length_toList, hYl, Lib.byteCells_length, ← Lib.size_eq]
    have hgY : ((w.alloc (.cells M 5)).setRow w.heap.size Y).heap[w.heap.size]? = some (.cells Y 5 (0, 0)) := setRow_heap _ _ M _ 5 (0, 0) (heap_alloc_new w _)
    have hne : s.data.toList ≠ [] := fun e => h0 (by rw [Lib.size_eq, e]; rfl)
    have hUS := Lib.run_unsafeString_row (P := Try.prog) ((w.alloc (.cells M 5)).setRow w.heap.size Y) 59 3 9 5 Try.underlying59 hco w.heap.size Y.size (by unfold World.shape?; rw [hgY]) s.data.toList hne (by rw [← Lib.size_eq]; omega) (by rw [← Lib.size_eq]; omega)
      (fun j x hx => Lib.cells_of_row hgY Y.size j _ (by rw [List.take_of_length_le (by rw [Array.length_toList]; exact Nat.le_refl _), hYl]; simp [Lib.byteCells, hx]))
    rw [← Lib.size_eq] at hUS
    clear hY
    go_enter Try.func42, Try.ntmps42
    go_wp2
    go_ret
    have hb1 : Below w.heap.size w (w.alloc (.cells M 5)) := (Below.refl _ w).alloc (Nat.le_refl _) _
    have hb2 : Below w.heap.size (w.alloc (.cells M 5)) ((w.alloc (.cells M 5)).setRow w.heap.size Y) := ⟨rfl, rfl, rfl, by simp, fun k hk => setRow_other _ _ _ _ (by omega)⟩
    exact ⟨rfl, Lib.below_freeze (hb1.trans hb2) (p := ⟨w.heap.size, 0, none⟩) (Nat.le_refl _) _⟩
theorem clone_any (s : ByteArray) (w : World) (hlim : s.size ≤ 281474976710656) :
    Calls Try.prog 33 #[.string s] w fun e w' => e = .returned (.string s) ∧ Below w.heap.size w w' := by
  go_enter Try.func33, Try.ntmps33
  go_wp2_with (go_at_call 42; refine (liteClone_any s _ hlim).mono ?_; rintro e w1 ⟨rfl, hb1⟩)
  go_ret
  exact ⟨rfl, hb1⟩

/-- a text of bytes -/
def S (l : List UInt8) : ByteArray := ⟨l.toArray⟩
theorem S_list (l : List UInt8) : (S l).data.toList = l := rfl
theorem S_size (l : List UInt8) : (S l).size = l.length := by unfold S; simp [ByteArray.size]
theorem conv_bytes (w : World) (b off n cap : Nat) (l : List UInt8) (hn : n = l.length) (hc : ∀ i (h : i < l.length), w.cell? ⟨b, off + i, none⟩ = some (.int .u8 (l[i].toNat : Int))) :
    (convert 42 9 (.slice (some ⟨b, off, none⟩) n cap)).run Try.prog w = .ok (.string (S l)) w := by
  subst hn
  have h := run_convert_bytes_arg (P := Try.prog) w 42 5 Try.underlying42 Try.underlying5 b off l.length cap (l.map fun x => (x.toNat : Int)) (by simp)
    (fun i hi => by rw [hc i hi]; simp [List.getD, hi]) 9 Try.underlying9
  rw [h]
  congr 2
  unfold strOfNums S
  rw [List.map_map]
  congr 2
  conv => rhs; rw [← List.map_id l]
  apply List.map_congr_left
  intro x _
  show UInt8.ofNat ((x.toNat : Int).toNat) = x
  rw [Int.toNat_natCast]; exact UInt8.ofNat_toNat

def sealS (s : ByteArray) : ByteArray := s ++ S (fourL (ofW s.data.toList))
theorem sealS_list (s : ByteArray) : (sealS s).data.toList = s.data.toList ++ fourL (ofW s.data.toList) := by
  unfold sealS; simp [S]
theorem sealS_size (s : ByteArray) : (sealS s).size = s.size + 4 := by
  unfold sealS; rw [ByteArray.size_append, S_size]; rfl
set_option maxRecDepth 100000 in
set_option maxHeartbeats 400000 in
theorem seal_any (s : ByteArray) (w : World) (hs : s.size ≤ 281474976710656) :
    Calls Try.prog 26 #[.string s] w fun e w' => e = .returned (.string (sealS s)) ∧ Below w.heap.size w w' := by
  have hz := zero49
  go_enter Try.func26, Try.ntmps26
  go_wp2_with fail
  refine (of_any s _ (by unfold maxLen; omega)).mono ?_; rintro e w1 ⟨rfl, hb1⟩
  go_wp2_with fail
  refine (low_any _ _).mono ?_; rintro e w2 ⟨rfl, hb2⟩
  have hcv := conv_bytes (w2.alloc (.cells (cellsB (fourL (ofW s.data.toList))) 49)) w2.heap.size 0 4 4 (fourL (ofW s.data.toList)) rfl (fun i hi => by
    rw [Nat.zero_add, cell_of_row _ _ _ _ _ _ (heap_alloc_new w2 _)]; exact cellsB_get _ i hi)
  have hS4 : (S (fourL (ofW s.data.toList))).size = 4 := rfl
  go_wp2_with (refine wpList_store_row rfl 49 _ _ rfl _ (cellsB (fourL (ofW s.data.toList))) rfl rfl 49 _ (heap_alloc_new _ _) (info49 rfl) (by rw [cellsB_size]; rfl) (cellsB_one _) ?_; rw [setRow_alloc])
  go_ret
  exact ⟨rfl, ((hb1.trans (hb2.mono hb1.size)).alloc (Nat.le_trans hb1.size hb2.size) _)⟩


set_option maxHeartbeats 400000 in
theorem open_short (s : ByteArray) (w : World) (hs : s.size < 4) :
    Calls Try.prog 15 #[.string s] w fun e w' => e = .returned (.tuple #[.string ⟨#[]⟩, .int .i64 8]) ∧ Below w.heap.size w w' := by
  go_enter Try.func15, Try.ntmps15
  go_wp2_with fail
  go_ret2
  exact ⟨rfl, Below.refl _ _⟩
set_option maxRecDepth 100000 in
set_option maxHeartbeats 400000 in
theorem open_yes (s : ByteArray) (n : Nat) (w : World) (hn : s.size = n + 4) (hs : n ≤ 281474976710000) (hv : ((s.extract n (n + 4)).toList == (S (fourL (ofW (s.data.toList.take n)))).toList) = true) :
    Calls Try.prog 15 #[.string s] w fun e w' => e = .returned (.tuple #[.string (s.extract 0 n), .int .i64 0]) ∧ Below w.heap.size w w' := by
  have hz := zero49
  have hu : (s.extract 0 n).size ≤ 281474976710000 := by rw [ByteArray.size_extract]; omega
  go_enter Try.func15, Try.ntmps15
  go_wp2_with fail
  refine (of_any _ _ (by unfold maxLen; omega)).mono ?_; rintro e w1 ⟨rfl, hb1⟩
  go_wp2_with fail
  refine (low_any _ _).mono ?_; rintro e w2 ⟨rfl, hb2⟩
  have HB : Hid (Below w.heap.size w (w2.alloc (.cells (cellsB (fourL (ofW (s.data.toList.take n)))) 49))) := ((hb1.trans (hb2.mono hb1.size)).alloc (Nat.le_trans hb1.size hb2.size) _)
  generalize hF : fourL (ofW (s.data.toList.take n)) = F at *
  have hF4 : F.length = 4 := by rw [← hF]; rfl
  have HF := Lib.hid hF; have HF4 := Lib.hid hF4; clear hF hF4 hb1 hb2
  have hcv := fun m => conv_bytes ((w2.alloc (.cells (cellsB F) 49)).drewN m) w2.heap.size 0 4 4 F HF4.out.symm (fun i hi => by
    rw [Nat.zero_add, World.cell?_drewN, cell_of_row _ _ _ _ _ _ (heap_alloc_new w2 _)]; exact cellsB_get _ i hi)
  go_wp2_with (refine wpList_store_row rfl 49 _ _ rfl _ (cellsB F) rfl rfl 49 _ (heap_alloc_new _ _) (info49 HF4.out) (by rw [cellsB_size, HF4.out]; rfl) (cellsB_one _) ?_; rw [setRow_alloc])
  have hn0 : (0 : Int) ≤ (n : Int) := by omega
  have hn1 : (n : Int) ≤ (n : Int) + 4 := by omega
  go_quiet (fail)
  go_wp2_with fail
  refine (clone_any _ _ (by omega)).mono ?_; rintro e w3 ⟨rfl, hb3⟩
  go_wp2_with fail
  go_ret2
  exact ⟨rfl, (below_drewN HB.out nq).trans (hb3.mono (Nat.le_trans HB.out.size (Nat.le_refl _)))⟩

set_option maxRecDepth 100000 in
set_option maxHeartbeats 400000 in
theorem open_no (s : ByteArray) (n : Nat) (w : World) (hn : s.size = n + 4) (hs : n ≤ 281474976710000) (hv : ((s.extract n (n + 4)).toList == (S (fourL (ofW (s.data.toList.take n)))).toList) = false) :
    Calls Try.prog 15 #[.string s] w fun e w' => e = .returned (.tuple #[.string ⟨#[]⟩, .int .i64 42]) ∧ Below w.heap.size w w' := by
  have hz := zero49
  have hu : (s.extract 0 n).size ≤ 281474976710000 := by rw [ByteArray.size_extract]; omega
  go_enter Try.func15, Try.ntmps15
  go_wp2_with fail
  refine (of_any _ _ (by unfold maxLen; omega)).mono ?_; rintro e w1 ⟨rfl, hb1⟩
  go_wp2_with fail
  refine (low_any _ _).mono ?_; rintro e w2 ⟨rfl, hb2⟩
  have HB : Hid (Below w.heap.size w (w2.alloc (.cells (cellsB (fourL (ofW (s.data.toList.take n)))) 49))) := ((hb1.trans (hb2.mono hb1.size)).alloc (Nat.le_trans hb1.size hb2.size) _)
  generalize hF : fourL (ofW (s.data.toList.take n)) = F at *
  have hF4 : F.length = 4 := by rw [← hF]; rfl
  have HF := Lib.hid hF; have HF4 := Lib.hid hF4; clear hF hF4 hb1 hb2
  have hcv := fun m => conv_bytes ((w2.alloc (.cells (cellsB F) 49)).drewN m) w2.heap.size 0 4 4 F HF4.out.symm (fun i hi => by
    rw [Nat.zero_add, World.cell?_drewN, cell_of_row _ _ _ _ _ _ (heap_alloc_new w2 _)]; exact cellsB_get _ i hi)
  go_wp2_with (refine wpList_store_row rfl 49 _ _ rfl _ (cellsB F) rfl rfl 49 _ (heap_alloc_new _ _) (info49 HF4.out) (by rw [cellsB_size, HF4.out]; rfl) (cellsB_one _) ?_; rw [setRow_alloc])
  have hn0 : (0 : Int) ≤ (n : Int) := by omega
  have hn1 : (n : Int) ≤ (n : Int) + 4 := by omega
  go_quiet (fail)
  go_wp2_with fail
  go_ret2
  exact ⟨rfl, below_drewN HB.out nq⟩


/-- what Open tells -/
theorem open_any (s : ByteArray) (w : World) (hs : s.size ≤ 281474976710000) :
    Calls Try.prog 15 #[.string s] w fun e w' => (∃ (x : ByteArray) (k : Nat), e = .returned (.tuple #[.string x, .int .i64 (k : Int)]) ∧
      ((s.size < 4 ∧ x = S [] ∧ k = 8) ∨ (4 ≤ s.size ∧ s.data.toList.drop (s.size - 4) = fourL (ofW (s.data.toList.take (s.size - 4))) ∧ x = S (s.data.toList.take (s.size - 4)) ∧ k = 0) ∨
        (4 ≤ s.size ∧ s.data.toList.drop (s.size - 4) ≠ fourL (ofW (s.data.toList.take (s.size - 4))) ∧ x = S [] ∧ k = 42))) ∧ Below w.heap.size w w' := by
  by_cases h4 : s.size < 4
  · exact (open_short s w h4).mono fun e w' ⟨he, hb⟩ => ⟨⟨S [], 8, he, Or.inl ⟨h4, rfl, rfl⟩⟩, hb⟩
  · obtain ⟨n, hn⟩ : ∃ n, s.size = n + 4 := ⟨s.size - 4, by omega⟩
    have en : s.size - 4 = n := by omega
    rw [en]
    have e1 : (s.extract n (n + 4)).toList = s.data.toList.drop n := by
      rw [ByteArray.toList_eq, Lib.extract_data, List.take_of_length_le]
      rw [List.length_drop, Array.length_toList]
      have : s.data.size = n + 4 := hn
      omega
    have e2 : s.extract 0 n = S (s.data.toList.take n) := by
      apply ByteArray.ext
      apply Array.toList_inj.1
      rw [Lib.extract_data]; rfl
    have e3 : (S (fourL (ofW (s.data.toList.take n)))).toList = fourL (ofW (s.data.toList.take n)) := by rw [ByteArray.toList_eq]; rfl
    by_cases hv : s.data.toList.drop n = fourL (ofW (s.data.toList.take n))
    · exact (open_yes s n w hn (by omega) (by rw [e1, e3, hv]; exact beq_self_eq_true _)).mono fun e w' ⟨he, hb⟩ => ⟨⟨_, 0, he, Or.inr (Or.inl ⟨by omega, hv, e2, rfl⟩)⟩, hb⟩
    · exact (open_no s n w hn (by omega) (by rw [e1, e3]; exact beq_eq_false_iff_ne.2 hv)).mono fun e w' ⟨he, hb⟩ => ⟨⟨S [], 42, he, Or.inr (Or.inr ⟨by omega, hv, rfl, rfl⟩)⟩, hb⟩

end Go.Proofs.Ytmmggkjfhiflaaa.Crc
