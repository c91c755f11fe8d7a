/-
  The walk of the statement WireNames.
-/
import Derived.Test.YtdllncbacbpedaaBN
import Derived.Deep.DeepCutAuto
namespace Go.Proofs.Ytdllncbacbpedaa.Wire
open Go.RowKit

def nums20 : List Nat := [0, 127, 128, 16383, 16384, 2097151, 2097152, 268435455, 268435456, 34359738367, 34359738368, 4398046511103, 4398046511104, 562949953421311, 562949953421312, 72057594037927935, 72057594037927936, 9223372036854775807, 9223372036854775808, 18446744073709551615]
def numV : Array Value := (nums20.map fun n => Value.int .u64 (U n)).toArray
theorem numV_get (k : Nat) (hk : k < 20) : numV[k]? = some (.int .u64 (U (nums20.getD k 0))) := by
  unfold numV
  rw [List.getElem?_toArray, List.getElem?_map]
  have hl : nums20.length = 20 := rfl
  rw [List.getElem?_eq_getElem (by omega), Option.map_some, List.getD_eq_getElem?_getD, List.getElem?_eq_getElem (by omega)]; rfl
theorem num_lt (k : Nat) (hk : k < 20) : nums20.getD k 0 < 18446744073709551616 := by
  have all : ∀ j : Fin 20, nums20.getD j.val 0 < 18446744073709551616 := by decide +kernel
  exact all ⟨k, hk⟩

theorem S_x (l : List UInt8) : S l ++ ⟨#[120]⟩ = S (l ++ [120]) := by
  apply ByteArray.ext
  rw [ByteArray.data_append]
  unfold S; simp
theorem nm_sh (n : Nat) (hn : n < 18446744073709551616) : shR (S (shortB n ++ [120])) 0 0 n = (n, (S (shortB n)).size, 0) := by
  unfold shR
  rw [if_pos rfl, List.drop_zero, S_list, scan_shortB n [120] hn, if_neg (by show ¬ n < n; omega), S_size]
  show (n, 0 + _, 0) = _
  rw [Nat.zero_add]
theorem nm_wr (n : Nat) (hn : n < 18446744073709551616) (h0 : 0 < n) : shR (S (shortB n)) 0 0 (n - 1) = (0, 0, 40) := by
  unfold shR
  have h := scan_shortB n [] hn
  rw [List.append_nil] at h
  rw [if_pos rfl, List.drop_zero, S_list, h, if_pos (by show n - 1 < n; omega)]
theorem nm_raw (n : Nat) : tkT (S (shortB n ++ [120])) (S (shortB n)).size 0 1 = ⟨#[120]⟩ := by
  have hs : (S (shortB n ++ [120])).size = (S (shortB n)).size + 1 := by rw [S_size, S_size, List.length_append]; rfl
  unfold tkT
  rw [if_pos ⟨rfl, by omega⟩]
  apply ByteArray.ext; apply Array.toList_inj.1
  rw [Lib.extract_data, S_list, S_size, List.drop_left, Nat.add_sub_cancel_left]; rfl
theorem nm_rawI (n : Nat) : tkI (S (shortB n ++ [120])) (S (shortB n)).size 0 1 = (S (shortB n)).size + 1 := by
  have hs : (S (shortB n ++ [120])).size = (S (shortB n)).size + 1 := by rw [S_size, S_size, List.length_append]; rfl
  unfold tkI; rw [if_pos ⟨rfl, by omega⟩]
theorem nm_rawE (n : Nat) : tkE (S (shortB n ++ [120])) (S (shortB n)).size 0 1 = 0 := by
  have hs : (S (shortB n ++ [120])).size = (S (shortB n)).size + 1 := by rw [S_size, S_size, List.length_append]; rfl
  unfold tkE; rw [if_pos rfl, if_pos (by omega)]

def L13 : List UInt8 := [255, 128, 0, 0, 0, 128, 0, 0, 0, 0, 0, 0, 1]
theorem L13_eq : ((([] ++ fixB 1 255) ++ fixB 4 2147483648) ++ fixB 8 9223372036854775809) ++ (⟨#[]⟩ : ByteArray).data.toList = L13 := by decide +kernel
theorem q1 : fxV (S L13) 0 0 1 = 255 ∧ tkI (S L13) 0 0 1 = 1 ∧ tkE (S L13) 0 0 1 = 0 := by decide +kernel
theorem q2 : fxV (S L13) 1 0 4 = 2147483648 ∧ tkI (S L13) 1 0 4 = 5 ∧ tkE (S L13) 1 0 4 = 0 := by decide +kernel
theorem q3 : fxV (S L13) 5 0 8 = 9223372036854775809 ∧ tkI (S L13) 5 0 8 = 13 ∧ tkE (S L13) 5 0 8 = 0 := by decide +kernel
theorem q4 : tkT (S L13) 13 0 0 = ⟨#[]⟩ ∧ tkI (S L13) 13 0 0 = 13 ∧ tkE (S L13) 13 0 0 = 0 := by decide +kernel
theorem q5 : txR (S L13) 13 0 5 = (⟨#[]⟩, 13, 8) := by decide +kernel
theorem q6 : txR ⟨#[3, 97, 98]⟩ 0 0 2 = (⟨#[]⟩, 0, 40) := by decide +kernel
theorem q7 : txR ⟨#[0, 1]⟩ 0 0 0 = (⟨#[]⟩, 1, 0) := by decide +kernel
theorem q8 : txR ⟨#[0, 1]⟩ 1 0 0 = (⟨#[]⟩, 1, 40) := by decide +kernel
theorem wn1 (w : World) : Calls Try.prog 17 #[.string ⟨#[]⟩, .int .u64 9, .int .i64 8] w fun e w' => e = .returned (.bool true) ∧ Below w.heap.size w w' := wrong_law _ 9 9 rfl 8 8 rfl (by decide) (by decide) (by decide +kernel) w
theorem wn2 (w : World) : Calls Try.prog 17 #[.string ⟨#[128]⟩, .int .u64 9, .int .i64 8] w fun e w' => e = .returned (.bool true) ∧ Below w.heap.size w w' := wrong_law _ 9 9 rfl 8 8 rfl (by decide) (by decide) (by decide +kernel) w
theorem wn3 (w : World) : Calls Try.prog 17 #[.string ⟨#[128, 128, 0]⟩, .int .u64 9, .int .i64 4] w fun e w' => e = .returned (.bool true) ∧ Below w.heap.size w w' := wrong_law _ 9 9 rfl 4 4 rfl (by decide) (by decide) (by decide +kernel) w
theorem wn4 (w : World) : Calls Try.prog 17 #[.string ⟨#[255, 255, 255, 255, 255, 255, 255, 255, 255, 255, 1]⟩, .int .u64 18446744073709551615, .int .i64 4] w fun e w' => e = .returned (.bool true) ∧ Below w.heap.size w w' := wrong_law _ 18446744073709551615 18446744073709551615 rfl 4 4 rfl (by decide) (by decide) (by decide +kernel) w
theorem z0 (w : World) : Calls Try.prog 12 #[.int .u64 0] w fun e w' => e = .returned (.int .i64 1) ∧ w = w' := size_any 0 w (by show _ < _; omega)
theorem z128 (w : World) : Calls Try.prog 12 #[.int .u64 128] w fun e w' => e = .returned (.int .i64 2) ∧ w = w' := by
  have h := size_any 128 w (by show _ < _; omega)
  rw [show sizeN 128 = 2 by decide +kernel] at h; exact h
theorem zbig (w : World) : Calls Try.prog 12 #[.int .u64 18446744073709551615] w fun e w' => e = .returned (.int .i64 10) ∧ w = w' := by
  have h := size_any 18446744073709551615 w (by show _ < _; omega)
  rw [show sizeN 18446744073709551615 = 10 by decide +kernel] at h; exact h
theorem Rd.beside {w w' : World} {r q : Nat} {s : ByteArray} {i e : Nat} (h : Rd w r s i e) (k : w.grownBy w' (some q)) (hne : r ≠ q) : Rd w' r s i e := (k.block r (row_lt h) (fun e => hne (by injection e))).trans h
theorem Rd.below {w w' : World} {r : Nat} {s : ByteArray} {i e : Nat} (h : Rd w r s i e) (k : Below w.heap.size w w') : Rd w' r s i e := (k.block r (row_lt h)).trans h

structure NI (w : World) (g : Nat) (wr : World) : Prop where
  bel : Below w.heap.size w wr
  row : wr.heap[g]? = some (.cells numV 23 (0, 0))
theorem NI.below {w wr w' : World} {g : Nat} (h : NI w g wr) (k : Below wr.heap.size wr w') : NI w g w' := ⟨h.bel.trans (k.mono h.bel.size), (k.block g (row_lt h.row)).trans h.row⟩

set_option maxRecDepth 100000 in
set_option maxHeartbeats 4000000 in
theorem wireNames_walk (w : World) :
    Calls Try.prog 3 #[] w fun e w' => e = .returned (.bool true) ∧ Below w.heap.size w w' := by
  go_enter Try.func3, Try.ntmps3
  go_wp2_with fail
  refine (works_any w).mono ?_; rintro e w1 ⟨rfl, hb1⟩
  have HB1 := Lib.hid hb1; clear hb1
  go_wp2_with fail
  have HN : Hid (NI w w1.heap.size (w1.alloc (Obj.cells #[Value.int IntKind.u64 0, Value.int IntKind.u64 127, Value.int IntKind.u64 128, Value.int IntKind.u64 16383, Value.int IntKind.u64 16384, Value.int IntKind.u64 2097151, Value.int IntKind.u64 2097152, Value.int IntKind.u64 268435455, Value.int IntKind.u64 268435456, Value.int IntKind.u64 34359738367, Value.int IntKind.u64 34359738368, Value.int IntKind.u64 4398046511103, Value.int IntKind.u64 4398046511104, Value.int IntKind.u64 562949953421311, Value.int IntKind.u64 562949953421312, Value.int IntKind.u64 72057594037927935, Value.int IntKind.u64 72057594037927936, Value.int IntKind.u64 9223372036854775807, Value.int IntKind.u64 9223372036854775808, Value.int IntKind.u64 18446744073709551615] 23))) := ⟨HB1.out.alloc HB1.out.size _, heap_alloc_new w1 _⟩
  generalize w1.alloc (Obj.cells #[Value.int IntKind.u64 0, Value.int IntKind.u64 127, Value.int IntKind.u64 128, Value.int IntKind.u64 16383, Value.int IntKind.u64 16384, Value.int IntKind.u64 2097151, Value.int IntKind.u64 2097152, Value.int IntKind.u64 268435455, Value.int IntKind.u64 268435456, Value.int IntKind.u64 34359738367, Value.int IntKind.u64 34359738368, Value.int IntKind.u64 4398046511103, Value.int IntKind.u64 4398046511104, Value.int IntKind.u64 562949953421311, Value.int IntKind.u64 562949953421312, Value.int IntKind.u64 72057594037927935, Value.int IntKind.u64 72057594037927936, Value.int IntKind.u64 9223372036854775807, Value.int IntKind.u64 9223372036854775808, Value.int IntKind.u64 18446744073709551615] 23) = W0 at *
  generalize w1.heap.size = g at *
  go_loopw [19] (fun j wr => ∃ k : Nat, k ≤ 20 ∧ j = .int .i64 k ∧ Hid (NI w g wr)) (fun j _ => 20 - (intOf j).toNat)
  case atStart => exact ⟨0, by omega, rfl, HN⟩
  case round =>
    obtain ⟨k, hk, rfl, HNk⟩ := hrel
    by_cases hlt : k < 20
    · have hc : wr.cell? ⟨g, k, none⟩ = some (.int .u64 (U (nums20.getD k 0))) := (cell_row HNk.out.row k).trans (numV_get k hlt)
      have HL : Hid (nums20.getD k 0 < 18446744073709551616) := num_lt k hlt
      have hk20 : (k : Int) < 20 := by omega
      generalize nums20.getD k 0 = n at *
      have H1 := Lib.hid (fun w => short_law n HL w)
      have H2 := Lib.hid (fun w => size_any n w HL)
      have HX := Lib.hid (nm_sh n HL.out)
      have HXW := Lib.hid (nm_wr n HL.out)
      have HXR := Lib.hid (nm_raw n)
      have HXI := Lib.hid (nm_rawI n)
      have HXE := Lib.hid (nm_rawE n)
      have HSX := Lib.hid (S_x (shortB n))
      have HSZ : Hid (sizeN n = (S (shortB n)).size) := by show _ = _; rw [S_size, shortB_size n HL.out]
      have HYS : Hid ((S (shortB n ++ [120])).size = (S (shortB n)).size + 1) := by show _ = _; rw [S_size, S_size, List.length_append]; rfl
      have HX10 : Hid ((S (shortB n)).size ≤ 10) := by have := shortB_len n HL.out; show _ ≤ _; rw [S_size]; exact this
      have hx10 := HX10.out
      generalize hX : S (shortB n) = X at *
      generalize hY : S (shortB n ++ [120]) = Y at *
      have HXX := Lib.hid hX; have HYY := Lib.hid hY; clear hX hY
      by_cases h0 : 0 < n
      · have hp : 0 < U n := by unfold U; omega
        have hwr : IntKind.u64.wrap (U n - 1) = U (n - 1) := by have := HL.out; rw [IntKind.wrap_u64]; unfold U; omega
        have HW := Lib.hid (HXW.out h0)
        clear h0
        go_wp2_with fail
        refine (H1.out _).mono ?_; rintro e w2 ⟨rfl, hb2⟩
        have HN2 := Lib.hid (HNk.out.below hb2); clear hb2
        go_wp2_with fail
        rw [HSX.out]
        refine (new_any Y w2).mono ?_; rintro e w3 ⟨rfl, rfl⟩
        have HR := Lib.hid (Rd.new Y w2)
        have HY12 : Hid (Y.size ≤ 1000000000000) := by have := HYS.out; show _ ≤ _; omega
        have HXY : Hid (X.size ≤ Y.size) := by have := HYS.out; show _ ≤ _; omega
        have HB2 : Hid (Below w2.heap.size w2 (w2.alloc (.cells (rdS Y 0 0) 73))) := (Below.refl _ _).alloc (Nat.le_refl _) _
        go_wp2_with fail
        refine (H2.out _).mono ?_; rintro e w3 ⟨rfl, rfl⟩
        rw [HSZ.out]
        go_wp2_with fail
        refine (rShort_any w2.heap.size Y 0 0 n _ HR.out (Nat.zero_le _) HY12.out).mono ?_; rintro e w4 ⟨rfl, hst⟩
        rw [HX.out] at hst ⊢
        have HST := Lib.hid hst; clear hst
        go_wp2_with fail
        refine (left_any w2.heap.size Y X.size 0 w4 HST.out.1 HXY.out HY12.out).mono ?_; rintro e w5 ⟨rfl, n5, rfl⟩
        have hl1 : (Y.size : Int) - (X.size : Int) = 1 := by have := HYS.out; omega
        rw [hl1]; clear hl1
        go_wp2_with fail
        refine (end_any w2.heap.size Y X.size 0 (w4.drewN n5) HST.out.1 HXY.out HY12.out).mono ?_; rintro e w6 ⟨rfl, n6, rfl⟩
        have he4 : endE Y X.size 0 = 4 := if_pos ⟨rfl, by have := HYS.out; omega⟩
        rw [he4]; clear he4
        go_wp2_with fail
        have HSTd : Hid (Step (w2.alloc (.cells (rdS Y 0 0) 73)) (w4.drewN (n5 + n6)) w2.heap.size Y X.size 0) := HST.out.drewN _
        refine (rraw_any w2.heap.size Y X.size 0 1 (w4.drewN (n5 + n6)) HSTd.out.1 HXY.out HY12.out).mono ?_; rintro e w7 ⟨rfl, hst⟩
        have e1 : (1 : Int).toNat = 1 := rfl
        rw [e1, HXI.out, HXE.out] at hst
        rw [e1, HXR.out]; clear e1
        have HST7 := Lib.hid (HSTd.out.trans hst); clear hst
        go_wp2_with fail
        refine (end_any w2.heap.size Y (X.size + 1) 0 w7 HST7.out.1 (by have := HYS.out; omega) HY12.out).mono ?_; rintro e w8 ⟨rfl, n8, rfl⟩
        have he0 : endE Y (X.size + 1) 0 = 0 := if_neg (by have := HYS.out; omega)
        rw [he0]; clear he0
        have HN8 : Hid (NI w g (w7.drewN n8)) := HN2.out.below (HB2.out.trans (step_low (HST7.out.drewN n8) (Nat.le_refl _) (by simp)))
        go_wp2_with fail
        refine (wrong_law X (n - 1) _ rfl 40 40 rfl (by omega) (by decide) HW.out _).mono ?_; rintro e w9 ⟨rfl, hb9⟩
        have HN9 := Lib.hid (HN8.out.below hb9); clear hb9
        go_wp2_with fail
        go_roundw
        case rel => exact ⟨k + 1, by omega, by go_num, HN9⟩
        case measure => simp [intOf] <;> omega
      · have hp : U n ≤ 0 := by unfold U; omega
        clear h0
        go_wp2_with fail
        refine (H1.out _).mono ?_; rintro e w2 ⟨rfl, hb2⟩
        have HN2 := Lib.hid (HNk.out.below hb2); clear hb2
        go_wp2_with fail
        rw [HSX.out]
        refine (new_any Y w2).mono ?_; rintro e w3 ⟨rfl, rfl⟩
        have HR := Lib.hid (Rd.new Y w2)
        have HY12 : Hid (Y.size ≤ 1000000000000) := by have := HYS.out; show _ ≤ _; omega
        have HXY : Hid (X.size ≤ Y.size) := by have := HYS.out; show _ ≤ _; omega
        have HB2 : Hid (Below w2.heap.size w2 (w2.alloc (.cells (rdS Y 0 0) 73))) := (Below.refl _ _).alloc (Nat.le_refl _) _
        go_wp2_with fail
        refine (H2.out _).mono ?_; rintro e w3 ⟨rfl, rfl⟩
        rw [HSZ.out]
        go_wp2_with fail
        refine (rShort_any w2.heap.size Y 0 0 n _ HR.out (Nat.zero_le _) HY12.out).mono ?_; rintro e w4 ⟨rfl, hst⟩
        rw [HX.out] at hst ⊢
        have HST := Lib.hid hst; clear hst
        go_wp2_with fail
        refine (left_any w2.heap.size Y X.size 0 w4 HST.out.1 HXY.out HY12.out).mono ?_; rintro e w5 ⟨rfl, n5, rfl⟩
        have hl1 : (Y.size : Int) - (X.size : Int) = 1 := by have := HYS.out; omega
        rw [hl1]; clear hl1
        go_wp2_with fail
        refine (end_any w2.heap.size Y X.size 0 (w4.drewN n5) HST.out.1 HXY.out HY12.out).mono ?_; rintro e w6 ⟨rfl, n6, rfl⟩
        have he4 : endE Y X.size 0 = 4 := if_pos ⟨rfl, by have := HYS.out; omega⟩
        rw [he4]; clear he4
        go_wp2_with fail
        have HSTd : Hid (Step (w2.alloc (.cells (rdS Y 0 0) 73)) (w4.drewN (n5 + n6)) w2.heap.size Y X.size 0) := HST.out.drewN _
        refine (rraw_any w2.heap.size Y X.size 0 1 (w4.drewN (n5 + n6)) HSTd.out.1 HXY.out HY12.out).mono ?_; rintro e w7 ⟨rfl, hst⟩
        have e1 : (1 : Int).toNat = 1 := rfl
        rw [e1, HXI.out, HXE.out] at hst
        rw [e1, HXR.out]; clear e1
        have HST7 := Lib.hid (HSTd.out.trans hst); clear hst
        go_wp2_with fail
        refine (end_any w2.heap.size Y (X.size + 1) 0 w7 HST7.out.1 (by have := HYS.out; omega) HY12.out).mono ?_; rintro e w8 ⟨rfl, n8, rfl⟩
        have he0 : endE Y (X.size + 1) 0 = 0 := if_neg (by have := HYS.out; omega)
        rw [he0]; clear he0
        have HN8 : Hid (NI w g (w7.drewN n8)) := HN2.out.below (HB2.out.trans (step_low (HST7.out.drewN n8) (Nat.le_refl _) (by simp)))
        go_wp2_with fail
        go_roundw
        case rel => exact ⟨k + 1, by omega, by go_num, HN8⟩
        case measure => simp [intOf] <;> omega
    · obtain rfl : k = 20 := by omega
      have HB := Lib.hid HNk.out.bel
      go_wp2_with fail
      refine (carry HB.out (wn1 _)).mono ?_; rintro e w2 ⟨rfl, hb⟩
      have HB2 := Lib.hid hb; clear hb
      go_wp2_with fail
      refine (carry HB2.out (wn2 _)).mono ?_; rintro e w3 ⟨rfl, hb⟩
      have HB3 := Lib.hid hb; clear hb
      go_wp2_with fail
      refine (carry HB3.out (wn3 _)).mono ?_; rintro e w4 ⟨rfl, hb⟩
      have HB4 := Lib.hid hb; clear hb
      go_wp2_with fail
      refine (carry HB4.out (wn4 _)).mono ?_; rintro e w5 ⟨rfl, hb⟩
      have HB5 := Lib.hid hb; clear hb
      go_wp2_with fail
      refine (z0 _).mono ?_; rintro e wx ⟨rfl, rfl⟩
      go_wp2_with fail
      refine (z128 _).mono ?_; rintro e wx ⟨rfl, rfl⟩
      go_wp2_with fail
      refine (zbig _).mono ?_; rintro e wx ⟨rfl, rfl⟩
      have HI : Hid (Inv w.heap.size w w5.heap.size [] (w5.alloc (.cells #[.pointer none, .int .i64 0] 38))) := ⟨HB5.out.alloc HB5.out.size _, Wr.new HB5.out.size⟩
      have hn1 : Hid (255 < 256) := by show _ < _; omega
      have hn2 : Hid (2147483648 < 4294967296) := by show _ < _; omega
      have HL := Lib.hid L13_eq
      go_wp2_with fail
      refine (u8_any _ w.heap.size w5.heap.size [] 255 HI.out.wr (by decide) 255 rfl hn1).mono ?_; rintro e w6 ⟨rfl, h1, o1⟩
      have HI6 := Lib.hid (HI.out.put h1 o1); clear h1 o1
      go_wp2_with fail
      refine (u32_any _ w.heap.size w5.heap.size _ 2147483648 HI6.out.wr (by decide) 2147483648 rfl hn2).mono ?_; rintro e w7 ⟨rfl, h1, o1⟩
      have HI7 := Lib.hid (HI6.out.put h1 o1); clear h1 o1
      go_wp2_with fail
      refine (u64_any _ w.heap.size w5.heap.size _ 9223372036854775809 HI7.out.wr (by decide) 9223372036854775809 rfl).mono ?_; rintro e w8 ⟨rfl, h1, o1⟩
      have HI8 := Lib.hid (HI7.out.put h1 o1); clear h1 o1
      go_wp2_with fail
      refine (raw_any _ w.heap.size w5.heap.size _ ⟨#[]⟩ HI8.out.wr (by decide)).mono ?_; rintro e w9 ⟨rfl, h1, o1⟩
      rw [HL.out] at h1
      have HI9 := Lib.hid (HI8.out.put h1 o1); clear h1 o1
      have hL13 : S L13 = ⟨#[255, 128, 0, 0, 0, 128, 0, 0, 0, 0, 0, 0, 1]⟩ := rfl
      have HL13 := Lib.hid hL13; clear hL13
      go_wp2_with fail
      refine (bytes_any w9 w.heap.size w5.heap.size L13 HI9.out.wr).mono ?_; rintro e wa ⟨rfl, na, rfl⟩
      rw [HL13.out]
      go_wp2_with fail
      refine (len_any (w9.drewN na) w.heap.size w5.heap.size L13 HI9.out.wr).mono ?_; rintro e wx ⟨rfl, rfl⟩
      have h13 : (L13.length : Int) = 13 := rfl
      rw [h13]
      go_wp2_with fail
      refine (bytes_any (w9.drewN na) w.heap.size w5.heap.size L13 HI9.out.wr).mono ?_; rintro e wa ⟨rfl, nb, rfl⟩
      go_wp2_with fail
      have HIb : Hid (Inv w.heap.size w w5.heap.size L13 (w9.drewN (na + nb))) := HI9.out.drewN _
      generalize w9.drewN (na + nb) = wb at *
      refine (new_any (S L13) wb).mono ?_; rintro e wx ⟨rfl, rfl⟩
      have HR := Lib.hid (Rd.new (S L13) wb)
      have HBc : Hid (Below w.heap.size w (wb.alloc (.cells (rdS (S L13) 0 0) 73))) := HIb.out.bel.alloc HIb.out.bel.size _
      have HBr : Hid (w.heap.size ≤ wb.heap.size) := HIb.out.bel.size
      have hs13 : Hid ((S L13).size ≤ 1000000000000) := by show _ ≤ _; decide
      generalize wb.heap.size = r at *
      generalize wb.alloc (.cells (rdS (S L13) 0 0) 73) = wc at *
      have Q1 := Lib.hid q1; have Q2 := Lib.hid q2; have Q3 := Lib.hid q3; have Q4 := Lib.hid q4; have Q5 := Lib.hid q5
      have u255 : U 255 = 255 := rfl
      have u31 : U 2147483648 = 2147483648 := rfl
      have u63 : U 9223372036854775809 = 9223372036854775809 := rfl
      have U255 := Lib.hid u255; have U31 := Lib.hid u31; have U63 := Lib.hid u63; clear u255 u31 u63
      go_wp2_with fail
      refine (ru8_any r (S L13) 0 0 wc HR.out (Nat.zero_le _) hs13.out).mono ?_; rintro e wd ⟨rfl, hst⟩
      rw [Q1.out.2.1, Q1.out.2.2] at hst
      rw [Q1.out.1, U255.out]
      have HS1 := Lib.hid hst; clear hst
      go_wp2_with fail
      refine (ru32_any r (S L13) 1 0 wd HS1.out.1 (by decide) hs13.out).mono ?_; rintro e we ⟨rfl, hst⟩
      rw [Q2.out.2.1, Q2.out.2.2] at hst
      rw [Q2.out.1, U31.out]
      have HS2 := Lib.hid (HS1.out.trans hst); clear hst
      go_wp2_with fail
      refine (ru64_any r (S L13) 5 0 we HS2.out.1 (by decide) hs13.out).mono ?_; rintro e wf ⟨rfl, hst⟩
      rw [Q3.out.2.1, Q3.out.2.2] at hst
      rw [Q3.out.1, U63.out]
      have HS3 := Lib.hid (HS2.out.trans hst); clear hst
      go_wp2_with fail
      refine (end_any r (S L13) 13 0 wf HS3.out.1 (by decide) hs13.out).mono ?_; rintro e wx ⟨rfl, ng, rfl⟩
      have he0 : endE (S L13) 13 0 = 0 := by decide
      rw [he0]; clear he0
      go_wp2_with fail
      have HS4 : Hid (Step wc (wf.drewN ng) r (S L13) 13 0) := HS3.out.drewN ng
      refine (rraw_any r (S L13) 13 0 (-5) (wf.drewN ng) HS4.out.1 (by decide) hs13.out).mono ?_; rintro e wh ⟨rfl, hst⟩
      have e5 : (-5 : Int).toNat = 0 := rfl
      rw [e5, Q4.out.2.1, Q4.out.2.2] at hst
      rw [e5, Q4.out.1]; clear e5
      have HS5 := Lib.hid (HS4.out.trans hst); clear hst
      go_wp2_with fail
      refine (rtext_any r (S L13) 13 0 5 wh HS5.out.1 (by decide) hs13.out (by decide)).mono ?_; rintro e wi ⟨rfl, hst⟩
      have e5 : (5 : Int).toNat = 5 := rfl
      rw [e5, Q5.out] at hst ⊢
      clear e5
      have HS6 := Lib.hid (HS5.out.trans hst); clear hst
      go_wp2_with fail
      refine (err_any r (S L13) 13 8 wi HS6.out.1).mono ?_; rintro e wj ⟨rfl, nj, rfl⟩
      have hea : errAt 13 8 = 13 := rfl
      rw [hea]; clear hea
      have HBj : Hid (Below w.heap.size w (wi.drewN nj)) := HBc.out.trans ((step_low (HS6.out.drewN nj) HBr.out (HBc.out.size)))
      clear HS1 HS2 HS3 HS4 HS5 HS6 HR HBc HIb HI9 HI8 HI7 HI6 HI
      generalize wi.drewN nj = wk at *
      go_wp2_with fail
      refine (new_any ⟨#[3, 97, 98]⟩ wk).mono ?_; rintro e wx ⟨rfl, rfl⟩
      have HRy := Lib.hid (Rd.new ⟨#[3, 97, 98]⟩ wk)
      have HBl : Hid (Below w.heap.size w (wk.alloc (.cells (rdS ⟨#[3, 97, 98]⟩ 0 0) 73))) := HBj.out.alloc HBj.out.size _
      have HBy : Hid (w.heap.size ≤ wk.heap.size) := HBj.out.size
      generalize wk.heap.size = y at *
      generalize wk.alloc (.cells (rdS ⟨#[3, 97, 98]⟩ 0 0) 73) = wl at *
      go_wp2_with fail
      refine (new_any ⟨#[0, 1]⟩ wl).mono ?_; rintro e wx ⟨rfl, rfl⟩
      have HRz := Lib.hid (Rd.new ⟨#[0, 1]⟩ wl)
      have HBm : Hid (Below w.heap.size w (wl.alloc (.cells (rdS ⟨#[0, 1]⟩ 0 0) 73))) := HBl.out.alloc HBl.out.size _
      have HRy2 : Hid (Rd (wl.alloc (.cells (rdS ⟨#[0, 1]⟩ 0 0) 73)) y ⟨#[3, 97, 98]⟩ 0 0) := HRy.out.below ((Below.refl _ _).alloc (Nat.le_refl _) _)
      have hyz : Hid (wl.heap.size ≠ y) := by have := row_lt HRy.out; show _ ≠ _; omega
      have HBz : Hid (w.heap.size ≤ wl.heap.size) := HBl.out.size
      generalize wl.heap.size = z at *
      generalize wl.alloc (.cells (rdS ⟨#[0, 1]⟩ 0 0) 73) = wm at *
      have Q6 := Lib.hid q6; have Q7 := Lib.hid q7; have Q8 := Lib.hid q8
      go_wp2_with fail
      refine (rtext_any y ⟨#[3, 97, 98]⟩ 0 0 2 wm HRy2.out (by decide) (by decide) (by decide)).mono ?_; rintro e wn ⟨rfl, hst⟩
      have e2 : (2 : Int).toNat = 2 := rfl
      rw [e2, Q6.out] at hst ⊢
      clear e2
      have HSy := Lib.hid hst; clear hst
      go_wp2_with fail
      refine (end_any y ⟨#[3, 97, 98]⟩ 0 40 wn HSy.out.1 (by decide) (by decide)).mono ?_; rintro e wx ⟨rfl, no, rfl⟩
      have he : endE ⟨#[3, 97, 98]⟩ 0 40 = 40 := by decide
      rw [he]; clear he
      have HRz2 : Hid (Rd (wn.drewN no) z ⟨#[0, 1]⟩ 0 0) := HRz.out.beside (grown_drewN HSy.out.2 no) hyz.out
      have HBo : Hid (Below w.heap.size w (wn.drewN no)) := HBm.out.trans (step_low (HSy.out.drewN no) HBy.out HBm.out.size)
      generalize wn.drewN no = wo at *
      go_wp2_with fail
      refine (rtext_any z ⟨#[0, 1]⟩ 0 0 (-1) wo HRz2.out (by decide) (by decide) (by decide)).mono ?_; rintro e wp ⟨rfl, hst⟩
      have e2 : (-1 : Int).toNat = 0 := rfl
      rw [e2, Q7.out] at hst ⊢
      have HSz := Lib.hid hst; clear hst
      have E2 := Lib.hid e2; clear e2
      go_wp2_with fail
      refine (rtext_any z ⟨#[0, 1]⟩ 1 0 (-1) wp HSz.out.1 (by decide) (by decide) (by decide)).mono ?_; rintro e wq ⟨rfl, hst⟩
      rw [E2.out, Q8.out] at hst ⊢
      have HSz2 := Lib.hid (HSz.out.trans hst); clear hst
      go_wp2_with fail
      refine (end_any z ⟨#[0, 1]⟩ 1 40 wq HSz2.out.1 (by decide) (by decide)).mono ?_; rintro e wx ⟨rfl, nr, rfl⟩
      have he : endE ⟨#[0, 1]⟩ 1 40 = 40 := by decide
      rw [he]; clear he
      go_wp2_with fail
      refine (at_any z ⟨#[0, 1]⟩ 1 40 (wq.drewN nr) HSz2.out.1).mono ?_; rintro e wx ⟨rfl, rfl⟩
      have HBs : Hid (Below w.heap.size w (wq.drewN nr)) := HBo.out.trans (step_low (HSz2.out.drewN nr) HBz.out HBo.out.size)
      generalize wq.drewN nr = ws at *
      go_wp2_with fail
      refine (carry HBs.out (u8_nil _)).mono ?_; rintro e wt ⟨rfl, hb⟩
      have HBt := Lib.hid hb; clear hb
      go_wp2_with fail
      refine (carry HBt.out (u64_nil _)).mono ?_; rintro e wu ⟨rfl, hb⟩
      have HBu := Lib.hid hb; clear hb
      go_wp2_with fail
      refine (carry HBu.out (low_nil _)).mono ?_; rintro e wv ⟨rfl, hb⟩
      have HBv := Lib.hid hb; clear hb
      go_wp2_with fail
      refine (carry HBv.out (short_nil 300 _)).mono ?_; rintro e ww ⟨rfl, hb⟩
      have HBw := Lib.hid hb; clear hb
      go_wp2_with fail
      refine (carry HBw.out (text_nil ⟨#[120]⟩ (by decide) _)).mono ?_; rintro e wy ⟨rfl, hb⟩
      have HBy2 := Lib.hid hb; clear hb
      go_wp2_with fail
      refine (carry HBy2.out (raw_nil ⟨#[120]⟩ _)).mono ?_; rintro e wz ⟨rfl, hb⟩
      have HBz2 := Lib.hid hb; clear hb
      go_wp2_with fail
      refine (err_nil _).mono ?_; rintro e wx ⟨rfl, rfl⟩
      go_wp2_with fail
      refine (len_nil _).mono ?_; rintro e wx ⟨rfl, rfl⟩
      go_wp2_with fail
      refine (bytes_nil _).mono ?_; rintro e wx ⟨rfl, rfl⟩
      go_wp2_with fail
      refine (end_nil _).mono ?_; rintro e wx ⟨rfl, rfl⟩
      go_wp2_with fail
      refine (carry HBz2.out (ru8_nil _)).mono ?_; rintro e v1 ⟨rfl, hb⟩
      have HC1 := Lib.hid hb; clear hb
      go_wp2_with fail
      refine (carry HC1.out (ru16_nil _)).mono ?_; rintro e v2 ⟨rfl, hb⟩
      have HC2 := Lib.hid hb; clear hb
      go_wp2_with fail
      refine (carry HC2.out (ru32_nil _)).mono ?_; rintro e v3 ⟨rfl, hb⟩
      have HC3 := Lib.hid hb; clear hb
      go_wp2_with fail
      refine (carry HC3.out (ru64_nil _)).mono ?_; rintro e v4 ⟨rfl, hb⟩
      have HC4 := Lib.hid hb; clear hb
      go_wp2_with fail
      refine (carry HC4.out (rlow_nil _)).mono ?_; rintro e v5 ⟨rfl, hb⟩
      have HC5 := Lib.hid hb; clear hb
      go_wp2_with fail
      refine (rshort_nil 9 _).mono ?_; rintro e wx ⟨rfl, rfl⟩
      go_wp2_with fail
      refine (carry HC5.out (rtext_nil _)).mono ?_; rintro e v6 ⟨rfl, hb⟩
      have HC6 := Lib.hid hb; clear hb
      go_wp2_with fail
      refine (carry HC6.out (rraw_nil 9 _)).mono ?_; rintro e v7 ⟨rfl, hb⟩
      have HC7 := Lib.hid hb; clear hb
      go_wp2_with fail
      refine (left_nil _).mono ?_; rintro e wx ⟨rfl, rfl⟩
      go_wp2_with fail
      refine (at_nil _).mono ?_; rintro e wx ⟨rfl, rfl⟩
      go_wp2_with fail
      go_ret
      exact ⟨rfl, HC7.out⟩

end Go.Proofs.Ytdllncbacbpedaa.Wire
