/-
  The walk of the statement CrcSeals.
-/
import Derived.Test.YtmmggkjfhiflaaaW15
import Derived.Test.YtmmggkjfhiflaaaLTells
namespace Go.Proofs.Ytmmggkjfhiflaaa.Crc
open Go.RowKit

/-- what Open tells, as a value -/
def openT (s : ByteArray) : ByteArray × Nat :=
  if s.size < 4 then (S [], 8) else if s.data.toList.drop (s.size - 4) = fourL (ofW (s.data.toList.take (s.size - 4))) then (S (s.data.toList.take (s.size - 4)), 0) else (S [], 42)
theorem openT_of {s x : ByteArray} {k : Nat} (h : (s.size < 4 ∧ x = S [] ∧ k = 8) ∨ (4 ≤ s.size ∧ s.data.toList.drop (s.size - 4) = fourL (ofW (s.data.toList.take (s.size - 4))) ∧ x = S (s.data.toList.take (s.size - 4)) ∧ k = 0) ∨
        (4 ≤ s.size ∧ s.data.toList.drop (s.size - 4) ≠ fourL (ofW (s.data.toList.take (s.size - 4))) ∧ x = S [] ∧ k = 42)) : x = (openT s).1 ∧ k = (openT s).2 := by
  rcases h with ⟨h, rfl, rfl⟩ | ⟨h, g, rfl, rfl⟩ | ⟨h, g, rfl, rfl⟩
  · unfold openT; rw [if_pos h]; exact ⟨rfl, rfl⟩
  · unfold openT; rw [if_neg (by omega), if_pos g]; exact ⟨rfl, rfl⟩
  · unfold openT; rw [if_neg (by omega), if_neg g]; exact ⟨rfl, rfl⟩
theorem opens (s : ByteArray) (hs : s.size ≤ 281474976710000) : ∃ (T : ByteArray) (k : Int), (∀ w, Calls Try.prog 15 #[.string s] w fun e w' => e = .returned (.tuple #[.string T, .int .i64 k]) ∧ Below w.heap.size w w') ∧
    (∀ w, Calls Try.prog 28 #[.string s] w fun e w' => e = .returned (.tuple #[.string T, .int .i64 k]) ∧ Below w.heap.size w w') := by
  refine ⟨(openT s).1, (openT s).2, fun w => (open_any s w hs).mono ?_, fun w => (refOpen_any s w hs).mono ?_⟩
  · rintro e w' ⟨⟨x, k, rfl, h⟩, hb⟩
    obtain ⟨rfl, rfl⟩ := openT_of h
    exact ⟨rfl, hb⟩
  · rintro e w' ⟨⟨x, k, rfl, h⟩, hb⟩
    obtain ⟨rfl, rfl⟩ := openT_of h
    exact ⟨rfl, hb⟩
theorem forges (s : ByteArray) (a : Int) (c : W) (hs : s.size ≤ 281474976700000) : ∃ (T : ByteArray) (k : Int), (∀ w, Calls Try.prog 16 #[.string s, .int .i64 a, .int .u32 (V c)] w fun e w' => e = .returned (.tuple #[.string T, .int .i64 k]) ∧ Below w.heap.size w w') ∧
    (∀ w, Calls Try.prog 25 #[.string s, .int .i64 a, .int .u32 (V c)] w fun e w' => e = .returned (.tuple #[.string T, .int .i64 k]) ∧ Below w.heap.size w w') := by
  by_cases h0 : a < 0
  · exact ⟨⟨#[]⟩, 8, fun w => forge_short s a _ (Or.inl h0) w hs, fun w => refForge_neg s a _ h0 w⟩
  · by_cases h1 : (s.size : Int) - 4 < a
    · exact ⟨⟨#[]⟩, 8, fun w => forge_short s a _ (Or.inr h1) w hs, fun w => refForge_far s a _ (by omega) h1 (by omega) w⟩
    · obtain ⟨n, rfl⟩ : ∃ n : Nat, a = (n : Int) := ⟨a.toNat, by omega⟩
      exact ⟨_, 0, fun w => forge_long s n c (by omega) w hs, fun w => refForge_long s n c (by omega) (by omega) w⟩

/-- three texts in a block of their own -/
structure Texts (g : Nat) (cs : Array Value) (w w' : World) : Prop where
  row : w'.heap[g]? = some (.cells cs 9 (0, 0))
  bel : Below w.heap.size w w'
  old : w.heap.size ≤ g
theorem Texts.below {g : Nat} {cs : Array Value} {w w' w2 : World} (h : Texts g cs w w') (hb : Below w'.heap.size w' w2) : Texts g cs w w2 :=
  ⟨by rw [hb.block g (row_lt h.row)]; exact h.row, h.bel.trans (hb.mono h.bel.size), h.old⟩
def nth (s Z Y : ByteArray) (i : Nat) : ByteArray := if i = 0 then s else if i = 1 then Z else Y
theorem Texts.cell {g : Nat} {s Z Y : ByteArray} {w w' : World} (h : Texts g #[.string s, .string Z, .string Y] w w') (i : Nat) (hi : i < 3) : w'.cell? ⟨g, i, none⟩ = some (.string (nth s Z Y i)) := by
  rw [cell_of_row _ _ _ _ _ _ h.row]
  have hi2 : i = 0 ∨ i = 1 ∨ i = 2 := by omega
  rcases hi2 with rfl | rfl | rfl <;> rfl
theorem nth_size (s Z Y : ByteArray) (i m : Nat) (h1 : s.size ≤ m) (h2 : Z.size ≤ m) (h3 : Y.size ≤ m) : (nth s Z Y i).size ≤ m := by
  unfold nth; split
  · exact h1
  · split
    · exact h2
    · exact h3

set_option maxRecDepth 100000 in
set_option maxHeartbeats 1000000 in
theorem crcSeals_walk (s : ByteArray) (a1 a2 : Int) (_w0 : s.size ≤ maxLen) (w1 : (Lit.int .i64 a1).wf = true) (w2 : (Lit.int .u32 a2).wf = true) (w : World) :
    Calls Try.prog 5 #[.string s, .int .i64 a1, .int .u32 a2] w fun e w' => e = .returned (.bool true) ∧ Below w.heap.size w w' := by
  obtain ⟨c, rfl⟩ := word_of w2
  clear _w0 w1 w2
  have hb0 : Below w.heap.size w w := Below.refl _ _
  by_cases hs : s.size ≤ 600
  · have HS : Hid (s.size ≤ 281474976700000) := by show _ ≤ _; omega
    obtain ⟨T, k, hF, hR⟩ := forges s a1 c HS.out
    have HF := Lib.hid hF; have HR := Lib.hid hR; clear hF hR
    have hz : (sealS s).size = s.size + 4 := sealS_size s
    have HE := fun w => seal_any s w (by have := HS.out; omega)
    have HG := fun w => refSeal_any s w (by have := HS.out; omega)
    have HE2 := Lib.hid HE; have HG2 := Lib.hid HG; clear HE HG
    generalize sealS s = Z at *
    go_enter Try.func5, Try.ntmps5
    go_wp2_with (first | (go_at_call 12; refine (carry ‹Below w.heap.size w _› (awake_any _)).mono ?_; rintro e w1 ⟨rfl, hb1⟩) | (go_at_call 16; refine (carry ‹Below w.heap.size w _› (HF.out _)).mono ?_; rintro e w1 ⟨rfl, hb1⟩) | (go_at_call 25; refine (carry ‹Below w.heap.size w _› (HR.out _)).mono ?_; rintro e w1 ⟨rfl, hb1⟩) | (go_at_call 26; refine (carry ‹Below w.heap.size w _› (HE2.out _)).mono ?_; rintro e w1 ⟨rfl, hb1⟩) | (go_at_call 27; refine (carry ‹Below w.heap.size w _› (HG2.out _)).mono ?_; rintro e w1 ⟨rfl, hb1⟩))
    rename_i hlast
    have HT0 : Hid (Texts w1.heap.size #[.string s, .string Z, .string (⟨#[120]⟩ ++ Z)] w (w1.alloc (.cells #[.string s, .string Z, .string (⟨#[120]⟩ ++ Z)] 9))) :=
      ⟨heap_alloc_new w1 _, hb1.alloc hb1.size _, hb1.size⟩
    have HY : Hid ((⟨#[120]⟩ ++ Z : ByteArray).size = Z.size + 1) := by show _ = _; rw [ByteArray.size_append]; show 1 + _ = _; omega
    have HZ := Lib.hid hz; clear hz
    have HS6 := Lib.hid hs; clear hs
    generalize (⟨#[120]⟩ ++ Z : ByteArray) = Y at *
    generalize w1.alloc (.cells #[.string s, .string Z, .string Y] 9) = W0 at *
    generalize w1.heap.size = g at *
    go_loopw [58] (fun x wx => ∃ i : Nat, i ≤ 3 ∧ x = .int .i64 i ∧ Hid (Texts g #[.string s, .string Z, .string Y] w wx)) (fun x _ => 3 - (intOf x).toNat)
    case atStart => exact ⟨0, by omega, rfl, HT0⟩
    case round =>
      obtain ⟨i, hi, rfl, HT⟩ := hrel
      by_cases hlt : i < 3
      · have hc := HT.out.cell i hlt
        have hb3 : Below w.heap.size w wr := HT.out.bel
        have hsz : (nth s Z Y i).size ≤ 281474976710000 := nth_size s Z Y i _ (by have := HS6.out; omega) (by have := HS6.out; have := HZ.out; omega) (by have := HS6.out; have := HZ.out; have := HY.out; omega)
        obtain ⟨T2, k2, hO, hP⟩ := opens (nth s Z Y i) hsz
        have HO := Lib.hid hO; have HP := Lib.hid hP; clear hO hP hsz
        generalize nth s Z Y i = X at *
        have hi3 : (i : Int) < 3 := by omega
        go_wp2_with fail
        refine (HO.out _).mono ?_; rintro e w5 ⟨rfl, hb5⟩
        have HT5 := Lib.hid (HT.out.below hb5)
        clear hb5
        go_wp2_with fail
        refine (HP.out _).mono ?_; rintro e w6 ⟨rfl, hb6⟩
        have HT6 := Lib.hid (HT5.out.below hb6)
        clear hb6
        go_wp2_with fail
        go_roundw
        case rel => exact ⟨i + 1, by omega, by go_num, HT6⟩
        case measure => simp [intOf] <;> omega
      · obtain rfl : i = 3 := by omega
        have hb3 : Below w.heap.size w wr := HT.out.bel
        go_wp2_with fail
        refine (carry hb3 (awake_any _)).mono ?_; rintro e w7 ⟨rfl, hb7⟩
        go_wp2_with fail
        go_ret
        exact ⟨rfl, hb7⟩
  · go_enter Try.func5, Try.ntmps5
    go_wp2_with (go_at_call 12; refine (carry ‹Below w.heap.size w _› (awake_any _)).mono ?_; rintro e w1 ⟨rfl, hb1⟩)
    go_ret
    exact ⟨rfl, ‹Below w.heap.size w _›⟩

end Go.Proofs.Ytmmggkjfhiflaaa.Crc
