/-
  The walk of the statement CrcTells.
-/
import Derived.Test.YtmmggkjfhiflaaaW13
namespace Go.Proofs.Ytmmggkjfhiflaaa.Crc
open Go.RowKit

theorem long_of {a : Int} (h : (Lit.int .i64 a).wf = true) : a < 9223372036854775808 := by
  simp [Lit.wf, IntKind.min, IntKind.max, IntKind.bits, IntKind.signed] at h
  omega
theorem both_nat (a b : W) (n : Nat) (hn : n < 9223372036854775808) (w : World) :
    Calls Try.prog 17 #[.int .u32 (V a), .int .u32 (V b), .int .i64 n] w fun e w' => e = .returned (.int .u32 (V (bothW a b n))) ∧ w = w' := both_any a b _ _ rfl rfl n hn w

set_option maxRecDepth 100000 in
set_option maxHeartbeats 1000000 in
theorem crcTells_walk (s : ByteArray) (a1 a2 a3 : Int) (_w0 : s.size ≤ maxLen) (w1 : (Lit.int .u32 a1).wf = true) (w2 : (Lit.int .u32 a2).wf = true) (w3 : (Lit.int .i64 a3).wf = true) (w : World) :
    Calls Try.prog 4 #[.string s, .int .u32 a1, .int .u32 a2, .int .i64 a3] w fun e w' => e = .returned (.bool true) ∧ Below w.heap.size w w' := by
  obtain ⟨a, rfl⟩ := word_of w1
  obtain ⟨b, rfl⟩ := word_of w2
  have hl := long_of w3
  clear _w0 w1 w2 w3
  have HL := Lib.hid hl; clear hl
  have hb0 : Below w.heap.size w w := Below.refl _ _
  by_cases hs : s.size ≤ 3000
  · have HS : Hid (s.size ≤ maxLen) := by show _ ≤ _; unfold maxLen; omega
    by_cases h0 : a3 < 0
    · have HN := Lib.hid h0; clear h0
      go_enter Try.func4, Try.ntmps4
      go_wp2_with (first | (go_at_call 12; refine (carry ‹Below w.heap.size w _› (awake_any _)).mono ?_; rintro e w1 ⟨rfl, hb1⟩) | (go_at_call 18; refine (carry ‹Below w.heap.size w _› (of_any s _ HS.out)).mono ?_; rintro e w1 ⟨rfl, hb1⟩) | (go_at_call 19; refine (refOf_any s _ HS.out).mono ?_; rintro e w1 ⟨rfl, rfl⟩) | (go_at_call 20; refine (carry ‹Below w.heap.size w _› (add_any a s _ rfl _ HS.out)).mono ?_; rintro e w1 ⟨rfl, hb1⟩) | (go_at_call 21; refine (refAdd_any a s _ rfl _ HS.out).mono ?_; rintro e w1 ⟨rfl, rfl⟩) | (go_at_call 22; refine (carry ‹Below w.heap.size w _› (back_any a s _ rfl _ HS.out)).mono ?_; rintro e w1 ⟨rfl, hb1⟩) | (go_at_call 23; refine (refBack_any a s _ rfl _ HS.out).mono ?_; rintro e w1 ⟨rfl, rfl⟩) | (go_at_call 17; refine (both_neg _ _ _ HN.out _).mono ?_; rintro e w1 ⟨rfl, rfl⟩) | (go_at_call 24; refine (carry ‹Below w.heap.size w _› (refBoth_neg _ _ _ HN.out _)).mono ?_; rintro e w1 ⟨rfl, hb1⟩))
      go_ret
      exact ⟨rfl, ‹Below w.heap.size w _›⟩
    · obtain ⟨n, rfl⟩ : ∃ n : Nat, a3 = (n : Int) := ⟨a3.toNat, by omega⟩
      have HN : Hid (n < 9223372036854775808) := by have := HL.out; show n < _; omega
      clear h0 HL
      go_enter Try.func4, Try.ntmps4
      go_wp2_with (first | (go_at_call 12; refine (carry ‹Below w.heap.size w _› (awake_any _)).mono ?_; rintro e w1 ⟨rfl, hb1⟩) | (go_at_call 18; refine (carry ‹Below w.heap.size w _› (of_any s _ HS.out)).mono ?_; rintro e w1 ⟨rfl, hb1⟩) | (go_at_call 19; refine (refOf_any s _ HS.out).mono ?_; rintro e w1 ⟨rfl, rfl⟩) | (go_at_call 20; refine (carry ‹Below w.heap.size w _› (add_any a s _ rfl _ HS.out)).mono ?_; rintro e w1 ⟨rfl, hb1⟩) | (go_at_call 21; refine (refAdd_any a s _ rfl _ HS.out).mono ?_; rintro e w1 ⟨rfl, rfl⟩) | (go_at_call 22; refine (carry ‹Below w.heap.size w _› (back_any a s _ rfl _ HS.out)).mono ?_; rintro e w1 ⟨rfl, hb1⟩) | (go_at_call 23; refine (refBack_any a s _ rfl _ HS.out).mono ?_; rintro e w1 ⟨rfl, rfl⟩) | (go_at_call 17; refine (both_nat a b n HN.out _).mono ?_; rintro e w1 ⟨rfl, rfl⟩) | (go_at_call 24; refine (carry ‹Below w.heap.size w _› (refBoth_any a b n HN.out _)).mono ?_; rintro e w1 ⟨rfl, hb1⟩))
      go_ret
      exact ⟨rfl, ‹Below w.heap.size w _›⟩
  · go_enter Try.func4, Try.ntmps4
    go_wp2_with (go_at_call 12; refine (carry ‹Below w.heap.size w _› (awake_any _)).mono ?_; rintro e w1 ⟨rfl, hb1⟩)
    go_ret
    exact ⟨rfl, ‹Below w.heap.size w _›⟩

end Go.Proofs.Ytmmggkjfhiflaaa.Crc
