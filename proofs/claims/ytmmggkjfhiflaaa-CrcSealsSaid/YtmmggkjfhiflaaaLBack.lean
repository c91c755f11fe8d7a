/-
  The walk of the statement CrcBack.
-/
import Derived.Test.YtmmggkjfhiflaaaW9
namespace Go.Proofs.Ytmmggkjfhiflaaa.Crc
open Go.RowKit

theorem carry {P : Program} {f : FuncId} {args : Array Value} {w0 w : World} {v : Ending} (h : Below w0.heap.size w0 w) (c : Calls P f args w (fun e w' => e = v ∧ Below w.heap.size w w')) :
    Calls P f args w (fun e w' => e = v ∧ Below w0.heap.size w0 w') :=
  c.mono fun _ _ ⟨he, hb⟩ => ⟨he, h.trans (hb.mono h.size)⟩
theorem word_of {a : Int} (h : (Lit.int .u32 a).wf = true) : ∃ c : W, a = V c := by
  have b : 0 ≤ a ∧ a ≤ 4294967295 := by
    simp [Lit.wf, IntKind.min, IntKind.max, IntKind.bits, IntKind.signed] at h
    omega
  refine ⟨BitVec.ofNat 32 a.toNat, ?_⟩
  unfold V; rw [BitVec.toNat_ofNat, Nat.mod_eq_of_lt (by omega)]; omega
theorem ret_bool {a b : Bool} (h : a = b) : Ending.returned (.bool a) = .returned (.bool b) := by rw [h]
theorem V_same (a b : W) (h : a = b) : (V a == V b) = true := by rw [h]; exact beq_self_eq_true _

set_option maxRecDepth 100000 in
set_option maxHeartbeats 1000000 in
theorem crcBack_walk (a0 : Int) (s t : ByteArray) (w0 : (Lit.int .u32 a0).wf = true) (_w1 : s.size ≤ maxLen) (_w2 : t.size ≤ maxLen) (w : World) :
    Calls Try.prog 7 #[.int .u32 a0, .string s, .string t] w fun e w' => e = .returned (.bool true) ∧ Below w.heap.size w w' := by
  obtain ⟨c, rfl⟩ := word_of w0
  clear w0
  have hb0 : Below w.heap.size w w := Below.refl _ _
  by_cases hs : s.size ≤ 3000
  · by_cases ht : t.size ≤ 3000
    · have h1 := V_same _ _ (back_add c s.data.toList)
      have h2 := V_same _ _ (add_back c s.data.toList)
      have h3 := V_same _ _ (add_append c s.data.toList t.data.toList).symm
      have h4 := V_same _ _ (back_append c s.data.toList t.data.toList).symm
      have h5 : (V (addW c []) == V c) = true := V_same _ _ (by unfold addW; simp [raw])
      have h6 : (V (backW c []) == V c) = true := V_same _ _ (by unfold backW; simp [unraw])
      go_enter Try.func7, Try.ntmps7
      have HS : Hid (s.size ≤ maxLen ∧ t.size ≤ maxLen ∧ (s ++ t).size ≤ maxLen ∧ (ByteArray.mk #[]).size ≤ maxLen) := ⟨by unfold maxLen; omega, by unfold maxLen; omega, by rw [ByteArray.size_append]; unfold maxLen; omega, by unfold maxLen; decide⟩
      go_wp2_with (first | (go_at_call 12; refine (carry ‹Below w.heap.size w _› (awake_any _)).mono ?_; rintro e w1 ⟨rfl, hb1⟩) | (go_at_call 20; refine (carry ‹Below w.heap.size w _› (add_any _ _ _ rfl _ (by first | exact HS.out.1 | exact HS.out.2.1 | exact HS.out.2.2.1 | exact HS.out.2.2.2))).mono ?_; rintro e w1 ⟨rfl, hb1⟩) | (go_at_call 22; refine (carry ‹Below w.heap.size w _› (back_any _ _ _ rfl _ (by first | exact HS.out.1 | exact HS.out.2.1 | exact HS.out.2.2.1 | exact HS.out.2.2.2))).mono ?_; rintro e w1 ⟨rfl, hb1⟩))
      go_ret
      exact ⟨rfl, ‹Below w.heap.size w _›⟩
    · go_enter Try.func7, Try.ntmps7
      go_wp2_with (go_at_call 12; refine (carry ‹Below w.heap.size w _› (awake_any _)).mono ?_; rintro e w1 ⟨rfl, hb1⟩)
      go_ret
      exact ⟨rfl, ‹Below w.heap.size w _›⟩
  · go_enter Try.func7, Try.ntmps7
    go_wp2_with (go_at_call 12; refine (carry ‹Below w.heap.size w _› (awake_any _)).mono ?_; rintro e w1 ⟨rfl, hb1⟩)
    go_ret
    exact ⟨rfl, ‹Below w.heap.size w _›⟩

end Go.Proofs.Ytmmggkjfhiflaaa.Crc
