/-
  The walk of the statement CrcBoth.
-/
import Derived.Test.YtmmggkjfhiflaaaW2
import Derived.Test.YtmmggkjfhiflaaaLBack
namespace Go.Proofs.Ytmmggkjfhiflaaa.Crc
open Go.RowKit

theorem raw_lin (c d : W) (l : List UInt8) : raw (c ^^^ d) l = it (8 * l.length) c ^^^ raw d l := by
  rw [raw_rb, raw_rb, ← rb_false c (fun _ => false) _ (fun _ _ => rfl), ← rb_xor]
  exact rb_congr (fun i _ => by simp)
theorem not_eq (a : W) : ~~~ a = a ^^^ ~~~ (0 : W) := by
  apply BitVec.eq_of_getLsbD_eq; intro i hi
  have z : (0 : W).getLsbD i = false := by simp
  rw [BitVec.getLsbD_xor, BitVec.getLsbD_not, BitVec.getLsbD_not, z]; simp [hi]
theorem add_both (a : W) (l : List UInt8) : addW a l = bothW a (ofW l) l.length := by
  unfold ofW addW bothW
  rw [not_eq a, raw_lin]
  apply BitVec.eq_of_getLsbD_eq; intro i hi
  simp [hi]
theorem of_append (l m : List UInt8) : ofW (l ++ m) = bothW (ofW l) (ofW m) m.length := by
  rw [← add_both]; exact add_append 0 l m
theorem both_both (a b c : W) (n m : Nat) : bothW (bothW a b n) c m = bothW a (bothW b c m) (n + m) := by
  unfold bothW
  rw [it_xor, ← it_add, ← Nat.mul_add, Nat.add_comm m n]
  ac_rfl
theorem both_int (a b : W) (z : Int) (n : Nat) (hz : z = (n : Int)) (hn : n < 9223372036854775808) (w : World) :
    Calls Try.prog 17 #[.int .u32 (V a), .int .u32 (V b), .int .i64 z] w fun e w' => e = .returned (.int .u32 (V (bothW a b n))) ∧ w = w' := by
  subst hz; exact both_any a b _ _ rfl rfl n hn w
theorem short_of {a : Int} (h : (Lit.int .u16 a).wf = true) : ∃ n : Nat, a = (n : Int) ∧ n ≤ 65535 := by
  have b : 0 ≤ a ∧ a ≤ 65535 := by
    simp [Lit.wf, IntKind.min, IntKind.max, IntKind.bits, IntKind.signed] at h
    omega
  exact ⟨a.toNat, by omega, by omega⟩
theorem V_other (a b : W) (h : a = b) : (V a != V b) = false := by rw [h]; exact bne_self_eq_false _

set_option maxRecDepth 100000 in
set_option maxHeartbeats 1000000 in
theorem crcBoth_walk (s t : ByteArray) (a2 a3 a4 a5 a6 : Int) (_w0 : s.size ≤ maxLen) (_w1 : t.size ≤ maxLen) (w2 : (Lit.int .u32 a2).wf = true) (w3 : (Lit.int .u32 a3).wf = true) (w4 : (Lit.int .u32 a4).wf = true) (w5 : (Lit.int .u16 a5).wf = true) (w6 : (Lit.int .u16 a6).wf = true) (w : World) :
    Calls Try.prog 8 #[.string s, .string t, .int .u32 a2, .int .u32 a3, .int .u32 a4, .int .u16 a5, .int .u16 a6] w fun e w' => e = .returned (.bool true) ∧ Below w.heap.size w w' := by
  obtain ⟨a, rfl⟩ := word_of w2
  obtain ⟨b, rfl⟩ := word_of w3
  obtain ⟨c, rfl⟩ := word_of w4
  obtain ⟨n, rfl, hn⟩ := short_of w5
  obtain ⟨m, rfl, hm⟩ := short_of w6
  clear w2 w3 w4 w5 w6 _w0 _w1
  have hb0 : Below w.heap.size w w := Below.refl _ _
  by_cases hs : s.size ≤ 3000
  · by_cases ht : t.size ≤ 3000
    · have hl : t.data.toList.length = t.size := by simp
      have h1 := V_other _ _ (of_append s.data.toList t.data.toList).symm
      have h2 := V_other _ _ (add_both a t.data.toList).symm
      rw [hl] at h1 h2
      have h3 := V_same _ _ (both_both a b c n m)
      clear hl
      have HS : Hid (s.size ≤ maxLen ∧ t.size ≤ maxLen ∧ (s ++ t).size ≤ maxLen) := ⟨by unfold maxLen; omega, by unfold maxLen; omega, by rw [ByteArray.size_append]; unfold maxLen; omega⟩
      go_enter Try.func8, Try.ntmps8
      go_wp2_with (first | (go_at_call 12; refine (carry ‹Below w.heap.size w _› (awake_any _)).mono ?_; rintro e w1 ⟨rfl, hb1⟩) | (go_at_call 20; refine (carry ‹Below w.heap.size w _› (add_any _ _ _ rfl _ (by first | exact HS.out.1 | exact HS.out.2.1 | exact HS.out.2.2))).mono ?_; rintro e w1 ⟨rfl, hb1⟩) | (go_at_call 18; refine (carry ‹Below w.heap.size w _› (of_any _ _ (by first | exact HS.out.1 | exact HS.out.2.1 | exact HS.out.2.2))).mono ?_; rintro e w1 ⟨rfl, hb1⟩))
      refine (both_int _ _ _ t.size rfl (by omega) _).mono ?_; rintro e w1 ⟨rfl, rfl⟩
      go_wp2_with (first | (go_at_call 12; refine (carry ‹Below w.heap.size w _› (awake_any _)).mono ?_; rintro e w1 ⟨rfl, hb1⟩) | (go_at_call 20; refine (carry ‹Below w.heap.size w _› (add_any _ _ _ rfl _ (by first | exact HS.out.1 | exact HS.out.2.1 | exact HS.out.2.2))).mono ?_; rintro e w1 ⟨rfl, hb1⟩) | (go_at_call 18; refine (carry ‹Below w.heap.size w _› (of_any _ _ (by first | exact HS.out.1 | exact HS.out.2.1 | exact HS.out.2.2))).mono ?_; rintro e w1 ⟨rfl, hb1⟩))
      refine (both_int _ _ _ t.size rfl (by omega) _).mono ?_; rintro e w1 ⟨rfl, rfl⟩
      go_wp2_with (first | (go_at_call 12; refine (carry ‹Below w.heap.size w _› (awake_any _)).mono ?_; rintro e w1 ⟨rfl, hb1⟩) | (go_at_call 20; refine (carry ‹Below w.heap.size w _› (add_any _ _ _ rfl _ (by first | exact HS.out.1 | exact HS.out.2.1 | exact HS.out.2.2))).mono ?_; rintro e w1 ⟨rfl, hb1⟩) | (go_at_call 18; refine (carry ‹Below w.heap.size w _› (of_any _ _ (by first | exact HS.out.1 | exact HS.out.2.1 | exact HS.out.2.2))).mono ?_; rintro e w1 ⟨rfl, hb1⟩))
      refine (both_int _ _ _ n rfl (by omega) _).mono ?_; rintro e w1 ⟨rfl, rfl⟩
      go_wp2_with (first | (go_at_call 12; refine (carry ‹Below w.heap.size w _› (awake_any _)).mono ?_; rintro e w1 ⟨rfl, hb1⟩) | (go_at_call 20; refine (carry ‹Below w.heap.size w _› (add_any _ _ _ rfl _ (by first | exact HS.out.1 | exact HS.out.2.1 | exact HS.out.2.2))).mono ?_; rintro e w1 ⟨rfl, hb1⟩) | (go_at_call 18; refine (carry ‹Below w.heap.size w _› (of_any _ _ (by first | exact HS.out.1 | exact HS.out.2.1 | exact HS.out.2.2))).mono ?_; rintro e w1 ⟨rfl, hb1⟩))
      refine (both_int _ _ _ m rfl (by omega) _).mono ?_; rintro e w1 ⟨rfl, rfl⟩
      go_wp2_with (first | (go_at_call 12; refine (carry ‹Below w.heap.size w _› (awake_any _)).mono ?_; rintro e w1 ⟨rfl, hb1⟩) | (go_at_call 20; refine (carry ‹Below w.heap.size w _› (add_any _ _ _ rfl _ (by first | exact HS.out.1 | exact HS.out.2.1 | exact HS.out.2.2))).mono ?_; rintro e w1 ⟨rfl, hb1⟩) | (go_at_call 18; refine (carry ‹Below w.heap.size w _› (of_any _ _ (by first | exact HS.out.1 | exact HS.out.2.1 | exact HS.out.2.2))).mono ?_; rintro e w1 ⟨rfl, hb1⟩))
      refine (both_int _ _ _ m rfl (by omega) _).mono ?_; rintro e w1 ⟨rfl, rfl⟩
      go_wp2_with (first | (go_at_call 12; refine (carry ‹Below w.heap.size w _› (awake_any _)).mono ?_; rintro e w1 ⟨rfl, hb1⟩) | (go_at_call 20; refine (carry ‹Below w.heap.size w _› (add_any _ _ _ rfl _ (by first | exact HS.out.1 | exact HS.out.2.1 | exact HS.out.2.2))).mono ?_; rintro e w1 ⟨rfl, hb1⟩) | (go_at_call 18; refine (carry ‹Below w.heap.size w _› (of_any _ _ (by first | exact HS.out.1 | exact HS.out.2.1 | exact HS.out.2.2))).mono ?_; rintro e w1 ⟨rfl, hb1⟩))
      refine (both_int _ _ _ (n + m) (by omega) (by omega) _).mono ?_; rintro e w1 ⟨rfl, rfl⟩
      go_wp2_with (first | (go_at_call 12; refine (carry ‹Below w.heap.size w _› (awake_any _)).mono ?_; rintro e w1 ⟨rfl, hb1⟩) | (go_at_call 20; refine (carry ‹Below w.heap.size w _› (add_any _ _ _ rfl _ (by first | exact HS.out.1 | exact HS.out.2.1 | exact HS.out.2.2))).mono ?_; rintro e w1 ⟨rfl, hb1⟩) | (go_at_call 18; refine (carry ‹Below w.heap.size w _› (of_any _ _ (by first | exact HS.out.1 | exact HS.out.2.1 | exact HS.out.2.2))).mono ?_; rintro e w1 ⟨rfl, hb1⟩))
      go_ret
      exact ⟨rfl, ‹Below w.heap.size w _›⟩
    · go_enter Try.func8, Try.ntmps8
      go_wp2_with (go_at_call 12; refine (carry ‹Below w.heap.size w _› (awake_any _)).mono ?_; rintro e w1 ⟨rfl, hb1⟩)
      go_ret
      exact ⟨rfl, ‹Below w.heap.size w _›⟩
  · go_enter Try.func8, Try.ntmps8
    go_wp2_with (go_at_call 12; refine (carry ‹Below w.heap.size w _› (awake_any _)).mono ?_; rintro e w1 ⟨rfl, hb1⟩)
    go_ret
    exact ⟨rfl, ‹Below w.heap.size w _›⟩

end Go.Proofs.Ytmmggkjfhiflaaa.Crc
