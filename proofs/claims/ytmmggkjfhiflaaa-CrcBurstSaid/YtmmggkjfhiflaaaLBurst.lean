/-
  The walk of the statement CrcBurst.
-/
import Derived.Test.YtmmggkjfhiflaaaLSealed
import Derived.Test.YtmmggkjfhiflaaaW11
namespace Go.Proofs.Ytmmggkjfhiflaaa.Crc
open Go.RowKit

theorem carryR {P : Program} {f : FuncId} {args : Array Value} {w0 w : World} {R : Ending → Prop} (h : Below w0.heap.size w0 w) (c : Calls P f args w (fun e w' => R e ∧ Below w.heap.size w w')) :
    Calls P f args w (fun e w' => R e ∧ Below w0.heap.size w0 w') :=
  c.mono fun _ _ ⟨he, hb⟩ => ⟨he, h.trans (hb.mono h.size)⟩
def BurstOf (s : ByteArray) (e : Ending) : Prop := ∃ (T : ByteArray) (b : Bool), T.size = s.size ∧ e = .returned (.tuple #[.string T, .bool b]) ∧ (ofW s.data.toList = ofW T.data.toList ↔ b = false)
theorem burst_all (s : ByteArray) (a : Int) (p : W) (w : World) (hs : s.size ≤ 4000) :
    Calls Try.prog 29 #[.string s, .int .i64 a, .int .u32 (V p)] w fun e w' => BurstOf s e ∧ Below w.heap.size w w' := by
  by_cases h0 : 0 < s.size
  · refine (burst_any s a p w h0 hs).mono ?_
    rintro e w' ⟨⟨f, k, h1, h2, rfl⟩, hb⟩
    have hl : s.data.toList.length = s.size := by simp
    refine ⟨⟨_, _, ?_, rfl, ?_⟩, hb⟩
    · rw [S_size, tog_length, hl]
    · rw [S_list]; exact burst_of _ f p k h2 (by rw [hl]; exact h1)
  · have e0 : s.size = 0 := by omega
    obtain ⟨W, cap, hrun, hbuf, hbelW, hcap, hWs⟩ := conv_string w s
    clear hbuf hWs h0
    have hB := Lib.hid hbelW; clear hbelW
    go_enter Try.func29, Try.ntmps29
    go_wp2_with fail
    go_ret2
    exact ⟨⟨s, false, rfl, rfl, by simp⟩, hB.out⟩
/-- four bytes are a number's -/
theorem four_of (d : List UInt8) (h : d.length = 4) : ∃ w : W, d = fourL w := by
  match d, h with
  | [b0, b1, b2, b3], _ =>
    have h0 := b0.toNat_lt; have h1 := b1.toNat_lt; have h2 := b2.toNat_lt; have h3 := b3.toNat_lt
    refine ⟨BitVec.ofNat 32 (b0.toNat + 256 * b1.toNat + 65536 * b2.toNat + 16777216 * b3.toNat), ?_⟩
    unfold fourL
    rw [BitVec.toNat_ofNat, Nat.mod_eq_of_lt (by omega)]
    have e : ∀ (x : Nat) (b : UInt8), x % 256 = b.toNat → UInt8.ofNat x = b := by
      intro x b hx
      apply UInt8.toNat_inj.1
      rw [UInt8.toNat_ofNat']; exact hx
    rw [e _ b0 (by omega), e _ b1 (by omega), e _ b2 (by omega), e _ b3 (by omega)]
theorem open_iff (l : List UInt8) (h : 4 ≤ l.length) : (l.drop (l.length - 4) = fourL (ofW (l.take (l.length - 4)))) ↔ ofW l = residue := by
  constructor
  · intro e
    have := of_sealed (l.take (l.length - 4))
    rw [← e, List.take_append_drop] at this; exact this
  · intro e
    obtain ⟨w, hw⟩ := four_of (l.drop (l.length - 4)) (by rw [List.length_drop]; omega)
    have e2 : ofW (l.take (l.length - 4) ++ fourL w) = residue := by rw [← hw, List.take_append_drop]; exact e
    rw [hw, of_residue _ _ e2]

set_option maxRecDepth 100000 in
set_option maxHeartbeats 1000000 in
theorem crcBurst_walk (s : ByteArray) (a1 a2 : Int) (_w0 : s.size ≤ maxLen) (_w1 : (Lit.int .i64 a1).wf = true) (w2 : (Lit.int .u32 a2).wf = true) (w : World) :
    Calls Try.prog 6 #[.string s, .int .i64 a1, .int .u32 a2] w fun e w' => e = .returned (.bool true) ∧ Below w.heap.size w w' := by
  obtain ⟨p, rfl⟩ := word_of w2
  clear _w0 _w1 w2
  have hb0 : Below w.heap.size w w := Below.refl _ _
  by_cases hs : s.size ≤ 3000
  · go_enter Try.func6, Try.ntmps6
    go_wp2_with (go_at_call 12; refine (carry ‹Below w.heap.size w _› (awake_any _)).mono ?_; rintro e w1 ⟨rfl, hb1⟩)
    refine (carryR ‹Below w.heap.size w _› (burst_all s a1 p _ (by omega))).mono ?_; rintro e w1 ⟨⟨T, b, hT, rfl, hiff⟩, hb2⟩
    have h1 : ((V (ofW s.data.toList) == V (ofW T.data.toList)) == b) = false := by
      rw [V_beq]
      by_cases g : ofW s.data.toList = ofW T.data.toList
      · rw [beq_iff_eq.2 g, hiff.1 g]; rfl
      · have : b = true := by
          cases b
          · exact absurd (hiff.2 rfl) g
          · rfl
        rw [beq_eq_false_iff_ne.2 g, this]; rfl
    have HT : Hid (s.size ≤ maxLen ∧ T.size ≤ maxLen) := ⟨by unfold maxLen; omega, by rw [hT]; unfold maxLen; omega⟩
    clear hiff hT
    go_wp2_with (first | (go_at_call 18; refine (carry ‹Below w.heap.size w _› (of_any _ _ (by first | exact HT.out.1 | exact HT.out.2))).mono ?_; rintro e w1 ⟨rfl, hb1⟩) | (go_at_call 26; refine (carry ‹Below w.heap.size w _› (seal_any s _ (by omega))).mono ?_; rintro e w1 ⟨rfl, hb1⟩))
    refine (carryR ‹Below w.heap.size w _› (burst_all (sealS s) a1 p _ (by rw [sealS_size]; omega))).mono ?_; rintro e w1 ⟨⟨U, d, hU, rfl, hiff⟩, hb3⟩
    rw [sealS_list, of_sealed] at hiff
    rw [sealS_size] at hU
    have hl : U.data.toList.length = U.size := by simp
    have hop := open_iff U.data.toList (by omega)
    rw [hl] at hop
    have HU : Hid (4 ≤ U.size ∧ U.size ≤ 4000) := ⟨by omega, by omega⟩
    clear h1 hl
    cases d
    · have hok := hop.2 (hiff.2 rfl).symm
      have HOK := Lib.hid hok; clear hok hop hiff hU
      go_wp2_with fail
      refine (carry ‹Below w.heap.size w _› (open_ok U _ (by have := HU.out; omega) HU.out.1 HOK.out)).mono ?_; rintro e w1 ⟨rfl, hb1⟩
      go_wp2_with fail
      go_ret
      exact ⟨rfl, ‹Below w.heap.size w _›⟩
    · have hok : ¬ U.data.toList.drop (U.size - 4) = fourL (ofW (U.data.toList.take (U.size - 4))) := fun e => by
        have := hiff.1 (hop.1 e).symm
        cases this
      have HOK := Lib.hid hok; clear hok hop hiff hU
      go_wp2_with fail
      refine (carry ‹Below w.heap.size w _› (open_sum U _ (by have := HU.out; omega) HU.out.1 HOK.out)).mono ?_; rintro e w1 ⟨rfl, hb1⟩
      go_wp2_with fail
      go_ret
      exact ⟨rfl, ‹Below w.heap.size w _›⟩
  · go_enter Try.func6, Try.ntmps6
    go_wp2_with (go_at_call 12; refine (carry ‹Below w.heap.size w _› (awake_any _)).mono ?_; rintro e w1 ⟨rfl, hb1⟩)
    go_ret
    exact ⟨rfl, ‹Below w.heap.size w _›⟩

end Go.Proofs.Ytmmggkjfhiflaaa.Crc
