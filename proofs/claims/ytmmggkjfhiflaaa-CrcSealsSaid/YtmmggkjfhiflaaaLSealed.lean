/-
  The walk of the statement CrcSealed.
-/
import Derived.Test.YtmmggkjfhiflaaaLBack
namespace Go.Proofs.Ytmmggkjfhiflaaa.Crc
open Go.RowKit

def residue : W := 558161692
theorem res_eq : ~~~ it 32 (~~~ (0 : W)) = residue := by decide +kernel
theorem of_sealed (l : List UInt8) : ofW (l ++ fourL (ofW l)) = residue := by
  have h : ofW (l ++ fourL (ofW l)) = ~~~ it 32 (raw (~~~ 0) l ^^^ ~~~ raw (~~~ 0) l) := by
    conv => lhs; unfold ofW addW
    rw [raw_append, raw_fourL]
  have e : raw (~~~ 0) l ^^^ ~~~ raw (~~~ 0) l = ~~~ (0 : W) := by
    apply BitVec.eq_of_getLsbD_eq; intro i hi
    have z : (0 : W).getLsbD i = false := by simp
    rw [BitVec.getLsbD_xor, BitVec.getLsbD_not, BitVec.getLsbD_not, z]; simp [hi]
  rw [h, e, res_eq]
theorem of_residue (l : List UInt8) (w : W) (h : ofW (l ++ fourL w) = residue) : w = ofW l := by
  rw [← of_sealed l] at h
  unfold ofW addW at h
  rw [raw_append, raw_append, raw_fourL, raw_fourL] at h
  have h2 : ∀ a b : W, ~~~ a = ~~~ b → a = b := by
    intro a b h; rw [← not_not a, h, not_not]
  have := it_inj (h2 _ _ h)
  have h3 : ∀ a b c : W, c ^^^ a = c ^^^ b → a = b := by
    intro a b c h
    have : c ^^^ (c ^^^ a) = c ^^^ (c ^^^ b) := by rw [h]
    rw [← BitVec.xor_assoc, ← BitVec.xor_assoc, BitVec.xor_self] at this
    simpa using this
  exact h3 _ _ _ this
theorem S_eq {s : ByteArray} {l : List UInt8} (h : l = s.data.toList) : S l = s := by
  subst h; apply ByteArray.ext; rfl
theorem open_seal (s : ByteArray) (w : World) (hs : s.size ≤ 281474976700000) :
    Calls Try.prog 15 #[.string (sealS s)] w fun e w' => e = .returned (.tuple #[.string s, .int .i64 0]) ∧ Below w.heap.size w w' := by
  have hsz := sealS_size s
  refine (open_any (sealS s) w (by omega)).mono ?_
  rintro e w' ⟨⟨x, k, rfl, h⟩, hb⟩
  have hl : s.data.toList.length = s.size := by simp
  have e1 : (sealS s).data.toList.take ((sealS s).size - 4) = s.data.toList := by
    rw [sealS_list, hsz, Nat.add_sub_cancel, ← hl, List.take_left]
  have e2 : (sealS s).data.toList.drop ((sealS s).size - 4) = fourL (ofW s.data.toList) := by
    rw [sealS_list, hsz, Nat.add_sub_cancel, ← hl, List.drop_left]
  rw [e1, e2] at h
  rcases h with ⟨h, _, _⟩ | ⟨_, _, rfl, rfl⟩ | ⟨_, h, _, _⟩
  · omega
  · exact ⟨by rw [S_eq rfl]; rfl, hb⟩
  · exact absurd rfl h
/-- Open, by the three ways -/
theorem open_ok (s : ByteArray) (w : World) (hs : s.size ≤ 281474976700000) (h4 : 4 ≤ s.size) (h : s.data.toList.drop (s.size - 4) = fourL (ofW (s.data.toList.take (s.size - 4)))) :
    Calls Try.prog 15 #[.string s] w fun e w' => e = .returned (.tuple #[.string (S (s.data.toList.take (s.size - 4))), .int .i64 0]) ∧ Below w.heap.size w w' := by
  refine (open_any s w (by omega)).mono ?_
  rintro e w' ⟨⟨x, k, rfl, g⟩, hb⟩
  rcases g with ⟨g, _, _⟩ | ⟨_, _, rfl, rfl⟩ | ⟨_, g, _, _⟩
  · omega
  · exact ⟨rfl, hb⟩
  · exact absurd h g
theorem open_sum (s : ByteArray) (w : World) (hs : s.size ≤ 281474976700000) (h4 : 4 ≤ s.size) (h : s.data.toList.drop (s.size - 4) ≠ fourL (ofW (s.data.toList.take (s.size - 4)))) :
    Calls Try.prog 15 #[.string s] w fun e w' => e = .returned (.tuple #[.string ⟨#[]⟩, .int .i64 42]) ∧ Below w.heap.size w w' := by
  refine (open_any s w (by omega)).mono ?_
  rintro e w' ⟨⟨x, k, rfl, g⟩, hb⟩
  rcases g with ⟨g, _, _⟩ | ⟨_, g, _, _⟩ | ⟨_, _, rfl, rfl⟩
  · omega
  · exact absurd g h
  · exact ⟨rfl, hb⟩

set_option maxRecDepth 100000 in
set_option maxHeartbeats 1000000 in
theorem crcSealed_walk (s t : ByteArray) (_w0 : s.size ≤ maxLen) (_w1 : t.size ≤ maxLen) (w : World) :
    Calls Try.prog 11 #[.string s, .string t] w fun e w' => e = .returned (.bool true) ∧ Below w.heap.size w w' := by
  clear _w0 _w1
  have hb0 : Below w.heap.size w w := Below.refl _ _
  by_cases hs : s.size ≤ 3000
  · by_cases ht : t.size ≤ 3000
    · have h1 := sealS_size s
      have h2 : V (ofW (sealS s).data.toList) = 558161692 := by rw [sealS_list, of_sealed]; rfl
      have HS : Hid ((sealS s).size ≤ maxLen) := by show _ ≤ _; rw [h1]; unfold maxLen; omega
      go_enter Try.func11, Try.ntmps11
      go_wp2_with (first | (go_at_call 12; refine (carry ‹Below w.heap.size w _› (awake_any _)).mono ?_; rintro e w1 ⟨rfl, hb1⟩) | (go_at_call 26; refine (carry ‹Below w.heap.size w _› (seal_any s _ (by omega))).mono ?_; rintro e w1 ⟨rfl, hb1⟩))
      refine (carry ‹Below w.heap.size w _› (open_seal s _ (by omega))).mono ?_; rintro e w1 ⟨rfl, hb1⟩
      go_wp2_with (first | (go_at_call 26; refine (carry ‹Below w.heap.size w _› (seal_any s _ (by omega))).mono ?_; rintro e w1 ⟨rfl, hb1⟩) | (go_at_call 18; refine (carry ‹Below w.heap.size w _› (of_any _ _ HS.out)).mono ?_; rintro e w1 ⟨rfl, hb1⟩))
      clear h1 h2
      by_cases h4 : t.size < 4
      · refine (carry ‹Below w.heap.size w _› (open_short t _ h4)).mono ?_; rintro e w1 ⟨rfl, hb1⟩
        go_wp2_with fail
        go_ret
        exact ⟨ret_bool (by simp; omega), ‹Below w.heap.size w _›⟩
      · by_cases h5 : t.data.toList.drop (t.size - 4) = fourL (ofW (t.data.toList.take (t.size - 4)))
        · refine (carry ‹Below w.heap.size w _› (open_ok t _ (by omega) (by omega) h5)).mono ?_; rintro e w1 ⟨rfl, hb1⟩
          have hx : (sealS (S (t.data.toList.take (t.size - 4)))).toList = t.toList := by
            rw [ByteArray.toList_eq, ByteArray.toList_eq, sealS_list, S_list, ← h5, List.take_append_drop]
          have hz : (S (t.data.toList.take (t.size - 4))).size ≤ 281474976710656 := by
            rw [S_size, List.length_take]; omega
          have HX := Lib.hid hx; have HZ := Lib.hid hz; clear hx hz h5
          generalize S (t.data.toList.take (t.size - 4)) = u at *
          have hx : ((sealS u).toList == t.toList) = true := beq_iff_eq.2 HX.out
          go_wp2_with (go_at_call 26; refine (carry ‹Below w.heap.size w _› (seal_any u _ HZ.out)).mono ?_; rintro e w1 ⟨rfl, hb1⟩)
          go_ret
          exact ⟨rfl, ‹Below w.heap.size w _›⟩
        · refine (carry ‹Below w.heap.size w _› (open_sum t _ (by omega) (by omega) h5)).mono ?_; rintro e w1 ⟨rfl, hb1⟩
          clear h5
          go_wp2_with fail
          go_ret
          exact ⟨ret_bool (by simp; omega), ‹Below w.heap.size w _›⟩
    · go_enter Try.func11, Try.ntmps11
      go_wp2_with (go_at_call 12; refine (carry ‹Below w.heap.size w _› (awake_any _)).mono ?_; rintro e w1 ⟨rfl, hb1⟩)
      go_ret
      exact ⟨rfl, ‹Below w.heap.size w _›⟩
  · go_enter Try.func11, Try.ntmps11
    go_wp2_with (go_at_call 12; refine (carry ‹Below w.heap.size w _› (awake_any _)).mono ?_; rintro e w1 ⟨rfl, hb1⟩)
    go_ret
    exact ⟨rfl, ‹Below w.heap.size w _›⟩

end Go.Proofs.Ytmmggkjfhiflaaa.Crc
