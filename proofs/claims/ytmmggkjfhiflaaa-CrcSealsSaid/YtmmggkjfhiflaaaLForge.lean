/-
  The walk of the statement CrcForge.
-/
import Derived.Test.YtmmggkjfhiflaaaLSealed
import Derived.Test.YtmmggkjfhiflaaaW10
namespace Go.Proofs.Ytmmggkjfhiflaaa.Crc
open Go.RowKit

theorem xor_canc (a y : W) : ~~~ a ^^^ (a ^^^ y) = ~~~ y := by
  apply BitVec.eq_of_getLsbD_eq; intro i hi
  rw [BitVec.getLsbD_xor, BitVec.getLsbD_xor, BitVec.getLsbD_not, BitVec.getLsbD_not]
  cases a.getLsbD i <;> cases y.getLsbD i <;> simp [hi]
theorem add_four (a w : W) : addW a (fourL w) = ~~~ it 32 (~~~ a ^^^ w) := by unfold addW; rw [raw_fourL]
theorem forge_of (l : List UInt8) (n : Nat) (c : W) : ofW (forgeL l n c) = c := by
  have hz : (none4 : List UInt8) = fourL 0 := by decide +kernel
  have hb : backW c (none4 ++ l.drop (n + 4)) = backW (backW c (l.drop (n + 4))) none4 := back_append _ _ _
  have h0 : addW (ofW (l.take n)) (fourL (wordOf l n c)) = backW c (l.drop (n + 4)) := by
    unfold wordOf
    rw [add_four, xor_canc, hb]
    have := add_back (backW c (l.drop (n + 4))) none4
    rw [hz, add_four] at this
    rw [hz]
    have e : ∀ x : W, ~~~ x ^^^ (0 : W) = ~~~ x := fun x => BitVec.xor_zero
    rw [e] at this; exact this
  show addW 0 (l.take n ++ fourL (wordOf l n c) ++ l.drop (n + 4)) = c
  rw [add_append, add_append]
  show addW (addW (ofW (l.take n)) _) _ = c
  rw [h0, add_back]
theorem four_inj {a b : W} (h : fourL a = fourL b) : a = b := by
  apply BitVec.eq_of_getLsbD_eq; intro i hi
  rw [← bitAt_fourL a i hi, h, bitAt_fourL b i hi]
theorem not_inj {a b : W} (h : ~~~ a = ~~~ b) : a = b := by rw [← not_not a, h, not_not]
theorem xor_inj {a b c : W} (h : c ^^^ a = c ^^^ b) : a = b := by
  have : c ^^^ (c ^^^ a) = c ^^^ (c ^^^ b) := by rw [h]
  rw [← BitVec.xor_assoc, ← BitVec.xor_assoc, BitVec.xor_self] at this
  simpa using this
/-- with other four bytes there the checksum is another one -/
theorem forge_one (l : List UInt8) (n : Nat) (c o : W) : (ofW (over_ l n (fourL o)) = c) ↔ over_ l n (fourL o) = forgeL l n c := by
  constructor
  · intro h
    have h2 : ofW (over_ l n (fourL o)) = ofW (over_ l n (fourL (wordOf l n c))) := h.trans (forge_of l n c).symm
    have e : ∀ x, ofW (over_ l n (fourL x)) = addW (addW (ofW (l.take n)) (fourL x)) (l.drop (n + 4)) := fun x => by
      show addW 0 (l.take n ++ fourL x ++ l.drop (n + 4)) = _
      rw [add_append, add_append]; rfl
    rw [e, e] at h2
    have h3 := add_inj h2
    rw [add_four, add_four] at h3
    have := xor_inj (it_inj (not_inj h3))
    rw [this]; rfl
  · intro h; rw [h, forge_of]
theorem forge_length (l : List UInt8) (n : Nat) (c : W) (h : n + 4 ≤ l.length) : (forgeL l n c).length = l.length := over_length l n _ h
theorem forge_take (l : List UInt8) (n : Nat) (c : W) (h : n + 4 ≤ l.length) : (forgeL l n c).take n = l.take n := over_take l n _ h
theorem forge_drop (l : List UInt8) (n : Nat) (c : W) (h : n + 4 ≤ l.length) : (forgeL l n c).drop (n + 4) = l.drop (n + 4) := by
  show (over_ l n (fourL (wordOf l n c))).drop (n + 4) = _
  rw [← List.drop_drop, over_drop l n (fourL (wordOf l n c)) h, List.drop_left' (show (fourL (wordOf l n c)).length = 4 from rfl)]; rfl

/-- a literal of four bytes, as a text -/
theorem conv_lit4 (W : World) (x0 x1 x2 x3 : Int) : (convert 42 9 (.slice (some ⟨W.heap.size, 0, none⟩) 4 4)).run Try.prog (W.alloc (.cells #[.int .u8 x0, .int .u8 x1, .int .u8 x2, .int .u8 x3] 5)).drew = .ok (.string (strOfNums [x0, x1, x2, x3])) (W.alloc (.cells #[.int .u8 x0, .int .u8 x1, .int .u8 x2, .int .u8 x3] 5)).drew := by
  refine run_convert_bytes_arg (P := Try.prog) _ 42 5 Try.underlying42 Try.underlying5 W.heap.size 0 4 4 [x0, x1, x2, x3] rfl (fun i hi => ?_) 9 Try.underlying9
  show (W.alloc _).cell? _ = _
  rw [Nat.zero_add, cell_of_row _ _ _ _ _ _ (heap_alloc_new W _)]
  have hi2 : i = 0 ∨ i = 1 ∨ i = 2 ∨ i = 3 := by omega
  rcases hi2 with rfl | rfl | rfl | rfl <;> rfl
theorem u8_V (o : W) : strOfNums [V o % (256 : Int), V o / (256 : Int) % (256 : Int), V o / (65536 : Int) % (256 : Int), V o / (16777216 : Int) % (256 : Int)] = S (fourL o) := by
  rw [low_0, low_1, low_2, low_3]
  have hb : ∀ b : UInt8, UInt8.ofNat ((b.toNat : Int).toNat) = b := fun b => by rw [Int.toNat_natCast]; exact UInt8.ofNat_toNat
  unfold strOfNums S fourL
  simp only [List.map_cons, List.map_nil, hb]
theorem u_eq (s : ByteArray) (n : Nat) (o : W) : (s.extract 0 n ++ strOfNums [V o % (256 : Int), V o / (256 : Int) % (256 : Int), V o / (65536 : Int) % (256 : Int), V o / (16777216 : Int) % (256 : Int)] ++ s.extract (n + 4) s.size) = S (over_ s.data.toList n (fourL o)) := by
  have he : (s.extract (n + 4) s.size).data.toList = s.data.toList.drop (n + 4) := by
    rw [Lib.extract_data, List.take_of_length_le]
    rw [List.length_drop, Array.length_toList]; exact Nat.le_refl _
  rw [u8_V]
  apply ByteArray.ext; apply Array.toList_inj.1
  rw [ByteArray.data_append, ByteArray.data_append, Array.toList_append, Array.toList_append, Lib.extract_data, he, S_list, S_list, List.drop_zero, Nat.sub_zero]
  rfl
theorem fin_forge (s T U : ByteArray) (n : Nat) (c o : W) (hT : T.data.toList = forgeL s.data.toList n c) (hU : U = S (over_ s.data.toList n (fourL o))) : ((V (ofW U.data.toList) == V c) == (U.toList == T.toList)) = true := by
  have h := forge_one s.data.toList n c o
  rw [V_beq, ByteArray.toList_eq, ByteArray.toList_eq, hT, hU, S_list]
  by_cases g : over_ s.data.toList n (fourL o) = forgeL s.data.toList n c
  · rw [beq_iff_eq.2 g, beq_iff_eq.2 (h.2 g)]; rfl
  · rw [beq_eq_false_iff_ne.2 g, beq_eq_false_iff_ne.2 (fun e => g (h.1 e))]; rfl

set_option maxRecDepth 100000 in
set_option maxHeartbeats 1000000 in
theorem crcForge_walk (s : ByteArray) (a1 a2 a3 : Int) (_w0 : s.size ≤ maxLen) (_w1 : (Lit.int .i64 a1).wf = true) (w2 : (Lit.int .u32 a2).wf = true) (w3 : (Lit.int .u32 a3).wf = true) (w : World) :
    Calls Try.prog 10 #[.string s, .int .i64 a1, .int .u32 a2, .int .u32 a3] w fun e w' => e = .returned (.bool true) ∧ Below w.heap.size w w' := by
  obtain ⟨c, rfl⟩ := word_of w2
  obtain ⟨o, rfl⟩ := word_of w3
  clear _w0 _w1 w2 w3
  have hb0 : Below w.heap.size w w := Below.refl _ _
  by_cases hs : s.size ≤ 3000
  · by_cases hr : a1 < 0 ∨ (s.size : Int) - 4 < a1
    · have HR := Lib.hid hr
      by_cases h0 : a1 < 0
      · clear hr
        go_enter Try.func10, Try.ntmps10
        go_wp2_with (first | (go_at_call 12; refine (carry ‹Below w.heap.size w _› (awake_any _)).mono ?_; rintro e w1 ⟨rfl, hb1⟩) | (go_at_call 16; refine (carry ‹Below w.heap.size w _› (forge_short s _ _ HR.out _ (by omega))).mono ?_; rintro e w1 ⟨rfl, hb1⟩))
        go_ret
        exact ⟨rfl, ‹Below w.heap.size w _›⟩
      · have h1 : (s.size : Int) - 4 < a1 := by omega
        clear hr
        go_enter Try.func10, Try.ntmps10
        go_wp2_with (first | (go_at_call 12; refine (carry ‹Below w.heap.size w _› (awake_any _)).mono ?_; rintro e w1 ⟨rfl, hb1⟩) | (go_at_call 16; refine (carry ‹Below w.heap.size w _› (forge_short s _ _ HR.out _ (by omega))).mono ?_; rintro e w1 ⟨rfl, hb1⟩))
        go_ret
        exact ⟨rfl, ‹Below w.heap.size w _›⟩
    · obtain ⟨n, rfl⟩ : ∃ n : Nat, a1 = (n : Int) := ⟨a1.toNat, by omega⟩
      have hn : n + 4 ≤ s.size := by omega
      have hl : s.data.toList.length = s.size := by simp
      have hn0 : ¬ (n : Int) < 0 := by omega
      have hn1 : ¬ (s.size : Int) - 4 < (n : Int) := by omega
      have hf : n + 4 ≤ s.data.toList.length := by omega
      have h1 : (S (forgeL s.data.toList n c)).size = s.size := by rw [S_size, forge_length _ _ _ hf, hl]
      have h2 : (S (forgeL s.data.toList n c)).extract 0 n = s.extract 0 n := by
        apply ByteArray.ext; apply Array.toList_inj.1
        rw [Lib.extract_data, Lib.extract_data, S_list, List.drop_zero, List.drop_zero, Nat.sub_zero, forge_take _ _ _ hf]
      have h3 : (S (forgeL s.data.toList n c)).extract (n + 4) s.size = s.extract (n + 4) s.size := by
        apply ByteArray.ext; apply Array.toList_inj.1
        rw [Lib.extract_data, Lib.extract_data, S_list, forge_drop _ _ _ hf]
      have h4 : V (ofW (S (forgeL s.data.toList n c)).data.toList) = V c := by rw [S_list, forge_of]
      have HF := Lib.hid (forge_one s.data.toList n c o)
      have HT := Lib.hid (forge_take s.data.toList n c hf)
      have HD := Lib.hid (forge_drop s.data.toList n c hf)
      clear hr hf hl
      go_enter Try.func10, Try.ntmps10
      go_wp2_with (first | (go_at_call 12; refine (carry ‹Below w.heap.size w _› (awake_any _)).mono ?_; rintro e w1 ⟨rfl, hb1⟩) | (go_at_call 16; refine (carry ‹Below w.heap.size w _› (forge_long s n c hn _ (by omega))).mono ?_; rintro e w1 ⟨rfl, hb1⟩))
      have HTL : Hid ((S (forgeL s.data.toList n c)).data.toList = forgeL s.data.toList n c) := S_list _
      have hTs : (S (forgeL s.data.toList n c)).size ≤ maxLen := by rw [h1]; unfold maxLen; omega
      have HTs := Lib.hid hTs; clear hTs
      generalize S (forgeL s.data.toList n c) = T at *
      have hn2 : (n : Int) ≤ (s.size : Int) := by omega
      have hn3 : (n : Int) + 4 ≤ (s.size : Int) := by omega
      have hn4 : (0 : Int) ≤ (n : Int) := by omega
      have hs1 : IntKind.i64.wrap ((n : Int) + 4) = (n : Int) + 4 := IntWalk.i64_in _ (by omega)
      have hs2 : (0 : Int) ≤ (n : Int) + 4 := by omega
      have hs3 : ((n : Int) + 4).toNat = n + 4 := by omega
      go_region_held3 (fun w' => Below w.heap.size w w') (first | exact Below.drew (by assumption) | assumption) (first | (go_at_call 18; refine (carry (by assumption) (of_any T _ HTs.out)).mono ?_; rintro e w' ⟨rfl, hbw⟩))
      clear hs1 hs2 hs3
      go_wp2_with fail
      have hs1 : IntKind.i64.wrap ((n : Int) + 4) = (n : Int) + 4 := IntWalk.i64_in _ (by omega)
      have hs2 : (0 : Int) ≤ (n : Int) + 4 := by omega
      have hs3 : ((n : Int) + 4).toNat = n + 4 := by omega
      have hcv := conv_lit4
      have hx1 : (s.extract 0 n).size = n := by rw [ByteArray.size_extract]; omega
      have hx2 : (s.extract (n + 4) s.size).size = s.size - (n + 4) := by rw [ByteArray.size_extract]; omega
      have hx3 : ∀ x0 x1 x2 x3 : Int, (strOfNums [x0, x1, x2, x3]).size = 4 := fun _ _ _ _ => rfl
      go_region_with (fail)
      clear hs1 hs2 hs3
      go_wp2_with fail
      rw [u_eq s n o]
      have hUs : (S (over_ s.data.toList n (fourL o))).size ≤ maxLen := by
        rw [S_size, over_length _ _ _ (by show n + 4 ≤ _; simp; omega)]
        unfold maxLen; simp; omega
      have hfin := fun (U : ByteArray) (hU : U = S (over_ s.data.toList n (fourL o))) => fin_forge s T U n c o HTL.out hU
      have HUs := Lib.hid hUs; have HFin := Lib.hid hfin; clear hUs hfin
      generalize hU : S (over_ s.data.toList n (fourL o)) = U at *
      have HFin2 := Lib.hid (HFin.out U rfl)
      clear HFin hU hx1 hx2 hx3 hcv h1 h2 h3 h4
      refine (carry (Below.drew (Below.alloc ‹Below w.heap.size w w'› (Below.size ‹Below w.heap.size w w'›) _)) (of_any U _ HUs.out)).mono ?_; rintro e w9 ⟨rfl, hb9⟩
      go_wp2_with fail
      go_ret
      exact ⟨ret_bool HFin2.out, hb9⟩
  · go_enter Try.func10, Try.ntmps10
    go_wp2_with (go_at_call 12; refine (carry ‹Below w.heap.size w _› (awake_any _)).mono ?_; rintro e w1 ⟨rfl, hb1⟩)
    go_ret
    exact ⟨rfl, ‹Below w.heap.size w _›⟩

end Go.Proofs.Ytmmggkjfhiflaaa.Crc
