/-
  The walks of Of, Add, Back, and of the document's own table, and its way back.
-/
import Derived.Test.YthaafniahkejkaaW6
namespace Go.Proofs.Ythaafniahkejkaa.Crc
open Go.RowKit

theorem add_any (c : W) (s : ByteArray) (x : Int) (hx : x = V c) (w : World) (hs : s.size ≤ maxLen) :
    Calls Try.prog 45 #[.int .u32 x, .string s] w fun e w' => e = .returned (.int .u32 (V (addW c s.data.toList))) ∧ Below w.heap.size w w' := by
  have HX := Lib.hid hx; clear hx
  go_enter Try.func45, Try.ntmps45
  go_wp2_with (first | (go_at_call 57; refine (table_any _).mono ?_; rintro e w1 ⟨rfl, hb1⟩) | (go_at_call 56; refine (forward_any c s x HX.out _ hs).mono ?_; rintro e w2 ⟨rfl, hb2⟩))
  go_ret
  exact ⟨rfl, hb1.trans (hb2.mono hb1.size)⟩
theorem of_any (s : ByteArray) (w : World) (hs : s.size ≤ maxLen) :
    Calls Try.prog 46 #[.string s] w fun e w' => e = .returned (.int .u32 (V (ofW s.data.toList))) ∧ Below w.heap.size w w' := by
  go_enter Try.func46, Try.ntmps46
  go_wp2_with (go_at_call 45; refine (add_any 0 s _ rfl _ hs).mono ?_; rintro e w1 ⟨rfl, hb1⟩)
  go_ret
  exact ⟨rfl, hb1⟩
/-- bytes as cells -/
def cellsB (l : List UInt8) : Array Value := (l.map fun b : UInt8 => Value.int .u8 (b.toNat : Int)).toArray
theorem cellsB_get (l : List UInt8) (n : Nat) (h : n < l.length) : (cellsB l)[n]? = some (.int .u8 (l[n].toNat : Int)) := by
  unfold cellsB
  rw [List.getElem?_toArray, List.getElem?_map, List.getElem?_eq_getElem h]; rfl
theorem cellsB_size (l : List UInt8) : (cellsB l).size = l.length := by unfold cellsB; simp
theorem cellsB_one (l : List UInt8) : (cellsB l).all (·.oneCell') = true := by
  unfold cellsB; rw [List.all_toArray, List.all_map, List.all_eq_true]; intro x _; rfl
theorem low_0 (c : W) : V c % (256 : Int) = ((UInt8.ofNat c.toNat).toNat : Int) := by
  rw [UInt8.toNat_ofNat']; rfl
theorem low_1 (c : W) : V c / (256 : Int) % (256 : Int) = ((UInt8.ofNat (c.toNat / 256)).toNat : Int) := by
  rw [UInt8.toNat_ofNat']; rfl
theorem low_2 (c : W) : V c / (65536 : Int) % (256 : Int) = ((UInt8.ofNat (c.toNat / 65536)).toNat : Int) := by
  rw [UInt8.toNat_ofNat']; rfl
theorem low_3 (c : W) : V c / (16777216 : Int) % (256 : Int) = ((UInt8.ofNat (c.toNat / 16777216)).toNat : Int) := by
  rw [UInt8.toNat_ofNat']; rfl
theorem low_cells (c : W) : #[Value.int .u8 (V c % (256 : Int)), .int .u8 (V c / (256 : Int) % (256 : Int)), .int .u8 (V c / (65536 : Int) % (256 : Int)), .int .u8 (V c / (16777216 : Int) % (256 : Int))] = cellsB (fourL c) := by
  rw [low_0, low_1, low_2, low_3]; rfl
theorem over_int (c : W) (x y : Int) (hx : x = V c) (hy : y = 0) (w : World) :
    Calls Try.prog 58 #[.int .u32 x, .int .u8 y] w fun e w' => e = .returned (.int .u32 (V (it 8 c))) ∧ w = w' := by
  subst hx hy
  have h : step c 0 = it 8 c := by
    unfold step
    have : w8 0 = BitVec.ofNat 32 0 := rfl
    rw [this, BitVec.xor_zero]
  rw [← h]
  exact over_any c 0 w
theorem V_ofNat (k : Nat) (h : k < 256) : (k : Int) = V (BitVec.ofNat 32 k) := by
  unfold V; rw [BitVec.toNat_ofNat, Nat.mod_eq_of_lt (by omega)]
/-! ### the document's way back -/
def fromBit (b : UInt8) (t i : Nat) : Bool := b.toNat.testBit (t + i)
theorem rb_un (d : W) (b : UInt8) (t : Nat) (ht : t < 8) (st : W) (h : rb d (fromBit b (t + 1)) (8 - (t + 1)) = st) : rb (un d ^^^ bit (b.toNat.testBit t)) (fromBit b t) (8 - t) = st := by
  rw [show 8 - t = 1 + (8 - (t + 1)) by omega, rb_add]
  have e1 : rb (un d ^^^ bit (b.toNat.testBit t)) (fromBit b t) 1 = d := by
    show sh (un d ^^^ bit (b.toNat.testBit t) ^^^ bit (b.toNat.testBit (t + 0))) = d
    rw [Nat.add_zero, BitVec.xor_assoc, BitVec.xor_self, BitVec.xor_zero, sh_un]
  rw [e1, ← h]
  apply rb_congr
  intro i _
  unfold fromBit; congr 1; omega
theorem rb_un_all (d : W) (b : UInt8) (st : W) (h : rb d (fromBit b 0) 8 = st) : d = unstep st b := by
  apply unstep_of
  rw [← rb_byte, ← h]
  apply rb_congr
  intro i _
  unfold fromBit; rw [Nat.zero_add]
theorem or_xor_low (y : W) (b c : Bool) : (y <<< 1) ||| (bit b ^^^ bit c) = (y <<< 1) ^^^ bit b ^^^ bit c := by
  apply BitVec.eq_of_getLsbD_eq; intro i hi
  rw [BitVec.getLsbD_or, BitVec.getLsbD_xor, BitVec.getLsbD_xor, BitVec.getLsbD_xor, getLsbD_bit, getLsbD_bit, BitVec.getLsbD_shiftLeft]
  by_cases h : i = 0
  · subst h; simp
  · simp [h]
theorem un_V1 (d : W) (b : UInt8) (t : Nat) (h : d.getLsbD 31 = true) : bits .or .u32 (bits .xor .u32 (V d) 3988292384 * (2 : Int) % (4294967296 : Int)) (bits .xor .u32 1 (bits .and .u32 ((b.toNat : Int) % 4294967296 / 2 ^ t) 1)) = V (un d ^^^ bit (b.toNat.testBit t)) := by
  have e1 : ∀ a : W, V a * (2 : Int) % (4294967296 : Int) = V (a <<< 1) := by intro a; rw [← IntKind.wrap_u32']; exact shl_V a 1
  have e2 : (1 : Int) = V (bit true) := rfl
  rw [byte_bit, bits_xor_poly, e1, e2, bits_xor_V, bits_or_V, or_xor_low]
  unfold un; rw [h]; rfl
theorem un_V0 (d : W) (b : UInt8) (t : Nat) (h : d.getLsbD 31 = false) : bits .or .u32 (V d * (2 : Int) % (4294967296 : Int)) (bits .xor .u32 0 (bits .and .u32 ((b.toNat : Int) % 4294967296 / 2 ^ t) 1)) = V (un d ^^^ bit (b.toNat.testBit t)) := by
  have e1 : ∀ a : W, V a * (2 : Int) % (4294967296 : Int) = V (a <<< 1) := by intro a; rw [← IntKind.wrap_u32']; exact shl_V a 1
  have e2 : (0 : Int) = V (bit false) := rfl
  rw [byte_bit, e1, e2, bits_xor_V, bits_or_V, or_xor_low]
  unfold un; rw [h]; rfl
theorem topV (d : W) : V d / (2147483648 : Int) = V (bit (d.getLsbD 31)) := by
  have h := top_bit d
  cases hb : d.getLsbD 31
  · rw [hb] at h
    have e : V d / (2147483648 : Int) = V (d >>> 31) := shr_V d 31
    have g : d >>> 31 = 0 := by
      apply BitVec.eq_of_getLsbD_eq; intro i hi
      rw [BitVec.getLsbD_ushiftRight]
      by_cases h0 : i = 0
      · subst h0; rw [hb]; simp
      · rw [BitVec.getLsbD_of_ge _ _ (by omega)]; simp
    rw [e, g]; rfl
  · rw [hb] at h; exact beq_iff_eq.1 h

end Go.Proofs.Ythaafniahkejkaa.Crc
