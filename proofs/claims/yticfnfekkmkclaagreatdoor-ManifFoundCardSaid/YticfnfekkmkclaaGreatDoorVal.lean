/-
  Numbers of 32 and of 8 bits as the walk writes them. No Go text is named here.
-/
import Derived.Test.YticfnfekkmkclaaGreatDoorMath
import Derived.WalkKit
namespace Go.Proofs.YticfnfekkmkclaaGreatDoor.Crc
open Go Go.RowKit

/-- a word's number -/
def V (c : W) : Int := (c.toNat : Int)
theorem V_nonneg (c : W) : 0 ≤ V c := Int.natCast_nonneg _
theorem V_lt (c : W) : V c < 4294967296 := by have := c.isLt; unfold V; omega
theorem V_inj {a b : W} : V a = V b ↔ a = b := by
  unfold V
  constructor
  · intro h; exact BitVec.eq_of_toNat_eq (by omega)
  · rintro rfl; rfl
theorem V_beq (a b : W) : (V a == V b) = (a == b) := by
  by_cases h : a = b
  · subst h; simp
  · have : V a ≠ V b := fun e => h (V_inj.1 e)
    rw [beq_eq_false_iff_ne.2 this, beq_eq_false_iff_ne.2 h]
theorem ofInt_V (c : W) : BitVec.ofInt 32 (V c) = c := by
  unfold V; rw [BitVec.ofInt_natCast]; simp
theorem wrap_V (c : W) : IntKind.u32.wrap (c.toNat : Int) = V c := by
  rw [IntKind.wrap_u32']; have := c.isLt; unfold V; omega
theorem bits_xor_V (a b : W) : bits .xor .u32 (V a) (V b) = V (a ^^^ b) := by
  show IntKind.u32.wrap ((BitVec.ofInt 32 (V a) ^^^ BitVec.ofInt 32 (V b)).toNat : Int) = _
  rw [ofInt_V, ofInt_V, wrap_V]
theorem bits_or_V (a b : W) : bits .or .u32 (V a) (V b) = V (a ||| b) := by
  show IntKind.u32.wrap ((BitVec.ofInt 32 (V a) ||| BitVec.ofInt 32 (V b)).toNat : Int) = _
  rw [ofInt_V, ofInt_V, wrap_V]
theorem bits_and_V (a b : W) : bits .and .u32 (V a) (V b) = V (a &&& b) := by
  show IntKind.u32.wrap ((BitVec.ofInt 32 (V a) &&& BitVec.ofInt 32 (V b)).toNat : Int) = _
  rw [ofInt_V, ofInt_V, wrap_V]
theorem shr_V (a : W) (k : Nat) : V a / 2 ^ k = V (a >>> k) := by
  unfold V
  rw [BitVec.toNat_ushiftRight, Nat.shiftRight_eq_div_pow, Int.natCast_ediv, Int.natCast_pow]; rfl
theorem shl_V (a : W) (k : Nat) : IntKind.u32.wrap (V a * 2 ^ k) = V (a <<< k) := by
  rw [IntKind.wrap_u32']
  unfold V
  rw [BitVec.toNat_shiftLeft, Nat.shiftLeft_eq]
  simp [Int.natCast_emod]

theorem V_shr1 (a : W) : V a / (2 : Int) = V (a >>> 1) := shr_V a 1
theorem V_one : (1 : Int) = V 1 := rfl
theorem V_zero : (0 : Int) = V 0 := rfl
theorem V_poly : (3988292384 : Int) = V poly := rfl
theorem V_bit (b : Bool) : V (bit b) = if b then 1 else 0 := by cases b <;> rfl
theorem and_one (c : W) : c &&& 1 = bit (c.getLsbD 0) := by
  apply BitVec.eq_of_getLsbD_eq; intro i hi
  rw [BitVec.getLsbD_and, getLsbD_bit]
  have h1 : (1 : W).getLsbD i = decide (i = 0) := by simp [BitVec.getLsbD_one]
  rw [h1]
  by_cases h : i = 0
  · subst h; simp
  · simp [h]
theorem bits_and_1 (c : W) : bits .and .u32 (V c) 1 = V (bit (c.getLsbD 0)) := by
  rw [V_one, bits_and_V, and_one]
theorem bits_xor_poly (c : W) : bits .xor .u32 (V c) 3988292384 = V (c ^^^ poly) := by
  rw [V_poly, bits_xor_V]
theorem bit_beq (a b : Bool) : (V (bit a) == V (bit b)) = (a == b) := by cases a <;> cases b <;> rfl
theorem bit_bne (a b : Bool) : (V (bit a) != V (bit b)) = (a != b) := by cases a <;> cases b <;> rfl
theorem ret_u32 {a b : Int} (h : a = b) : Ending.returned (.int .u32 a) = .returned (.int .u32 b) := by rw [h]
theorem int_u32 {a b : Int} (h : a = b) : Value.int .u32 a = .int .u32 b := by rw [h]
theorem sh_one {c : W} (h : c.getLsbD 0 = true) : sh c = c >>> 1 ^^^ poly := by unfold sh; rw [h]; rfl
theorem sh_nil {c : W} (h : c.getLsbD 0 = false) : sh c = c >>> 1 := by unfold sh; rw [h]; rfl
theorem shr_bit (b : Bool) : bit b >>> 1 = 0 := by cases b <;> decide
theorem sh_bit (c : W) (b : Bool) : sh (c ^^^ bit b) = if c.getLsbD 0 != b then c >>> 1 ^^^ poly else c >>> 1 := by
  have h : (c ^^^ bit b).getLsbD 0 = (c.getLsbD 0 != b) := by rw [BitVec.getLsbD_xor, getLsbD_bit]; simp
  have g : (c ^^^ bit b) >>> 1 = c >>> 1 := by rw [xor_shr, shr_bit]; exact BitVec.xor_zero
  unfold sh; rw [h, g]

theorem byte_bit (b : UInt8) (k : Nat) : bits .and .u32 ((b.toNat : Int) % 4294967296 / 2 ^ k) 1 = V (bit (b.toNat.testBit k)) := by
  have e : (b.toNat : Int) % 4294967296 / 2 ^ k = V (w8 b >>> k) := by
    rw [← shr_V]; rfl
  rw [e, bits_and_1, BitVec.getLsbD_ushiftRight, getLsbD_w8]; rfl
theorem word_bit (c : W) (k : Nat) : bits .and .u32 (V c / 2 ^ k) 1 = V (bit (c.getLsbD k)) := by
  rw [shr_V, bits_and_1, BitVec.getLsbD_ushiftRight]; rfl
theorem step_rb8 (c : W) (b : UInt8) : step c b = rb c (fun i => b.toNat.testBit i) 8 := (rb_byte c b).symm

theorem ones_xor (c : W) : (4294967295 : W) ^^^ c = ~~~ c := by
  apply BitVec.eq_of_getLsbD_eq; intro i hi
  have : (4294967295 : W) = BitVec.allOnes 32 := rfl
  rw [BitVec.getLsbD_xor, this, BitVec.getLsbD_allOnes, BitVec.getLsbD_not]; simp [hi]
theorem not_V (c : W) : bits .xor .u32 IntKind.u32.max (V c) = V (~~~ c) := by
  have : IntKind.u32.max = V 4294967295 := rfl
  rw [this, bits_xor_V, ones_xor]

theorem V_eq_zero {c : W} (h : V c = 0) : c = 0 := V_inj.1 (h.trans V_zero)
theorem V_ne_zero_beq (c : W) : (V c != 0) = !(c == 0) := by
  by_cases h : c = 0
  · subst h; rfl
  · have : V c ≠ 0 := fun e => h (V_eq_zero e)
    rw [bne_iff_ne.2 this, beq_eq_false_iff_ne.2 h]; rfl
theorem top_bit (c : W) : (V c / (2147483648 : Int) == 1) = c.getLsbD 31 := by
  have e : V c / (2147483648 : Int) = V (c >>> 31) := shr_V c 31
  have h : c >>> 31 = bit (c.getLsbD 31) := by
    apply BitVec.eq_of_getLsbD_eq; intro i hi
    rw [BitVec.getLsbD_ushiftRight, getLsbD_bit]
    by_cases h0 : i = 0
    · subst h0; simp
    · rw [BitVec.getLsbD_of_ge _ _ (by omega)]; simp [h0]
  rw [e, h, V_bit]; cases c.getLsbD 31 <;> rfl

/-! ### the table's index -/
def ix (c : W) (b : UInt8) : Nat := (c.toNat % 256) ^^^ b.toNat
theorem ix_lt (c : W) (b : UInt8) : ix c b < 256 := Nat.xor_lt_two_pow (n := 8) (Nat.mod_lt _ (by decide)) b.toNat_lt
theorem ix_V (c : W) (b : UInt8) : bits .xor .u8 (V c % (256 : Int)) (b.toNat : Int) = (ix c b : Int) := by
  have e : V c % (256 : Int) = ((c.toNat % 256 : Nat) : Int) := rfl
  rw [e, u8_xor_nat _ _ (Nat.mod_lt _ (by decide)) b.toNat_lt]; rfl
theorem step_V (c : W) (b : UInt8) : bits .xor .u32 (V c / (256 : Int)) (V (tab (ix c b))) = V (step c b) := by
  have e : V c / (256 : Int) = V (c >>> 8) := shr_V c 8
  rw [e, bits_xor_V, step_tab]; rfl

/-! ### a step back -/
theorem top_q (c : W) : V c / (16777216 : Int) = ((c.toNat / 16777216 : Nat) : Int) := rfl
theorem top_lt (c : W) : c.toNat / 16777216 < 256 := by have := c.isLt; omega
theorem unstep_V (c : W) (b : UInt8) : bits .or .u32 (bits .xor .u32 (V c) (V (tab (num (c.toNat / 16777216)))) * (256 : Int) % (4294967296 : Int)) ((num (c.toNat / 16777216) ^^^ b.toNat : Nat) : Int) = V (unstep c b) := by
  have hn := num_lt _ (top_lt c)
  have e1 : ∀ a : W, V a * (256 : Int) % (4294967296 : Int) = V (a <<< 8) := by intro a; rw [← IntKind.wrap_u32']; exact shl_V a 8
  have hx : num (c.toNat / 16777216) ^^^ b.toNat < 256 := Nat.xor_lt_two_pow (n := 8) hn b.toNat_lt
  have e2 : ((num (c.toNat / 16777216) ^^^ b.toNat : Nat) : Int) = V (BitVec.ofNat 32 (num (c.toNat / 16777216) ^^^ b.toNat)) := by
    unfold V; rw [BitVec.toNat_ofNat, Nat.mod_eq_of_lt (by omega)]
  rw [bits_xor_V, e1, e2, bits_or_V]
  congr 1
  exact unstep_of (step_back c b)
theorem num_xor (c : W) (b : UInt8) : bits .xor .u8 (num (c.toNat / 16777216) : Int) (b.toNat : Int) = ((num (c.toNat / 16777216) ^^^ b.toNat : Nat) : Int) :=
  u8_xor_nat _ _ (num_lt _ (top_lt c)) b.toNat_lt
theorem unraw_drop (c : W) (s : ByteArray) (k : Nat) (h : k < s.size) : unraw c (s.data.toList.drop k) = unstep (unraw c (s.data.toList.drop (k + 1))) s[k] := by
  rw [List.drop_eq_getElem_cons (by simpa using h)]; rfl
theorem unraw_none (c : W) (s : ByteArray) : unraw c (s.data.toList.drop s.size) = c := by
  rw [List.drop_of_length_le (by simp)]; rfl

end Go.Proofs.YticfnfekkmkclaaGreatDoor.Crc
