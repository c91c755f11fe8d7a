import Derived.Test.YtkjnddgjnlbopaaMath
import Derived.WalkKit
import Derived.Test.YtkjnddgjnlbopaaRows
import Derived.Lib.Hide
import Derived.WalkSpells
import Derived.WalkLawsBesides
import Derived.Deep.LoopGhost
import Derived.BigQuiet
import Derived.Deep.QuietTactic
/-
  Numbers of 32 and of 8 bits as the walk writes them. No Go text is named here.
-/
namespace Go.Proofs.Ytkjnddgjnlbopaa.Crc
open Go Go.RowKit

/-- a word's number -/
def V (c : W) : Int := (c.toNat : Int)
theorem V_nonneg (c : W) : 0 ≤ V c := Int.natCast_nonneg _
theorem V_lt (c : W) : V c < 4294967296 := by have := c.isLt; unfold V; omega
theorem V_inj {a b : W} : V a = V b ↔ a = b := by
  unfold V
  constructor
  · intro h; exact BitVec.eq_of_toNat_eq (by omega)
  · rintro rfl; rfl
theorem V_beq (a b : W) : (V a == V b) = (a == b) := by
  by_cases h : a = b
  · subst h; simp
  · have : V a ≠ V b := fun e => h (V_inj.1 e)
    rw [beq_eq_false_iff_ne.2 this, beq_eq_false_iff_ne.2 h]
theorem ofInt_V (c : W) : BitVec.ofInt 32 (V c) = c := by
  unfold V; rw [BitVec.ofInt_natCast]; simp
theorem wrap_V (c : W) : IntKind.u32.wrap (c.toNat : Int) = V c := by
  rw [IntKind.wrap_u32']; have := c.isLt; unfold V; omega
theorem bits_xor_V (a b : W) : bits .xor .u32 (V a) (V b) = V (a ^^^ b) := by
  show IntKind.u32.wrap ((BitVec.ofInt 32 (V a) ^^^ BitVec.ofInt 32 (V b)).toNat : Int) = _
  rw [ofInt_V, ofInt_V, wrap_V]
theorem bits_or_V (a b : W) : bits .or .u32 (V a) (V b) = V (a ||| b) := by
  show IntKind.u32.wrap ((BitVec.ofInt 32 (V a) ||| BitVec.ofInt 32 (V b)).toNat : Int) = _
  rw [ofInt_V, ofInt_V, wrap_V]
theorem bits_and_V (a b : W) : bits .and .u32 (V a) (V b) = V (a &&& b) := by
  show IntKind.u32.wrap ((BitVec.ofInt 32 (V a) &&& BitVec.ofInt 32 (V b)).toNat : Int) = _
  rw [ofInt_V, ofInt_V, wrap_V]
theorem shr_V (a : W) (k : Nat) : V a / 2 ^ k = V (a >>> k) := by
  unfold V
  rw [BitVec.toNat_ushiftRight, Nat.shiftRight_eq_div_pow, Int.natCast_ediv, Int.natCast_pow]; rfl
theorem shl_V (a : W) (k : Nat) : IntKind.u32.wrap (V a * 2 ^ k) = V (a <<< k) := by
  rw [IntKind.wrap_u32']
  unfold V
  rw [BitVec.toNat_shiftLeft, Nat.shiftLeft_eq]
  simp [Int.natCast_emod]

theorem V_shr1 (a : W) : V a / (2 : Int) = V (a >>> 1) := shr_V a 1
theorem V_one : (1 : Int) = V 1 := rfl
theorem V_zero : (0 : Int) = V 0 := rfl
theorem V_poly : (3988292384 : Int) = V poly := rfl
theorem V_bit (b : Bool) : V (bit b) = if b then 1 else 0 := by cases b <;> rfl
theorem and_one (c : W) : c &&& 1 = bit (c.getLsbD 0) := by
  apply BitVec.eq_of_getLsbD_eq; intro i hi
  rw [BitVec.getLsbD_and, getLsbD_bit]
  have h1 : (1 : W).getLsbD i = decide (i = 0) := by simp [BitVec.getLsbD_one]
  rw [h1]
  by_cases h : i = 0
  · subst h; simp
  · simp [h]
theorem bits_and_1 (c : W) : bits .and .u32 (V c) 1 = V (bit (c.getLsbD 0)) := by
  rw [V_one, bits_and_V, and_one]
theorem bits_xor_poly (c : W) : bits .xor .u32 (V c) 3988292384 = V (c ^^^ poly) := by
  rw [V_poly, bits_xor_V]
theorem bit_beq (a b : Bool) : (V (bit a) == V (bit b)) = (a == b) := by cases a <;> cases b <;> rfl
theorem bit_bne (a b : Bool) : (V (bit a) != V (bit b)) = (a != b) := by cases a <;> cases b <;> rfl
theorem ret_u32 {a b : Int} (h : a = b) : Ending.returned (.int .u32 a) = .returned (.int .u32 b) := by rw [h]
theorem int_u32 {a b : Int} (h : a = b) : Value.int .u32 a = .int .u32 b := by rw [h]
theorem sh_one {c : W} (h : c.getLsbD 0 = true) : sh c = c >>> 1 ^^^ poly := by unfold sh; rw [h]; rfl
theorem sh_nil {c : W} (h : c.getLsbD 0 = false) : sh c = c >>> 1 := by unfold sh; rw [h]; rfl
theorem shr_bit (b : Bool) : bit b >>> 1 = 0 := by cases b <;> decide
theorem sh_bit (c : W) (b : Bool) : sh (c ^^^ bit b) = if c.getLsbD 0 != b then c >>> 1 ^^^ poly else c >>> 1 := by
  have h : (c ^^^ bit b).getLsbD 0 = (c.getLsbD 0 != b) := by rw [BitVec.getLsbD_xor, getLsbD_bit]; simp
  have g : (c ^^^ bit b) >>> 1 = c >>> 1 := by rw [xor_shr, shr_bit]; exact BitVec.xor_zero
  unfold sh; rw [h, g]

theorem byte_bit (b : UInt8) (k : Nat) : bits .and .u32 ((b.toNat : Int) % 4294967296 / 2 ^ k) 1 = V (bit (b.toNat.testBit k)) := by
  have e : (b.toNat : Int) % 4294967296 / 2 ^ k = V (w8 b >>> k) := by
    rw [← shr_V]; rfl
  rw [e, bits_and_1, BitVec.getLsbD_ushiftRight, getLsbD_w8]; rfl
theorem word_bit (c : W) (k : Nat) : bits .and .u32 (V c / 2 ^ k) 1 = V (bit (c.getLsbD k)) := by
  rw [shr_V, bits_and_1, BitVec.getLsbD_ushiftRight]; rfl
theorem step_rb8 (c : W) (b : UInt8) : step c b = rb c (fun i => b.toNat.testBit i) 8 := (rb_byte c b).symm

theorem ones_xor (c : W) : (4294967295 : W) ^^^ c = ~~~ c := by
  apply BitVec.eq_of_getLsbD_eq; intro i hi
  have : (4294967295 : W) = BitVec.allOnes 32 := rfl
  rw [BitVec.getLsbD_xor, this, BitVec.getLsbD_allOnes, BitVec.getLsbD_not]; simp [hi]
theorem not_V (c : W) : bits .xor .u32 IntKind.u32.max (V c) = V (~~~ c) := by
  have : IntKind.u32.max = V 4294967295 := rfl
  rw [this, bits_xor_V, ones_xor]

theorem V_eq_zero {c : W} (h : V c = 0) : c = 0 := V_inj.1 (h.trans V_zero)
theorem V_ne_zero_beq (c : W) : (V c != 0) = !(c == 0) := by
  by_cases h : c = 0
  · subst h; rfl
  · have : V c ≠ 0 := fun e => h (V_eq_zero e)
    rw [bne_iff_ne.2 this, beq_eq_false_iff_ne.2 h]; rfl
theorem top_bit (c : W) : (V c / (2147483648 : Int) == 1) = c.getLsbD 31 := by
  have e : V c / (2147483648 : Int) = V (c >>> 31) := shr_V c 31
  have h : c >>> 31 = bit (c.getLsbD 31) := by
    apply BitVec.eq_of_getLsbD_eq; intro i hi
    rw [BitVec.getLsbD_ushiftRight, getLsbD_bit]
    by_cases h0 : i = 0
    · subst h0; simp
    · rw [BitVec.getLsbD_of_ge _ _ (by omega)]; simp [h0]
  rw [e, h, V_bit]; cases c.getLsbD 31 <;> rfl

/-! ### the table's index -/
def ix (c : W) (b : UInt8) : Nat := (c.toNat % 256) ^^^ b.toNat
theorem ix_lt (c : W) (b : UInt8) : ix c b < 256 := Nat.xor_lt_two_pow (n := 8) (Nat.mod_lt _ (by decide)) b.toNat_lt
theorem ix_V (c : W) (b : UInt8) : bits .xor .u8 (V c % (256 : Int)) (b.toNat : Int) = (ix c b : Int) := by
  have e : V c % (256 : Int) = ((c.toNat % 256 : Nat) : Int) := rfl
  rw [e, u8_xor_nat _ _ (Nat.mod_lt _ (by decide)) b.toNat_lt]; rfl
theorem step_V (c : W) (b : UInt8) : bits .xor .u32 (V c / (256 : Int)) (V (tab (ix c b))) = V (step c b) := by
  have e : V c / (256 : Int) = V (c >>> 8) := shr_V c 8
  rw [e, bits_xor_V, step_tab]; rfl

/-! ### a step back -/
theorem top_q (c : W) : V c / (16777216 : Int) = ((c.toNat / 16777216 : Nat) : Int) := rfl
theorem top_lt (c : W) : c.toNat / 16777216 < 256 := by have := c.isLt; omega
theorem unstep_V (c : W) (b : UInt8) : bits .or .u32 (bits .xor .u32 (V c) (V (tab (num (c.toNat / 16777216)))) * (256 : Int) % (4294967296 : Int)) ((num (c.toNat / 16777216) ^^^ b.toNat : Nat) : Int) = V (unstep c b) := by
  have hn := num_lt _ (top_lt c)
  have e1 : ∀ a : W, V a * (256 : Int) % (4294967296 : Int) = V (a <<< 8) := by intro a; rw [← IntKind.wrap_u32']; exact shl_V a 8
  have hx : num (c.toNat / 16777216) ^^^ b.toNat < 256 := Nat.xor_lt_two_pow (n := 8) hn b.toNat_lt
  have e2 : ((num (c.toNat / 16777216) ^^^ b.toNat : Nat) : Int) = V (BitVec.ofNat 32 (num (c.toNat / 16777216) ^^^ b.toNat)) := by
    unfold V; rw [BitVec.toNat_ofNat, Nat.mod_eq_of_lt (by omega)]
  rw [bits_xor_V, e1, e2, bits_or_V]
  congr 1
  exact unstep_of (step_back c b)
theorem num_xor (c : W) (b : UInt8) : bits .xor .u8 (num (c.toNat / 16777216) : Int) (b.toNat : Int) = ((num (c.toNat / 16777216) ^^^ b.toNat : Nat) : Int) :=
  u8_xor_nat _ _ (num_lt _ (top_lt c)) b.toNat_lt
theorem unraw_drop (c : W) (s : ByteArray) (k : Nat) (h : k < s.size) : unraw c (s.data.toList.drop k) = unstep (unraw c (s.data.toList.drop (k + 1))) s[k] := by
  rw [List.drop_eq_getElem_cons (by simpa using h)]; rfl
theorem unraw_none (c : W) (s : ByteArray) : unraw c (s.data.toList.drop s.size) = c := by
  rw [List.drop_of_length_le (by simp)]; rfl

end Go.Proofs.Ytkjnddgjnlbopaa.Crc

/-
  The walks of the small functions of package crc, and of the document's own answers.
-/
namespace Go.Proofs.Ytkjnddgjnlbopaa.Crc
open Go.RowKit

set_option maxHeartbeats 400000 in
theorem shift_any (c : W) (w : World) :
    Calls Try.prog 103 #[.int .u32 (V c)] w fun e w' => e = .returned (.int .u32 (V (sh c))) ∧ w = w' := by
  cases hb : c.getLsbD 0
  · have h1 : (bits BinOp.and IntKind.u32 (V c) 1 == 1) = false := by rw [bits_and_1, hb]; rfl
    have H := Lib.hid hb; clear hb
    go_enter Try.func103, Try.ntmps103
    go_wp2
    go_ret
    exact ⟨ret_u32 (by rw [sh_nil H.out]; exact shr_V c 1), rfl⟩
  · have h1 : (bits BinOp.and IntKind.u32 (V c) 1 == 1) = true := by rw [bits_and_1, hb]; rfl
    have H := Lib.hid hb; clear hb
    go_enter Try.func103, Try.ntmps103
    go_wp2
    go_ret
    exact ⟨ret_u32 (by rw [sh_one H.out, V_shr1, bits_xor_poly]), rfl⟩

set_option maxHeartbeats 400000 in
theorem refshift_any (c : W) (b : Bool) (x : Int) (hx : x = V (bit b)) (w : World) :
    Calls Try.prog 104 #[.int .u32 (V c), .int .u32 x] w fun e w' => e = .returned (.int .u32 (V (sh (c ^^^ bit b)))) ∧ w = w' := by
  cases hb : (c.getLsbD 0 != b)
  · have h1 : (bits BinOp.and IntKind.u32 (V c) 1 != x) = false := by rw [bits_and_1, hx, bit_bne]; exact hb
    have H := Lib.hid hb; clear hb hx
    go_enter Try.func104, Try.ntmps104
    go_wp2
    go_ret
    exact ⟨ret_u32 (by rw [sh_bit, H.out, V_shr1]; rfl), rfl⟩
  · have h1 : (bits BinOp.and IntKind.u32 (V c) 1 != x) = true := by rw [bits_and_1, hx, bit_bne]; exact hb
    have H := Lib.hid hb; clear hb hx
    go_enter Try.func104, Try.ntmps104
    go_wp2
    go_ret
    exact ⟨ret_u32 (by rw [sh_bit, H.out, V_shr1, bits_xor_poly]; rfl), rfl⟩

set_option maxHeartbeats 400000 in
theorem over_any (c : W) (b : UInt8) (w : World) :
    Calls Try.prog 102 #[.int .u32 (V c), .int .u8 (b.toNat : Int)] w fun e w' => e = .returned (.int .u32 (V (step c b))) ∧ w = w' := by
  go_enter Try.func102, Try.ntmps102
  go_wp2
  go_loop [0, 5] (fun x i => ∃ k : Nat, k ≤ 8 ∧ i = .int .i64 k ∧ x = .int .u32 (V (rb c (fun i => b.toNat.testBit i) k))) (fun _ i => 8 - (intOf i).toNat)
  case atStart => exact ⟨0, Nat.zero_le _, rfl, rfl⟩
  case round =>
    obtain ⟨k, hk, rfl, rfl⟩ := hrel
    by_cases hlt : k < 8
    · go_wp2_with (go_at_call 104; refine (refshift_any _ _ _ (byte_bit b k) _).mono ?_; rintro e w' ⟨rfl, rfl⟩)
      go_round
      case rel => exact ⟨k + 1, by omega, by go_num, rfl⟩
      case measure => simp [intOf]; omega
    · go_wp2
      go_ret
      obtain rfl : k = 8 := by omega
      exact ⟨ret_u32 (by rw [rb_byte]), rfl⟩

/-- the state behind the first k bytes -/
theorem raw_take (c : W) (s : ByteArray) (k : Nat) (h : k < s.size) : raw c (s.data.toList.take (k + 1)) = step (raw c (s.data.toList.take k)) s[k] := by
  rw [List.take_succ_eq_append_getElem (by simpa using h), raw_append]; rfl
theorem raw_all (c : W) (s : ByteArray) (k : Nat) (h : s.size ≤ k) : raw c (s.data.toList.take k) = raw c s.data.toList := by
  rw [List.take_of_length_le (by simpa using h)]
set_option maxHeartbeats 400000 in
theorem refAdd_any (c : W) (s : ByteArray) (x : Int) (hx : x = V c) (w : World) (hs : s.size ≤ maxLen) :
    Calls Try.prog 90 #[.int .u32 x, .string s] w fun e w' => e = .returned (.int .u32 (V (addW c s.data.toList))) ∧ w = w' := by
  unfold maxLen at hs
  go_enter Try.func90, Try.ntmps90
  go_wp2_with fail
  rw [not_V]
  go_loop [0, 5] (fun x i => ∃ k : Nat, k ≤ s.size ∧ i = .int .i64 k ∧ x = .int .u32 (V (raw (~~~ c) (s.data.toList.take k)))) (fun _ i => s.size - (intOf i).toNat)
  case atStart => exact ⟨0, Nat.zero_le _, rfl, rfl⟩
  case round =>
    obtain ⟨k, hk, rfl, rfl⟩ := hrel
    by_cases hlt : k < s.size
    · have H := Lib.hid (raw_take (~~~ c) s k hlt)
      go_wp2_with (go_at_call 102; refine (over_any _ _ _).mono ?_; rintro e w' ⟨rfl, rfl⟩)
      go_round
      case rel => exact ⟨k + 1, by omega, by go_num, by rw [H.out]⟩
      case measure => simp [intOf]; omega
    · have H := Lib.hid (raw_all (~~~ c) s k (by omega))
      go_wp2
      go_ret
      exact ⟨ret_u32 (by rw [not_V, H.out]; rfl), rfl⟩

theorem refOf_any (s : ByteArray) (w : World) (hs : s.size ≤ maxLen) :
    Calls Try.prog 72 #[.string s] w fun e w' => e = .returned (.int .u32 (V (ofW s.data.toList))) ∧ w = w' := by
  go_enter Try.func72, Try.ntmps72
  go_wp2_with (go_at_call 90; refine (refAdd_any 0 s _ rfl _ hs).mono ?_; rintro e w' ⟨rfl, rfl⟩)
  go_ret
  exact ⟨rfl, rfl⟩

end Go.Proofs.Ytkjnddgjnlbopaa.Crc

/-
  The walk of the table.
-/
namespace Go.Proofs.Ytkjnddgjnlbopaa.Crc
open Go.RowKit

/-- words as cells -/
def cellsW (T : List W) : Array Value := (T.map fun v => Value.int .u32 (V v)).toArray
theorem cellsW_get (T : List W) (n : Nat) (h : n < T.length) : (cellsW T)[n]? = some (.int .u32 (V (wat T n))) := by
  unfold cellsW wat
  rw [List.getElem?_toArray, List.getElem?_map, List.getElem?_eq_getElem h, List.getD_eq_getElem?_getD, List.getElem?_eq_getElem h]; rfl
theorem cellsW_set (T : List W) (n : Nat) (v : W) : (cellsW T).setIfInBounds n (.int .u32 (V v)) = cellsW (T.set n v) := by
  unfold cellsW
  rw [List.setIfInBounds_toArray, List.map_set]
theorem cellsW_size (T : List W) : (cellsW T).size = T.length := by unfold cellsW; simp
theorem zero24 (w : World) : (zeroValue 146).run Try.prog w = .ok (.agg (cellsW zeros)) w := by kernel_rfl

theorem info24 {T : List W} (h : T.length = 256) : (Try.prog.info? 146).map (·.size) = some (cellsW T).size := by
  rw [cellsW_size, h]; kernel_rfl
theorem cellsW_one (T : List W) : (cellsW T).all (·.oneCell') = true := by
  unfold cellsW; rw [List.all_toArray, List.all_map, List.all_eq_true]; intro x _; rfl
theorem cell_new2 (w : World) (A : Obj) (cs : Array Value) (t : TypeId) (n : Nat) (v : Value) (h : cs[n]? = some v) : ((w.alloc A).alloc (.cells cs t)).cell? ⟨w.heap.size + 1, n, none⟩ = some v := by
  rw [cell_of_row _ _ _ _ _ _ (heap_alloc2_new w A _)]; exact h
theorem setRow_alloc (w : World) (a b : Array Value) (t : TypeId) : (w.alloc (.cells a t)).setRow w.heap.size b = w.alloc (.cells b t) := by
  unfold World.setRow World.alloc
  congr 1
  apply Array.ext_getElem?
  intro i
  rw [Array.getElem?_modify, Array.getElem?_push, Array.getElem?_push]
  by_cases h : w.heap.size = i
  · subst h; simp
  · rw [if_neg h, if_neg (fun e => h e.symm), if_neg (fun e => h e.symm)]
theorem setRow_alloc2 (w : World) (a b : Array Value) (t : TypeId) (o : Obj) : ((w.alloc (.cells a t)).alloc o).setRow w.heap.size b = (w.alloc (.cells b t)).alloc o := by
  unfold World.setRow World.alloc
  congr 1
  apply Array.ext_getElem?
  intro i
  rw [Array.getElem?_modify, Array.getElem?_push, Array.getElem?_push, Array.getElem?_push, Array.getElem?_push]
  simp only [Array.size_push]
  by_cases h : w.heap.size = i
  · subst h; simp
  · rw [if_neg h, if_neg (fun e : i = w.heap.size => h e.symm), if_neg (fun e : i = w.heap.size => h e.symm)]
theorem fill_next (T : List W) (r B j n : Nat) (h : n = 2 * B * j) : (cellsW (fillIn (it (r + 1) w1) B j T)).setIfInBounds (n + B) (.int .u32 (bits .xor .u32 (V (wat (fillIn (it (r + 1) w1) B j T) n)) (V (sh (it r w1))))) = cellsW (fillIn (it (r + 1) w1) B (j + 1) T) := by
  rw [bits_xor_V, cellsW_set, h]; rfl
theorem halves : ∀ r < 8, 1 ≤ 128 / 2 ^ r ∧ 128 / 2 ^ r ≤ 128 ∧ 2 * (128 / 2 ^ r) * 2 ^ r = 256 ∧ 128 / 2 ^ r / 2 = 128 / 2 ^ (r + 1) := by decide
theorem room_left {B j R n : Nat} (h : 2 * B * R = 256) (hn : n = 2 * B * j) (hj : j ≤ R) (hlt : n < 256) : n + 2 * B ≤ 256 ∧ j < R := by
  subst hn
  have hjR : j < R := by
    apply Nat.lt_of_le_of_ne hj
    rintro rfl; omega
  have : 2 * B * (j + 1) ≤ 2 * B * R := Nat.mul_le_mul_left _ hjR
  rw [Nat.mul_add] at this
  exact ⟨by omega, hjR⟩
theorem all_done {B j R : Nat} (h : 2 * B * R = 256) (hB : 1 ≤ B) (hj : j ≤ R) (hlt : ¬ 2 * B * j < 256) : j = R := by
  apply Nat.le_antisymm hj
  apply Nat.le_of_not_lt
  intro g
  have : 2 * B * (j + 1) ≤ 2 * B * R := Nat.mul_le_mul_left _ g
  rw [Nat.mul_add] at this
  omega

set_option maxRecDepth 100000 in
set_option maxHeartbeats 400000 in
theorem table_any (w : World) :
    Calls Try.prog 96 #[] w fun e w' => e = .returned (.agg (cellsW tabs)) ∧ Below w.heap.size w w' := by
  have hz := zero24
  go_enter Try.func96, Try.ntmps96
  go_wp2_with fail
  go_loopw [2, 3] (fun x y wr => ∃ r B : Nat, r ≤ 8 ∧ Hid (B = 128 / 2 ^ r) ∧ B ≤ 128 ∧ x = .int .u32 (V (it r w1)) ∧ y = .int .i64 B ∧ wr = (w.alloc (.cells (cellsW zeros) 146)).alloc (.cells (cellsW (fill r)) 146)) (fun _ y _ => (intOf y).toNat)
  case atStart => exact ⟨0, 128, by omega, rfl, by omega, rfl, rfl, rfl⟩
  case round =>
    obtain ⟨r, B, hr, HB, hb, rfl, rfl, rfl⟩ := hrel
    by_cases h8 : r < 8
    · have hv := halves r h8
      rw [← HB.out] at hv
      obtain ⟨hB1, hB2, hB3, hB4⟩ := hv
      have H3 := Lib.hid hB3; have H4 := Lib.hid hB4; clear hB3 hB4
      go_wp2_with (go_at_call 103; refine (shift_any _ _).mono ?_; rintro e w' ⟨rfl, rfl⟩)
      have HF : Hid (fill (r + 1) = fillIn (it (r + 1) w1) B (2 ^ r) (fill r)) := by show fill (r + 1) = _; rw [HB.out]; rfl
      go_loopw [4] (fun x wr => ∃ j n : Nat, Hid (n = 2 * B * j) ∧ j ≤ 2 ^ r ∧ n ≤ 256 ∧ x = .int .i64 n ∧ wr = (w.alloc (.cells (cellsW zeros) 146)).alloc (.cells (cellsW (fillIn (it (r + 1) w1) B j (fill r))) 146)) (fun x _ => 256 - (intOf x).toNat)
      case atStart => exact ⟨0, 0, rfl, Nat.zero_le _, by omega, rfl, rfl⟩
      case round =>
        obtain ⟨j, n, HN, hj, hn, rfl, rfl⟩ := hrel
        have HJ := Lib.hid hj; clear hj
        by_cases hlt : n < 256
        · obtain ⟨hr2, hj2⟩ := room_left H3.out HN.out HJ.out hlt
          have HJ2 := Lib.hid hj2; clear hj2
          have hg := cell_new2 w (.cells (cellsW zeros) 146) _ 146 n _ (cellsW_get (fillIn (it (r + 1) w1) B j (fill r)) n (by rw [fillIn_length, fill_length]; exact hlt))
          have hg2 := cell_new2 w (.cells (cellsW zeros) 146) _ 146 (n + B) _ (cellsW_get (fillIn (it (r + 1) w1) B j (fill r)) (n + B) (by rw [fillIn_length, fill_length]; omega))
          have HX := Lib.hid (fill_next (fill r) r B j n HN.out)
          have HN2 : Hid (n + 2 * B = 2 * B * (j + 1)) := by show _ = _; rw [HN.out, Nat.mul_add]; omega
          go_wp2
          go_roundw
          case rel => exact ⟨j + 1, n + 2 * B, HN2, HJ2.out, hr2, by go_num, by rw [HX.out]⟩
          case measure => simp [intOf]; omega
        · have HA := Lib.hid (all_done H3.out hB1 HJ.out (by rw [← HN.out]; exact hlt))
          have HF2 : Hid (fillIn (it (r + 1) w1) B j (fill r) = fill (r + 1)) := by show _ = fill (r + 1); rw [HA.out]; exact HF.out.symm
          go_wp2
          go_roundw
          case rel => exact ⟨r + 1, B / 2, h8, (by show _ = _; exact H4.out.symm ▸ rfl), by omega, rfl, by go_num, by rw [HF2.out]⟩
          case measure => simp [intOf]; omega
    · obtain rfl : r = 8 := by omega
      have hB0 : B = 0 := HB.out
      subst hB0
      go_wp2_with (first | (refine wpList_store_row rfl 146 _ _ rfl w.heap.size (cellsW (fill 8)) rfl rfl 146 (cellsW zeros) (heap_alloc2_old _ _ _) (info24 (fill_length 8)) (by rw [cellsW_size, cellsW_size, fill_length]; exact List.length_replicate) (cellsW_one _) ?_; rw [setRow_alloc2]) | refine wpList_load_row rfl 146 _ rfl (w.heap.size + 1) rfl 146 (cellsW (fill 8)) (0, 0) _ (heap_alloc2_new _ _ _) Try.underlying146 rfl (info24 (fill_length 8)) ?_)
      refine bodyPost_ret (v := .agg (cellsW (fill 8))) (results_cell_row rfl _ _ w.heap.size 146 (cellsW (fill 8)) (0, 0) _ rfl (heap_alloc2_old _ _ _) Try.underlying146 rfl (info24 (fill_length 8))) rfl ⟨by rw [fill_tabs], ?_⟩
      exact ((Below.refl _ _).alloc (Nat.le_refl _) _).alloc (by simp) _

end Go.Proofs.Ytkjnddgjnlbopaa.Crc

/-
  The walks over the table: its highest bytes, forward and back.
-/
namespace Go.Proofs.Ytkjnddgjnlbopaa.Crc
open Go.RowKit

/-- bytes as cells -/
def cells8 (T : List Nat) : Array Value := (T.map fun v : Nat => Value.int .u8 (v : Int)).toArray
def nat (T : List Nat) (n : Nat) : Nat := T.getD n 0
theorem cells8_get (T : List Nat) (n : Nat) (h : n < T.length) : (cells8 T)[n]? = some (.int .u8 (nat T n : Int)) := by
  unfold cells8 nat
  rw [List.getElem?_toArray, List.getElem?_map, List.getElem?_eq_getElem h, List.getD_eq_getElem?_getD, List.getElem?_eq_getElem h]; rfl
theorem cells8_set (T : List Nat) (n v : Nat) : (cells8 T).setIfInBounds n (.int .u8 (v : Int)) = cells8 (T.set n v) := by
  unfold cells8
  rw [List.setIfInBounds_toArray, List.map_set]
theorem cells8_size (T : List Nat) : (cells8 T).size = T.length := by unfold cells8; simp
theorem cells8_one (T : List Nat) : (cells8 T).all (·.oneCell') = true := by
  unfold cells8; rw [List.all_toArray, List.all_map, List.all_eq_true]; intro x _; rfl
def zeros8 : List Nat := List.replicate 256 0
theorem agg23 (w : World) : (isAgg 99).run Try.prog w = .ok false w := by kernel_rfl
theorem size23 (w : World) : (sizeOf 99).run Try.prog w = .ok 1 w := by kernel_rfl
theorem index_tabs (n : Nat) (h : n < 256) (w : World) : (Instr.index 146 (.agg (cellsW tabs)) (.int .i64 (n : Int))).run Try.prog w = .ok (.int .u32 (V (tab n))) w := by
  have hc := cellsW_get tabs n (by rw [tabs_length]; exact h)
  rw [tabs_getD n h] at hc
  have hn : (n : Int) < 256 := by omega
  simp [Instr.index, run_underlying Try.underlying146, asIntOf, part, hc]
  omega

theorem heap3_0 (w : World) (A B C : Obj) : (((w.alloc A).alloc B).alloc C).heap[w.heap.size]? = some A := by
  rw [heap_alloc_old _ C (by simp; omega), heap_alloc_old _ B (by simp)]; exact heap_alloc_new w A
theorem heap3_1 (w : World) (A B C : Obj) : (((w.alloc A).alloc B).alloc C).heap[w.heap.size + 1]? = some B := by
  rw [heap_alloc_old _ C (by simp)]; exact heap_alloc2_new w A B
theorem heap3_2 (w : World) (A B C : Obj) : (((w.alloc A).alloc B).alloc C).heap[w.heap.size + 1 + 1]? = some C := by
  have h := heap_alloc_new ((w.alloc A).alloc B) C
  have e : ((w.alloc A).alloc B).heap.size = w.heap.size + 1 + 1 := by simp
  rwa [e] at h
theorem setRow3_1 (w : World) (A : Obj) (a b : Array Value) (t : TypeId) (o : Obj) : (((w.alloc A).alloc (.cells a t)).alloc o).setRow (w.heap.size + 1) b = ((w.alloc A).alloc (.cells b t)).alloc o := by
  have h := setRow_alloc2 (w.alloc A) a b t o
  have e : (w.alloc A).heap.size = w.heap.size + 1 := by simp
  rwa [e] at h
theorem cell3_2 (w : World) (A B : Obj) (cs : Array Value) (t : TypeId) (n : Nat) (v : Value) (h : cs[n]? = some v) : (((w.alloc A).alloc B).alloc (.cells cs t)).cell? ⟨w.heap.size + 1 + 1, n, none⟩ = some v := by
  rw [cell_of_row _ _ _ _ _ _ (heap3_2 w A B _)]; exact h
theorem toNat_top (c : W) : (V c / (16777216 : Int)).toNat = c.toNat / 16777216 := by
  have e : V c / (16777216 : Int) = ((c.toNat / 16777216 : Nat) : Int) := rfl
  rw [e, Int.toNat_natCast]
theorem nums_next (k : Nat) : (cells8 (nums k)).setIfInBounds (V (tab k) / (16777216 : Int)).toNat (.int .u8 (k : Int)) = cells8 (nums (k + 1)) := by
  rw [cells8_set, toNat_top, nums_succ]; rfl

end Go.Proofs.Ytkjnddgjnlbopaa.Crc
