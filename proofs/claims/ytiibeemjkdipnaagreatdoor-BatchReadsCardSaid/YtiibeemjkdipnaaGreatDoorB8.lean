import Derived.Test.YtiibeemjkdipnaaGreatDoorB4
import Derived.Test.YtiibeemjkdipnaaGreatDoorBL
import Derived.Laws.BitsAllLaws
import Derived.Laws.Bits64
import Derived.Lib.SlBytesConst
import Derived.Lib.BitFns
import Derived.WalkLawsBesides
/-
  The Writer's calls: fixed numbers, short ones, texts; what it tells.
-/
namespace Go.Proofs.YtiibeemjkdipnaaGreatDoor.Wire
open Go.RowKit

theorem U_div (n k : Nat) : U n / (k : Int) = U (n / k) := by unfold U; rw [Int.natCast_ediv]
theorem U_mod (n k : Nat) : U n % (k : Int) = U (n % k) := by unfold U; rw [Int.natCast_emod]
theorem bv_of (n : Nat) (x : Int) (h : x = U (n % 256)) : Value.int .u8 x = bv (UInt8.ofNat (n % 256)) := by
  unfold bv; rw [h, toNat_ofNat_lt (Nat.mod_lt _ (by decide))]; rfl
/-- the bytes in a new block -/
theorem src_new (w : World) (cs : Array Value) (l : List UInt8) (h : cs.toList = bvs l) : Src (w.alloc (.cells cs 5)) ⟨w.heap.size, 0, none⟩ l :=
  Src.of_block (heap_alloc_new w _) fun j u hu => by rw [← Array.getElem?_toList, h]; exact hu
theorem new_at (w : World) (o : Obj) {B p : Nat} {l : List UInt8} (hw : Wr B w p l) : w.heap.size < (w.alloc o).heap.size ∧ w.heap.size ≠ p := ⟨by simp, by have := hw.lt; omega⟩
/-- put, of bytes that were just laid -/
theorem put_new (w : World) (B p : Nat) (l m : List UInt8) (cs : Array Value) (k : Nat) (hw : Wr B w p l) (hcs : cs.toList = bvs m) (hk : m.length = k) (hs : l.length + k ≤ 1000000000000) :
    Calls Tryz.prog 73 #[.pointer (some ⟨p, 0, none⟩), .slice (some ⟨w.heap.size, 0, none⟩) k k] (w.alloc (.cells cs 5)) fun e w' => e = .returned (.tuple #[]) ∧ Wr B w' p (l ++ m) ∧ Only B w w' := by
  subst hk
  exact (put_any (w.alloc (.cells cs 5)) B p l m ⟨w.heap.size, 0, none⟩ m.length (hw.alloc _) (fun _ => new_at w _ hw) (src_new w cs m hcs) hs).mono fun e w' ⟨he, h1, h2⟩ => ⟨he, h1, (Only.of_below ((Below.refl _ _).alloc (Nat.le_refl _) _) hw.low).trans h2⟩

def F4 (n : Nat) : List UInt8 := [UInt8.ofNat (n / 72057594037927936 % 256), UInt8.ofNat (n / 281474976710656 % 256), UInt8.ofNat (n / 1099511627776 % 256), UInt8.ofNat (n / 4294967296 % 256)]
def F2 (n : Nat) : List UInt8 := [UInt8.ofNat (n / 16777216 % 256), UInt8.ofNat (n / 65536 % 256)]
def F1 (n : Nat) : List UInt8 := [UInt8.ofNat (n / 256 % 256)]
def F0 (n : Nat) : List UInt8 := [UInt8.ofNat (n % 256)]
theorem fix8 (n : Nat) : fixB 8 n = F4 n ++ F2 n ++ F1 n ++ F0 n := by unfold F4 F2 F1 F0; simp [fixB, Nat.div_div_eq_div_mul]
theorem fix4 (n : Nat) : fixB 4 n = F2 n ++ F1 n ++ F0 n := by unfold F2 F1 F0; simp [fixB, Nat.div_div_eq_div_mul]
theorem fix2 (n : Nat) : fixB 2 n = F1 n ++ F0 n := by unfold F1 F0; simp [fixB]
theorem fix1 (n : Nat) : fixB 1 n = F0 n := by unfold F0; simp [fixB]

theorem U_byte (n k : Nat) : U n / (k : Int) % 256 = U (n / k % 256) := by
  rw [U_div]; exact U_mod (n / k) 256
theorem F4_cells (n : Nat) : (#[.int .u8 (U n / 72057594037927936 % 256), .int .u8 (U n / 281474976710656 % 256), .int .u8 (U n / 1099511627776 % 256), .int .u8 (U n / 4294967296 % 256)] : Array Value).toList = bvs (F4 n) := by
  show [_, _, _, _] = [bv _, bv _, bv _, bv _]
  rw [show Value.int .u8 (U n / 72057594037927936 % 256) = _ from bv_of _ _ (U_byte n 72057594037927936), show Value.int .u8 (U n / 281474976710656 % 256) = _ from bv_of _ _ (U_byte n 281474976710656), show Value.int .u8 (U n / 1099511627776 % 256) = _ from bv_of _ _ (U_byte n 1099511627776), show Value.int .u8 (U n / 4294967296 % 256) = _ from bv_of _ _ (U_byte n 4294967296)]
theorem F2_cells (n : Nat) : (#[.int .u8 (U n / 16777216 % 256), .int .u8 (U n / 65536 % 256)] : Array Value).toList = bvs (F2 n) := by
  show [_, _] = [bv _, bv _]
  rw [show Value.int .u8 (U n / 16777216 % 256) = _ from bv_of _ _ (U_byte n 16777216), show Value.int .u8 (U n / 65536 % 256) = _ from bv_of _ _ (U_byte n 65536)]
theorem F1_cells (n : Nat) : (#[.int .u8 (U n / 256 % 256)] : Array Value).toList = bvs (F1 n) := by
  show [_] = [bv _]
  rw [show Value.int .u8 (U n / 256 % 256) = _ from bv_of _ _ (U_byte n 256)]
theorem F0_cells (n : Nat) : (#[.int .u8 (U n % 256)] : Array Value).toList = bvs (F0 n) := by
  show [_] = [bv _]
  rw [show Value.int .u8 (U n % 256) = _ from bv_of _ _ (U_mod n 256)]

set_option maxRecDepth 100000 in
set_option maxHeartbeats 400000 in
theorem fixed8 (w : World) (B p : Nat) (l : List UInt8) (n : Nat) (hw : Wr B w p l) (hs : l.length + 8 ≤ 1000000000000) :
    Calls Tryz.prog 72 #[.pointer (some ⟨p, 0, none⟩), .int .u64 (U n), .int .i64 8] w fun e w' => e = .returned (.tuple #[]) ∧ Wr B w' p (l ++ fixB 8 n) ∧ Only B w w' := by
  have HW := Lib.hid hw
  rw [fix8]
  go_enter Tryz.func72, Tryz.ntmps72
  go_wp2_with fail
  refine (put_new _ B p l (F4 n) _ 4 HW.out (F4_cells n) rfl (by omega)).mono ?_; rintro e w1 ⟨rfl, h1, o1⟩
  have H1 := Lib.hid h1; have O1 := Lib.hid o1; clear h1 o1
  go_wp2_with fail
  refine (put_new _ B p _ (F2 n) _ 2 H1.out (F2_cells n) rfl (by rw [List.length_append]; show _ + 4 + 2 ≤ _; omega)).mono ?_; rintro e w2 ⟨rfl, h2, o2⟩
  have H2 := Lib.hid h2; have O2 := Lib.hid o2; clear h2 o2
  go_wp2_with fail
  refine (put_new _ B p _ (F1 n) _ 1 H2.out (F1_cells n) rfl (by rw [List.length_append, List.length_append]; show _ + 4 + 2 + 1 ≤ _; omega)).mono ?_; rintro e w3 ⟨rfl, h3, o3⟩
  have H3 := Lib.hid h3; have O3 := Lib.hid o3; clear h3 o3
  go_wp2_with fail
  refine (put_new _ B p _ (F0 n) _ 1 H3.out (F0_cells n) rfl (by rw [List.length_append, List.length_append, List.length_append]; show _ + 4 + 2 + 1 + 1 ≤ _; omega)).mono ?_; rintro e w4 ⟨rfl, h4, o4⟩
  have H4 := Lib.hid h4; have O4 := Lib.hid o4; clear h4 o4
  go_wp2_with fail
  go_end0
  exact ⟨rfl, by have := H4.out; simpa only [List.append_assoc] using this, O1.out.trans (O2.out.trans (O3.out.trans O4.out))⟩
set_option maxRecDepth 100000 in
set_option maxHeartbeats 400000 in
theorem fixed4 (w : World) (B p : Nat) (l : List UInt8) (n : Nat) (hw : Wr B w p l) (hs : l.length + 8 ≤ 1000000000000) :
    Calls Tryz.prog 72 #[.pointer (some ⟨p, 0, none⟩), .int .u64 (U n), .int .i64 4] w fun e w' => e = .returned (.tuple #[]) ∧ Wr B w' p (l ++ fixB 4 n) ∧ Only B w w' := by
  have HW := Lib.hid hw
  rw [fix4]
  go_enter Tryz.func72, Tryz.ntmps72
  go_wp2_with fail
  refine (put_new _ B p _ (F2 n) _ 2 HW.out (F2_cells n) rfl (by omega)).mono ?_; rintro e w2 ⟨rfl, h2, o2⟩
  have H2 := Lib.hid h2; have O2 := Lib.hid o2; clear h2 o2
  go_wp2_with fail
  refine (put_new _ B p _ (F1 n) _ 1 H2.out (F1_cells n) rfl (by rw [List.length_append]; show _ + 2 + 1 ≤ _; omega)).mono ?_; rintro e w3 ⟨rfl, h3, o3⟩
  have H3 := Lib.hid h3; have O3 := Lib.hid o3; clear h3 o3
  go_wp2_with fail
  refine (put_new _ B p _ (F0 n) _ 1 H3.out (F0_cells n) rfl (by rw [List.length_append, List.length_append]; show _ + 2 + 1 + 1 ≤ _; omega)).mono ?_; rintro e w4 ⟨rfl, h4, o4⟩
  have H4 := Lib.hid h4; have O4 := Lib.hid o4; clear h4 o4
  go_wp2_with fail
  go_end0
  exact ⟨rfl, by have := H4.out; simpa only [List.append_assoc] using this, O2.out.trans (O3.out.trans O4.out)⟩
set_option maxRecDepth 100000 in
set_option maxHeartbeats 400000 in
theorem fixed2 (w : World) (B p : Nat) (l : List UInt8) (n : Nat) (hw : Wr B w p l) (hs : l.length + 8 ≤ 1000000000000) :
    Calls Tryz.prog 72 #[.pointer (some ⟨p, 0, none⟩), .int .u64 (U n), .int .i64 2] w fun e w' => e = .returned (.tuple #[]) ∧ Wr B w' p (l ++ fixB 2 n) ∧ Only B w w' := by
  have HW := Lib.hid hw
  rw [fix2]
  go_enter Tryz.func72, Tryz.ntmps72
  go_wp2_with fail
  refine (put_new _ B p _ (F1 n) _ 1 HW.out (F1_cells n) rfl (by omega)).mono ?_; rintro e w3 ⟨rfl, h3, o3⟩
  have H3 := Lib.hid h3; have O3 := Lib.hid o3; clear h3 o3
  go_wp2_with fail
  refine (put_new _ B p _ (F0 n) _ 1 H3.out (F0_cells n) rfl (by rw [List.length_append]; show _ + 1 + 1 ≤ _; omega)).mono ?_; rintro e w4 ⟨rfl, h4, o4⟩
  have H4 := Lib.hid h4; have O4 := Lib.hid o4; clear h4 o4
  go_wp2_with fail
  go_end0
  exact ⟨rfl, by have := H4.out; simpa only [List.append_assoc] using this, O3.out.trans O4.out⟩
set_option maxRecDepth 100000 in
set_option maxHeartbeats 400000 in
theorem fixed1 (w : World) (B p : Nat) (l : List UInt8) (n : Nat) (hw : Wr B w p l) (hs : l.length + 8 ≤ 1000000000000) :
    Calls Tryz.prog 72 #[.pointer (some ⟨p, 0, none⟩), .int .u64 (U n), .int .i64 1] w fun e w' => e = .returned (.tuple #[]) ∧ Wr B w' p (l ++ fixB 1 n) ∧ Only B w w' := by
  have HW := Lib.hid hw
  rw [fix1]
  go_enter Tryz.func72, Tryz.ntmps72
  go_wp2_with fail
  refine (put_new _ B p _ (F0 n) _ 1 HW.out (F0_cells n) rfl (by omega)).mono ?_; rintro e w4 ⟨rfl, h4, o4⟩
  have H4 := Lib.hid h4; have O4 := Lib.hid o4; clear h4 o4
  go_wp2_with fail
  go_end0
  exact ⟨rfl, H4.out, O4.out⟩

/-! ### nobody's Writer -/
theorem below_new (w : World) (o : Obj) {w' : World} (h : w.alloc o = w') : Below w.heap.size w w' := by subst h; exact (Below.refl _ _).alloc (Nat.le_refl _) _
set_option maxRecDepth 100000 in
set_option maxHeartbeats 400000 in
theorem fixed8_nil (w : World) (n : Nat) :
    Calls Tryz.prog 72 #[.pointer none, .int .u64 (U n), .int .i64 8] w fun e w' => e = .returned (.tuple #[]) ∧ Below w.heap.size w w' := by
  go_enter Tryz.func72, Tryz.ntmps72
  go_wp2_with (go_at_call 73; refine (put_nil _ _).mono ?_; rintro e w' ⟨rfl, rfl⟩)
  go_end0
  exact ⟨rfl, ((((Below.refl _ _).alloc (Nat.le_refl _) _).alloc (by simp <;> omega) _).alloc (by simp <;> omega) _).alloc (by simp <;> omega) _⟩
set_option maxRecDepth 100000 in
set_option maxHeartbeats 400000 in
theorem fixed4_nil (w : World) (n : Nat) :
    Calls Tryz.prog 72 #[.pointer none, .int .u64 (U n), .int .i64 4] w fun e w' => e = .returned (.tuple #[]) ∧ Below w.heap.size w w' := by
  go_enter Tryz.func72, Tryz.ntmps72
  go_wp2_with (go_at_call 73; refine (put_nil _ _).mono ?_; rintro e w' ⟨rfl, rfl⟩)
  go_end0
  exact ⟨rfl, (((Below.refl _ _).alloc (Nat.le_refl _) _).alloc (by simp <;> omega) _).alloc (by simp <;> omega) _⟩
set_option maxRecDepth 100000 in
set_option maxHeartbeats 400000 in
theorem fixed1_nil (w : World) (n : Nat) :
    Calls Tryz.prog 72 #[.pointer none, .int .u64 (U n), .int .i64 1] w fun e w' => e = .returned (.tuple #[]) ∧ Below w.heap.size w w' := by
  go_enter Tryz.func72, Tryz.ntmps72
  go_wp2_with (go_at_call 73; refine (put_nil _ _).mono ?_; rintro e w' ⟨rfl, rfl⟩)
  go_end0
  exact ⟨rfl, (Below.refl _ _).alloc (Nat.le_refl _) _⟩

end Go.Proofs.YtiibeemjkdipnaaGreatDoor.Wire

/-
  The Writer's calls: U8 to U64, Low, Short, Text, Raw, Len, Bytes.
-/
namespace Go.Proofs.YtiibeemjkdipnaaGreatDoor.Wire
open Go.RowKit

/-! ### the bytes of a number of 32 bits, turned about -/
def revN (n : Nat) : Nat := be (fixB 4 n).reverse
theorem tb_two (a b i j : Nat) (h : b < 2 ^ i) : (2 ^ i * a + b).testBit j = if j < i then b.testBit j else a.testBit (j - i) := Nat.testBit_two_pow_mul_add a h j
theorem mask_ff (x : Nat) : x &&& 16711935 = 2 ^ 16 * (x / 65536 % 256) + x % 256 := by
  have hx : x = 2 ^ 16 * (x / 65536) + x % 65536 := by omega
  have hm : (16711935 : Nat) = 2 ^ 16 * 255 + 255 := by decide
  apply Nat.eq_of_testBit_eq; intro j
  rw [Nat.testBit_and, tb_two _ _ 16 j (by omega : x % 256 < 2 ^ 16)]
  have h1 : (16711935 : Nat).testBit j = if j < 16 then (2 ^ 8 - 1).testBit j else (2 ^ 8 - 1).testBit (j - 16) := by rw [hm]; exact tb_two 255 255 16 j (by decide)
  have h2 : x.testBit j = if j < 16 then (x % 2 ^ 16).testBit j else (x / 65536).testBit (j - 16) := by
    have := tb_two (x / 65536) (x % 65536) 16 j (by omega)
    rw [← hx] at this; exact this
  rw [h1, h2]
  have e8 : x % 256 = x % 2 ^ 8 := rfl
  have e9 : x / 65536 % 256 = x / 65536 % 2 ^ 8 := rfl
  rw [e8, e9]
  split
  · rw [Nat.testBit_two_pow_sub_one, Nat.testBit_mod_two_pow, Nat.testBit_mod_two_pow]
    by_cases h : j < 8
    · simp [h, show j < 16 by omega]
    · simp [h]
  · rw [Nat.testBit_two_pow_sub_one, Nat.testBit_mod_two_pow]
    exact Bool.and_comm _ _
theorem or_two (a b c d i : Nat) (hb : b < 2 ^ i) (hd : d < 2 ^ i) : (2 ^ i * a + b) ||| (2 ^ i * c + d) = 2 ^ i * (a ||| c) + (b ||| d) := by
  apply Nat.eq_of_testBit_eq; intro j
  rw [Nat.testBit_or, tb_two _ _ _ _ hb, tb_two _ _ _ _ hd, tb_two _ _ _ _ (Nat.or_lt_two_pow hb hd)]
  split
  · rw [Nat.testBit_or]
  · rw [Nat.testBit_or]
theorem or_add (a b i : Nat) (hb : b < 2 ^ i) : (2 ^ i * a) ||| b = 2 ^ i * a + b := (Nat.two_pow_add_eq_or_of_lt hb a).symm
theorem rev_val (n : Nat) (hn : n < 4294967296) : revN n = 16777216 * (n % 256) + 65536 * (n / 256 % 256) + 256 * (n / 65536 % 256) + n / 16777216 := by
  unfold revN
  have e : (fixB 4 n).reverse = [UInt8.ofNat (n % 256), UInt8.ofNat (n / 256 % 256), UInt8.ofNat (n / 65536 % 256), UInt8.ofNat (n / 16777216 % 256)] := by simp [fixB, Nat.div_div_eq_div_mul]
  rw [e]
  show ((((0 * 256 + (UInt8.ofNat (n % 256)).toNat) * 256 + (UInt8.ofNat (n / 256 % 256)).toNat) * 256 + (UInt8.ofNat (n / 65536 % 256)).toNat) * 256 + (UInt8.ofNat (n / 16777216 % 256)).toNat) = _
  rw [toNat_ofNat_lt (Nat.mod_lt _ (by decide)), toNat_ofNat_lt (Nat.mod_lt _ (by decide)), toNat_ofNat_lt (Nat.mod_lt _ (by decide)), toNat_ofNat_lt (Nat.mod_lt _ (by decide))]
  omega
theorem rev_lt (n : Nat) : revN n < 4294967296 := be_lt 4 _ (by rw [List.length_reverse, fixB_length])
theorem fix_rev (n : Nat) : fixB 4 (revN n) = (fixB 4 n).reverse := fixB_be 4 _ (by rw [List.length_reverse, fixB_length])
theorem rev_rev (n : Nat) (hn : n < 4294967296) : revN (revN n) = n := by
  unfold revN
  rw [fixB_be 4 _ (by rw [List.length_reverse, fixB_length]), List.reverse_reverse, be_fixB]
  exact Nat.mod_eq_of_lt hn
theorem rev_bits (n : Nat) (hn : n < 4294967296) (T : Int) (hT : T = bits .or .u32 (bits .and .u32 (U n / 256) 16711935) (bits .and .u32 (U n) 16711935 * 256 % 4294967296)) :
    bits .or .u32 (T / 65536) (T * 65536 % 4294967296) = U (revN n) := by
  have a1 : bits .and .u32 (U n / 256) 16711935 = ((n / 256 &&& 16711935 : Nat) : Int) := by
    have := u32_and_nat (n / 256) 16711935 (by omega) (by decide)
    rw [Int.natCast_ediv] at this; exact this
  have a2 : bits .and .u32 (U n) 16711935 = ((n &&& 16711935 : Nat) : Int) := u32_and_nat n 16711935 hn (by decide)
  have hA : n / 256 &&& 16711935 = 2 ^ 16 * (n / 16777216) + n / 256 % 256 := by rw [mask_ff]; omega
  have hB : (n &&& 16711935) * 256 % 4294967296 = 2 ^ 16 * (2 ^ 8 * (n / 65536 % 256)) + 2 ^ 8 * (n % 256) := by rw [mask_ff]; omega
  have t1 : T = (((n / 256 &&& 16711935) ||| ((n &&& 16711935) * 256 % 4294967296) : Nat) : Int) := by
    rw [hT, a1, a2, show (((n &&& 16711935 : Nat) : Int) * 256 % 4294967296) = (((n &&& 16711935) * 256 % 4294967296 : Nat) : Int) from rfl]
    exact u32_or_nat _ _ (by rw [hA]; omega) (by omega)
  have t2 : T = ((2 ^ 16 * (2 ^ 8 * (n / 65536 % 256) + n / 16777216) + (2 ^ 8 * (n % 256) + n / 256 % 256) : Nat) : Int) := by
    rw [t1, hA, hB, or_two _ _ _ _ 16 (by omega) (by omega), Nat.or_comm (n / 16777216), or_add _ _ 8 (by omega), Nat.or_comm (n / 256 % 256), or_add _ _ 8 (by omega)]
  have q1 : T / 65536 = ((2 ^ 8 * (n / 65536 % 256) + n / 16777216 : Nat) : Int) := by rw [t2]; omega
  have q2 : T * 65536 % 4294967296 = ((2 ^ 16 * (2 ^ 8 * (n % 256) + n / 256 % 256) : Nat) : Int) := by rw [t2]; omega
  rw [q1, q2, u32_or_nat _ _ (by omega) (by omega), Nat.or_comm, or_add _ _ 16 (by omega), rev_val n hn]
  unfold U; omega

theorem ret_u32 {a b : Int} (h : a = b) : Ending.returned (.int .u32 a) = .returned (.int .u32 b) := by rw [h]
theorem ret_i64 {a b : Int} (h : a = b) : Ending.returned (.int .i64 a) = .returned (.int .i64 b) := by rw [h]
theorem ret_u64 {a b : Int} (h : a = b) : Ending.returned (.int .u64 a) = .returned (.int .u64 b) := by rw [h]
/-! ### fixed numbers -/
theorem wrap64U (n : Nat) (h : n < 18446744073709551616) : IntKind.u64.wrap (U n) = U n := by
  rw [IntKind.wrap_u64]; unfold U; omega
set_option maxRecDepth 100000 in
set_option maxHeartbeats 400000 in
theorem u8_any (w : World) (B p : Nat) (l : List UInt8) (n : Nat) (hw : Wr B w p l) (hs : l.length + 8 ≤ 1000000000000) (x : Int) (hx : x = U n) (hn : Hid (n < 256)) :
    Calls Tryz.prog 44 #[.pointer (some ⟨p, 0, none⟩), .int .u8 x] w fun e w' => e = .returned (.tuple #[]) ∧ Wr B w' p (l ++ fixB 1 n) ∧ Only B w w' := by
  subst hx
  have hu := wrap64U n (by have := hn.out; omega)
  go_enter Tryz.func44, Tryz.ntmps44
  go_wp2_with fail
  refine (fixed1 w B p l n hw hs).mono ?_; rintro e w1 ⟨rfl, h1, o1⟩
  have H1 := Lib.hid h1; have O1 := Lib.hid o1; clear h1 o1
  go_wp2_with fail
  go_end0
  exact ⟨rfl, H1.out, O1.out⟩
/-- 4 bytes, the lowest first -/
def lowB (n : Nat) : List UInt8 := (fixB 4 n).reverse
theorem lowB_length (n : Nat) : (lowB n).length = 4 := by unfold lowB; rw [List.length_reverse, fixB_length]
/-! ### how many bytes -/
/-! ### the bytes -/
def S (l : List UInt8) : ByteArray := ⟨l.toArray⟩
theorem S_list (l : List UInt8) : (S l).data.toList = l := rfl
theorem S_size (l : List UInt8) : (S l).size = l.length := by unfold S; simp [ByteArray.size]
theorem S_of (s : ByteArray) : S s.data.toList = s := rfl
set_option maxRecDepth 100000 in
set_option maxHeartbeats 400000 in
theorem bytes_any (w : World) (B p : Nat) (l : List UInt8) (hw : Wr B w p l) :
    Calls Tryz.prog 47 #[.pointer (some ⟨p, 0, none⟩)] w fun e w' => e = .returned (.string (S l)) ∧ ∃ n, w' = w.drewN n := by
  obtain ⟨hB, ⟨hp, rfl⟩ | ⟨q, g, cap, h1, h2, h3, h4, h5⟩⟩ := hw
  · exact (bytes_none p w hp).mono fun e w' ⟨he, hw⟩ => ⟨he, 0, hw.symm⟩
  · have p0 : w.cell? ⟨p, 0, none⟩ = some (.pointer (some ⟨q, 0, none⟩)) := cell_row h3 0
    have p1 : w.cell? ⟨p, 1, none⟩ = some (.int .i64 (l.length : Int)) := cell_row h3 1
    have q0 : w.cell? ⟨q, 0, none⟩ = some (.slice (some ⟨g, 0, none⟩) l.length cap) := cell_row h4 0
    have hback : ∀ n, (convert 49 9 (.slice (some ⟨g, 0, none⟩) l.length cap)).run Tryz.prog (w.drewN n) = .ok (.string (S l)) (w.drewN n) := fun n =>
      run_convert_bytes_back (P := Tryz.prog) (w.drewN n) 49 9 5 ⟨g, 0, none⟩ cap l Tryz.underlying49 Tryz.underlying5 Tryz.underlying9 (fun j hj => by rw [addr_add, Nat.zero_add]; exact h5.cell j hj)
    have hl : (l.length : Int) ≤ (cap : Int) := by obtain ⟨_, _, _, _, _, _, h, _⟩ := h5; omega
    have hl0 : (0 : Int) ≤ (l.length : Int) := by omega
    clear h3 h4 h5 hB
    go_enter Tryz.func47, Tryz.ntmps47
    go_wp2_with fail
    go_quiet (fail)
    go_wp2_with fail
    go_ret
    exact ⟨rfl, _, rfl⟩

end Go.Proofs.YtiibeemjkdipnaaGreatDoor.Wire

/-
  The Writer's calls: Short, Text, Raw; Size; nobody's Writer.
-/
namespace Go.Proofs.YtiibeemjkdipnaaGreatDoor.Wire
open Go.RowKit

/-! ### bytes as they are -/
theorem bytesRow_src (w : World) (s : ByteArray) (cap : Nat) (fr : Nat × Nat) (n : Nat) : Src (((w.drewN n).alloc (.cells (bytesRow s cap) 5 fr))) ⟨w.heap.size, 0, none⟩ s.data.toList := by
  refine Src.of_block (cur := bytesRow s cap) (heap_alloc_new (w.drewN n) _) fun j u hu => ?_
  have hj : j < s.data.toList.length := by have := (List.getElem?_eq_some_iff.1 hu).1; rwa [bvs_length] at this
  have hj' : j < s.data.size := by simpa using hj
  unfold bytesRow
  rw [Array.getElem?_append_left (by simpa using hj'), ← hu]
  unfold bvs
  simp
  rfl
set_option maxRecDepth 100000 in
set_option maxHeartbeats 400000 in
theorem raw_any (w : World) (B p : Nat) (l : List UInt8) (s : ByteArray) (hw : Wr B w p l) (hs : l.length + s.size ≤ 1000000000000) :
    Calls Tryz.prog 93 #[.pointer (some ⟨p, 0, none⟩), .string s] w fun e w' => e = .returned (.tuple #[]) ∧ Wr B w' p (l ++ s.data.toList) ∧ Only B w w' := by
  have hconv := run_bytes_of_string (P := Tryz.prog) w 9 49 5 s Tryz.underlying9 Tryz.underlying49 Tryz.underlying5
  have hsrc := fun fr => bytesRow_src w s (grownCap w s.size 0 5) fr 1
  have HSRC := Lib.hid hsrc; clear hsrc
  generalize grownCap w s.size 0 5 = cap at *
  generalize bytesRow s cap = R at *
  go_enter Tryz.func93, Tryz.ntmps93
  go_wp2_with fail
  refine (put_any ((w.drewN 1).alloc (.cells R 5 (R.size, R.size + 1))) B p l s.data.toList ⟨w.heap.size, 0, none⟩ cap ((hw.drewN 1).alloc _) (fun _ => ⟨by simp, by have := hw.lt; show w.heap.size ≠ p; omega⟩) (HSRC.out _) hs).mono ?_
  rintro e w1 ⟨rfl, h1, o1⟩
  have H1 := Lib.hid h1; have O1 := Lib.hid ((((Only.refl B w).drewN 1).alloc hw.low _).trans o1); clear h1 o1
  go_wp2_with fail
  go_end0
  exact ⟨rfl, H1.out, O1.out⟩

/-! ### short numbers -/
theorem or128 (x : Nat) (h : x < 256) : x ||| 128 = x % 128 + 128 := by
  have all : ∀ j : Fin 256, (j.val ||| 128) = j.val % 128 + 128 := by decide +kernel
  exact all ⟨x, h⟩
theorem more_cells (n : Nat) : (#[.int .u8 (bits .or .u8 (U n % 256) 128)] : Array Value).toList = bvs [UInt8.ofNat (n % 128 + 128)] := by
  show [_] = [bv _]
  have e : bits .or .u8 (U n % 256) 128 = ((n % 256 ||| 128 : Nat) : Int) := by
    have := u8_or_nat (n % 256) 128 (Nat.mod_lt _ (by decide)) (by decide)
    rw [Int.natCast_emod] at this; exact this
  rw [e, or128 _ (Nat.mod_lt _ (by decide))]
  unfold bv
  rw [toNat_ofNat_lt (by omega), show n % 256 % 128 = n % 128 by omega]
theorem last_cells (n : Nat) (h : n < 128) : (#[.int .u8 (U n % 256)] : Array Value).toList = bvs (shortB n) := by
  rw [shortB_lt n h]
  show [_] = [bv _]
  unfold bv
  rw [toNat_ofNat_lt (by omega)]
  have : U n % 256 = (n : Int) := by unfold U; omega
  rw [this]

set_option maxRecDepth 100000 in
set_option maxHeartbeats 400000 in
theorem short_any (w : World) (B p : Nat) (l : List UInt8) (n : Nat) (hw : Wr B w p l) (hs : l.length + 20 ≤ 1000000000000) (hn : Hid (n < 18446744073709551616)) (x : Int) (hx : x = U n) :
    Calls Tryz.prog 45 #[.pointer (some ⟨p, 0, none⟩), .int .u64 x] w fun e w' => e = .returned (.tuple #[]) ∧ Wr B w' p (l ++ shortB n) ∧ Only B w w' := by
  subst hx
  have hlen : Hid ((shortB n).length ≤ 11) := shortB_le n
  go_enter Tryz.func45, Tryz.ntmps45
  go_wp2_with fail
  go_loopw [1] (fun x wr => ∃ (k : Nat) (done : List UInt8), x = .int .u64 (U k) ∧ Hid (k < 18446744073709551616) ∧ Hid (Wr B wr p (l ++ done)) ∧ Hid (done ++ shortB k = shortB n) ∧ Hid (Only B w wr)) (fun x _ => (intOf x).toNat)
  case atStart => exact ⟨n, [], rfl, hn, by rw [List.append_nil]; exact hw, rfl, Only.refl _ _⟩
  case round =>
    obtain ⟨k, done, rfl, hk, hW, hE, hO⟩ := hrel
    have hd : Hid (done.length ≤ 11) := by
      have := congrArg List.length hE.out; rw [List.length_append] at this; have := hlen.out; show _ ≤ _; omega
    by_cases hge : 128 ≤ k
    · have hg : (128 : Int) ≤ U k := by unfold U; omega
      clear hge
      go_wp2_with fail
      refine (put_new _ B p _ [UInt8.ofNat (k % 128 + 128)] _ 1 hW.out (more_cells k) rfl (by rw [List.length_append]; have := hd.out; omega)).mono ?_; rintro e w1 ⟨rfl, h1, o1⟩
      have H1 := Lib.hid h1; have O1 := Lib.hid (hO.out.trans o1); clear h1 o1
      have hsh := U_div k 128
      go_wp2_with fail
      go_roundw
      case rel =>
        refine ⟨k / 128, done ++ [UInt8.ofNat (k % 128 + 128)], congrArg (Value.int .u64) (U_div k 128), ?_, ?_, ?_, O1⟩
        · have := hk.out; show _ < _; omega
        · have := H1.out; rw [List.append_assoc] at this; exact this
        · have h := hE.out
          rw [shortB_ge k (by unfold U at hg; omega) hk.out] at h
          show (done ++ [_]) ++ _ = _
          rw [List.append_assoc]; exact h
      case measure => simp [intOf]; unfold U at *; omega
    · have hg : U k < (128 : Int) := by unfold U; omega
      go_wp2_with fail
      refine (put_new _ B p _ (shortB k) _ 1 hW.out (last_cells k (by omega)) (by rw [shortB_lt k (by omega)]; rfl) (by rw [List.length_append]; have := hd.out; omega)).mono ?_; rintro e w1 ⟨rfl, h1, o1⟩
      have H1 := Lib.hid h1; have O1 := Lib.hid (hO.out.trans o1); clear h1 o1
      go_wp2_with fail
      go_end0
      exact ⟨rfl, by have := H1.out; rw [List.append_assoc, hE.out] at this; exact this, O1.out⟩

/-! ### texts -/
def textB (s : ByteArray) : List UInt8 := shortB s.size ++ s.data.toList
theorem wrapS (n : Nat) (h : n ≤ 1000000000000) : IntKind.u64.wrap (n : Int) = U n := by rw [IntKind.wrap_u64]; unfold U; omega
set_option maxRecDepth 100000 in
set_option maxHeartbeats 400000 in
theorem text_any (w : World) (B p : Nat) (l : List UInt8) (s : ByteArray) (hw : Wr B w p l) (hs : l.length + s.size + 20 ≤ 1000000000000) :
    Calls Tryz.prog 74 #[.pointer (some ⟨p, 0, none⟩), .string s] w fun e w' => e = .returned (.tuple #[]) ∧ Wr B w' p (l ++ textB s) ∧ Only B w w' := by
  have hu := wrapS s.size (by omega)
  have hs8 : Hid (s.size < 18446744073709551616) := by show _ < _; omega
  have hsz := Lib.hid hs
  have hlen : Hid ((shortB s.size).length ≤ 11) := shortB_le _
  go_enter Tryz.func74, Tryz.ntmps74
  go_wp2_with fail
  refine (short_any w B p l s.size hw (by omega) hs8 _ rfl).mono ?_; rintro e w1 ⟨rfl, h1, o1⟩
  have H1 := Lib.hid h1; have O1 := Lib.hid o1; clear h1 o1
  go_wp2_with fail
  refine (raw_any w1 B p _ s H1.out (by rw [List.length_append]; have := hsz.out; have := hlen.out; omega)).mono ?_; rintro e w2 ⟨rfl, h2, o2⟩
  have H2 := Lib.hid h2; have O2 := Lib.hid (O1.out.trans o2); clear h2 o2
  go_wp2_with fail
  go_end0
  exact ⟨rfl, by have := H2.out; rw [List.append_assoc] at this; exact this, O2.out⟩

end Go.Proofs.YtiibeemjkdipnaaGreatDoor.Wire

/-
  How many bytes; nobody's Writer.
-/
namespace Go.Proofs.YtiibeemjkdipnaaGreatDoor.Wire
open Go.RowKit

theorem len64_any (n : Nat) (w : World) (hn : Hid (n < 18446744073709551616)) :
    Calls Tryz.prog 110 #[.int .u64 (U n)] w fun e w' => e = .returned (.int .i64 (bitLen n : Int)) ∧ w = w' := by
  have h := len64_walk (U n) w (by unfold U; omega) (by have := hn.out; unfold U; omega)
  have e : (U n).toNat = n := by unfold U; exact Int.toNat_natCast n
  rw [e] at h
  exact h
theorem bitLen_le64 (n : Nat) (hn : n < 18446744073709551616) : bitLen n ≤ 64 := by
  unfold bitLen; split
  · omega
  · rename_i h0
    have := (Nat.log2_lt h0).2 (show n < 2 ^ 64 from hn)
    omega
/-! ### nobody's Writer -/
set_option maxHeartbeats 400000 in
theorem u8_nil (w : World) : Calls Tryz.prog 44 #[.pointer none, .int .u8 1] w fun e w' => e = .returned (.tuple #[]) ∧ Below w.heap.size w w' := by
  go_enter Tryz.func44, Tryz.ntmps44
  go_wp2_with fail
  refine (fixed1_nil w 1).mono ?_; rintro e w1 ⟨rfl, h1⟩
  go_wp2_with fail
  go_end0
  exact ⟨rfl, h1⟩
set_option maxRecDepth 100000 in
set_option maxHeartbeats 400000 in
theorem short_nil (n : Nat) (w : World) : Calls Tryz.prog 45 #[.pointer none, .int .u64 (U n)] w fun e w' => e = .returned (.tuple #[]) ∧ Below w.heap.size w w' := by
  go_enter Tryz.func45, Tryz.ntmps45
  go_wp2_with fail
  go_loopw [1] (fun x wr => ∃ k : Nat, x = .int .u64 (U k) ∧ Below w.heap.size w wr) (fun x _ => (intOf x).toNat)
  case atStart => exact ⟨n, rfl, Below.refl _ _⟩
  case round =>
    obtain ⟨k, rfl, hb⟩ := hrel
    by_cases hge : 128 ≤ k
    · have hg : (128 : Int) ≤ U k := by unfold U; omega
      clear hge
      go_wp2_with (go_at_call 73; refine (put_nil _ _).mono ?_; rintro e w' ⟨rfl, rfl⟩)
      go_roundw
      case rel => exact ⟨k / 128, congrArg (Value.int .u64) (U_div k 128), hb.alloc hb.size _⟩
      case measure => simp [intOf]; unfold U at *; omega
    · have hg : U k < (128 : Int) := by unfold U; omega
      go_wp2_with (go_at_call 73; refine (put_nil _ _).mono ?_; rintro e w' ⟨rfl, rfl⟩)
      go_end0
      exact ⟨rfl, hb.alloc hb.size _⟩
set_option maxRecDepth 100000 in
set_option maxHeartbeats 400000 in
theorem raw_nil (s : ByteArray) (w : World) : Calls Tryz.prog 93 #[.pointer none, .string s] w fun e w' => e = .returned (.tuple #[]) ∧ Below w.heap.size w w' := by
  have hconv := run_bytes_of_string (P := Tryz.prog) w 9 49 5 s Tryz.underlying9 Tryz.underlying49 Tryz.underlying5
  generalize grownCap w s.size 0 5 = cap at *
  generalize bytesRow s cap = R at *
  go_enter Tryz.func93, Tryz.ntmps93
  go_wp2_with (go_at_call 73; refine (put_nil _ _).mono ?_; rintro e w' ⟨rfl, rfl⟩)
  go_end0
  exact ⟨rfl, (Below.refl _ _).drew.alloc (Nat.le_refl _) _⟩
set_option maxRecDepth 100000 in
set_option maxHeartbeats 400000 in
theorem text_nil (s : ByteArray) (hs : s.size ≤ 1000000000000) (w : World) : Calls Tryz.prog 74 #[.pointer none, .string s] w fun e w' => e = .returned (.tuple #[]) ∧ Below w.heap.size w w' := by
  have hu := wrapS s.size hs
  go_enter Tryz.func74, Tryz.ntmps74
  go_wp2_with fail
  refine (short_nil s.size w).mono ?_; rintro e w1 ⟨rfl, h1⟩
  go_wp2_with fail
  refine (raw_nil s w1).mono ?_; rintro e w2 ⟨rfl, h2⟩
  go_wp2_with fail
  go_end0
  exact ⟨rfl, h1.trans (h2.mono h1.size)⟩

end Go.Proofs.YtiibeemjkdipnaaGreatDoor.Wire
