/-
  The Writer's calls: U8 to U64, Low, Short, Text, Raw, Len, Bytes.
-/
import Derived.Test.YthaafniahkejkaaB5
import Derived.Laws.BitsAllLaws
import Derived.Laws.Bits64
import Derived.Lib.SlBytesConst
namespace Go.Proofs.Ythaafniahkejkaa.Wire
open Go.RowKit

/-! ### the bytes of a number of 32 bits, turned about -/
def revN (n : Nat) : Nat := be (fixB 4 n).reverse
theorem tb_two (a b i j : Nat) (h : b < 2 ^ i) : (2 ^ i * a + b).testBit j = if j < i then b.testBit j else a.testBit (j - i) := Nat.testBit_two_pow_mul_add a h j
theorem mask_ff (x : Nat) : x &&& 16711935 = 2 ^ 16 * (x / 65536 % 256) + x % 256 := by
  have hx : x = 2 ^ 16 * (x / 65536) + x % 65536 := by omega
  have hm : (16711935 : Nat) = 2 ^ 16 * 255 + 255 := by decide
  apply Nat.eq_of_testBit_eq; intro j
  rw [Nat.testBit_and, tb_two _ _ 16 j (by omega : x % 256 < 2 ^ 16)]
  have h1 : (16711935 : Nat).testBit j = if j < 16 then (2 ^ 8 - 1).testBit j else (2 ^ 8 - 1).testBit (j - 16) := by rw [hm]; exact tb_two 255 255 16 j (by decide)
  have h2 : x.testBit j = if j < 16 then (x % 2 ^ 16).testBit j else (x / 65536).testBit (j - 16) := by
    have := tb_two (x / 65536) (x % 65536) 16 j (by omega)
    rw [← hx] at this; exact this
  rw [h1, h2]
  have e8 : x % 256 = x % 2 ^ 8 := rfl
  have e9 : x / 65536 % 256 = x / 65536 % 2 ^ 8 := rfl
  rw [e8, e9]
  split
  · rw [Nat.testBit_two_pow_sub_one, Nat.testBit_mod_two_pow, Nat.testBit_mod_two_pow]
    by_cases h : j < 8
    · simp [h, show j < 16 by omega]
    · simp [h]
  · rw [Nat.testBit_two_pow_sub_one, Nat.testBit_mod_two_pow]
    exact Bool.and_comm _ _
theorem or_two (a b c d i : Nat) (hb : b < 2 ^ i) (hd : d < 2 ^ i) : (2 ^ i * a + b) ||| (2 ^ i * c + d) = 2 ^ i * (a ||| c) + (b ||| d) := by
  apply Nat.eq_of_testBit_eq; intro j
  rw [Nat.testBit_or, tb_two _ _ _ _ hb, tb_two _ _ _ _ hd, tb_two _ _ _ _ (Nat.or_lt_two_pow hb hd)]
  split
  · rw [Nat.testBit_or]
  · rw [Nat.testBit_or]
theorem or_add (a b i : Nat) (hb : b < 2 ^ i) : (2 ^ i * a) ||| b = 2 ^ i * a + b := (Nat.two_pow_add_eq_or_of_lt hb a).symm
theorem rev_val (n : Nat) (hn : n < 4294967296) : revN n = 16777216 * (n % 256) + 65536 * (n / 256 % 256) + 256 * (n / 65536 % 256) + n / 16777216 := by
  unfold revN
  have e : (fixB 4 n).reverse = [UInt8.ofNat (n % 256), UInt8.ofNat (n / 256 % 256), UInt8.ofNat (n / 65536 % 256), UInt8.ofNat (n / 16777216 % 256)] := by simp [fixB, Nat.div_div_eq_div_mul]
  rw [e]
  show ((((0 * 256 + (UInt8.ofNat (n % 256)).toNat) * 256 + (UInt8.ofNat (n / 256 % 256)).toNat) * 256 + (UInt8.ofNat (n / 65536 % 256)).toNat) * 256 + (UInt8.ofNat (n / 16777216 % 256)).toNat) = _
  rw [toNat_ofNat_lt (Nat.mod_lt _ (by decide)), toNat_ofNat_lt (Nat.mod_lt _ (by decide)), toNat_ofNat_lt (Nat.mod_lt _ (by decide)), toNat_ofNat_lt (Nat.mod_lt _ (by decide))]
  omega
theorem rev_lt (n : Nat) : revN n < 4294967296 := be_lt 4 _ (by rw [List.length_reverse, fixB_length])
theorem fix_rev (n : Nat) : fixB 4 (revN n) = (fixB 4 n).reverse := fixB_be 4 _ (by rw [List.length_reverse, fixB_length])
theorem rev_rev (n : Nat) (hn : n < 4294967296) : revN (revN n) = n := by
  unfold revN
  rw [fixB_be 4 _ (by rw [List.length_reverse, fixB_length]), List.reverse_reverse, be_fixB]
  exact Nat.mod_eq_of_lt hn
theorem rev_bits (n : Nat) (hn : n < 4294967296) (T : Int) (hT : T = bits .or .u32 (bits .and .u32 (U n / 256) 16711935) (bits .and .u32 (U n) 16711935 * 256 % 4294967296)) :
    bits .or .u32 (T / 65536) (T * 65536 % 4294967296) = U (revN n) := by
  have a1 : bits .and .u32 (U n / 256) 16711935 = ((n / 256 &&& 16711935 : Nat) : Int) := by
    have := u32_and_nat (n / 256) 16711935 (by omega) (by decide)
    rw [Int.natCast_ediv] at this; exact this
  have a2 : bits .and .u32 (U n) 16711935 = ((n &&& 16711935 : Nat) : Int) := u32_and_nat n 16711935 hn (by decide)
  have hA : n / 256 &&& 16711935 = 2 ^ 16 * (n / 16777216) + n / 256 % 256 := by rw [mask_ff]; omega
  have hB : (n &&& 16711935) * 256 % 4294967296 = 2 ^ 16 * (2 ^ 8 * (n / 65536 % 256)) + 2 ^ 8 * (n % 256) := by rw [mask_ff]; omega
  have t1 : T = (((n / 256 &&& 16711935) ||| ((n &&& 16711935) * 256 % 4294967296) : Nat) : Int) := by
    rw [hT, a1, a2, show (((n &&& 16711935 : Nat) : Int) * 256 % 4294967296) = (((n &&& 16711935) * 256 % 4294967296 : Nat) : Int) from rfl]
    exact u32_or_nat _ _ (by rw [hA]; omega) (by omega)
  have t2 : T = ((2 ^ 16 * (2 ^ 8 * (n / 65536 % 256) + n / 16777216) + (2 ^ 8 * (n % 256) + n / 256 % 256) : Nat) : Int) := by
    rw [t1, hA, hB, or_two _ _ _ _ 16 (by omega) (by omega), Nat.or_comm (n / 16777216), or_add _ _ 8 (by omega), Nat.or_comm (n / 256 % 256), or_add _ _ 8 (by omega)]
  have q1 : T / 65536 = ((2 ^ 8 * (n / 65536 % 256) + n / 16777216 : Nat) : Int) := by rw [t2]; omega
  have q2 : T * 65536 % 4294967296 = ((2 ^ 16 * (2 ^ 8 * (n % 256) + n / 256 % 256) : Nat) : Int) := by rw [t2]; omega
  rw [q1, q2, u32_or_nat _ _ (by omega) (by omega), Nat.or_comm, or_add _ _ 16 (by omega), rev_val n hn]
  unfold U; omega

theorem ret_u32 {a b : Int} (h : a = b) : Ending.returned (.int .u32 a) = .returned (.int .u32 b) := by rw [h]
theorem ret_i64 {a b : Int} (h : a = b) : Ending.returned (.int .i64 a) = .returned (.int .i64 b) := by rw [h]
theorem ret_u64 {a b : Int} (h : a = b) : Ending.returned (.int .u64 a) = .returned (.int .u64 b) := by rw [h]
theorem reverse_any (n : Nat) (hn : Hid (n < 4294967296)) (w : World) :
    Calls Try.prog 42 #[.int .u32 (U n)] w fun e w' => e = .returned (.int .u32 (U (revN n))) ∧ w = w' := by
  go_enter Try.func42, Try.ntmps42
  go_wp2_with fail
  go_ret
  exact ⟨ret_u32 (rev_bits n hn.out _ rfl), rfl⟩

/-! ### fixed numbers -/
theorem wrap64U (n : Nat) (h : n < 18446744073709551616) : IntKind.u64.wrap (U n) = U n := by
  rw [IntKind.wrap_u64]; unfold U; omega
set_option maxRecDepth 100000 in
set_option maxHeartbeats 400000 in
theorem u32_any (w : World) (B p : Nat) (l : List UInt8) (n : Nat) (hw : Wr B w p l) (hs : l.length + 8 ≤ 1000000000000) (x : Int) (hx : x = U n) (hn : Hid (n < 4294967296)) :
    Calls Try.prog 30 #[.pointer (some ⟨p, 0, none⟩), .int .u32 x] w fun e w' => e = .returned (.tuple #[]) ∧ Wr B w' p (l ++ fixB 4 n) ∧ Only B w w' := by
  subst hx
  have hu := wrap64U n (by have := hn.out; omega)
  go_enter Try.func30, Try.ntmps30
  go_wp2_with fail
  refine (fixed4 w B p l n hw hs).mono ?_; rintro e w1 ⟨rfl, h1, o1⟩
  have H1 := Lib.hid h1; have O1 := Lib.hid o1; clear h1 o1
  go_wp2_with fail
  go_end0
  exact ⟨rfl, H1.out, O1.out⟩
set_option maxRecDepth 100000 in
set_option maxHeartbeats 400000 in
theorem u64_any (w : World) (B p : Nat) (l : List UInt8) (n : Nat) (hw : Wr B w p l) (hs : l.length + 8 ≤ 1000000000000) (x : Int) (hx : x = U n) :
    Calls Try.prog 31 #[.pointer (some ⟨p, 0, none⟩), .int .u64 x] w fun e w' => e = .returned (.tuple #[]) ∧ Wr B w' p (l ++ fixB 8 n) ∧ Only B w w' := by
  subst hx
  go_enter Try.func31, Try.ntmps31
  go_wp2_with fail
  refine (fixed8 w B p l n hw hs).mono ?_; rintro e w1 ⟨rfl, h1, o1⟩
  have H1 := Lib.hid h1; have O1 := Lib.hid o1; clear h1 o1
  go_wp2_with fail
  go_end0
  exact ⟨rfl, H1.out, O1.out⟩
/-- 4 bytes, the lowest first -/
def lowB (n : Nat) : List UInt8 := (fixB 4 n).reverse
theorem lowB_length (n : Nat) : (lowB n).length = 4 := by unfold lowB; rw [List.length_reverse, fixB_length]
set_option maxRecDepth 100000 in
set_option maxHeartbeats 400000 in
theorem low_any (w : World) (B p : Nat) (l : List UInt8) (n : Nat) (hw : Wr B w p l) (hs : l.length + 8 ≤ 1000000000000) (x : Int) (hx : x = U n) (hn : Hid (n < 4294967296)) :
    Calls Try.prog 32 #[.pointer (some ⟨p, 0, none⟩), .int .u32 x] w fun e w' => e = .returned (.tuple #[]) ∧ Wr B w' p (l ++ lowB n) ∧ Only B w w' := by
  subst hx
  have hr : Hid (revN n < 4294967296) := rev_lt n
  go_enter Try.func32, Try.ntmps32
  go_wp2_with fail
  refine (reverse_any n hn _).mono ?_; rintro e w1 ⟨rfl, rfl⟩
  go_wp2_with fail
  refine (u32_any w B p l (revN n) hw hs _ rfl hr).mono ?_; rintro e w1 ⟨rfl, h1, o1⟩
  have H1 := Lib.hid h1; have O1 := Lib.hid o1; clear h1 o1
  go_wp2_with fail
  go_end0
  exact ⟨rfl, by have := H1.out; rw [fix_rev] at this; exact this, O1.out⟩

/-! ### how many bytes -/
/-! ### the bytes -/
def S (l : List UInt8) : ByteArray := ⟨l.toArray⟩
theorem S_list (l : List UInt8) : (S l).data.toList = l := rfl
theorem S_size (l : List UInt8) : (S l).size = l.length := by unfold S; simp [ByteArray.size]
theorem S_of (s : ByteArray) : S s.data.toList = s := rfl
set_option maxRecDepth 100000 in
set_option maxHeartbeats 400000 in
theorem bytes_any (w : World) (B p : Nat) (l : List UInt8) (hw : Wr B w p l) :
    Calls Try.prog 33 #[.pointer (some ⟨p, 0, none⟩)] w fun e w' => e = .returned (.string (S l)) ∧ ∃ n, w' = w.drewN n := by
  obtain ⟨hB, ⟨hp, rfl⟩ | ⟨q, g, cap, h1, h2, h3, h4, h5⟩⟩ := hw
  · exact (bytes_none p w hp).mono fun e w' ⟨he, hw⟩ => ⟨he, 0, hw.symm⟩
  · have p0 : w.cell? ⟨p, 0, none⟩ = some (.pointer (some ⟨q, 0, none⟩)) := cell_row h3 0
    have p1 : w.cell? ⟨p, 1, none⟩ = some (.int .i64 (l.length : Int)) := cell_row h3 1
    have q0 : w.cell? ⟨q, 0, none⟩ = some (.slice (some ⟨g, 0, none⟩) l.length cap) := cell_row h4 0
    have hback : ∀ n, (convert 52 9 (.slice (some ⟨g, 0, none⟩) l.length cap)).run Try.prog (w.drewN n) = .ok (.string (S l)) (w.drewN n) := fun n =>
      run_convert_bytes_back (P := Try.prog) (w.drewN n) 52 9 5 ⟨g, 0, none⟩ cap l Try.underlying52 Try.underlying5 Try.underlying9 (fun j hj => by rw [addr_add, Nat.zero_add]; exact h5.cell j hj)
    have hl : (l.length : Int) ≤ (cap : Int) := by obtain ⟨_, _, _, _, _, _, h, _⟩ := h5; omega
    have hl0 : (0 : Int) ≤ (l.length : Int) := by omega
    clear h3 h4 h5 hB
    go_enter Try.func33, Try.ntmps33
    go_wp2_with fail
    go_quiet (fail)
    go_wp2_with fail
    go_ret
    exact ⟨rfl, _, rfl⟩

end Go.Proofs.Ythaafniahkejkaa.Wire
