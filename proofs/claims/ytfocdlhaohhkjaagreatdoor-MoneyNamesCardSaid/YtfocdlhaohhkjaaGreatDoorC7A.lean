/-
  The walks of Add and Sub.
-/
import Derived.Test.YtfocdlhaohhkjaaGreatDoorC7
namespace Go.Proofs.YtfocdlhaohhkjaaGreatDoor.Money
open Go.RowKit

theorem add_any (a b : Int) (ha : I64 a) (hb : I64 b) (w : World) :
    Calls Tryz.prog 13 #[.int .i64 a, .int .i64 b] w fun e w' => e = .returned (.tuple #[.int .i64 (tN (a + b)), .int .i64 (tE (a + b))]) ∧ Below w.heap.size w w' := by
  have HA := Lib.hid ha; have HB := Lib.hid hb; clear ha hb
  go_enter Tryz.func13, Tryz.ntmps13
  go_wp2_with fail
  refine (sum_any _ _ 2 [a, b] rfl _ (Nums.two w _ a b HA.out HB.out)).mono ?_; rintro e w' ⟨rfl, rfl⟩
  go_wp2_with fail
  go_ret2
  exact ⟨ret_two (by rw [sumL_two]) (by rw [sumL_two]), Below.lay _ _⟩

theorem xor_ones (n : Int) (h : I64 n) : bits .xor .i64 (-1) n = -1 - n := by
  have e : BitVec.ofInt 64 (-1) = BitVec.allOnes 64 := by decide
  have key : (BitVec.ofInt 64 (-1) ^^^ BitVec.ofInt 64 n).toNat = 2 ^ 64 - 1 - (n % ((2 ^ 64 : Nat) : Int)).toNat := by
    rw [e, BitVec.allOnes_xor, BitVec.toNat_not, BitVec.toNat_ofInt]
  show IntKind.i64.wrap ((BitVec.ofInt 64 (-1) ^^^ BitVec.ofInt 64 n).toNat : Nat) = -1 - n
  rw [key, IntKind.wrap_i64]
  unfold I64 at h
  omega
theorem sub_any (a b : Int) (ha : I64 a) (hb : I64 b) (w : World) :
    Calls Tryz.prog 14 #[.int .i64 a, .int .i64 b] w fun e w' => e = .returned (.tuple #[.int .i64 (tN (a - b)), .int .i64 (tE (a - b))]) ∧ Below w.heap.size w w' := by
  have hx := xor_ones b hb
  have HA := Lib.hid ha; have HB := Lib.hid hb; clear ha hb
  have hs : sumL [a, -1 - b, 1] = a - b := by show a + (-1 - b + (1 + 0)) = _; omega
  have HS := Lib.hid hs; clear hs
  have HN : Hid (I64 (-1 - b) ∧ I64 1) := ⟨by have := HB.out; unfold I64 at *; omega, by unfold I64; omega⟩
  go_enter Tryz.func14, Tryz.ntmps14
  go_wp2_with fail
  refine (sum_any _ _ 3 [a, -1 - b, 1] rfl _ (Nums.three w _ a (-1 - b) 1 HA.out HN.out.1 HN.out.2)).mono ?_; rintro e w' ⟨rfl, rfl⟩
  go_wp2_with fail
  go_ret2
  exact ⟨ret_two (by rw [HS.out]) (by rw [HS.out]), Below.lay _ _⟩

end Go.Proofs.YtfocdlhaohhkjaaGreatDoor.Money
