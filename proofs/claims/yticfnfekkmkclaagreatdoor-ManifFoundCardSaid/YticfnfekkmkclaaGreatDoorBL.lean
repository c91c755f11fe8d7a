/-
  How many bits: math/bits.Len64.
-/
import Derived.Test.YticfnfekkmkclaaGreatDoorRows
import Derived.Test.YticfnfekkmkclaaGreatDoorB1
import Derived.Lib.Strings
import Derived.Lib.Slices
import Derived.Lib.Small
import Derived.Lib.Walk
import Derived.Lib.BitFns
namespace Go.Proofs.YticfnfekkmkclaaGreatDoor.Wire
open Go.RowKit

theorem bits_same : ∀ (f x : Nat), x < 2 ^ f → Lib.bitLenAux f x = bitLen x
  | 0, x, h => by have : x = 0 := by simpa using h
                  subst this; rfl
  | f + 1, x, h => by
    rw [Lib.bitLenAux]
    split
    · rename_i h0; subst h0; rfl
    · rename_i h0
      rw [bits_same f (x / 2) (by rw [Nat.pow_succ] at h; omega)]
      by_cases h2 : x / 2 = 0
      · have : x = 1 := by omega
        subst this; decide
      · exact (bitLen_shift x 1 h2).symm
theorem bits_lib (x : Nat) (h : x < 18446744073709551616) : Lib.bitLen x = bitLen x := bits_same 64 x h
theorem len_byte (y : Int) (m : Nat) (hm : m < 256) (hy : y = (m : Int)) : Lib.len8 (y % 256) = (bitLen m : Int) ∧ bitLen m ≤ 8 := by
  subst hy
  have e : (m : Int) % 256 = (m : Int) := by omega
  have h := Lib.len8_of (m : Int) (by omega) (by omega)
  rw [e, h, Int.toNat_natCast, bits_lib m (by omega)]
  exact ⟨rfl, bitLen_le8 m hm⟩
theorem len_step (n k d : Nat) (hd : 2 ^ k = d) (hlo : n / d ≠ 0) (hhi : n / d < 256) (y : Int) (hy : y = ((n / d : Nat) : Int)) : (k : Int) + Lib.len8 (y % 256) = (bitLen n : Int) ∧ 0 ≤ Lib.len8 (y % 256) ∧ Lib.len8 (y % 256) ≤ 8 := by
  subst hd
  obtain ⟨h1, h2⟩ := len_byte y _ hhi hy
  have h3 := bitLen_shift n k hlo
  rw [h1]; omega
set_option maxHeartbeats 4000000 in
set_option maxRecDepth 100000 in
theorem len64_walk (x : Int) (w : World) (h0 : 0 ≤ x) (h1 : x ≤ 18446744073709551615) :
    Calls Tryz.prog 134 #[.int .u64 x] w fun e w' => e = .returned (.int .i64 (bitLen x.toNat : Int)) ∧ w = w' := by
  go_enter Tryz.func134, Tryz.ntmps134
  go_wp2
  all_goals (go_ret; refine ⟨congrArg (fun z => Ending.returned (Value.int .i64 z)) ?_, rfl⟩)
  · have := len_step x.toNat 56 72057594037927936 rfl (by omega) (by omega) (x / 4294967296 / 65536 / 256) (by omega); omega
  · have := len_step x.toNat 48 281474976710656 rfl (by omega) (by omega) (x / 4294967296 / 65536) (by omega); omega
  · have := len_step x.toNat 40 1099511627776 rfl (by omega) (by omega) (x / 4294967296 / 256) (by omega); omega
  · have := len_step x.toNat 32 4294967296 rfl (by omega) (by omega) (x / 4294967296) (by omega); omega
  · have := len_step x.toNat 24 16777216 rfl (by omega) (by omega) (x / 65536 / 256) (by omega); omega
  · have := len_step x.toNat 16 65536 rfl (by omega) (by omega) (x / 65536) (by omega); omega
  · have := len_step x.toNat 8 256 rfl (by omega) (by omega) (x / 256) (by omega); omega
  · have := len_byte x x.toNat (by omega) (by omega); omega

end Go.Proofs.YticfnfekkmkclaaGreatDoor.Wire
