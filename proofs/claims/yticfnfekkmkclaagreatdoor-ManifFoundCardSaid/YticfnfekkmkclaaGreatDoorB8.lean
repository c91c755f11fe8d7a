import Derived.Test.YticfnfekkmkclaaGreatDoorB6
import Derived.Lib.BitFns
import Derived.Test.YticfnfekkmkclaaGreatDoorBL
import Derived.WalkLawsBesides
/-
  The Writer's calls: Short, Text, Raw; Size; nobody's Writer.
-/
namespace Go.Proofs.YticfnfekkmkclaaGreatDoor.Wire
open Go.RowKit

/-! ### bytes as they are -/
theorem bytesRow_src (w : World) (s : ByteArray) (cap : Nat) (fr : Nat × Nat) (n : Nat) : Src (((w.drewN n).alloc (.cells (bytesRow s cap) 5 fr))) ⟨w.heap.size, 0, none⟩ s.data.toList := by
  refine Src.of_block (cur := bytesRow s cap) (heap_alloc_new (w.drewN n) _) fun j u hu => ?_
  have hj : j < s.data.toList.length := by have := (List.getElem?_eq_some_iff.1 hu).1; rwa [bvs_length] at this
  have hj' : j < s.data.size := by simpa using hj
  unfold bytesRow
  rw [Array.getElem?_append_left (by simpa using hj'), ← hu]
  unfold bvs
  simp
  rfl
set_option maxRecDepth 100000 in
set_option maxHeartbeats 400000 in
theorem raw_any (w : World) (B p : Nat) (l : List UInt8) (s : ByteArray) (hw : Wr B w p l) (hs : l.length + s.size ≤ 1000000000000) :
    Calls Tryz.prog 45 #[.pointer (some ⟨p, 0, none⟩), .string s] w fun e w' => e = .returned (.tuple #[]) ∧ Wr B w' p (l ++ s.data.toList) ∧ Only B w w' := by
  have hconv := run_bytes_of_string (P := Tryz.prog) w 9 86 5 s Tryz.underlying9 Tryz.underlying86 Tryz.underlying5
  have hsrc := fun fr => bytesRow_src w s (grownCap w s.size 0 5) fr 1
  have HSRC := Lib.hid hsrc; clear hsrc
  generalize grownCap w s.size 0 5 = cap at *
  generalize bytesRow s cap = R at *
  go_enter Tryz.func45, Tryz.ntmps45
  go_wp2_with fail
  refine (put_any ((w.drewN 1).alloc (.cells R 5 (R.size, R.size + 1))) B p l s.data.toList ⟨w.heap.size, 0, none⟩ cap ((hw.drewN 1).alloc _) (fun _ => ⟨by simp, by have := hw.lt; show w.heap.size ≠ p; omega⟩) (HSRC.out _) hs).mono ?_
  rintro e w1 ⟨rfl, h1, o1⟩
  have H1 := Lib.hid h1; have O1 := Lib.hid ((((Only.refl B w).drewN 1).alloc hw.low _).trans o1); clear h1 o1
  go_wp2_with fail
  go_end0
  exact ⟨rfl, H1.out, O1.out⟩

/-! ### short numbers -/
theorem or128 (x : Nat) (h : x < 256) : x ||| 128 = x % 128 + 128 := by
  have all : ∀ j : Fin 256, (j.val ||| 128) = j.val % 128 + 128 := by decide +kernel
  exact all ⟨x, h⟩
theorem more_cells (n : Nat) : (#[.int .u8 (bits .or .u8 (U n % 256) 128)] : Array Value).toList = bvs [UInt8.ofNat (n % 128 + 128)] := by
  show [_] = [bv _]
  have e : bits .or .u8 (U n % 256) 128 = ((n % 256 ||| 128 : Nat) : Int) := by
    have := u8_or_nat (n % 256) 128 (Nat.mod_lt _ (by decide)) (by decide)
    rw [Int.natCast_emod] at this; exact this
  rw [e, or128 _ (Nat.mod_lt _ (by decide))]
  unfold bv
  rw [toNat_ofNat_lt (by omega), show n % 256 % 128 = n % 128 by omega]
theorem last_cells (n : Nat) (h : n < 128) : (#[.int .u8 (U n % 256)] : Array Value).toList = bvs (shortB n) := by
  rw [shortB_lt n h]
  show [_] = [bv _]
  unfold bv
  rw [toNat_ofNat_lt (by omega)]
  have : U n % 256 = (n : Int) := by unfold U; omega
  rw [this]

/-! ### texts -/
def textB (s : ByteArray) : List UInt8 := shortB s.size ++ s.data.toList
theorem wrapS (n : Nat) (h : n ≤ 1000000000000) : IntKind.u64.wrap (n : Int) = U n := by rw [IntKind.wrap_u64]; unfold U; omega
end Go.Proofs.YticfnfekkmkclaaGreatDoor.Wire

/-
  How many bytes; nobody's Writer.
-/
namespace Go.Proofs.YticfnfekkmkclaaGreatDoor.Wire
open Go.RowKit

theorem len64_any (n : Nat) (w : World) (hn : Hid (n < 18446744073709551616)) :
    Calls Tryz.prog 134 #[.int .u64 (U n)] w fun e w' => e = .returned (.int .i64 (bitLen n : Int)) ∧ w = w' := by
  have h := len64_walk (U n) w (by unfold U; omega) (by have := hn.out; unfold U; omega)
  have e : (U n).toNat = n := by unfold U; exact Int.toNat_natCast n
  rw [e] at h
  exact h
theorem bitLen_le64 (n : Nat) (hn : n < 18446744073709551616) : bitLen n ≤ 64 := by
  unfold bitLen; split
  · omega
  · rename_i h0
    have := (Nat.log2_lt h0).2 (show n < 2 ^ 64 from hn)
    omega
/-! ### nobody's Writer -/
set_option maxHeartbeats 400000 in
theorem u64_nil (w : World) : Calls Tryz.prog 46 #[.pointer none, .int .u64 1] w fun e w' => e = .returned (.tuple #[]) ∧ Below w.heap.size w w' := by
  go_enter Tryz.func46, Tryz.ntmps46
  go_wp2_with fail
  refine (fixed8_nil w 1).mono ?_; rintro e w1 ⟨rfl, h1⟩
  go_wp2_with fail
  go_end0
  exact ⟨rfl, h1⟩
set_option maxRecDepth 100000 in
set_option maxHeartbeats 400000 in
theorem raw_nil (s : ByteArray) (w : World) : Calls Tryz.prog 45 #[.pointer none, .string s] w fun e w' => e = .returned (.tuple #[]) ∧ Below w.heap.size w w' := by
  have hconv := run_bytes_of_string (P := Tryz.prog) w 9 86 5 s Tryz.underlying9 Tryz.underlying86 Tryz.underlying5
  generalize grownCap w s.size 0 5 = cap at *
  generalize bytesRow s cap = R at *
  go_enter Tryz.func45, Tryz.ntmps45
  go_wp2_with (go_at_call 93; refine (put_nil _ _).mono ?_; rintro e w' ⟨rfl, rfl⟩)
  go_end0
  exact ⟨rfl, (Below.refl _ _).drew.alloc (Nat.le_refl _) _⟩
end Go.Proofs.YticfnfekkmkclaaGreatDoor.Wire
