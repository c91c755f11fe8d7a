/-
  The Writer's calls: Short, Text, Raw; Size; nobody's Writer.
-/
import Derived.Test.YtefkfjbdmglkjaaDoorB6
import Derived.Lib.BitFns
namespace Go.Proofs.YtefkfjbdmglkjaaDoor.Wire
open Go.RowKit

/-! ### bytes as they are -/
theorem bytesRow_src (w : World) (s : ByteArray) (cap : Nat) (fr : Nat × Nat) (n : Nat) : Src (((w.drewN n).alloc (.cells (bytesRow s cap) 5 fr))) ⟨w.heap.size, 0, none⟩ s.data.toList := by
  refine Src.of_block (cur := bytesRow s cap) (heap_alloc_new (w.drewN n) _) fun j u hu => ?_
  have hj : j < s.data.toList.length := by have := (List.getElem?_eq_some_iff.1 hu).1; rwa [bvs_length] at this
  have hj' : j < s.data.size := by simpa using hj
  unfold bytesRow
  rw [Array.getElem?_append_left (by simpa using hj'), ← hu]
  unfold bvs
  simp
  rfl
set_option maxRecDepth 100000 in
set_option maxHeartbeats 400000 in
theorem raw_any (w : World) (B p : Nat) (l : List UInt8) (s : ByteArray) (hw : Wr B w p l) (hs : l.length + s.size ≤ 1000000000000) :
    Calls Tryd.prog 29 #[.pointer (some ⟨p, 0, none⟩), .string s] w fun e w' => e = .returned (.tuple #[]) ∧ Wr B w' p (l ++ s.data.toList) ∧ Only B w w' := by
  have hconv := run_bytes_of_string (P := Tryd.prog) w 9 70 5 s Tryd.underlying9 Tryd.underlying70 Tryd.underlying5
  have hsrc := fun fr => bytesRow_src w s (grownCap w s.size 0 5) fr 1
  have HSRC := Lib.hid hsrc; clear hsrc
  generalize grownCap w s.size 0 5 = cap at *
  generalize bytesRow s cap = R at *
  go_enter Tryd.func29, Tryd.ntmps29
  go_wp2_with fail
  refine (put_any ((w.drewN 1).alloc (.cells R 5 (R.size, R.size + 1))) B p l s.data.toList ⟨w.heap.size, 0, none⟩ cap ((hw.drewN 1).alloc _) (fun _ => ⟨by simp, by have := hw.lt; show w.heap.size ≠ p; omega⟩) (HSRC.out _) hs).mono ?_
  rintro e w1 ⟨rfl, h1, o1⟩
  have H1 := Lib.hid h1; have O1 := Lib.hid ((((Only.refl B w).drewN 1).alloc hw.low _).trans o1); clear h1 o1
  go_wp2_with fail
  go_end0
  exact ⟨rfl, H1.out, O1.out⟩

/-! ### short numbers -/
theorem or128 (x : Nat) (h : x < 256) : x ||| 128 = x % 128 + 128 := by
  have all : ∀ j : Fin 256, (j.val ||| 128) = j.val % 128 + 128 := by decide +kernel
  exact all ⟨x, h⟩
theorem more_cells (n : Nat) : (#[.int .u8 (bits .or .u8 (U n % 256) 128)] : Array Value).toList = bvs [UInt8.ofNat (n % 128 + 128)] := by
  show [_] = [bv _]
  have e : bits .or .u8 (U n % 256) 128 = ((n % 256 ||| 128 : Nat) : Int) := by
    have := u8_or_nat (n % 256) 128 (Nat.mod_lt _ (by decide)) (by decide)
    rw [Int.natCast_emod] at this; exact this
  rw [e, or128 _ (Nat.mod_lt _ (by decide))]
  unfold bv
  rw [toNat_ofNat_lt (by omega), show n % 256 % 128 = n % 128 by omega]
theorem last_cells (n : Nat) (h : n < 128) : (#[.int .u8 (U n % 256)] : Array Value).toList = bvs (shortB n) := by
  rw [shortB_lt n h]
  show [_] = [bv _]
  unfold bv
  rw [toNat_ofNat_lt (by omega)]
  have : U n % 256 = (n : Int) := by unfold U; omega
  rw [this]

set_option maxRecDepth 100000 in
set_option maxHeartbeats 400000 in
theorem short_any (w : World) (B p : Nat) (l : List UInt8) (n : Nat) (hw : Wr B w p l) (hs : l.length + 20 ≤ 1000000000000) (hn : Hid (n < 18446744073709551616)) (x : Int) (hx : x = U n) :
    Calls Tryd.prog 37 #[.pointer (some ⟨p, 0, none⟩), .int .u64 x] w fun e w' => e = .returned (.tuple #[]) ∧ Wr B w' p (l ++ shortB n) ∧ Only B w w' := by
  subst hx
  have hlen : Hid ((shortB n).length ≤ 11) := shortB_le n
  go_enter Tryd.func37, Tryd.ntmps37
  go_wp2_with fail
  go_loopw [1] (fun x wr => ∃ (k : Nat) (done : List UInt8), x = .int .u64 (U k) ∧ Hid (k < 18446744073709551616) ∧ Hid (Wr B wr p (l ++ done)) ∧ Hid (done ++ shortB k = shortB n) ∧ Hid (Only B w wr)) (fun x _ => (intOf x).toNat)
  case atStart => exact ⟨n, [], rfl, hn, by rw [List.append_nil]; exact hw, rfl, Only.refl _ _⟩
  case round =>
    obtain ⟨k, done, rfl, hk, hW, hE, hO⟩ := hrel
    have hd : Hid (done.length ≤ 11) := by
      have := congrArg List.length hE.out; rw [List.length_append] at this; have := hlen.out; show _ ≤ _; omega
    by_cases hge : 128 ≤ k
    · have hg : (128 : Int) ≤ U k := by unfold U; omega
      clear hge
      go_wp2_with fail
      refine (put_new _ B p _ [UInt8.ofNat (k % 128 + 128)] _ 1 hW.out (more_cells k) rfl (by rw [List.length_append]; have := hd.out; omega)).mono ?_; rintro e w1 ⟨rfl, h1, o1⟩
      have H1 := Lib.hid h1; have O1 := Lib.hid (hO.out.trans o1); clear h1 o1
      have hsh := U_div k 128
      go_wp2_with fail
      go_roundw
      case rel =>
        refine ⟨k / 128, done ++ [UInt8.ofNat (k % 128 + 128)], congrArg (Value.int .u64) (U_div k 128), ?_, ?_, ?_, O1⟩
        · have := hk.out; show _ < _; omega
        · have := H1.out; rw [List.append_assoc] at this; exact this
        · have h := hE.out
          rw [shortB_ge k (by unfold U at hg; omega) hk.out] at h
          show (done ++ [_]) ++ _ = _
          rw [List.append_assoc]; exact h
      case measure => simp [intOf]; unfold U at *; omega
    · have hg : U k < (128 : Int) := by unfold U; omega
      go_wp2_with fail
      refine (put_new _ B p _ (shortB k) _ 1 hW.out (last_cells k (by omega)) (by rw [shortB_lt k (by omega)]; rfl) (by rw [List.length_append]; have := hd.out; omega)).mono ?_; rintro e w1 ⟨rfl, h1, o1⟩
      have H1 := Lib.hid h1; have O1 := Lib.hid (hO.out.trans o1); clear h1 o1
      go_wp2_with fail
      go_end0
      exact ⟨rfl, by have := H1.out; rw [List.append_assoc, hE.out] at this; exact this, O1.out⟩

/-! ### texts -/
def textB (s : ByteArray) : List UInt8 := shortB s.size ++ s.data.toList
theorem wrapS (n : Nat) (h : n ≤ 1000000000000) : IntKind.u64.wrap (n : Int) = U n := by rw [IntKind.wrap_u64]; unfold U; omega
set_option maxRecDepth 100000 in
set_option maxHeartbeats 400000 in
theorem text_any (w : World) (B p : Nat) (l : List UInt8) (s : ByteArray) (hw : Wr B w p l) (hs : l.length + s.size + 20 ≤ 1000000000000) :
    Calls Tryd.prog 38 #[.pointer (some ⟨p, 0, none⟩), .string s] w fun e w' => e = .returned (.tuple #[]) ∧ Wr B w' p (l ++ textB s) ∧ Only B w w' := by
  have hu := wrapS s.size (by omega)
  have hs8 : Hid (s.size < 18446744073709551616) := by show _ < _; omega
  have hsz := Lib.hid hs
  have hlen : Hid ((shortB s.size).length ≤ 11) := shortB_le _
  go_enter Tryd.func38, Tryd.ntmps38
  go_wp2_with fail
  refine (short_any w B p l s.size hw (by omega) hs8 _ rfl).mono ?_; rintro e w1 ⟨rfl, h1, o1⟩
  have H1 := Lib.hid h1; have O1 := Lib.hid o1; clear h1 o1
  go_wp2_with fail
  refine (raw_any w1 B p _ s H1.out (by rw [List.length_append]; have := hsz.out; have := hlen.out; omega)).mono ?_; rintro e w2 ⟨rfl, h2, o2⟩
  have H2 := Lib.hid h2; have O2 := Lib.hid (O1.out.trans o2); clear h2 o2
  go_wp2_with fail
  go_end0
  exact ⟨rfl, by have := H2.out; rw [List.append_assoc] at this; exact this, O2.out⟩

end Go.Proofs.YtefkfjbdmglkjaaDoor.Wire
