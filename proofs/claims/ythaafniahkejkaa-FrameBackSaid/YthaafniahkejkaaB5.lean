/-
  The Writer's calls: fixed numbers, short ones, texts; what it tells.
-/
import Derived.Test.YthaafniahkejkaaB4
namespace Go.Proofs.Ythaafniahkejkaa.Wire
open Go.RowKit

theorem U_div (n k : Nat) : U n / (k : Int) = U (n / k) := by unfold U; rw [Int.natCast_ediv]
theorem U_mod (n k : Nat) : U n % (k : Int) = U (n % k) := by unfold U; rw [Int.natCast_emod]
theorem bv_of (n : Nat) (x : Int) (h : x = U (n % 256)) : Value.int .u8 x = bv (UInt8.ofNat (n % 256)) := by
  unfold bv; rw [h, toNat_ofNat_lt (Nat.mod_lt _ (by decide))]; rfl
/-- the bytes in a new block -/
theorem src_new (w : World) (cs : Array Value) (l : List UInt8) (h : cs.toList = bvs l) : Src (w.alloc (.cells cs 5)) ⟨w.heap.size, 0, none⟩ l :=
  Src.of_block (heap_alloc_new w _) fun j u hu => by rw [← Array.getElem?_toList, h]; exact hu
theorem new_at (w : World) (o : Obj) {B p : Nat} {l : List UInt8} (hw : Wr B w p l) : w.heap.size < (w.alloc o).heap.size ∧ w.heap.size ≠ p := ⟨by simp, by have := hw.lt; omega⟩
/-- put, of bytes that were just laid -/
theorem put_new (w : World) (B p : Nat) (l m : List UInt8) (cs : Array Value) (k : Nat) (hw : Wr B w p l) (hcs : cs.toList = bvs m) (hk : m.length = k) (hs : l.length + k ≤ 1000000000000) :
    Calls Try.prog 48 #[.pointer (some ⟨p, 0, none⟩), .slice (some ⟨w.heap.size, 0, none⟩) k k] (w.alloc (.cells cs 5)) fun e w' => e = .returned (.tuple #[]) ∧ Wr B w' p (l ++ m) ∧ Only B w w' := by
  subst hk
  exact (put_any (w.alloc (.cells cs 5)) B p l m ⟨w.heap.size, 0, none⟩ m.length (hw.alloc _) (fun _ => new_at w _ hw) (src_new w cs m hcs) hs).mono fun e w' ⟨he, h1, h2⟩ => ⟨he, h1, (Only.of_below ((Below.refl _ _).alloc (Nat.le_refl _) _) hw.low).trans h2⟩

def F4 (n : Nat) : List UInt8 := [UInt8.ofNat (n / 72057594037927936 % 256), UInt8.ofNat (n / 281474976710656 % 256), UInt8.ofNat (n / 1099511627776 % 256), UInt8.ofNat (n / 4294967296 % 256)]
def F2 (n : Nat) : List UInt8 := [UInt8.ofNat (n / 16777216 % 256), UInt8.ofNat (n / 65536 % 256)]
def F1 (n : Nat) : List UInt8 := [UInt8.ofNat (n / 256 % 256)]
def F0 (n : Nat) : List UInt8 := [UInt8.ofNat (n % 256)]
theorem fix8 (n : Nat) : fixB 8 n = F4 n ++ F2 n ++ F1 n ++ F0 n := by unfold F4 F2 F1 F0; simp [fixB, Nat.div_div_eq_div_mul]
theorem fix4 (n : Nat) : fixB 4 n = F2 n ++ F1 n ++ F0 n := by unfold F2 F1 F0; simp [fixB, Nat.div_div_eq_div_mul]
theorem fix2 (n : Nat) : fixB 2 n = F1 n ++ F0 n := by unfold F1 F0; simp [fixB]
theorem fix1 (n : Nat) : fixB 1 n = F0 n := by unfold F0; simp [fixB]

theorem U_byte (n k : Nat) : U n / (k : Int) % 256 = U (n / k % 256) := by
  rw [U_div]; exact U_mod (n / k) 256
theorem F4_cells (n : Nat) : (#[.int .u8 (U n / 72057594037927936 % 256), .int .u8 (U n / 281474976710656 % 256), .int .u8 (U n / 1099511627776 % 256), .int .u8 (U n / 4294967296 % 256)] : Array Value).toList = bvs (F4 n) := by
  show [_, _, _, _] = [bv _, bv _, bv _, bv _]
  rw [show Value.int .u8 (U n / 72057594037927936 % 256) = _ from bv_of _ _ (U_byte n 72057594037927936), show Value.int .u8 (U n / 281474976710656 % 256) = _ from bv_of _ _ (U_byte n 281474976710656), show Value.int .u8 (U n / 1099511627776 % 256) = _ from bv_of _ _ (U_byte n 1099511627776), show Value.int .u8 (U n / 4294967296 % 256) = _ from bv_of _ _ (U_byte n 4294967296)]
theorem F2_cells (n : Nat) : (#[.int .u8 (U n / 16777216 % 256), .int .u8 (U n / 65536 % 256)] : Array Value).toList = bvs (F2 n) := by
  show [_, _] = [bv _, bv _]
  rw [show Value.int .u8 (U n / 16777216 % 256) = _ from bv_of _ _ (U_byte n 16777216), show Value.int .u8 (U n / 65536 % 256) = _ from bv_of _ _ (U_byte n 65536)]
theorem F1_cells (n : Nat) : (#[.int .u8 (U n / 256 % 256)] : Array Value).toList = bvs (F1 n) := by
  show [_] = [bv _]
  rw [show Value.int .u8 (U n / 256 % 256) = _ from bv_of _ _ (U_byte n 256)]
theorem F0_cells (n : Nat) : (#[.int .u8 (U n % 256)] : Array Value).toList = bvs (F0 n) := by
  show [_] = [bv _]
  rw [show Value.int .u8 (U n % 256) = _ from bv_of _ _ (U_mod n 256)]

set_option maxRecDepth 100000 in
set_option maxHeartbeats 400000 in
theorem fixed8 (w : World) (B p : Nat) (l : List UInt8) (n : Nat) (hw : Wr B w p l) (hs : l.length + 8 ≤ 1000000000000) :
    Calls Try.prog 47 #[.pointer (some ⟨p, 0, none⟩), .int .u64 (U n), .int .i64 8] w fun e w' => e = .returned (.tuple #[]) ∧ Wr B w' p (l ++ fixB 8 n) ∧ Only B w w' := by
  have HW := Lib.hid hw
  rw [fix8]
  go_enter Try.func47, Try.ntmps47
  go_wp2_with fail
  refine (put_new _ B p l (F4 n) _ 4 HW.out (F4_cells n) rfl (by omega)).mono ?_; rintro e w1 ⟨rfl, h1, o1⟩
  have H1 := Lib.hid h1; have O1 := Lib.hid o1; clear h1 o1
  go_wp2_with fail
  refine (put_new _ B p _ (F2 n) _ 2 H1.out (F2_cells n) rfl (by rw [List.length_append]; show _ + 4 + 2 ≤ _; omega)).mono ?_; rintro e w2 ⟨rfl, h2, o2⟩
  have H2 := Lib.hid h2; have O2 := Lib.hid o2; clear h2 o2
  go_wp2_with fail
  refine (put_new _ B p _ (F1 n) _ 1 H2.out (F1_cells n) rfl (by rw [List.length_append, List.length_append]; show _ + 4 + 2 + 1 ≤ _; omega)).mono ?_; rintro e w3 ⟨rfl, h3, o3⟩
  have H3 := Lib.hid h3; have O3 := Lib.hid o3; clear h3 o3
  go_wp2_with fail
  refine (put_new _ B p _ (F0 n) _ 1 H3.out (F0_cells n) rfl (by rw [List.length_append, List.length_append, List.length_append]; show _ + 4 + 2 + 1 + 1 ≤ _; omega)).mono ?_; rintro e w4 ⟨rfl, h4, o4⟩
  have H4 := Lib.hid h4; have O4 := Lib.hid o4; clear h4 o4
  go_wp2_with fail
  go_end0
  exact ⟨rfl, by have := H4.out; simpa only [List.append_assoc] using this, O1.out.trans (O2.out.trans (O3.out.trans O4.out))⟩
set_option maxRecDepth 100000 in
set_option maxHeartbeats 400000 in
theorem fixed4 (w : World) (B p : Nat) (l : List UInt8) (n : Nat) (hw : Wr B w p l) (hs : l.length + 8 ≤ 1000000000000) :
    Calls Try.prog 47 #[.pointer (some ⟨p, 0, none⟩), .int .u64 (U n), .int .i64 4] w fun e w' => e = .returned (.tuple #[]) ∧ Wr B w' p (l ++ fixB 4 n) ∧ Only B w w' := by
  have HW := Lib.hid hw
  rw [fix4]
  go_enter Try.func47, Try.ntmps47
  go_wp2_with fail
  refine (put_new _ B p _ (F2 n) _ 2 HW.out (F2_cells n) rfl (by omega)).mono ?_; rintro e w2 ⟨rfl, h2, o2⟩
  have H2 := Lib.hid h2; have O2 := Lib.hid o2; clear h2 o2
  go_wp2_with fail
  refine (put_new _ B p _ (F1 n) _ 1 H2.out (F1_cells n) rfl (by rw [List.length_append]; show _ + 2 + 1 ≤ _; omega)).mono ?_; rintro e w3 ⟨rfl, h3, o3⟩
  have H3 := Lib.hid h3; have O3 := Lib.hid o3; clear h3 o3
  go_wp2_with fail
  refine (put_new _ B p _ (F0 n) _ 1 H3.out (F0_cells n) rfl (by rw [List.length_append, List.length_append]; show _ + 2 + 1 + 1 ≤ _; omega)).mono ?_; rintro e w4 ⟨rfl, h4, o4⟩
  have H4 := Lib.hid h4; have O4 := Lib.hid o4; clear h4 o4
  go_wp2_with fail
  go_end0
  exact ⟨rfl, by have := H4.out; simpa only [List.append_assoc] using this, O2.out.trans (O3.out.trans O4.out)⟩
set_option maxRecDepth 100000 in
set_option maxHeartbeats 400000 in
theorem fixed2 (w : World) (B p : Nat) (l : List UInt8) (n : Nat) (hw : Wr B w p l) (hs : l.length + 8 ≤ 1000000000000) :
    Calls Try.prog 47 #[.pointer (some ⟨p, 0, none⟩), .int .u64 (U n), .int .i64 2] w fun e w' => e = .returned (.tuple #[]) ∧ Wr B w' p (l ++ fixB 2 n) ∧ Only B w w' := by
  have HW := Lib.hid hw
  rw [fix2]
  go_enter Try.func47, Try.ntmps47
  go_wp2_with fail
  refine (put_new _ B p _ (F1 n) _ 1 HW.out (F1_cells n) rfl (by omega)).mono ?_; rintro e w3 ⟨rfl, h3, o3⟩
  have H3 := Lib.hid h3; have O3 := Lib.hid o3; clear h3 o3
  go_wp2_with fail
  refine (put_new _ B p _ (F0 n) _ 1 H3.out (F0_cells n) rfl (by rw [List.length_append]; show _ + 1 + 1 ≤ _; omega)).mono ?_; rintro e w4 ⟨rfl, h4, o4⟩
  have H4 := Lib.hid h4; have O4 := Lib.hid o4; clear h4 o4
  go_wp2_with fail
  go_end0
  exact ⟨rfl, by have := H4.out; simpa only [List.append_assoc] using this, O3.out.trans O4.out⟩
set_option maxRecDepth 100000 in
set_option maxHeartbeats 400000 in
theorem fixed1 (w : World) (B p : Nat) (l : List UInt8) (n : Nat) (hw : Wr B w p l) (hs : l.length + 8 ≤ 1000000000000) :
    Calls Try.prog 47 #[.pointer (some ⟨p, 0, none⟩), .int .u64 (U n), .int .i64 1] w fun e w' => e = .returned (.tuple #[]) ∧ Wr B w' p (l ++ fixB 1 n) ∧ Only B w w' := by
  have HW := Lib.hid hw
  rw [fix1]
  go_enter Try.func47, Try.ntmps47
  go_wp2_with fail
  refine (put_new _ B p _ (F0 n) _ 1 HW.out (F0_cells n) rfl (by omega)).mono ?_; rintro e w4 ⟨rfl, h4, o4⟩
  have H4 := Lib.hid h4; have O4 := Lib.hid o4; clear h4 o4
  go_wp2_with fail
  go_end0
  exact ⟨rfl, H4.out, O4.out⟩

/-! ### nobody's Writer -/
theorem below_new (w : World) (o : Obj) {w' : World} (h : w.alloc o = w') : Below w.heap.size w w' := by subst h; exact (Below.refl _ _).alloc (Nat.le_refl _) _
set_option maxRecDepth 100000 in
set_option maxHeartbeats 400000 in
theorem fixed8_nil (w : World) (n : Nat) :
    Calls Try.prog 47 #[.pointer none, .int .u64 (U n), .int .i64 8] w fun e w' => e = .returned (.tuple #[]) ∧ Below w.heap.size w w' := by
  go_enter Try.func47, Try.ntmps47
  go_wp2_with (go_at_call 48; refine (put_nil _ _).mono ?_; rintro e w' ⟨rfl, rfl⟩)
  go_end0
  exact ⟨rfl, ((((Below.refl _ _).alloc (Nat.le_refl _) _).alloc (by simp <;> omega) _).alloc (by simp <;> omega) _).alloc (by simp <;> omega) _⟩
set_option maxRecDepth 100000 in
set_option maxHeartbeats 400000 in
theorem fixed4_nil (w : World) (n : Nat) :
    Calls Try.prog 47 #[.pointer none, .int .u64 (U n), .int .i64 4] w fun e w' => e = .returned (.tuple #[]) ∧ Below w.heap.size w w' := by
  go_enter Try.func47, Try.ntmps47
  go_wp2_with (go_at_call 48; refine (put_nil _ _).mono ?_; rintro e w' ⟨rfl, rfl⟩)
  go_end0
  exact ⟨rfl, (((Below.refl _ _).alloc (Nat.le_refl _) _).alloc (by simp <;> omega) _).alloc (by simp <;> omega) _⟩
set_option maxRecDepth 100000 in
set_option maxHeartbeats 400000 in
theorem fixed1_nil (w : World) (n : Nat) :
    Calls Try.prog 47 #[.pointer none, .int .u64 (U n), .int .i64 1] w fun e w' => e = .returned (.tuple #[]) ∧ Below w.heap.size w w' := by
  go_enter Try.func47, Try.ntmps47
  go_wp2_with (go_at_call 48; refine (put_nil _ _).mono ?_; rintro e w' ⟨rfl, rfl⟩)
  go_end0
  exact ⟨rfl, (Below.refl _ _).alloc (Nat.le_refl _) _⟩

end Go.Proofs.Ythaafniahkejkaa.Wire
