/-
  The document's own bytes: fixed numbers, short ones, texts.
-/
import Derived.Test.YtefkfjbdmglkjaaDoorB14
import Derived.Deep.RegionWith
namespace Go.Proofs.YtefkfjbdmglkjaaDoor.Wire
open Go.RowKit

/-! ### one byte, as a text -/
theorem conv1 (W : World) (x : Int) (fr : World → World) (hfr : ∀ V p, (fr V).cell? p = V.cell? p) : (convert 70 9 (.slice (some ⟨W.heap.size, 0, none⟩) 1 1)).run Tryd.prog (fr (W.alloc (.cells #[.int .u8 x] 5))) = .ok (.string (strOfNums [x])) (fr (W.alloc (.cells #[.int .u8 x] 5))) := by
  refine run_convert_bytes_arg (P := Tryd.prog) _ 70 5 Tryd.underlying70 Tryd.underlying5 W.heap.size 0 1 1 [x] rfl (fun i hi => ?_) 9 Tryd.underlying9
  rw [hfr, Nat.zero_add, cell_of_row _ _ _ _ _ _ (heap_alloc_new W _)]
  obtain rfl : i = 0 := by omega
  rfl
theorem conv1_now (W : World) (x : Int) : (convert 70 9 (.slice (some ⟨W.heap.size, 0, none⟩) 1 1)).run Tryd.prog (W.alloc (.cells #[.int .u8 x] 5)) = .ok (.string (strOfNums [x])) (W.alloc (.cells #[.int .u8 x] 5)) := conv1 W x id fun _ _ => rfl
theorem conv1_drew (W : World) (x : Int) : (convert 70 9 (.slice (some ⟨W.heap.size, 0, none⟩) 1 1)).run Tryd.prog (W.alloc (.cells #[.int .u8 x] 5)).drew = .ok (.string (strOfNums [x])) (W.alloc (.cells #[.int .u8 x] 5)).drew := conv1 W x World.drew fun _ _ => rfl
theorem conv1_after {W w' : World} {x : Int} (hb : Below ((W.alloc (.cells #[.int .u8 x] 5)).drew).heap.size ((W.alloc (.cells #[.int .u8 x] 5)).drew) w') : (convert 70 9 (.slice (some ⟨W.heap.size, 0, none⟩) 1 1)).run Tryd.prog w' = .ok (.string (strOfNums [x])) w' := by
  refine run_convert_bytes_arg (P := Tryd.prog) _ 70 5 Tryd.underlying70 Tryd.underlying5 W.heap.size 0 1 1 [x] rfl (fun i hi => ?_) 9 Tryd.underlying9
  rw [hb.cell (p := ⟨W.heap.size, 0 + i, none⟩) (by simp), World.cell?_drew, Nat.zero_add, cell_of_row _ _ _ _ _ _ (heap_alloc_new W _)]
  obtain rfl : i = 0 := by omega
  rfl
theorem one_byte (n : Nat) (x : Int) (h : x = U (n % 256)) : strOfNums [x] = S [UInt8.ofNat (n % 256)] := by
  subst h
  unfold strOfNums S U
  simp only [List.map_cons, List.map_nil]
  rw [Int.toNat_natCast]
theorem S_append (l m : List UInt8) : S l ++ S m = S (l ++ m) := by
  apply ByteArray.ext
  rw [ByteArray.data_append]
  unfold S; simp
theorem U_tdiv (n k : Nat) : (U n).tdiv (k : Int) = U (n / k) := by unfold U; rw [Int.natCast_ediv]; exact Int.tdiv_eq_ediv_of_nonneg (by omega)
theorem U_tmod (n k : Nat) : (U n).tmod (k : Int) = U (n % k) := by unfold U; rw [Int.natCast_emod]; exact Int.tmod_eq_emod_of_nonneg (by omega)
theorem str1_size (x : Int) : (strOfNums [x]).size = 1 := rfl

theorem below_a {w w' : World} (hb : Below w.drew.heap.size w.drew w') (o : Obj) : Below w.heap.size w (w'.alloc o) :=
  (⟨hb.os, hb.tape, hb.output, hb.size, hb.block⟩ : Below w.heap.size w w').alloc hb.size o
theorem below_b {w w' : World} {o : Obj} (hb : Below (w.alloc o).drew.heap.size (w.alloc o).drew w') : Below w.heap.size w w' :=
  ((Below.refl w.heap.size w).alloc (Nat.le_refl _) o).drew.trans (hb.mono (by simp))
/-! ### short numbers -/
set_option maxRecDepth 100000 in
set_option maxHeartbeats 400000 in
theorem refshort_small (n : Nat) (w : World) (h : n < 128) :
    Calls Tryd.prog 75 #[.int .u64 (U n)] w fun e w' => e = .returned (.string (S (shortB n))) ∧ Below w.heap.size w w' := by
  have hlt : U n < 128 := by unfold U; omega
  have hc1 := conv1_now
  have hm : U n % 256 = U n := by unfold U; omega
  have HS : Hid (strOfNums [U n] = S (shortB n)) := by
    show _ = _
    have e : n % 256 = n := by omega
    have := one_byte n (U n) (by rw [e])
    rw [this, shortB_lt n h, e]
  clear h
  go_enter Tryd.func75, Tryd.ntmps75
  go_wp2_with fail
  go_ret
  exact ⟨by rw [← HS.out]; rfl, (Below.refl _ _).alloc (Nat.le_refl _) _⟩
set_option maxRecDepth 100000 in
set_option maxHeartbeats 400000 in
theorem refshort (f : Nat) : ∀ (n : Nat) (w : World), n < 128 ^ f → Hid (n < 18446744073709551616) →
    Calls Tryd.prog 75 #[.int .u64 (U n)] w fun e w' => e = .returned (.string (S (shortB n))) ∧ Below w.heap.size w w' := by
  induction f with
  | zero =>
    intro n w h _
    exact refshort_small n w (by rw [Nat.pow_zero] at h; omega)
  | succ f ih =>
    intro n w h hn
    by_cases hs : n < 128
    · exact refshort_small n w hs
    · have hge : 128 ≤ U n := by unfold U; omega
      have HI : Hid (∀ w, Calls Tryd.prog 75 #[.int .u64 (U (n / 128))] w fun e w' => e = .returned (.string (S (shortB (n / 128)))) ∧ Below w.heap.size w w') := fun w =>
        ih (n / 128) w (by rw [Nat.pow_succ] at h; exact Nat.div_lt_of_lt_mul (by omega)) (by have := hn.out; show _ < _; omega)
      have HS : Hid (S [UInt8.ofNat (n % 128 + 128)] ++ S (shortB (n / 128)) = S (shortB n)) := by
        show _ = _; rw [S_append, shortB_ge n (by omega) hn.out]; rfl
      have HB : Hid (strOfNums [U (n % 128) + 128] = S [UInt8.ofNat (n % 128 + 128)]) := by
        show _ = _
        have e : (n % 128 + 128) % 256 = n % 128 + 128 := by omega
        have := one_byte (n % 128 + 128) (U (n % 128) + 128) (by rw [e]; unfold U; omega)
        rw [this, e]
      have htd : (U n).tdiv 128 = U (n / 128) := U_tdiv n 128
      have htm : (U n).tmod 128 = U (n % 128) := U_tmod n 128
      have hw1 : IntKind.u64.wrap (U (n / 128)) = U (n / 128) := wrap64U _ (by have := hn.out; omega)
      have hw2 : IntKind.u64.wrap (U (n % 128)) = U (n % 128) := wrap64U _ (by omega)
      have hw3 : IntKind.u8.wrap (U (n % 128)) = U (n % 128) := by rw [IntKind.wrap_u8']; unfold U; omega
      have hw4 : U (n % 128) % 256 = U (n % 128) := by unfold U; omega
      have hw5 : IntKind.u8.wrap (U (n % 128) + 128) = U (n % 128) + 128 := by rw [IntKind.wrap_u8']; unfold U; omega
      have hz1 : (S (shortB (n / 128))).size ≤ 11 := by rw [S_size]; exact shortB_le _
      have hz2 := str1_size
      have hc1 := conv1_now
      have hc2 := conv1_drew
      clear ih h hs
      go_enter Tryd.func75, Tryd.ntmps75
      go_wp2_with fail
      go_region_with ((go_at_call 75; refine (HI.out _).mono ?_; rintro e w' ⟨rfl, hb⟩; (try have hc3 := conv1_after hb)))
      all_goals
        go_wp2_with fail
        go_ret
        exact ⟨by rw [← HS.out, ← HB.out]; rfl, by first | exact below_a hb _ | exact below_b hb⟩
theorem refShort_any (n : Nat) (w : World) (hn : Hid (n < 18446744073709551616)) :
    Calls Tryd.prog 75 #[.int .u64 (U n)] w fun e w' => e = .returned (.string (S (shortB n))) ∧ Below w.heap.size w w' := refshort 10 n w (by have := hn.out; omega) hn
set_option maxHeartbeats 400000 in
theorem refText_any (s : ByteArray) (w : World) (hs : s.size ≤ 1000000000000) :
    Calls Tryd.prog 76 #[.string s] w fun e w' => e = .returned (.string (S (textB s))) ∧ Below w.heap.size w w' := by
  have hu := wrapS s.size hs
  have hs8 : Hid (s.size < 18446744073709551616) := by show _ < _; omega
  have hz : (S (shortB s.size)).size ≤ 11 := by rw [S_size]; exact shortB_le _
  have HS : Hid (S (shortB s.size) ++ s = S (textB s)) := by show _ = _; unfold textB; rw [← S_append, S_of]
  go_enter Tryd.func76, Tryd.ntmps76
  go_wp2_with fail
  refine (refShort_any s.size w hs8).mono ?_; rintro e w1 ⟨rfl, hb⟩
  go_wp2_with fail
  go_ret
  exact ⟨by rw [← HS.out]; rfl, hb⟩
theorem conv4_now (W : World) (x0 x1 x2 x3 : Int) : (convert 70 9 (.slice (some ⟨W.heap.size, 0, none⟩) 4 4)).run Tryd.prog (W.alloc (.cells #[.int .u8 x0, .int .u8 x1, .int .u8 x2, .int .u8 x3] 5)) = .ok (.string (strOfNums [x0, x1, x2, x3])) (W.alloc (.cells #[.int .u8 x0, .int .u8 x1, .int .u8 x2, .int .u8 x3] 5)) := by
  refine run_convert_bytes_arg (P := Tryd.prog) _ 70 5 Tryd.underlying70 Tryd.underlying5 W.heap.size 0 4 4 [x0, x1, x2, x3] rfl (fun i hi => ?_) 9 Tryd.underlying9
  rw [Nat.zero_add, cell_of_row _ _ _ _ _ _ (heap_alloc_new W _)]
  have hi2 : i = 0 ∨ i = 1 ∨ i = 2 ∨ i = 3 := by omega
  rcases hi2 with rfl | rfl | rfl | rfl <;> rfl
theorem low_str (n : Nat) : strOfNums [(U n).tmod 256 % 256, (U n).tdiv 256 % 256, (U n).tdiv 65536 % 256, (U n).tdiv 16777216 % 256] = S (lowB n) := by
  have h0 : (U n).tmod 256 % 256 = ((n % 256 : Nat) : Int) := by rw [show (U n).tmod 256 = U (n % 256) from U_tmod n 256]; unfold U; omega
  have h1 : (U n).tdiv 256 % 256 = ((n / 256 % 256 : Nat) : Int) := by rw [show (U n).tdiv 256 = U (n / 256) from U_tdiv n 256]; unfold U; omega
  have h2 : (U n).tdiv 65536 % 256 = ((n / 65536 % 256 : Nat) : Int) := by rw [show (U n).tdiv 65536 = U (n / 65536) from U_tdiv n 65536]; unfold U; omega
  have h3 : (U n).tdiv 16777216 % 256 = ((n / 16777216 % 256 : Nat) : Int) := by rw [show (U n).tdiv 16777216 = U (n / 16777216) from U_tdiv n 16777216]; unfold U; omega
  have e : lowB n = [UInt8.ofNat (n % 256), UInt8.ofNat (n / 256 % 256), UInt8.ofNat (n / 65536 % 256), UInt8.ofNat (n / 16777216 % 256)] := by unfold lowB; simp [fixB, Nat.div_div_eq_div_mul]
  rw [h0, h1, h2, h3, e]
  unfold strOfNums S
  simp only [List.map_cons, List.map_nil, Int.toNat_natCast]
end Go.Proofs.YtefkfjbdmglkjaaDoor.Wire
