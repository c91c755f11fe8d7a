/-
  The document's own bytes: fixed numbers, short ones, texts.
-/
import Derived.Test.YthaafniahkejkaaB12
import Derived.Deep.RegionWith
namespace Go.Proofs.Ythaafniahkejkaa.Wire
open Go.RowKit

/-! ### one byte, as a text -/
theorem conv1 (W : World) (x : Int) (fr : World → World) (hfr : ∀ V p, (fr V).cell? p = V.cell? p) : (convert 52 9 (.slice (some ⟨W.heap.size, 0, none⟩) 1 1)).run Try.prog (fr (W.alloc (.cells #[.int .u8 x] 5))) = .ok (.string (strOfNums [x])) (fr (W.alloc (.cells #[.int .u8 x] 5))) := by
  refine run_convert_bytes_arg (P := Try.prog) _ 52 5 Try.underlying52 Try.underlying5 W.heap.size 0 1 1 [x] rfl (fun i hi => ?_) 9 Try.underlying9
  rw [hfr, Nat.zero_add, cell_of_row _ _ _ _ _ _ (heap_alloc_new W _)]
  obtain rfl : i = 0 := by omega
  rfl
theorem conv1_now (W : World) (x : Int) : (convert 52 9 (.slice (some ⟨W.heap.size, 0, none⟩) 1 1)).run Try.prog (W.alloc (.cells #[.int .u8 x] 5)) = .ok (.string (strOfNums [x])) (W.alloc (.cells #[.int .u8 x] 5)) := conv1 W x id fun _ _ => rfl
theorem conv1_drew (W : World) (x : Int) : (convert 52 9 (.slice (some ⟨W.heap.size, 0, none⟩) 1 1)).run Try.prog (W.alloc (.cells #[.int .u8 x] 5)).drew = .ok (.string (strOfNums [x])) (W.alloc (.cells #[.int .u8 x] 5)).drew := conv1 W x World.drew fun _ _ => rfl
theorem conv1_after {W w' : World} {x : Int} (hb : Below ((W.alloc (.cells #[.int .u8 x] 5)).drew).heap.size ((W.alloc (.cells #[.int .u8 x] 5)).drew) w') : (convert 52 9 (.slice (some ⟨W.heap.size, 0, none⟩) 1 1)).run Try.prog w' = .ok (.string (strOfNums [x])) w' := by
  refine run_convert_bytes_arg (P := Try.prog) _ 52 5 Try.underlying52 Try.underlying5 W.heap.size 0 1 1 [x] rfl (fun i hi => ?_) 9 Try.underlying9
  rw [hb.cell (p := ⟨W.heap.size, 0 + i, none⟩) (by simp), World.cell?_drew, Nat.zero_add, cell_of_row _ _ _ _ _ _ (heap_alloc_new W _)]
  obtain rfl : i = 0 := by omega
  rfl
theorem one_byte (n : Nat) (x : Int) (h : x = U (n % 256)) : strOfNums [x] = S [UInt8.ofNat (n % 256)] := by
  subst h
  unfold strOfNums S U
  simp only [List.map_cons, List.map_nil]
  rw [Int.toNat_natCast]
theorem S_append (l m : List UInt8) : S l ++ S m = S (l ++ m) := by
  apply ByteArray.ext
  rw [ByteArray.data_append]
  unfold S; simp
theorem U_tdiv (n k : Nat) : (U n).tdiv (k : Int) = U (n / k) := by unfold U; rw [Int.natCast_ediv]; exact Int.tdiv_eq_ediv_of_nonneg (by omega)
theorem U_tmod (n k : Nat) : (U n).tmod (k : Int) = U (n % k) := by unfold U; rw [Int.natCast_emod]; exact Int.tmod_eq_emod_of_nonneg (by omega)
theorem str1_size (x : Int) : (strOfNums [x]).size = 1 := rfl

theorem below_a {w w' : World} (hb : Below w.drew.heap.size w.drew w') (o : Obj) : Below w.heap.size w (w'.alloc o) :=
  (⟨hb.os, hb.tape, hb.output, hb.size, hb.block⟩ : Below w.heap.size w w').alloc hb.size o
theorem below_b {w w' : World} {o : Obj} (hb : Below (w.alloc o).drew.heap.size (w.alloc o).drew w') : Below w.heap.size w w' :=
  ((Below.refl w.heap.size w).alloc (Nat.le_refl _) o).drew.trans (hb.mono (by simp))
set_option maxRecDepth 100000 in
set_option maxHeartbeats 400000 in
theorem reffix (k : Nat) : ∀ (n : Nat) (x : Int) (_ : x = U n) (_ : Hid (n < 18446744073709551616)) (w : World), k ≤ 8 →
    Calls Try.prog 36 #[.int .u64 x, .int .i64 (k : Int)] w fun e w' => e = .returned (.string (S (fixB k n))) ∧ Below w.heap.size w w' := by
  induction k with
  | zero =>
    rintro n x rfl hn w _
    go_enter Try.func36, Try.ntmps36
    go_wp2_with fail
    go_ret
    exact ⟨rfl, Below.refl _ _⟩
  | succ k ih =>
    rintro n x rfl hn w hk
    have hk1 : IntKind.i64.wrap (k : Int) = (k : Int) := IntWalk.i64_in _ (by omega)
    have htd : (U n).tdiv 256 = U (n / 256) := U_tdiv n 256
    have htm : (U n).tmod 256 = U (n % 256) := U_tmod n 256
    have hw1 : IntKind.u64.wrap (U (n / 256)) = U (n / 256) := wrap64U _ (by have := hn.out; omega)
    have hw2 : IntKind.u64.wrap (U (n % 256)) = U (n % 256) := wrap64U _ (by omega)
    have hw3 : IntKind.u8.wrap (U (n % 256)) = U (n % 256) := by rw [IntKind.wrap_u8']; unfold U; omega
    have hw4 : U (n % 256) % 256 = U (n % 256) := by unfold U; omega
    have hp : (0 : Int) < ((k + 1 : Nat) : Int) := by omega
    have H0 : (0 : Int) ≤ U n := by unfold U; omega
    have HI : Hid (∀ w, Calls Try.prog 36 #[.int .u64 (U (n / 256)), .int .i64 (k : Int)] w fun e w' => e = .returned (.string (S (fixB k (n / 256)))) ∧ Below w.heap.size w w') := fun w => ih (n / 256) _ rfl (by have := hn.out; show _ < _; omega) w (by omega)
    clear ih
    have hz1 : (S (fixB k (n / 256))).size = k := by rw [S_size, fixB_length]
    have hz2 := str1_size
    have hc1 := conv1_now
    have hc2 := conv1_drew
    go_enter Try.func36, Try.ntmps36
    go_wp2_with fail
    go_region_with ((go_at_call 36; refine (HI.out _).mono ?_; rintro e w' ⟨rfl, hb⟩; (try have hc3 := conv1_after hb)))
    all_goals
      go_wp2_with fail
      go_ret
      exact ⟨by rw [one_byte n _ rfl, S_append]; rfl, by first | exact below_a hb _ | exact below_b hb⟩

/-! ### short numbers -/
theorem conv4_now (W : World) (x0 x1 x2 x3 : Int) : (convert 52 9 (.slice (some ⟨W.heap.size, 0, none⟩) 4 4)).run Try.prog (W.alloc (.cells #[.int .u8 x0, .int .u8 x1, .int .u8 x2, .int .u8 x3] 5)) = .ok (.string (strOfNums [x0, x1, x2, x3])) (W.alloc (.cells #[.int .u8 x0, .int .u8 x1, .int .u8 x2, .int .u8 x3] 5)) := by
  refine run_convert_bytes_arg (P := Try.prog) _ 52 5 Try.underlying52 Try.underlying5 W.heap.size 0 4 4 [x0, x1, x2, x3] rfl (fun i hi => ?_) 9 Try.underlying9
  rw [Nat.zero_add, cell_of_row _ _ _ _ _ _ (heap_alloc_new W _)]
  have hi2 : i = 0 ∨ i = 1 ∨ i = 2 ∨ i = 3 := by omega
  rcases hi2 with rfl | rfl | rfl | rfl <;> rfl
theorem low_str (n : Nat) : strOfNums [(U n).tmod 256 % 256, (U n).tdiv 256 % 256, (U n).tdiv 65536 % 256, (U n).tdiv 16777216 % 256] = S (lowB n) := by
  have h0 : (U n).tmod 256 % 256 = ((n % 256 : Nat) : Int) := by rw [show (U n).tmod 256 = U (n % 256) from U_tmod n 256]; unfold U; omega
  have h1 : (U n).tdiv 256 % 256 = ((n / 256 % 256 : Nat) : Int) := by rw [show (U n).tdiv 256 = U (n / 256) from U_tdiv n 256]; unfold U; omega
  have h2 : (U n).tdiv 65536 % 256 = ((n / 65536 % 256 : Nat) : Int) := by rw [show (U n).tdiv 65536 = U (n / 65536) from U_tdiv n 65536]; unfold U; omega
  have h3 : (U n).tdiv 16777216 % 256 = ((n / 16777216 % 256 : Nat) : Int) := by rw [show (U n).tdiv 16777216 = U (n / 16777216) from U_tdiv n 16777216]; unfold U; omega
  have e : lowB n = [UInt8.ofNat (n % 256), UInt8.ofNat (n / 256 % 256), UInt8.ofNat (n / 65536 % 256), UInt8.ofNat (n / 16777216 % 256)] := by unfold lowB; simp [fixB, Nat.div_div_eq_div_mul]
  rw [h0, h1, h2, h3, e]
  unfold strOfNums S
  simp only [List.map_cons, List.map_nil, Int.toNat_natCast]
set_option maxRecDepth 100000 in
set_option maxHeartbeats 400000 in
theorem refLow_any (n : Nat) (w : World) (hn : Hid (n < 4294967296)) :
    Calls Try.prog 37 #[.int .u32 (U n)] w fun e w' => e = .returned (.string (S (lowB n))) ∧ Below w.heap.size w w' := by
  have hc1 := conv4_now
  go_enter Try.func37, Try.ntmps37
  go_wp2_with fail
  go_ret
  exact ⟨congrArg (fun z => Ending.returned (.string z)) (low_str n), (Below.refl _ _).alloc (Nat.le_refl _) _⟩

end Go.Proofs.Ythaafniahkejkaa.Wire
