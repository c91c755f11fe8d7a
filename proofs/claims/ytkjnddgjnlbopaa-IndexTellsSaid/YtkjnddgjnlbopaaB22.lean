import Derived.Test.YtkjnddgjnlbopaaB11
import Derived.Deep.RegionWith
/-
  The Reader's calls: U8 to U64, Low, Short, Raw, Text.
-/
namespace Go.Proofs.Ytkjnddgjnlbopaa.Wire
open Go.RowKit

def fxV (s : ByteArray) (i e k : Nat) : Nat := be (tkT s i e k).data.toList
theorem fxV_lt (s : ByteArray) (i e k : Nat) : fxV s i e k < 256 ^ k := by
  have h := beT_lt (tkT s i e k) (tkT s i e k).size
  rw [beT_all _ _ (Nat.le_refl _)] at h
  have h2 := Nat.pow_le_pow_right (n := 256) (by decide) (tkT_size s i e k)
  unfold fxV; omega

theorem ru32_any (r : Nat) (s : ByteArray) (i e : Nat) (w : World) (hrd : Rd w r s i e) (hi : i ≤ s.size) (hs : s.size ≤ 1000000000000) :
    Calls Try.prog 48 #[.pointer (some ⟨r, 0, none⟩)] w fun x w' => x = .returned (.int .u32 (U (fxV s i e 4))) ∧ Step w w' r s (tkI s i e 4) (tkE s i e 4) := by
  go_enter Try.func48, Try.ntmps48
  go_wp2_with fail
  refine (rfix32 r s i e w hrd hi hs).mono ?_; rintro x w1 ⟨rfl, hst⟩
  have HST := Lib.hid hst; clear hst
  go_wp2_with fail
  go_ret
  exact ⟨rfl, HST.out⟩
theorem ru64_any (r : Nat) (s : ByteArray) (i e : Nat) (w : World) (hrd : Rd w r s i e) (hi : i ≤ s.size) (hs : s.size ≤ 1000000000000) :
    Calls Try.prog 49 #[.pointer (some ⟨r, 0, none⟩)] w fun x w' => x = .returned (.int .u64 (U (fxV s i e 8))) ∧ Step w w' r s (tkI s i e 8) (tkE s i e 8) := by
  go_enter Try.func49, Try.ntmps49
  go_wp2_with fail
  refine (rfix64 r s i e w hrd hi hs).mono ?_; rintro x w1 ⟨rfl, hst⟩
  have HST := Lib.hid hst; clear hst
  go_wp2_with fail
  go_ret
  exact ⟨rfl, HST.out⟩
theorem rlow_any (r : Nat) (s : ByteArray) (i e : Nat) (w : World) (hrd : Rd w r s i e) (hi : i ≤ s.size) (hs : s.size ≤ 1000000000000) :
    Calls Try.prog 50 #[.pointer (some ⟨r, 0, none⟩)] w fun x w' => x = .returned (.int .u32 (U (revN (fxV s i e 4)))) ∧ Step w w' r s (tkI s i e 4) (tkE s i e 4) := by
  have hlt : Hid (fxV s i e 4 < 4294967296) := fxV_lt s i e 4
  go_enter Try.func50, Try.ntmps50
  go_wp2_with fail
  refine (ru32_any r s i e w hrd hi hs).mono ?_; rintro x w1 ⟨rfl, hst⟩
  have HST := Lib.hid hst; clear hst
  go_wp2_with fail
  refine (reverse_any _ hlt w1).mono ?_; rintro x w2 ⟨rfl, rfl⟩
  go_wp2_with fail
  go_ret
  exact ⟨rfl, HST.out⟩

/-! ### Raw -/
theorem take_zero (r : Nat) (s : ByteArray) (i e : Nat) (w : World) (h : Rd w r s i e) (hi : i ≤ s.size) (hs : s.size ≤ 1000000000000) :
    Calls Try.prog 77 #[.pointer (some ⟨r, 0, none⟩), .int .i64 0] w fun x w' => x = .returned (.string (tkT s i e 0)) ∧ Step w w' r s (tkI s i e 0) (tkE s i e 0) :=
  take_any r s i e 0 w h hi hs
set_option maxHeartbeats 400000 in
theorem rraw_any (r : Nat) (s : ByteArray) (i e : Nat) (n : Int) (w : World) (hrd : Rd w r s i e) (hi : i ≤ s.size) (hs : s.size ≤ 1000000000000) :
    Calls Try.prog 53 #[.pointer (some ⟨r, 0, none⟩), .int .i64 n] w fun x w' => x = .returned (.string (tkT s i e n.toNat)) ∧ Step w w' r s (tkI s i e n.toNat) (tkE s i e n.toNat) := by
  have hT : (tkT s i e n.toNat).size ≤ 281474976710656 := by
    unfold tkT; split
    · rw [ByteArray.size_extract]; omega
    · exact Nat.zero_le _
  have HT := Lib.hid hT; clear hT
  by_cases hn : 0 ≤ n
  · obtain ⟨k, rfl⟩ : ∃ k : Nat, n = (k : Int) := ⟨n.toNat, by omega⟩
    rw [Int.toNat_natCast] at *
    go_enter Try.func53, Try.ntmps53
    go_wp2_with fail
    refine (take_any r s i e k w hrd hi hs).mono ?_; rintro x w1 ⟨rfl, hst⟩
    have HST := Lib.hid hst; clear hst
    go_wp2_with fail
    refine (clone_any _ w1 HT.out).mono ?_; rintro x w2 ⟨rfl, hb⟩
    have HB := Lib.hid hb; clear hb
    go_wp2_with fail
    go_ret
    exact ⟨rfl, HST.out.below HB.out⟩
  · have e0 : n.toNat = 0 := by omega
    have HT0 : Hid ((tkT s i e 0).size ≤ 281474976710656) := by have := HT.out; rw [e0] at this; exact this
    rw [e0]
    clear e0 HT
    have hn2 : max n 0 = 0 := by omega
    clear hn
    go_enter Try.func53, Try.ntmps53
    go_wp2_with fail
    refine (take_zero r s i e w hrd hi hs).mono ?_; rintro x w1 ⟨rfl, hst⟩
    have HST := Lib.hid hst; clear hst
    go_wp2_with fail
    refine (clone_any _ w1 HT0.out).mono ?_; rintro x w2 ⟨rfl, hb⟩
    have HB := Lib.hid hb; clear hb
    go_wp2_with fail
    go_ret
    exact ⟨rfl, HST.out.below HB.out⟩

/-! ### Short -/
/-- (number, where it stands then, the error) -/
def shR (s : ByteArray) (i e m : Nat) : Nat × Nat × Nat :=
  if e = 0 then (if m < (scan (s.data.toList.drop i) 0 0).1 then (0, i, 40) else ((scan (s.data.toList.drop i) 0 0).1, i + (scan (s.data.toList.drop i) 0 0).2.1, (scan (s.data.toList.drop i) 0 0).2.2)) else (0, i, e)
theorem scan_size : ∀ (l : List UInt8) (i acc : Nat), (scan l i acc).2.1 ≤ i + l.length
  | [], _, _ => by rw [scan]; exact Nat.zero_le _
  | b :: l, i, acc => by
    rw [scan, List.length_cons]
    split
    · exact Nat.zero_le _
    · split
      · show i + 1 ≤ _; omega
      · have := scan_size l (i + 1) (acc + 128 ^ i * (b.toNat % 128)); omega
/-! ### Text -/
/-- (text, where it stands then, the error) -/
def txR (s : ByteArray) (i e m : Nat) : ByteArray × Nat × Nat :=
  (tkT s (shR s i e m).2.1 (shR s i e m).2.2 (shR s i e m).1, if tkE s (shR s i e m).2.1 (shR s i e m).2.2 (shR s i e m).1 = 0 then tkI s (shR s i e m).2.1 (shR s i e m).2.2 (shR s i e m).1 else i, tkE s (shR s i e m).2.1 (shR s i e m).2.2 (shR s i e m).1)
theorem shR_le (s : ByteArray) (i e m : Nat) (hi : i ≤ s.size) : (shR s i e m).2.1 ≤ s.size := by
  unfold shR
  split
  · split
    · exact hi
    · have := scan_size (s.data.toList.drop i) 0 0
      rw [List.length_drop] at this
      have e : s.data.toList.length = s.size := rfl
      show i + _ ≤ _
      omega
  · exact hi
theorem shR_most (s : ByteArray) (i e m : Nat) : (shR s i e m).1 ≤ m := by
  unfold shR
  split
  · split
    · exact Nat.zero_le _
    · show (scan _ 0 0).1 ≤ m; omega
  · exact Nat.zero_le _
theorem wrapM (m : Int) (h0 : 0 ≤ m) (h : m ≤ 9223372036854775807) : IntKind.u64.wrap m = U m.toNat := by rw [IntKind.wrap_u64]; unfold U; omega
theorem wrapI (n : Nat) (h : n ≤ 9223372036854775807) : IntKind.i64.wrap (U n) = (n : Int) := by unfold U; exact IntWalk.i64_in _ (by omega)
/-! ### nobody's Reader -/
theorem below_refl' (w : World) : Below w.heap.size w w := Below.refl _ _
theorem rraw_nil (n : Int) (w : World) : Calls Try.prog 53 #[.pointer none, .int .i64 n] w fun x w' => x = .returned (.string ⟨#[]⟩) ∧ Below w.heap.size w w' := by
  go_enter Try.func53, Try.ntmps53
  go_wp2_with fail
  refine (take_nil _ w).mono ?_; rintro x w1 ⟨rfl, rfl⟩
  go_wp2_with fail
  refine (clone_any _ w (by decide)).mono ?_; rintro x w2 ⟨rfl, hb⟩
  go_wp2_with fail
  go_ret
  exact ⟨rfl, hb⟩
end Go.Proofs.Ytkjnddgjnlbopaa.Wire

/-
  The document's own bytes: fixed numbers, short ones, texts.
-/
namespace Go.Proofs.Ytkjnddgjnlbopaa.Wire
open Go.RowKit

/-! ### one byte, as a text -/
theorem conv1 (W : World) (x : Int) (fr : World → World) (hfr : ∀ V p, (fr V).cell? p = V.cell? p) : (convert 110 9 (.slice (some ⟨W.heap.size, 0, none⟩) 1 1)).run Try.prog (fr (W.alloc (.cells #[.int .u8 x] 5))) = .ok (.string (strOfNums [x])) (fr (W.alloc (.cells #[.int .u8 x] 5))) := by
  refine run_convert_bytes_arg (P := Try.prog) _ 110 5 Try.underlying110 Try.underlying5 W.heap.size 0 1 1 [x] rfl (fun i hi => ?_) 9 Try.underlying9
  rw [hfr, Nat.zero_add, cell_of_row _ _ _ _ _ _ (heap_alloc_new W _)]
  obtain rfl : i = 0 := by omega
  rfl
theorem conv1_now (W : World) (x : Int) : (convert 110 9 (.slice (some ⟨W.heap.size, 0, none⟩) 1 1)).run Try.prog (W.alloc (.cells #[.int .u8 x] 5)) = .ok (.string (strOfNums [x])) (W.alloc (.cells #[.int .u8 x] 5)) := conv1 W x id fun _ _ => rfl
theorem conv1_drew (W : World) (x : Int) : (convert 110 9 (.slice (some ⟨W.heap.size, 0, none⟩) 1 1)).run Try.prog (W.alloc (.cells #[.int .u8 x] 5)).drew = .ok (.string (strOfNums [x])) (W.alloc (.cells #[.int .u8 x] 5)).drew := conv1 W x World.drew fun _ _ => rfl
theorem conv1_after {W w' : World} {x : Int} (hb : Below ((W.alloc (.cells #[.int .u8 x] 5)).drew).heap.size ((W.alloc (.cells #[.int .u8 x] 5)).drew) w') : (convert 110 9 (.slice (some ⟨W.heap.size, 0, none⟩) 1 1)).run Try.prog w' = .ok (.string (strOfNums [x])) w' := by
  refine run_convert_bytes_arg (P := Try.prog) _ 110 5 Try.underlying110 Try.underlying5 W.heap.size 0 1 1 [x] rfl (fun i hi => ?_) 9 Try.underlying9
  rw [hb.cell (p := ⟨W.heap.size, 0 + i, none⟩) (by simp), World.cell?_drew, Nat.zero_add, cell_of_row _ _ _ _ _ _ (heap_alloc_new W _)]
  obtain rfl : i = 0 := by omega
  rfl
theorem one_byte (n : Nat) (x : Int) (h : x = U (n % 256)) : strOfNums [x] = S [UInt8.ofNat (n % 256)] := by
  subst h
  unfold strOfNums S U
  simp only [List.map_cons, List.map_nil]
  rw [Int.toNat_natCast]
theorem S_append (l m : List UInt8) : S l ++ S m = S (l ++ m) := by
  apply ByteArray.ext
  rw [ByteArray.data_append]
  unfold S; simp
theorem U_tdiv (n k : Nat) : (U n).tdiv (k : Int) = U (n / k) := by unfold U; rw [Int.natCast_ediv]; exact Int.tdiv_eq_ediv_of_nonneg (by omega)
theorem U_tmod (n k : Nat) : (U n).tmod (k : Int) = U (n % k) := by unfold U; rw [Int.natCast_emod]; exact Int.tmod_eq_emod_of_nonneg (by omega)
theorem str1_size (x : Int) : (strOfNums [x]).size = 1 := rfl

theorem below_a {w w' : World} (hb : Below w.drew.heap.size w.drew w') (o : Obj) : Below w.heap.size w (w'.alloc o) :=
  (⟨hb.os, hb.tape, hb.output, hb.size, hb.block⟩ : Below w.heap.size w w').alloc hb.size o
theorem below_b {w w' : World} {o : Obj} (hb : Below (w.alloc o).drew.heap.size (w.alloc o).drew w') : Below w.heap.size w w' :=
  ((Below.refl w.heap.size w).alloc (Nat.le_refl _) o).drew.trans (hb.mono (by simp))
/-! ### short numbers -/
theorem conv4_now (W : World) (x0 x1 x2 x3 : Int) : (convert 110 9 (.slice (some ⟨W.heap.size, 0, none⟩) 4 4)).run Try.prog (W.alloc (.cells #[.int .u8 x0, .int .u8 x1, .int .u8 x2, .int .u8 x3] 5)) = .ok (.string (strOfNums [x0, x1, x2, x3])) (W.alloc (.cells #[.int .u8 x0, .int .u8 x1, .int .u8 x2, .int .u8 x3] 5)) := by
  refine run_convert_bytes_arg (P := Try.prog) _ 110 5 Try.underlying110 Try.underlying5 W.heap.size 0 4 4 [x0, x1, x2, x3] rfl (fun i hi => ?_) 9 Try.underlying9
  rw [Nat.zero_add, cell_of_row _ _ _ _ _ _ (heap_alloc_new W _)]
  have hi2 : i = 0 ∨ i = 1 ∨ i = 2 ∨ i = 3 := by omega
  rcases hi2 with rfl | rfl | rfl | rfl <;> rfl
theorem low_str (n : Nat) : strOfNums [(U n).tmod 256 % 256, (U n).tdiv 256 % 256, (U n).tdiv 65536 % 256, (U n).tdiv 16777216 % 256] = S (lowB n) := by
  have h0 : (U n).tmod 256 % 256 = ((n % 256 : Nat) : Int) := by rw [show (U n).tmod 256 = U (n % 256) from U_tmod n 256]; unfold U; omega
  have h1 : (U n).tdiv 256 % 256 = ((n / 256 % 256 : Nat) : Int) := by rw [show (U n).tdiv 256 = U (n / 256) from U_tdiv n 256]; unfold U; omega
  have h2 : (U n).tdiv 65536 % 256 = ((n / 65536 % 256 : Nat) : Int) := by rw [show (U n).tdiv 65536 = U (n / 65536) from U_tdiv n 65536]; unfold U; omega
  have h3 : (U n).tdiv 16777216 % 256 = ((n / 16777216 % 256 : Nat) : Int) := by rw [show (U n).tdiv 16777216 = U (n / 16777216) from U_tdiv n 16777216]; unfold U; omega
  have e : lowB n = [UInt8.ofNat (n % 256), UInt8.ofNat (n / 256 % 256), UInt8.ofNat (n / 65536 % 256), UInt8.ofNat (n / 16777216 % 256)] := by unfold lowB; simp [fixB, Nat.div_div_eq_div_mul]
  rw [h0, h1, h2, h3, e]
  unfold strOfNums S
  simp only [List.map_cons, List.map_nil, Int.toNat_natCast]
set_option maxRecDepth 100000 in
set_option maxHeartbeats 400000 in
theorem refLow_any (n : Nat) (w : World) (hn : Hid (n < 4294967296)) :
    Calls Try.prog 71 #[.int .u32 (U n)] w fun e w' => e = .returned (.string (S (lowB n))) ∧ Below w.heap.size w w' := by
  have hc1 := conv4_now
  go_enter Try.func71, Try.ntmps71
  go_wp2_with fail
  go_ret
  exact ⟨congrArg (fun z => Ending.returned (.string z)) (low_str n), (Below.refl _ _).alloc (Nat.le_refl _) _⟩

end Go.Proofs.Ytkjnddgjnlbopaa.Wire

/-
  The document's Reader.
-/
namespace Go.Proofs.Ytkjnddgjnlbopaa.Wire
open Go.RowKit

def drS (s : ByteArray) (i e t : Nat) : Array Value := #[.string s, .int .i64 (i : Int), .int .i64 (e : Int), .int .i64 (t : Int)]
def Dr (w : World) (d : Nat) (s : ByteArray) (i e : Nat) : Prop := w.heap[d]? = some (.cells (drS s i e (errAt i e)) 142 (0, 0))
def DStep (w w' : World) (d : Nat) (s : ByteArray) (i e : Nat) : Prop := Dr w' d s i e ∧ w.grownBy w' (some d)
theorem DStep.refl {w : World} {d : Nat} {s : ByteArray} {i e : Nat} (h : Dr w d s i e) : DStep w w d s i e := ⟨h, grown_refl _ _⟩
theorem DStep.drewN {w w' : World} {d : Nat} {s : ByteArray} {i e : Nat} (h : DStep w w' d s i e) (n : Nat) : DStep w (w'.drewN n) d s i e := ⟨h.1, grown_drewN h.2 n⟩
theorem DStep.trans {a b c : World} {d : Nat} {s t : ByteArray} {i e j f : Nat} (h : DStep a b d s i e) (k : DStep b c d t j f) : DStep a c d t j f := ⟨k.1, grown_trans h.2 k.2⟩
theorem grown_set (w : World) (d j : Nat) (v : Value) : w.grownBy (w.setCell ⟨d, j, none⟩ v) (some d) := ⟨rfl, rfl, rfl, by simp [World.setCell], fun k _ hn => Below.heap_setCell w _ v k (fun e => hn (by rw [e]))⟩
theorem Dr.cells {w : World} {d : Nat} {s : ByteArray} {i e : Nat} (h : Dr w d s i e) : w.cell? ⟨d, 0, none⟩ = some (.string s) ∧ w.cell? ⟨d, 1, none⟩ = some (.int .i64 (i : Int)) ∧ w.cell? ⟨d, 2, none⟩ = some (.int .i64 (e : Int)) ∧ w.cell? ⟨d, 3, none⟩ = some (.int .i64 (errAt i e : Int)) :=
  ⟨cell_row h 0, cell_row h 1, cell_row h 2, cell_row h 3⟩

/-! ### an error -/
set_option maxHeartbeats 400000 in
theorem dwrong_any (d : Nat) (s : ByteArray) (i : Nat) (f : Nat) (w : World) (h : Dr w d s i 0) (hf : f ≠ 0) (j : Nat) (hj : w.cell? ⟨d, 1, none⟩ = some (.int .i64 (j : Int)) → i = j) (y : Int) (hy : y = (f : Int)) :
    Calls Try.prog 101 #[.pointer (some ⟨d, 0, none⟩), .int .i64 y, .int .i64 (i : Int)] w fun x w' => x = .returned (.tuple #[]) ∧ DStep w w' d s i f := by
  subst hy
  obtain ⟨c0, c1, c2, c3⟩ := h.cells
  have f2 := frozen_row h 2
  have f3 := frozen_row h 3
  have HE : Hid (errAt i f = i) := if_neg hf
  clear hj
  go_enter Try.func101, Try.ntmps101
  go_wp2_with fail
  go_end0
  refine ⟨rfl, ?_, grown_trans (grown_set _ _ _ _) (grown_set _ _ _ _)⟩
  have := heap_set (heap_set h 2 (.int .i64 (f : Int))) 3 (.int .i64 (i : Int))
  unfold Dr
  rw [HE.out]; exact this
theorem dwrong (d : Nat) (s : ByteArray) (i : Nat) (f : Nat) (w : World) (h : Dr w d s i 0) (hf : f ≠ 0) (y : Int) (hy : y = (f : Int)) :
    Calls Try.prog 101 #[.pointer (some ⟨d, 0, none⟩), .int .i64 y, .int .i64 (i : Int)] w fun x w' => x = .returned (.tuple #[]) ∧ DStep w w' d s i f :=
  dwrong_any d s i f w h hf i (fun _ => rfl) y hy

/-! ### End -/
/-! ### Raw -/
end Go.Proofs.Ytkjnddgjnlbopaa.Wire

/-
  The document's Reader: Fixed and Low.
-/
namespace Go.Proofs.Ytkjnddgjnlbopaa.Wire
open Go.RowKit

theorem ext_byte (s : ByteArray) (i k q : Nat) (h : i + k ≤ s.size) (hq : q < k) (h2 : q < (s.extract i (i + k)).size) (h3 : i + q < s.size) : (s.extract i (i + k))[q] = s[i + q] := by
  first | exact ByteArray.getElem_extract h2 | exact ByteArray.getElem_extract | simp
theorem fix_step (a : Nat) (c : UInt8) (ha : a < 72057594037927936) : IntKind.u64.wrap (U a * 256) = U (a * 256) ∧ IntKind.u64.wrap (c.toNat : Int) = (c.toNat : Int) ∧ IntKind.u64.wrap (U (a * 256) + (c.toNat : Int)) = U (a * 256 + c.toNat) := by
  have hc := c.toNat_lt
  unfold U
  refine ⟨?_, ?_, ?_⟩ <;> (rw [IntKind.wrap_u64]; omega)

set_option maxRecDepth 100000 in
set_option maxHeartbeats 1000000 in
theorem dfixed_any (d : Nat) (s : ByteArray) (i e k : Nat) (y : Int) (hy : y = (k : Int)) (w : World) (h : Dr w d s i e) (hi : i ≤ s.size) (hs : s.size ≤ 1000000000000) (hk8 : k ≤ 8) :
    Calls Try.prog 89 #[.pointer (some ⟨d, 0, none⟩), .int .i64 y] w fun x w' => x = .returned (.int .u64 (U (fxV s i e k))) ∧ DStep w w' d s (tkI s i e k) (tkE s i e k) := by
  subst hy
  obtain ⟨c0, c1, c2, c3⟩ := h.cells
  have hsub : IntKind.i64.wrap ((s.size : Int) - (i : Int)) = (s.size : Int) - (i : Int) := IntWalk.i64_in _ (by omega)
  have u0 : U 0 = 0 := rfl
  by_cases he : e = 0
  · subst he
    by_cases hn : i + k ≤ s.size
    · have hT : Hid (tkT s i 0 k = s.extract i (i + k) ∧ tkI s i 0 k = i + k ∧ tkE s i 0 k = 0) := ⟨if_pos ⟨rfl, hn⟩, if_pos ⟨rfl, hn⟩, by unfold tkE; rw [if_pos rfl, if_pos hn]⟩
      have HTS : Hid ((s.extract i (i + k)).size = k) := by show _ = _; rw [ByteArray.size_extract]; omega
      have hg : (k : Int) ≤ (s.size : Int) - (i : Int) := by omega
      have hadd2 : IntKind.i64.wrap ((i : Int) + (k : Int)) = (i : Int) + (k : Int) := IntWalk.i64_in _ (by omega)
      have f1 := frozen_row h 1
      have H := Lib.hid h
      have HN := Lib.hid hn
      have HFV : Hid (fxV s i 0 k = be (s.extract i (i + k)).data.toList) := by unfold fxV; rw [hT.out.1]; rfl
      clear hn
      have HBY : Hid (∀ q (hq : q < k), (s.extract i (i + k))[q]'(by rw [HTS.out]; exact hq) = s[i + q]'(by have := HN.out; omega)) := fun q hq => ext_byte s i k q HN.out hq _ _
      clear h c3
      generalize s.extract i (i + k) = T at *
      go_enter Try.func89, Try.ntmps89
      go_wp2_with fail
      go_quiet (fail)
      go_wp2_with fail
      go_loopw [5, 6] (fun n j wr => ∃ q m : Nat, q ≤ k ∧ j = .int .i64 q ∧ n = .int .u64 (U (beT T q)) ∧ wr = w.drewN m) (fun _ j _ => k - (intOf j).toNat)
      case atStart => exact ⟨0, _, Nat.zero_le _, rfl, by rw [beT_zero]; rfl, rfl⟩
      case round =>
        obtain ⟨q, m, hq, rfl, rfl, rfl⟩ := hrel
        by_cases hlt : q < k
        · have hqT : q < T.size := by rw [HTS.out]; exact hlt
          have HBT := Lib.hid (beT_succ T q hqT)
          have HB := Lib.hid (HBY.out q hlt)
          obtain ⟨p, hp⟩ : ∃ p, p = i + q := ⟨_, rfl⟩
          have hps : p < s.size := by have := HN.out; omega
          have hadd : IntKind.i64.wrap ((i : Int) + (q : Int)) = (p : Int) := by rw [hp]; have := HN.out; rw [IntWalk.i64_in _ (by omega)]; omega
          have hb2 : beT T q < 72057594037927936 := by
            have h1 := beT_lt T q
            have := Nat.pow_le_pow_right (n := 256) (by decide) (show q ≤ 7 by omega)
            omega
          obtain ⟨hm1, hm2, hm3⟩ := fix_step (beT T q) (s[p]) hb2
          have HSP : Hid (s[p] = T[q]) := by subst hp; exact HB.out.symm
          clear hb2 HB hp
          have hp0 : (0 : Int) ≤ (p : Int) := by omega
          have hp1 : (p : Int) < (s.size : Int) := by omega
          go_wp2_with fail
          go_quiet (fail)
          go_wp2_with fail
          go_roundw
          case rel => exact ⟨q + 1, _, by omega, by go_num, by rw [HBT.out, ← HSP.out], rfl⟩
          case measure => simp [intOf] <;> omega
        · obtain rfl : q = k := by omega
          have HBA := Lib.hid (beT_all T q (by rw [HTS.out]; exact Nat.le_refl _))
          go_wp2_with fail
          go_ret
          refine ⟨by rw [HFV.out, ← HBA.out]; rfl, ?_⟩
          rw [hT.out.2.1, hT.out.2.2]
          refine ⟨?_, grown_trans (grown_drewN (grown_refl w d) _) (grown_set _ _ _ _)⟩
          have := heap_set H.out 1 (.int .i64 ((i + q : Nat) : Int))
          exact this
    · have hT : Hid (tkT s i 0 k = ⟨#[]⟩ ∧ tkI s i 0 k = i ∧ tkE s i 0 k = 8) := ⟨if_neg (by omega), if_neg (by omega), by unfold tkE; rw [if_pos rfl, if_neg hn]⟩
      have hg : (s.size : Int) - (i : Int) < (k : Int) := by omega
      have H := Lib.hid h
      have HFV : Hid (fxV s i 0 k = 0) := by unfold fxV; rw [hT.out.1]; rfl
      clear hn h c3
      go_enter Try.func89, Try.ntmps89
      go_wp2_with fail
      go_quiet (fail)
      go_wp2_with fail
      refine (dwrong d s i 8 (w.drewN nq) H.out (by decide) 8 rfl).mono ?_; rintro x w1 ⟨rfl, hst⟩
      have HST := Lib.hid ((DStep.refl H.out).drewN nq |>.trans hst); clear hst
      go_wp2_with fail
      go_ret
      refine ⟨by rw [HFV.out]; rfl, ?_⟩
      rw [hT.out.2.1, hT.out.2.2]; exact HST.out
  · have hT : Hid (tkT s i e k = ⟨#[]⟩ ∧ tkI s i e k = i ∧ tkE s i e k = e) := ⟨if_neg (by omega), if_neg (by omega), if_neg he⟩
    have hb : ((e : Int) != 0) = true := by rw [bne_iff_ne]; omega
    have HFV : Hid (fxV s i e k = 0) := by unfold fxV; rw [hT.out.1]; rfl
    have H := Lib.hid h
    clear he h c3
    go_enter Try.func89, Try.ntmps89
    go_wp2_with fail
    go_ret
    refine ⟨by rw [HFV.out]; rfl, ?_⟩
    rw [hT.out.2.1, hT.out.2.2]; exact DStep.refl H.out
end Go.Proofs.Ytkjnddgjnlbopaa.Wire
