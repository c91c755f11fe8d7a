import Derived.Test.YtiibeemjkdipnaaGreatDoorB12
import Derived.Deep.RegionWith
/-
  What the statements ask first: 'short', 'wrong', the examples ('works').
-/
namespace Go.Proofs.YtiibeemjkdipnaaGreatDoor.Wire
open Go.RowKit

theorem carry {P : Program} {f : FuncId} {args : Array Value} {w0 w : World} {v : Ending} (h : Below w0.heap.size w0 w) (c : Calls P f args w (fun e w' => e = v ∧ Below w.heap.size w w')) :
    Calls P f args w (fun e w' => e = v ∧ Below w0.heap.size w0 w') :=
  c.mono fun _ _ ⟨he, hb⟩ => ⟨he, h.trans (hb.mono h.size)⟩
theorem step_low {B : Nat} {a b : World} {r : Nat} {s : ByteArray} {i e : Nat} (h : Step a b r s i e) (hr : B ≤ r) (hB : B ≤ a.heap.size) : Below B a b :=
  ⟨h.2.os, h.2.tape, h.2.output, h.2.size, fun k hk => h.2.block k (by omega) (fun e => by injection e with e; omega)⟩
theorem only_below {B : Nat} {a b : World} (h : Only B a b) : Below B a b := h.below
theorem Wr.only {B : Nat} {a b : World} {r : Nat} {s : ByteArray} {i e : Nat} (h : Rd a r s i e) (k : Only B a b) : Rd b r s i e := k.same r _ _ _ h (by decide) (by decide) (by decide)
theorem Wr.step {B : Nat} {w w' : World} {p r : Nat} {l : List UInt8} {s : ByteArray} {i e i' e' : Nat} (h : Wr B w p l) (hr : Rd w r s i e) (k : Step w w' r s i' e') : Wr B w' p l :=
  h.beside k.2 hr (by decide) (by decide) (by decide)

/-- from w0 on: what was there is as it was; the Writer at p has L -/
structure Inv (B : Nat) (w0 : World) (p : Nat) (L : List UInt8) (w : World) : Prop where
  bel : Below B w0 w
  wr : Wr B w p L
theorem Inv.below {B : Nat} {w0 : World} {p : Nat} {L : List UInt8} {w w' : World} (h : Inv B w0 p L w) (k : Below w.heap.size w w') : Inv B w0 p L w' := ⟨h.bel.trans (k.mono h.wr.low), h.wr.below k⟩
theorem Inv.alloc {B : Nat} {w0 : World} {p : Nat} {L : List UInt8} {w : World} (h : Inv B w0 p L w) (o : Obj) : Inv B w0 p L (w.alloc o) := h.below ((Below.refl _ _).alloc (Nat.le_refl _) _)
theorem Inv.drewN {B : Nat} {w0 : World} {p : Nat} {L : List UInt8} {w : World} (h : Inv B w0 p L w) (n : Nat) : Inv B w0 p L (w.drewN n) := ⟨⟨h.bel.os, h.bel.tape, h.bel.output, h.bel.size, h.bel.block⟩, h.wr⟩
theorem Inv.step {B : Nat} {w0 : World} {p r : Nat} {L : List UInt8} {w w' : World} {s : ByteArray} {i e i' e' : Nat} (h : Inv B w0 p L w) (hB : B ≤ r) (hr : Rd w r s i e) (k : Step w w' r s i' e') : Inv B w0 p L w' :=
  ⟨h.bel.trans (step_low k hB h.wr.low), h.wr.step hr k⟩
theorem Inv.put {B : Nat} {w0 : World} {p : Nat} {L M : List UInt8} {w w' : World} (h : Inv B w0 p L w) (k : Wr B w' p M) (o : Only B w w') : Inv B w0 p M w' := ⟨h.bel.trans o.below, k⟩
theorem Inv.new (w : World) : Inv w.heap.size w w.heap.size [] (w.alloc (.cells #[.pointer none, .int .i64 0] 73)) :=
  ⟨(Below.refl _ _).alloc (Nat.le_refl _) _, Wr.new (Nat.le_refl _)⟩

end Go.Proofs.YtiibeemjkdipnaaGreatDoor.Wire

/-
  The examples ('works').
-/
namespace Go.Proofs.YtiibeemjkdipnaaGreatDoor.Wire
open Go.RowKit

def L9 : List UInt8 := [1, 2, 2, 97, 98, 2, 1, 0, 0]
theorem L9_eq : (([] ++ fixB 2 258) ++ textB ⟨#[97, 98]⟩) ++ lowB 258 = L9 := by decide +kernel
theorem tx1 : txR ⟨#[2, 97, 98]⟩ 0 0 1 = (⟨#[]⟩, 0, 40) := by decide +kernel
theorem tx2 : txR ⟨#[2, 97]⟩ 0 0 9 = (⟨#[]⟩, 0, 8) := by decide +kernel
def nines : ByteArray := ⟨#[255, 255, 255, 255, 255, 255, 255, 255, 255, 2]⟩
theorem wr1 : shR ⟨#[128, 0]⟩ 0 0 9 = (0, 0, 4) := by decide +kernel
theorem wr2 : shR ⟨#[255, 255, 255, 255, 255, 255, 255, 255, 255, 2]⟩ 0 0 18446744073709551615 = (0, 0, 4) := by decide +kernel
theorem hid_lt {a b : Nat} (h : a < b) : Hid (a < b) := h

end Go.Proofs.YtiibeemjkdipnaaGreatDoor.Wire

/-
  Nobody's Reader: fixed numbers.
-/
namespace Go.Proofs.YtiibeemjkdipnaaGreatDoor.Wire
open Go.RowKit

set_option maxRecDepth 100000 in
set_option maxHeartbeats 400000 in
theorem rfix8_nil (w : World) : Calls Tryz.prog 96 #[.pointer none] w fun x w' => x = .returned (.int .u8 0) ∧ Below w.heap.size w w' := by
  go_enter Tryz.func96, Tryz.ntmps96
  go_wp2_with fail
  refine (len_255 w).mono ?_; rintro x w1 ⟨rfl, rfl⟩
  go_wp2_with fail
  refine (take_nil _ w).mono ?_; rintro x w1 ⟨rfl, rfl⟩
  have hconv := run_bytes_of_string (P := Tryz.prog) w 9 49 5 ⟨#[]⟩ Tryz.underlying9 Tryz.underlying49 Tryz.underlying5
  generalize grownCap w (ByteArray.size ⟨#[]⟩) 0 5 = cap at *
  generalize bytesRow ⟨#[]⟩ cap = R at *
  go_wp2_with fail
  clear hconv
  have HB : Hid (Below w.heap.size w (w.alloc (Obj.cells R 5 (R.size, R.size + 1))).drew) := ((Below.refl _ _).alloc (Nat.le_refl _) _).drew
  go_loop [4, 17] (fun n j => j = .int .i64 0 ∧ n = .int .u64 0) (fun _ _ => 0)
  case atStart => exact ⟨rfl, rfl⟩
  case round =>
    obtain ⟨rfl, rfl⟩ := hrel
    go_wp2_with fail
    go_ret
    exact ⟨rfl, HB.out⟩
theorem ru8_nil (w : World) : Calls Tryz.prog 81 #[.pointer none] w fun x w' => x = .returned (.int .u8 0) ∧ Below w.heap.size w w' := by
  go_enter Tryz.func81, Tryz.ntmps81
  go_wp2_with fail
  refine (rfix8_nil w).mono ?_; rintro x w1 ⟨rfl, hb⟩
  go_wp2_with fail
  go_ret
  exact ⟨rfl, hb⟩
theorem rev_zero : revN 0 = 0 := by decide +kernel
end Go.Proofs.YtiibeemjkdipnaaGreatDoor.Wire

/-
  The document's own bytes: fixed numbers, short ones, texts.
-/
namespace Go.Proofs.YtiibeemjkdipnaaGreatDoor.Wire
open Go.RowKit

/-! ### one byte, as a text -/
theorem conv1 (W : World) (x : Int) (fr : World → World) (hfr : ∀ V p, (fr V).cell? p = V.cell? p) : (convert 49 9 (.slice (some ⟨W.heap.size, 0, none⟩) 1 1)).run Tryz.prog (fr (W.alloc (.cells #[.int .u8 x] 5))) = .ok (.string (strOfNums [x])) (fr (W.alloc (.cells #[.int .u8 x] 5))) := by
  refine run_convert_bytes_arg (P := Tryz.prog) _ 49 5 Tryz.underlying49 Tryz.underlying5 W.heap.size 0 1 1 [x] rfl (fun i hi => ?_) 9 Tryz.underlying9
  rw [hfr, Nat.zero_add, cell_of_row _ _ _ _ _ _ (heap_alloc_new W _)]
  obtain rfl : i = 0 := by omega
  rfl
theorem conv1_now (W : World) (x : Int) : (convert 49 9 (.slice (some ⟨W.heap.size, 0, none⟩) 1 1)).run Tryz.prog (W.alloc (.cells #[.int .u8 x] 5)) = .ok (.string (strOfNums [x])) (W.alloc (.cells #[.int .u8 x] 5)) := conv1 W x id fun _ _ => rfl
theorem conv1_drew (W : World) (x : Int) : (convert 49 9 (.slice (some ⟨W.heap.size, 0, none⟩) 1 1)).run Tryz.prog (W.alloc (.cells #[.int .u8 x] 5)).drew = .ok (.string (strOfNums [x])) (W.alloc (.cells #[.int .u8 x] 5)).drew := conv1 W x World.drew fun _ _ => rfl
theorem conv1_after {W w' : World} {x : Int} (hb : Below ((W.alloc (.cells #[.int .u8 x] 5)).drew).heap.size ((W.alloc (.cells #[.int .u8 x] 5)).drew) w') : (convert 49 9 (.slice (some ⟨W.heap.size, 0, none⟩) 1 1)).run Tryz.prog w' = .ok (.string (strOfNums [x])) w' := by
  refine run_convert_bytes_arg (P := Tryz.prog) _ 49 5 Tryz.underlying49 Tryz.underlying5 W.heap.size 0 1 1 [x] rfl (fun i hi => ?_) 9 Tryz.underlying9
  rw [hb.cell (p := ⟨W.heap.size, 0 + i, none⟩) (by simp), World.cell?_drew, Nat.zero_add, cell_of_row _ _ _ _ _ _ (heap_alloc_new W _)]
  obtain rfl : i = 0 := by omega
  rfl
theorem one_byte (n : Nat) (x : Int) (h : x = U (n % 256)) : strOfNums [x] = S [UInt8.ofNat (n % 256)] := by
  subst h
  unfold strOfNums S U
  simp only [List.map_cons, List.map_nil]
  rw [Int.toNat_natCast]
theorem S_append (l m : List UInt8) : S l ++ S m = S (l ++ m) := by
  apply ByteArray.ext
  rw [ByteArray.data_append]
  unfold S; simp
theorem U_tdiv (n k : Nat) : (U n).tdiv (k : Int) = U (n / k) := by unfold U; rw [Int.natCast_ediv]; exact Int.tdiv_eq_ediv_of_nonneg (by omega)
theorem U_tmod (n k : Nat) : (U n).tmod (k : Int) = U (n % k) := by unfold U; rw [Int.natCast_emod]; exact Int.tmod_eq_emod_of_nonneg (by omega)
theorem str1_size (x : Int) : (strOfNums [x]).size = 1 := rfl

theorem below_a {w w' : World} (hb : Below w.drew.heap.size w.drew w') (o : Obj) : Below w.heap.size w (w'.alloc o) :=
  (⟨hb.os, hb.tape, hb.output, hb.size, hb.block⟩ : Below w.heap.size w w').alloc hb.size o
theorem below_b {w w' : World} {o : Obj} (hb : Below (w.alloc o).drew.heap.size (w.alloc o).drew w') : Below w.heap.size w w' :=
  ((Below.refl w.heap.size w).alloc (Nat.le_refl _) o).drew.trans (hb.mono (by simp))
/-! ### short numbers -/
set_option maxRecDepth 100000 in
set_option maxHeartbeats 400000 in
theorem refshort_small (n : Nat) (w : World) (h : n < 128) :
    Calls Tryz.prog 29 #[.int .u64 (U n)] w fun e w' => e = .returned (.string (S (shortB n))) ∧ Below w.heap.size w w' := by
  have hlt : U n < 128 := by unfold U; omega
  have hc1 := conv1_now
  have hm : U n % 256 = U n := by unfold U; omega
  have HS : Hid (strOfNums [U n] = S (shortB n)) := by
    show _ = _
    have e : n % 256 = n := by omega
    have := one_byte n (U n) (by rw [e])
    rw [this, shortB_lt n h, e]
  clear h
  go_enter Tryz.func29, Tryz.ntmps29
  go_wp2_with fail
  go_ret
  exact ⟨by rw [← HS.out]; rfl, (Below.refl _ _).alloc (Nat.le_refl _) _⟩
set_option maxRecDepth 100000 in
set_option maxHeartbeats 400000 in
theorem refshort (f : Nat) : ∀ (n : Nat) (w : World), n < 128 ^ f → Hid (n < 18446744073709551616) →
    Calls Tryz.prog 29 #[.int .u64 (U n)] w fun e w' => e = .returned (.string (S (shortB n))) ∧ Below w.heap.size w w' := by
  induction f with
  | zero =>
    intro n w h _
    exact refshort_small n w (by rw [Nat.pow_zero] at h; omega)
  | succ f ih =>
    intro n w h hn
    by_cases hs : n < 128
    · exact refshort_small n w hs
    · have hge : 128 ≤ U n := by unfold U; omega
      have HI : Hid (∀ w, Calls Tryz.prog 29 #[.int .u64 (U (n / 128))] w fun e w' => e = .returned (.string (S (shortB (n / 128)))) ∧ Below w.heap.size w w') := fun w =>
        ih (n / 128) w (by rw [Nat.pow_succ] at h; exact Nat.div_lt_of_lt_mul (by omega)) (by have := hn.out; show _ < _; omega)
      have HS : Hid (S [UInt8.ofNat (n % 128 + 128)] ++ S (shortB (n / 128)) = S (shortB n)) := by
        show _ = _; rw [S_append, shortB_ge n (by omega) hn.out]; rfl
      have HB : Hid (strOfNums [U (n % 128) + 128] = S [UInt8.ofNat (n % 128 + 128)]) := by
        show _ = _
        have e : (n % 128 + 128) % 256 = n % 128 + 128 := by omega
        have := one_byte (n % 128 + 128) (U (n % 128) + 128) (by rw [e]; unfold U; omega)
        rw [this, e]
      have htd : (U n).tdiv 128 = U (n / 128) := U_tdiv n 128
      have htm : (U n).tmod 128 = U (n % 128) := U_tmod n 128
      have hw1 : IntKind.u64.wrap (U (n / 128)) = U (n / 128) := wrap64U _ (by have := hn.out; omega)
      have hw2 : IntKind.u64.wrap (U (n % 128)) = U (n % 128) := wrap64U _ (by omega)
      have hw3 : IntKind.u8.wrap (U (n % 128)) = U (n % 128) := by rw [IntKind.wrap_u8']; unfold U; omega
      have hw4 : U (n % 128) % 256 = U (n % 128) := by unfold U; omega
      have hw5 : IntKind.u8.wrap (U (n % 128) + 128) = U (n % 128) + 128 := by rw [IntKind.wrap_u8']; unfold U; omega
      have hz1 : (S (shortB (n / 128))).size ≤ 11 := by rw [S_size]; exact shortB_le _
      have hz2 := str1_size
      have hc1 := conv1_now
      have hc2 := conv1_drew
      clear ih h hs
      go_enter Tryz.func29, Tryz.ntmps29
      go_wp2_with fail
      go_region_with ((go_at_call 29; refine (HI.out _).mono ?_; rintro e w' ⟨rfl, hb⟩; (try have hc3 := conv1_after hb)))
      all_goals
        go_wp2_with fail
        go_ret
        exact ⟨by rw [← HS.out, ← HB.out]; rfl, by first | exact below_a hb _ | exact below_b hb⟩
theorem refShort_any (n : Nat) (w : World) (hn : Hid (n < 18446744073709551616)) :
    Calls Tryz.prog 29 #[.int .u64 (U n)] w fun e w' => e = .returned (.string (S (shortB n))) ∧ Below w.heap.size w w' := refshort 10 n w (by have := hn.out; omega) hn
set_option maxHeartbeats 400000 in
theorem refText_any (s : ByteArray) (w : World) (hs : s.size ≤ 1000000000000) :
    Calls Tryz.prog 48 #[.string s] w fun e w' => e = .returned (.string (S (textB s))) ∧ Below w.heap.size w w' := by
  have hu := wrapS s.size hs
  have hs8 : Hid (s.size < 18446744073709551616) := by show _ < _; omega
  have hz : (S (shortB s.size)).size ≤ 11 := by rw [S_size]; exact shortB_le _
  have HS : Hid (S (shortB s.size) ++ s = S (textB s)) := by show _ = _; unfold textB; rw [← S_append, S_of]
  go_enter Tryz.func48, Tryz.ntmps48
  go_wp2_with fail
  refine (refShort_any s.size w hs8).mono ?_; rintro e w1 ⟨rfl, hb⟩
  go_wp2_with fail
  go_ret
  exact ⟨by rw [← HS.out]; rfl, hb⟩
theorem conv4_now (W : World) (x0 x1 x2 x3 : Int) : (convert 49 9 (.slice (some ⟨W.heap.size, 0, none⟩) 4 4)).run Tryz.prog (W.alloc (.cells #[.int .u8 x0, .int .u8 x1, .int .u8 x2, .int .u8 x3] 5)) = .ok (.string (strOfNums [x0, x1, x2, x3])) (W.alloc (.cells #[.int .u8 x0, .int .u8 x1, .int .u8 x2, .int .u8 x3] 5)) := by
  refine run_convert_bytes_arg (P := Tryz.prog) _ 49 5 Tryz.underlying49 Tryz.underlying5 W.heap.size 0 4 4 [x0, x1, x2, x3] rfl (fun i hi => ?_) 9 Tryz.underlying9
  rw [Nat.zero_add, cell_of_row _ _ _ _ _ _ (heap_alloc_new W _)]
  have hi2 : i = 0 ∨ i = 1 ∨ i = 2 ∨ i = 3 := by omega
  rcases hi2 with rfl | rfl | rfl | rfl <;> rfl
theorem low_str (n : Nat) : strOfNums [(U n).tmod 256 % 256, (U n).tdiv 256 % 256, (U n).tdiv 65536 % 256, (U n).tdiv 16777216 % 256] = S (lowB n) := by
  have h0 : (U n).tmod 256 % 256 = ((n % 256 : Nat) : Int) := by rw [show (U n).tmod 256 = U (n % 256) from U_tmod n 256]; unfold U; omega
  have h1 : (U n).tdiv 256 % 256 = ((n / 256 % 256 : Nat) : Int) := by rw [show (U n).tdiv 256 = U (n / 256) from U_tdiv n 256]; unfold U; omega
  have h2 : (U n).tdiv 65536 % 256 = ((n / 65536 % 256 : Nat) : Int) := by rw [show (U n).tdiv 65536 = U (n / 65536) from U_tdiv n 65536]; unfold U; omega
  have h3 : (U n).tdiv 16777216 % 256 = ((n / 16777216 % 256 : Nat) : Int) := by rw [show (U n).tdiv 16777216 = U (n / 16777216) from U_tdiv n 16777216]; unfold U; omega
  have e : lowB n = [UInt8.ofNat (n % 256), UInt8.ofNat (n / 256 % 256), UInt8.ofNat (n / 65536 % 256), UInt8.ofNat (n / 16777216 % 256)] := by unfold lowB; simp [fixB, Nat.div_div_eq_div_mul]
  rw [h0, h1, h2, h3, e]
  unfold strOfNums S
  simp only [List.map_cons, List.map_nil, Int.toNat_natCast]
end Go.Proofs.YtiibeemjkdipnaaGreatDoor.Wire

/-
  Things to be written (Item): how they lie in memory; 'heavy'; 'put'; 'bytes'.
-/
namespace Go.Proofs.YtiibeemjkdipnaaGreatDoor.Wire
open Go.RowKit

/-- an Item -/
structure It where
  k : Nat
  n : Nat
  t : ByteArray
  m : Int
def It.val (x : It) : Value := .agg #[.int .u8 (x.k : Int), .int .u64 (U x.n), .string x.t, .int .i64 x.m]
def It.ok (x : It) : Prop := x.k < 256 ∧ x.n < 18446744073709551616 ∧ x.t.size ≤ maxLen ∧ x.m ≤ 9223372036854775807 ∧ -9223372036854775808 ≤ x.m
/-- a slice of Items, that reads as xs, below block B -/
def Items (w : World) (A : Option Addr) (xs : List It) (B : Nat) : Prop :=
  ∀ i (h : i < xs.length), ∃ b off, A = some ⟨b, off, none⟩ ∧ b < B ∧ w.cell? ⟨b, off + i * 4, none⟩ = some (.int .u8 (xs[i].k : Int)) ∧ w.cell? ⟨b, off + i * 4 + 1, none⟩ = some (.int .u64 (U xs[i].n)) ∧
    w.cell? ⟨b, off + i * 4 + 2, none⟩ = some (.string xs[i].t) ∧ w.cell? ⟨b, off + i * 4 + 3, none⟩ = some (.int .i64 xs[i].m) ∧ xs[i].ok
theorem Items.below {w w' : World} {A : Option Addr} {xs : List It} {B : Nat} (h : Items w A xs B) (hb : Below B w w') : Items w' A xs B := by
  intro i hi
  obtain ⟨b, off, hA, hB, c0, c1, c2, c3, hok⟩ := h i hi
  exact ⟨b, off, hA, hB, (hb.cell (p := ⟨b, _, none⟩) hB).trans c0, (hb.cell (p := ⟨b, _, none⟩) hB).trans c1, (hb.cell (p := ⟨b, _, none⟩) hB).trans c2, (hb.cell (p := ⟨b, _, none⟩) hB).trans c3, hok⟩

theorem ret_bool {a b : Bool} (h : a = b) : Ending.returned (.bool a) = .returned (.bool b) := by rw [h]
/-- how heavy they are -/
def tot (xs : List It) : Nat := (xs.map fun x => 20 + min 20000 x.t.size).sum
theorem tot_take (xs : List It) (k : Nat) (h : k < xs.length) : tot (xs.take (k + 1)) = tot (xs.take k) + (20 + min 20000 xs[k].t.size) := by
  unfold tot
  rw [List.take_succ_eq_append_getElem h, List.map_append, List.sum_append]; simp
theorem tot_le (xs : List It) (k : Nat) : tot (xs.take k) ≤ tot xs := by
  unfold tot
  conv => rhs; rw [← List.take_append_drop k xs]
  rw [List.map_append, List.sum_append]; omega

/-! ### what an Item becomes -/
def wrB (x : It) : List UInt8 :=
  if x.k % 8 = 0 then fixB 1 x.n else if x.k % 8 = 1 then fixB 2 x.n else if x.k % 8 = 2 then fixB 4 x.n else if x.k % 8 = 3 then fixB 8 x.n else
    if x.k % 8 = 4 then shortB x.n else if x.k % 8 = 5 then textB x.t else if x.k % 8 = 6 then lowB x.n else x.t.data.toList
theorem wrB_le (x : It) : (wrB x).length ≤ 11 + x.t.size := by
  have h1 := shortB_le x.n
  have h2 : (textB x.t).length ≤ 11 + x.t.size := by
    have := shortB_le x.t.size
    unfold textB; rw [List.length_append]; have e : x.t.data.toList.length = x.t.size := rfl; omega
  have h3 := lowB_length x.n
  have e : x.t.data.toList.length = x.t.size := rfl
  unfold wrB
  repeat' split
  all_goals first | (rw [fixB_length]; omega) | omega
theorem fix_mod1 (n : Nat) : fixB 1 (n % 256) = fixB 1 n := fixB_mod 1 n
theorem fix_mod2 (n : Nat) : fixB 2 (n % 65536) = fixB 2 n := fixB_mod 2 n
theorem fix_mod4 (n : Nat) : fixB 4 (n % 4294967296) = fixB 4 n := fixB_mod 4 n
theorem low_mod (n : Nat) : lowB (n % 4294967296) = lowB n := by unfold lowB; rw [fix_mod4]

theorem put_end {B : Nat} {w w1 : World} {p : Nat} {l m : List UInt8} (hB : B ≤ w.heap.size) (o : Obj) (h : Wr B w1 p (l ++ m)) (k : Only B (w.alloc o) w1) {x : It} (e : m = wrB x) : Wr B w1 p (l ++ wrB x) ∧ Only B w w1 :=
  ⟨by rw [← e]; exact h, ((Only.refl B w).alloc hB o).trans k⟩
end Go.Proofs.YtiibeemjkdipnaaGreatDoor.Wire

/-
  What is asked of a Reader ('get'), as a value.
-/
namespace Go.Proofs.YtiibeemjkdipnaaGreatDoor.Wire
open Go.RowKit

/-- ((number, text), where it stands then, the error) -/
def gt (s : ByteArray) (i e : Nat) (x : It) : (Nat × ByteArray) × Nat × Nat :=
  if x.k % 8 = 0 then ((fxV s i e 1, ⟨#[]⟩), tkI s i e 1, tkE s i e 1) else if x.k % 8 = 1 then ((fxV s i e 2, ⟨#[]⟩), tkI s i e 2, tkE s i e 2) else
    if x.k % 8 = 2 then ((fxV s i e 4, ⟨#[]⟩), tkI s i e 4, tkE s i e 4) else if x.k % 8 = 3 then ((fxV s i e 8, ⟨#[]⟩), tkI s i e 8, tkE s i e 8) else
      if x.k % 8 = 4 then (((shR s i e x.n).1, ⟨#[]⟩), (shR s i e x.n).2.1, (shR s i e x.n).2.2) else
        if x.k % 8 = 5 then ((0, (txR s i e x.m.toNat).1), (txR s i e x.m.toNat).2.1, (txR s i e x.m.toNat).2.2) else
          if x.k % 8 = 6 then ((revN (fxV s i e 4), ⟨#[]⟩), tkI s i e 4, tkE s i e 4) else ((0, tkT s i e x.m.toNat), tkI s i e x.m.toNat, tkE s i e x.m.toNat)
theorem tkI_le (s : ByteArray) (i e n : Nat) (h : i ≤ s.size) : tkI s i e n ≤ s.size := by
  unfold tkI; split
  · rename_i hh; exact hh.2
  · exact h
theorem tkI_ge (s : ByteArray) (i e n : Nat) : i ≤ tkI s i e n := by
  unfold tkI; split
  · omega
  · exact Nat.le_refl _
theorem txR_le (s : ByteArray) (i e m : Nat) (h : i ≤ s.size) : (txR s i e m).2.1 ≤ s.size := by
  unfold txR
  show (if _ then _ else _) ≤ _
  split
  · exact tkI_le _ _ _ _ (shR_le s i e m h)
  · exact h
theorem gt_le (s : ByteArray) (i e : Nat) (x : It) (h : i ≤ s.size) : (gt s i e x).2.1 ≤ s.size := by
  unfold gt
  repeat' split
  all_goals first | exact tkI_le _ _ _ _ h | exact shR_le _ _ _ _ h | exact txR_le _ _ _ _ h
/-- the contract's end -/
theorem get_end {w w1 : World} {r : Nat} {s : ByteArray} {i e : Nat} {o : Obj} {i' e' : Nat} (k : Step (w.alloc o) w1 r s i' e') (G : (Nat × ByteArray) × Nat × Nat) (hG : G.2 = (i', e')) : Step w w1 r s G.2.1 G.2.2 := by
  rw [hG]
  exact ⟨k.1, grown_trans (grown_below ((Below.refl _ _).alloc (Nat.le_refl _) _)) k.2⟩
theorem rd_alloc {w : World} {r : Nat} {s : ByteArray} {i e : Nat} (h : Rd w r s i e) (o : Obj) : Rd (w.alloc o) r s i e := (Below.heap_alloc w o r (row_lt h)).trans h

end Go.Proofs.YtiibeemjkdipnaaGreatDoor.Wire
