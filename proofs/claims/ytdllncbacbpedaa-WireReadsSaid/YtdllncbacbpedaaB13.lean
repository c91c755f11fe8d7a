/-
  What the statements ask first: 'short', 'wrong', the examples ('works').
-/
import Derived.Test.YtdllncbacbpedaaB12
namespace Go.Proofs.Ytdllncbacbpedaa.Wire
open Go.RowKit

theorem carry {P : Program} {f : FuncId} {args : Array Value} {w0 w : World} {v : Ending} (h : Below w0.heap.size w0 w) (c : Calls P f args w (fun e w' => e = v ∧ Below w.heap.size w w')) :
    Calls P f args w (fun e w' => e = v ∧ Below w0.heap.size w0 w') :=
  c.mono fun _ _ ⟨he, hb⟩ => ⟨he, h.trans (hb.mono h.size)⟩
theorem step_low {B : Nat} {a b : World} {r : Nat} {s : ByteArray} {i e : Nat} (h : Step a b r s i e) (hr : B ≤ r) (hB : B ≤ a.heap.size) : Below B a b :=
  ⟨h.2.os, h.2.tape, h.2.output, h.2.size, fun k hk => h.2.block k (by omega) (fun e => by injection e with e; omega)⟩
theorem only_below {B : Nat} {a b : World} (h : Only B a b) : Below B a b := h.below
theorem Wr.only {B : Nat} {a b : World} {r : Nat} {s : ByteArray} {i e : Nat} (h : Rd a r s i e) (k : Only B a b) : Rd b r s i e := k.same r _ _ _ h (by decide) (by decide) (by decide)
theorem Wr.step {B : Nat} {w w' : World} {p r : Nat} {l : List UInt8} {s : ByteArray} {i e i' e' : Nat} (h : Wr B w p l) (hr : Rd w r s i e) (k : Step w w' r s i' e') : Wr B w' p l :=
  h.beside k.2 hr (by decide) (by decide) (by decide)

/-- from w0 on: what was there is as it was; the Writer at p has L -/
structure Inv (B : Nat) (w0 : World) (p : Nat) (L : List UInt8) (w : World) : Prop where
  bel : Below B w0 w
  wr : Wr B w p L
theorem Inv.below {B : Nat} {w0 : World} {p : Nat} {L : List UInt8} {w w' : World} (h : Inv B w0 p L w) (k : Below w.heap.size w w') : Inv B w0 p L w' := ⟨h.bel.trans (k.mono h.wr.low), h.wr.below k⟩
theorem Inv.alloc {B : Nat} {w0 : World} {p : Nat} {L : List UInt8} {w : World} (h : Inv B w0 p L w) (o : Obj) : Inv B w0 p L (w.alloc o) := h.below ((Below.refl _ _).alloc (Nat.le_refl _) _)
theorem Inv.drewN {B : Nat} {w0 : World} {p : Nat} {L : List UInt8} {w : World} (h : Inv B w0 p L w) (n : Nat) : Inv B w0 p L (w.drewN n) := ⟨⟨h.bel.os, h.bel.tape, h.bel.output, h.bel.size, h.bel.block⟩, h.wr⟩
theorem Inv.step {B : Nat} {w0 : World} {p r : Nat} {L : List UInt8} {w w' : World} {s : ByteArray} {i e i' e' : Nat} (h : Inv B w0 p L w) (hB : B ≤ r) (hr : Rd w r s i e) (k : Step w w' r s i' e') : Inv B w0 p L w' :=
  ⟨h.bel.trans (step_low k hB h.wr.low), h.wr.step hr k⟩
theorem Inv.put {B : Nat} {w0 : World} {p : Nat} {L M : List UInt8} {w w' : World} (h : Inv B w0 p L w) (k : Wr B w' p M) (o : Only B w w') : Inv B w0 p M w' := ⟨h.bel.trans o.below, k⟩
theorem Inv.new (w : World) : Inv w.heap.size w w.heap.size [] (w.alloc (.cells #[.pointer none, .int .i64 0] 38)) :=
  ⟨(Below.refl _ _).alloc (Nat.le_refl _) _, Wr.new (Nat.le_refl _)⟩

set_option maxRecDepth 100000 in
set_option maxHeartbeats 400000 in
theorem short_law (n : Nat) (hn : Hid (n < 18446744073709551616)) (w : World) :
    Calls Try.prog 10 #[.int .u64 (U n)] w fun e w' => e = .returned (.string (S (shortB n))) ∧ Below w.heap.size w w' := by
  have HI := Lib.hid (Inv.new w)
  go_enter Try.func10, Try.ntmps10
  go_wp2_with fail
  refine (short_any _ w.heap.size w.heap.size [] n HI.out.wr (by decide) hn _ rfl).mono ?_; rintro e w1 ⟨rfl, h1, o1⟩
  have HI2 := Lib.hid (HI.out.put h1 o1); clear h1 o1
  go_wp2_with fail
  refine (bytes_any w1 w.heap.size w.heap.size _ HI2.out.wr).mono ?_; rintro e w2 ⟨rfl, n2, rfl⟩
  go_wp2_with fail
  go_ret
  exact ⟨rfl, (HI2.out.drewN n2).bel⟩
theorem short_lit (n : Nat) (x : Int) (hx : x = U n) (hn : n < 18446744073709551616) (t : ByteArray) (ht : shortB n = t.data.toList) (w : World) :
    Calls Try.prog 10 #[.int .u64 x] w fun e w' => e = .returned (.string t) ∧ Below w.heap.size w w' := by
  subst hx
  have h := short_law n hn w
  rw [ht] at h
  exact h
set_option maxRecDepth 100000 in
set_option maxHeartbeats 400000 in
theorem wrong_law (s : ByteArray) (m : Nat) (x : Int) (hx : x = U m) (e : Nat) (y : Int) (hy : y = (e : Int)) (hs : s.size ≤ 1000000000000) (he : e ≠ 0) (h : shR s 0 0 m = (0, 0, e)) (w : World) :
    Calls Try.prog 17 #[.string s, .int .u64 x, .int .i64 y] w fun z w' => z = .returned (.bool true) ∧ Below w.heap.size w w' := by
  subst hx; subst hy
  have HR := Lib.hid (Rd.new s w)
  have HH := Lib.hid h
  have HE : Hid (errAt 0 e = 0) := if_neg he
  clear he h
  go_enter Try.func17, Try.ntmps17
  go_wp2_with fail
  refine (new_any s w).mono ?_; rintro z w1 ⟨rfl, rfl⟩
  go_wp2_with fail
  refine (rShort_any w.heap.size s 0 0 m _ HR.out (Nat.zero_le _) hs).mono ?_; rintro z w1 ⟨rfl, hst⟩
  rw [HH.out] at hst ⊢
  have HST := Lib.hid hst; clear hst
  have hu : U 0 = 0 := rfl
  go_wp2_with fail
  refine (err_any w.heap.size s 0 e w1 HST.out.1).mono ?_; rintro z w2 ⟨rfl, n2, rfl⟩
  rw [HE.out]
  go_wp2_with fail
  refine (at_any w.heap.size s 0 e (w1.drewN n2) HST.out.1).mono ?_; rintro z w2 ⟨rfl, rfl⟩
  go_wp2_with fail
  go_ret
  exact ⟨rfl, ((Below.refl _ _).alloc (Nat.le_refl _) _).trans (step_low (HST.out.drewN n2) (Nat.le_refl _) (by simp))⟩

end Go.Proofs.Ytdllncbacbpedaa.Wire
