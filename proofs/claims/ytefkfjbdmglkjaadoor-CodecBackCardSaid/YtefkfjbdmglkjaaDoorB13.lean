/-
  What the statements ask first: 'short', 'wrong', the examples ('works').
-/
import Derived.Test.YtefkfjbdmglkjaaDoorB12
namespace Go.Proofs.YtefkfjbdmglkjaaDoor.Wire
open Go.RowKit

theorem carry {P : Program} {f : FuncId} {args : Array Value} {w0 w : World} {v : Ending} (h : Below w0.heap.size w0 w) (c : Calls P f args w (fun e w' => e = v ∧ Below w.heap.size w w')) :
    Calls P f args w (fun e w' => e = v ∧ Below w0.heap.size w0 w') :=
  c.mono fun _ _ ⟨he, hb⟩ => ⟨he, h.trans (hb.mono h.size)⟩
theorem step_low {B : Nat} {a b : World} {r : Nat} {s : ByteArray} {i e : Nat} (h : Step a b r s i e) (hr : B ≤ r) (hB : B ≤ a.heap.size) : Below B a b :=
  ⟨h.2.os, h.2.tape, h.2.output, h.2.size, fun k hk => h.2.block k (by omega) (fun e => by injection e with e; omega)⟩
theorem only_below {B : Nat} {a b : World} (h : Only B a b) : Below B a b := h.below
theorem Wr.only {B : Nat} {a b : World} {r : Nat} {s : ByteArray} {i e : Nat} (h : Rd a r s i e) (k : Only B a b) : Rd b r s i e := k.same r _ _ _ h (by decide) (by decide) (by decide)
theorem Wr.step {B : Nat} {w w' : World} {p r : Nat} {l : List UInt8} {s : ByteArray} {i e i' e' : Nat} (h : Wr B w p l) (hr : Rd w r s i e) (k : Step w w' r s i' e') : Wr B w' p l :=
  h.beside k.2 hr (by decide) (by decide) (by decide)

/-- from w0 on: what was there is as it was; the Writer at p has L -/
structure Inv (B : Nat) (w0 : World) (p : Nat) (L : List UInt8) (w : World) : Prop where
  bel : Below B w0 w
  wr : Wr B w p L
theorem Inv.below {B : Nat} {w0 : World} {p : Nat} {L : List UInt8} {w w' : World} (h : Inv B w0 p L w) (k : Below w.heap.size w w') : Inv B w0 p L w' := ⟨h.bel.trans (k.mono h.wr.low), h.wr.below k⟩
theorem Inv.alloc {B : Nat} {w0 : World} {p : Nat} {L : List UInt8} {w : World} (h : Inv B w0 p L w) (o : Obj) : Inv B w0 p L (w.alloc o) := h.below ((Below.refl _ _).alloc (Nat.le_refl _) _)
theorem Inv.drewN {B : Nat} {w0 : World} {p : Nat} {L : List UInt8} {w : World} (h : Inv B w0 p L w) (n : Nat) : Inv B w0 p L (w.drewN n) := ⟨⟨h.bel.os, h.bel.tape, h.bel.output, h.bel.size, h.bel.block⟩, h.wr⟩
theorem Inv.step {B : Nat} {w0 : World} {p r : Nat} {L : List UInt8} {w w' : World} {s : ByteArray} {i e i' e' : Nat} (h : Inv B w0 p L w) (hB : B ≤ r) (hr : Rd w r s i e) (k : Step w w' r s i' e') : Inv B w0 p L w' :=
  ⟨h.bel.trans (step_low k hB h.wr.low), h.wr.step hr k⟩
theorem Inv.put {B : Nat} {w0 : World} {p : Nat} {L M : List UInt8} {w w' : World} (h : Inv B w0 p L w) (k : Wr B w' p M) (o : Only B w w') : Inv B w0 p M w' := ⟨h.bel.trans o.below, k⟩
theorem Inv.new (w : World) : Inv w.heap.size w w.heap.size [] (w.alloc (.cells #[.pointer none, .int .i64 0] 41)) :=
  ⟨(Below.refl _ _).alloc (Nat.le_refl _) _, Wr.new (Nat.le_refl _)⟩

end Go.Proofs.YtefkfjbdmglkjaaDoor.Wire
