/-
  The document's Reader.
-/
import Derived.Test.YthaafniahkejkaaB15
namespace Go.Proofs.Ythaafniahkejkaa.Wire
open Go.RowKit

def drS (s : ByteArray) (i e t : Nat) : Array Value := #[.string s, .int .i64 (i : Int), .int .i64 (e : Int), .int .i64 (t : Int)]
def Dr (w : World) (d : Nat) (s : ByteArray) (i e : Nat) : Prop := w.heap[d]? = some (.cells (drS s i e (errAt i e)) 94 (0, 0))
def DStep (w w' : World) (d : Nat) (s : ByteArray) (i e : Nat) : Prop := Dr w' d s i e ∧ w.grownBy w' (some d)
theorem DStep.refl {w : World} {d : Nat} {s : ByteArray} {i e : Nat} (h : Dr w d s i e) : DStep w w d s i e := ⟨h, grown_refl _ _⟩
theorem DStep.drewN {w w' : World} {d : Nat} {s : ByteArray} {i e : Nat} (h : DStep w w' d s i e) (n : Nat) : DStep w (w'.drewN n) d s i e := ⟨h.1, grown_drewN h.2 n⟩
theorem DStep.trans {a b c : World} {d : Nat} {s t : ByteArray} {i e j f : Nat} (h : DStep a b d s i e) (k : DStep b c d t j f) : DStep a c d t j f := ⟨k.1, grown_trans h.2 k.2⟩
theorem grown_set (w : World) (d j : Nat) (v : Value) : w.grownBy (w.setCell ⟨d, j, none⟩ v) (some d) := ⟨rfl, rfl, rfl, by simp [World.setCell], fun k _ hn => Below.heap_setCell w _ v k (fun e => hn (by rw [e]))⟩
theorem Dr.cells {w : World} {d : Nat} {s : ByteArray} {i e : Nat} (h : Dr w d s i e) : w.cell? ⟨d, 0, none⟩ = some (.string s) ∧ w.cell? ⟨d, 1, none⟩ = some (.int .i64 (i : Int)) ∧ w.cell? ⟨d, 2, none⟩ = some (.int .i64 (e : Int)) ∧ w.cell? ⟨d, 3, none⟩ = some (.int .i64 (errAt i e : Int)) :=
  ⟨cell_row h 0, cell_row h 1, cell_row h 2, cell_row h 3⟩

/-! ### an error -/
set_option maxHeartbeats 400000 in
theorem dwrong_any (d : Nat) (s : ByteArray) (i : Nat) (f : Nat) (w : World) (h : Dr w d s i 0) (hf : f ≠ 0) (j : Nat) (hj : w.cell? ⟨d, 1, none⟩ = some (.int .i64 (j : Int)) → i = j) (y : Int) (hy : y = (f : Int)) :
    Calls Try.prog 59 #[.pointer (some ⟨d, 0, none⟩), .int .i64 y, .int .i64 (i : Int)] w fun x w' => x = .returned (.tuple #[]) ∧ DStep w w' d s i f := by
  subst hy
  obtain ⟨c0, c1, c2, c3⟩ := h.cells
  have f2 := frozen_row h 2
  have f3 := frozen_row h 3
  have HE : Hid (errAt i f = i) := if_neg hf
  clear hj
  go_enter Try.func59, Try.ntmps59
  go_wp2_with fail
  go_end0
  refine ⟨rfl, ?_, grown_trans (grown_set _ _ _ _) (grown_set _ _ _ _)⟩
  have := heap_set (heap_set h 2 (.int .i64 (f : Int))) 3 (.int .i64 (i : Int))
  unfold Dr
  rw [HE.out]; exact this
theorem dwrong (d : Nat) (s : ByteArray) (i : Nat) (f : Nat) (w : World) (h : Dr w d s i 0) (hf : f ≠ 0) (y : Int) (hy : y = (f : Int)) :
    Calls Try.prog 59 #[.pointer (some ⟨d, 0, none⟩), .int .i64 y, .int .i64 (i : Int)] w fun x w' => x = .returned (.tuple #[]) ∧ DStep w w' d s i f :=
  dwrong_any d s i f w h hf i (fun _ => rfl) y hy

/-! ### End -/
/-! ### Raw -/
end Go.Proofs.Ythaafniahkejkaa.Wire
