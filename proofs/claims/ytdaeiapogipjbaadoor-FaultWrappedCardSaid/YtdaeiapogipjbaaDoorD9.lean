/-
  An Error's own Unwrap and Is; the texts of classes; what the statements' small functions tell.
-/
import Derived.Test.YtdaeiapogipjbaaDoorD8
namespace Go.Proofs.YtdaeiapogipjbaaDoor.Fault
open Go Go.RowKit

/-- the value of a class -/
def clsV (c : Int) : Value := .iface 24 (.int .u8 c)

theorem At.cons {W : World} {v : Value} {x : Wr} {xs : List Wr} {base : Value} (h : At W v (x :: xs) base) :
    ∃ b u, v = .iface 51 (.pointer (some ⟨b, 0, none⟩)) ∧ W.cell? ⟨b, 3, none⟩ = some u ∧ At W u xs base := by
  obtain ⟨p, e, h1, h2, C⟩ := h
  refine ⟨p 0, e 1, by rw [← h1]; exact C.head 0 (by simp), C.c3 0 (by simp), fun i => p (i + 1), fun i => e (i + 1), rfl, h2, ?_, ?_, ?_, ?_⟩
  · intro i hi; exact C.head (i + 1) (by simp; exact hi)
  · intro i hi; exact C.lt (i + 1) (by simp; exact hi)
  · intro i j hij hj; exact C.dec (i + 1) (j + 1) (by omega) (by simp; exact hj)
  · intro i hi; have := C.obj (i + 1) (by simp; exact hi); simpa using this

set_option maxHeartbeats 1000000 in
/-- **Unwrap** -/
theorem unwrap_any {b : Nat} {u base : Value} {xs : List Wr} {w : World} (hc : w.cell? ⟨b, 3, none⟩ = some u) (hu : At w u xs base) (hI : Ifc base) :
    Calls Tryd.prog 30 #[.pointer (some ⟨b, 0, none⟩)] w fun e w' => e = .returned u ∧ w' = w := by
  have hi := hu.ifc hI
  clear hu
  rcases hi with rfl | ⟨t, x, rfl⟩
  all_goals
    go_enter Tryd.func30, Tryd.ntmps30
    go_wp2
    go_ret
    exact ⟨rfl, rfl⟩

theorem cls_assert (c : Int) (w : World) : (Instr.typeAssert (clsV c) 29 24 true).run Tryd.prog w = .ok (.tuple #[.int .u8 c, .bool true]) w := by unfold clsV; kernel_rfl
theorem num_assert (e : Int) (w : World) : (Instr.typeAssert (numV e) 29 24 true).run Tryd.prog w = .ok (.tuple #[.int .u8 0, .bool false]) w := by unfold numV; kernel_rfl

set_option maxRecDepth 100000 in
set_option maxHeartbeats 1000000 in
/-- **an Error's own Is**, asked for a class -/
theorem errIs_cls {b : Nat} {base : Value} {xs : List Wr} {n : Int} {r : Bool} {w : World} (c : Int) (hE : ErrT w) (hv : At w (.iface 51 (.pointer (some ⟨b, 0, none⟩))) xs base) (hP : Plain base) (hI : Ifc base) (hlen : xs.length < 1099511627776) (hA : Asked base n r) (hn : r = false → n = 0) :
    Calls Tryd.prog 31 #[.pointer (some ⟨b, 0, none⟩), clsV c] w fun e w' => e = .returned (.bool (classOf n == c)) ∧ Below w.heap.size w w' := by
  have HC := Lib.hid (in_any c hE hv hP hI hlen hA hn)
  clear hE hv hA hn
  have ha := cls_assert c
  unfold clsV at ha ⊢
  go_enter Tryd.func31, Tryd.ntmps31
  go_wp2_with (go_at_call 9; refine HC.out.mono ?_; rintro ev w1 ⟨rfl, hb1⟩; have HB := Lib.hid hb1; clear hb1)
  go_ret
  exact ⟨rfl, HB.out⟩
/-- **an Error's own Is**, asked for a number -/
theorem errIs_num (b : Nat) (e : Int) (w : World) :
    Calls Tryd.prog 31 #[.pointer (some ⟨b, 0, none⟩), numV e] w fun e w' => e = .returned (.bool false) ∧ w' = w := by
  have ha := num_assert e
  unfold numV at ha ⊢
  go_enter Tryd.func31, Tryd.ntmps31
  go_wp2
  go_ret
  exact ⟨rfl, rfl⟩

set_option maxHeartbeats 1000000 in
/-- inner of an Error -/
theorem inner_any {b : Nat} {u base : Value} {xs : List Wr} {w : World} (hc : w.cell? ⟨b, 3, none⟩ = some u) (hu : At w u xs base) (hI : Ifc base) :
    Calls Tryd.prog 18 #[.iface 51 (.pointer (some ⟨b, 0, none⟩))] w fun e w' => e = .returned u ∧ w' = w := by
  have H := Lib.hid (unwrap_any hc hu hI)
  have aE := asserted
  clear hu
  go_enter Tryd.func18, Tryd.ntmps18
  go_wp2_with (go_at_call 30; refine H.out.mono ?_; rintro ev w1 ⟨rfl, rfl⟩)
  go_ret
  exact ⟨rfl, rfl⟩

set_option maxHeartbeats 1000000 in
/-- asked of an Error -/
theorem asked_any {b : Nat} {t : Value} {r : Bool} {w : World} (hE : Calls Tryd.prog 31 #[.pointer (some ⟨b, 0, none⟩), t] w fun e w' => e = .returned (.bool r) ∧ Below w.heap.size w w') :
    Calls Tryd.prog 19 #[.iface 51 (.pointer (some ⟨b, 0, none⟩)), t] w fun e w' => e = .returned (.bool r) ∧ Below w.heap.size w w' := by
  have H := Lib.hid hE
  have aE := asserted
  clear hE
  go_enter Tryd.func19, Tryd.ntmps19
  go_wp2_with (go_at_call 31; refine H.out.mono ?_; rintro ev w1 ⟨rfl, hb1⟩; have HB := Lib.hid hb1; clear hb1)
  go_ret
  exact ⟨rfl, HB.out⟩

end Go.Proofs.YtdaeiapogipjbaaDoor.Fault
