/-
  The calls of FaultNames behind its loops, each as it stands there.
-/
import Derived.Test.YtfgbboknhlomgaaDoorDN
namespace Go.Proofs.YtfgbboknhlomgaaDoor.Fault
open Go Go.RowKit

def oA : ByteArray := ⟨#[97]⟩
def oIn : ByteArray := ⟨#[105, 110]⟩
def oOut : ByteArray := ⟨#[111, 117, 116]⟩
def oX : ByteArray := ⟨#[120]⟩
def wBare : Wr := ⟨⟨#[97]⟩, ⟨#[]⟩, 0⟩
def wIn : Wr := ⟨⟨#[97]⟩, ⟨#[105, 110]⟩, 1⟩
def wOut : Wr := ⟨⟨#[97]⟩, ⟨#[111, 117, 116]⟩, -1⟩
def wX : Wr := ⟨⟨#[120]⟩, ⟨#[]⟩, -1⟩
theorem own_ne : ownV ≠ .nilIface := by unfold ownV; simp
theorem num_ne (e : Int) : numV e ≠ .nilIface := by unfold numV; simp
theorem n_code_nil {w : World} (E : ErrT w) : Calls Tryd.prog 12 #[.nilIface] w fun e w' => e = .returned (.tuple #[.int .i64 0, .bool false]) ∧ Below w.heap.size w w' :=
  code_any E (At.nil w .nilIface) plain_nil ifc_nil (by decide) asked_nil (fun _ => rfl)
theorem n_code_own {w : World} (E : ErrT w) : Calls Tryd.prog 12 #[.iface 36 (.agg #[])] w fun e w' => e = .returned (.tuple #[.int .i64 0, .bool false]) ∧ Below w.heap.size w w' :=
  code_any E (At.nil w ownV) plain_own ifc_own (by decide) asked_own (fun _ => rfl)
theorem n_find_nil (w : World) : Calls Tryd.prog 13 #[.nilIface, .string ⟨#[]⟩] w fun e w' => e = .returned (.tuple #[.string ⟨#[]⟩, .int .i64 0, .bool false]) ∧ Below w.heap.size w w' :=
  find_any _ (At.nil w .nilIface) plain_nil ifc_nil noUnw_nil (by decide)
theorem n_ops_nil (w : World) : Calls Tryd.prog 14 #[.nilIface] w fun e w' => (∃ A cap, e = .returned (.slice A 0 cap)) ∧ Below w.heap.size w w' :=
  (ops_any (At.nil w .nilIface) plain_nil ifc_nil noUnw_nil (by decide)).mono fun e w' ⟨u, h1, h2, h3⟩ => by
    obtain ⟨A, cap, h4, _⟩ := h2
    exact ⟨⟨A, cap, by rw [h1, h4]; rfl⟩, h3⟩
theorem n_text_own (w : World) : Calls Tryd.prog 15 #[.iface 36 (.agg #[])] w fun e w' => e = .returned (.string ⟨#[111, 119, 110]⟩) ∧ Below w.heap.size w w' :=
  textOf_own w w (Below.refl _ _)
theorem n_in_nil {w : World} (E : ErrT w) (c : Int) : Calls Tryd.prog 9 #[.nilIface, .int .u8 c] w fun e w' => e = .returned (.bool (0 == c)) ∧ Below w.heap.size w w' :=
  in_any c E (At.nil w .nilIface) plain_nil ifc_nil (by decide) asked_nil (fun _ => rfl)
theorem n_in_nil0 {w : World} (E : ErrT w) : Calls Tryd.prog 9 #[.nilIface, .int .u8 0] w fun e w' => e = .returned (.bool true) ∧ Below w.heap.size w w' := n_in_nil E 0
theorem n_in_nil4 {w : World} (E : ErrT w) : Calls Tryd.prog 9 #[.nilIface, .int .u8 4] w fun e w' => e = .returned (.bool false) ∧ Below w.heap.size w w' := n_in_nil E 4
theorem n_in_own0 {w : World} (E : ErrT w) : Calls Tryd.prog 9 #[.iface 36 (.agg #[]), .int .u8 0] w fun e w' => e = .returned (.bool true) ∧ Below w.heap.size w w' :=
  in_any 0 E (At.nil w ownV) plain_own ifc_own (by decide) asked_own (fun _ => rfl)
theorem n_is_nil0 (w : World) : Calls Tryd.prog 16 #[.nilIface, .int .i64 0] w fun e w' => e = .returned (.bool false) ∧ Below w.heap.size w w' :=
  is_any (At.nil w .nilIface) plain_nil ifc_nil (by decide) (isAsk_nil 0)
theorem n_wrap_nil (w : World) : Calls Tryd.prog 10 #[.nilIface, .string ⟨#[120]⟩, .string ⟨#[]⟩, .int .i64 1] w fun e w' => e = .returned .nilIface ∧ w' = w :=
  wrap_nil ⟨⟨#[120]⟩, ⟨#[]⟩, 1⟩ w
/-! one that has no number, wrapped once -/
def Bare (w : World) (v : Value) : Prop := At w v [wBare] ownV
theorem Bare.below {W W' : World} {v : Value} (h : Bare W v) (hb : Below W.heap.size W W') : Bare W' v := At.below h hb
theorem n_bare (w : World) : Calls Tryd.prog 10 #[.iface 36 (.agg #[]), .string ⟨#[97]⟩, .string ⟨#[]⟩, .int .i64 0] w fun e w' => e = .returned (.iface 51 (.pointer (some ⟨w.heap.size, 0, none⟩))) ∧ Bare w' (.iface 51 (.pointer (some ⟨w.heap.size, 0, none⟩))) ∧ Below w.heap.size w w' :=
  wrap_any wBare (At.nil w ownV) ifc_own own_ne
theorem fine_small {xs : List Wr} (h : ∀ x ∈ xs, x.op.size ≤ 1000000 ∧ x.nm.size ≤ 1000000 ∧ (x.pl < 100)) : Fine Small xs := fun x hx => ⟨(h x hx).1, (h x hx).2.1, fun hp => ⟨hp, (h x hx).2.2⟩⟩
theorem bare_text : textB smallB [wBare] ownT = ⟨#[97, 32, 97, 116, 32, 48, 58, 32, 111, 119, 110]⟩ := by decide +kernel
theorem n_text_bare {w : World} {v : Value} (h : Bare w v) : Calls Tryd.prog 15 #[v] w fun e w' => e = .returned (.string ⟨#[97, 32, 97, 116, 32, 48, 58, 32, 111, 119, 110]⟩) ∧ Below w.heap.size w w' := by
  rw [← bare_text]
  exact text_any (says_small w) h plain_own ifc_own (by decide) (textOf_own w) (fine_small (by decide +kernel)) (by decide +kernel)
theorem n_in_bare0 {w : World} {v : Value} (E : ErrT w) (h : Bare w v) : Calls Tryd.prog 9 #[v, .int .u8 0] w fun e w' => e = .returned (.bool true) ∧ Below w.heap.size w w' :=
  in_any 0 E h plain_own ifc_own (by decide) asked_own (fun _ => rfl)
/-! one that has a number, wrapped twice -/
def Once (w : World) (v : Value) : Prop := At w v [wIn] (numV 45)
def Twice (w : World) (v : Value) : Prop := At w v [wOut, wIn] (numV 45)
theorem Twice.below {W W' : World} {v : Value} (h : Twice W v) (hb : Below W.heap.size W W') : Twice W' v := At.below h hb
theorem n_once (w : World) : Calls Tryd.prog 10 #[.iface 23 (.int .i64 45), .string ⟨#[97]⟩, .string ⟨#[105, 110]⟩, .int .i64 1] w fun e w' => e = .returned (.iface 51 (.pointer (some ⟨w.heap.size, 0, none⟩))) ∧ Once w' (.iface 51 (.pointer (some ⟨w.heap.size, 0, none⟩))) ∧ Below w.heap.size w w' :=
  wrap_any wIn (At.nil w (numV 45)) (ifc_num 45) (num_ne 45)
theorem n_twice {w : World} {b : Addr} (h : Once w (.iface 51 (.pointer (some b)))) : Calls Tryd.prog 10 #[.iface 51 (.pointer (some b)), .string ⟨#[97]⟩, .string ⟨#[111, 117, 116]⟩, .int .i64 (-1)] w fun e w' => e = .returned (.iface 51 (.pointer (some ⟨w.heap.size, 0, none⟩))) ∧ Twice w' (.iface 51 (.pointer (some ⟨w.heap.size, 0, none⟩))) ∧ Below w.heap.size w w' :=
  wrap_any wOut h (ifc_num 45) (by simp)
theorem twice_found : foundV (firstOp oA [wOut, wIn]) = .tuple #[.string ⟨#[111, 117, 116]⟩, .int .i64 (-1), .bool true] := by
  have : firstOp oA [wOut, wIn] = some wOut := by decide +kernel
  rw [this]; rfl
theorem n_find_twice {w : World} {v : Value} (h : Twice w v) : Calls Tryd.prog 13 #[v, .string ⟨#[97]⟩] w fun e w' => e = .returned (.tuple #[.string ⟨#[111, 117, 116]⟩, .int .i64 (-1), .bool true]) ∧ Below w.heap.size w w' := by
  rw [← twice_found]
  exact find_any oA h (plain_num 45) (ifc_num 45) (noUnw_num 45) (by decide)
theorem twice_text : textB smallB [wOut, wIn] (soukE ++ smallB 45) = ⟨#[97, 32, 111, 117, 116, 58, 32, 97, 32, 105, 110, 32, 97, 116, 32, 49, 58, 32, 115, 111, 117, 107, 58, 32, 101, 114, 114, 111, 114, 32, 52, 53]⟩ := by decide +kernel
theorem n_text_twice {w : World} {v : Value} (h : Twice w v) : Calls Tryd.prog 15 #[v] w fun e w' => e = .returned (.string ⟨#[97, 32, 111, 117, 116, 58, 32, 97, 32, 105, 110, 32, 97, 116, 32, 49, 58, 32, 115, 111, 117, 107, 58, 32, 101, 114, 114, 111, 114, 32, 52, 53]⟩) ∧ Below w.heap.size w w' := by
  rw [← twice_text]
  exact text_any (says_small w) h (plain_num 45) (ifc_num 45) (by decide) (textOf_num (says_small w) 45 ⟨by decide, by decide⟩) (fine_small (by decide +kernel)) (by decide +kernel)
theorem n_is_twice {w : World} {v : Value} (h : Twice w v) : Calls Tryd.prog 16 #[v, .int .i64 44] w fun e w' => e = .returned (.bool false) ∧ Below w.heap.size w w' :=
  is_any h (plain_num 45) (ifc_num 45) (by decide) (isAsk_num 45 44)
/-! the number of no error, wrapped -/
def Okay (w : World) (v : Value) : Prop := At w v [wX] (numV 0)
theorem n_okay (w : World) : Calls Tryd.prog 10 #[.iface 23 (.int .i64 0), .string ⟨#[120]⟩, .string ⟨#[]⟩, .int .i64 (-1)] w fun e w' => e = .returned (.iface 51 (.pointer (some ⟨w.heap.size, 0, none⟩))) ∧ Okay w' (.iface 51 (.pointer (some ⟨w.heap.size, 0, none⟩))) ∧ Below w.heap.size w w' :=
  wrap_any wX (At.nil w (numV 0)) (ifc_num 0) (num_ne 0)
theorem n_is_okay {w : World} {v : Value} (h : Okay w v) : Calls Tryd.prog 16 #[v, .int .i64 0] w fun e w' => e = .returned (.bool true) ∧ Below w.heap.size w w' :=
  is_any h (plain_num 0) (ifc_num 0) (by decide) (isAsk_num 0 0)

end Go.Proofs.YtfgbboknhlomgaaDoor.Fault
