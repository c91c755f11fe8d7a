/-
  A slice of Wraps that came in, opened; what the rows' listed variable gives a walk.
-/
import Derived.Test.YtdaeiapogipjbaaDoorD18
import Derived.Test.YtdaeiapogipjbaaDoorRows
import Derived.ProofKit
import Derived.OpenShut
import Derived.Deep.Slices
import Derived.LaidLaws
import Derived.LaidHandle
import Derived.Stop.Joined
namespace Go.Proofs.YtdaeiapogipjbaaDoor.Fault
open Go Go.ChangeShapes Go.WideShapes Go.ChangeAt Go.RowKit

theorem addr_add (b o i : Nat) : (⟨b, o, none⟩ : Addr).add i = ⟨b, o + i, none⟩ := by simp [Addr.add]
theorem cell_lt {w : World} {b o : Nat} {v : Value} (h : w.cell? ⟨b, o, none⟩ = some v) : b < w.heap.size := by
  rcases Nat.lt_or_ge b w.heap.size with h1 | h1
  · exact h1
  · unfold World.cell? at h
    rw [show w.heap[(⟨b, o, none⟩ : Addr).block]? = none from Array.getElem?_eq_none h1] at h
    cases h
theorem cell_spot {w : World} {a : Addr} {v : Value} (h : w.cell? a = some v) : a.spot = none := by
  unfold World.cell? at h
  split at h
  · split at h
    · cases h
    · rename_i hs; simpa using hs
  · cases h
theorem add_spot (a : Addr) (i : Nat) (hs : a.spot = none) : a.add i = ⟨a.block, a.off + i, none⟩ ∧ a = ⟨a.block, a.off, none⟩ := by
  obtain ⟨b, o, s⟩ := a
  simp only [] at hs
  subst hs
  exact ⟨addr_add b o i, rfl⟩

variable {H : Type} {enc : TypeId × Value → H} {w : World} {base : Nat} {spare : Nat → Bool} {held : Bool}
set_option maxRecDepth 100000 in
theorem open_wrap {fuel : Nat} {cs : List Value} {y : DataW H × List MemPlace} (h : DataW.trod enc Tryd.prog w base spare held fuel 45 cs = some y) :
    ∃ x : Wr, cs = [.string x.op, .string x.nm, .int .i64 x.pl] ∧ (x.op.size ≤ maxLen ∧ x.nm.size ≤ maxLen ∧ -9223372036854775808 ≤ x.pl ∧ x.pl ≤ 9223372036854775807) := by
  obtain ⟨xs, n, _, _, hlen, hxl, hg⟩ := DataW.trod_struct Tryd.underlying45 h
  have hC : Tryd.prog.cellsOf 45 = 3 := by kernel_rfl
  have k9 : Tryd.prog.cellsOf 9 = 1 := by kernel_rfl
  have k2 : Tryd.prog.cellsOf 2 = 1 := by kernel_rfl
  rw [hC] at hlen
  match cs, hlen with
  | [c0, c1, c2], _ =>
    have g0 := hg 0 _ rfl
    have g1 := hg 1 _ rfl
    have g2 := hg 2 _ rfl
    match xs, hxl with
    | [y0, y1, y2], _ =>
      simp only [k9, k2, List.drop_zero, List.drop_succ_cons, List.take_succ_cons, List.take_zero, List.getElem?_cons_zero, List.getElem?_cons_succ] at g0 g1 g2
      obtain ⟨s0, e0, _, w0⟩ := DataW.trod_string Tryd.underlying9 g0
      obtain ⟨s1, e1, _, w1⟩ := DataW.trod_string Tryd.underlying9 g1
      obtain ⟨a2, e2, _, w2⟩ := DataW.trod_int Tryd.underlying2 g2
      obtain ⟨rfl⟩ : c0 = _ := by injection e0
      obtain ⟨rfl⟩ : c1 = _ := by injection e1
      obtain ⟨rfl⟩ : c2 = _ := by injection e2
      have b2 : -9223372036854775808 ≤ a2 ∧ a2 ≤ 9223372036854775807 := by simp [Lit.wf, IntKind.min, IntKind.max, IntKind.bits, IntKind.signed] at w2; omega
      exact ⟨⟨s0, s1, a2⟩, rfl, w0, w1, b2⟩
set_option maxRecDepth 100000 in
theorem open_wraps {v : Value} {d : DataW H} {p : List MemPlace} {r : Reach} {b0 : Nat} (hv : Value.okWide Tryd.prog w r b0 42 v) (h : DataW.Trod enc Tryd.prog w base spare held 42 v d p) :
    ∃ (A : Option Addr) (cap : Nat) (xs : List Wr), v = .slice A xs.length cap ∧ xs.length ≤ cap ∧ cap ≤ maxLen ∧ Wraps w A xs w.heap.size := by
  obtain ⟨A, len, cap, rfl⟩ := okWide_slice Tryd.underlying42 hv
  obtain ⟨fuel, hf⟩ := h
  have hC : Tryd.prog.cellsOf 45 = 3 := by kernel_rfl
  rcases Deep.open_slice Tryd.underlying42 hf with ⟨hcs, _⟩ | ⟨a, len', cap', m, n, D, Pl, hcs, hb, hl, hm, hmm, _, hi⟩
  · have e : Value.slice A len cap = .slice none 0 0 := by simpa [Value.cells] using hcs
    injection e with e1 e2 e3
    subst e1 e2 e3
    exact ⟨none, 0, [], rfl, Nat.le_refl _, Nat.zero_le _, fun i h => absurd h (by simp)⟩
  · have e : Value.slice A len cap = .slice (some a) len' cap' := by simpa [Value.cells] using hcs
    injection e with e1 e2 e3
    subst e1 e2 e3
    have hlm : len ≤ m := by rw [hmm]; split <;> omega
    rw [hC] at hi
    obtain ⟨f, hfx⟩ := Deep.choose_lt (α := Wr) (n := len) (p := fun i x => ∃ cs', w.cells? base (a.add (i * 3)) 3 = some cs' ∧ cs' = [.string x.op, .string x.nm, .int .i64 x.pl] ∧ (x.op.size ≤ maxLen ∧ x.nm.size ≤ maxLen ∧ -9223372036854775808 ≤ x.pl ∧ x.pl ≤ 9223372036854775807)) (fun i hil => by
      obtain ⟨cs', hc, ht⟩ := hi i (by omega)
      obtain ⟨x, hx, hok⟩ := open_wrap ht
      exact ⟨x, cs', hc, hx, hok⟩)
    refine ⟨some a, cap, (List.range len).map f, by simp, by simpa using hl, hm, ?_⟩
    intro i hil
    have hsp : a.spot = none := by
      have hl0 : 0 < len := by have : i < len := by simpa using hil
                               omega
      obtain ⟨cs', hc, rfl, _⟩ := hfx 0 hl0
      obtain ⟨_, _, hat⟩ := World.cells?_some hc
      have c0 := hat 0 (by omega)
      simp only [List.getElem?_cons_zero] at c0
      rw [Deep.add_add] at c0
      have := cell_spot c0
      simpa [Addr.add] using this
    have hil' : i < len := by simpa using hil
    obtain ⟨cs', hc, rfl, hok⟩ := hfx i hil'
    obtain ⟨_, _, hat⟩ := World.cells?_some hc
    have c0 := hat 0 (by omega)
    have c1 := hat 1 (by omega)
    have c2 := hat 2 (by omega)
    simp only [List.getElem?_cons_zero, List.getElem?_cons_succ] at c0 c1 c2
    rw [Deep.add_add] at c0 c1 c2
    rw [(add_spot a _ hsp).1] at c0 c1 c2
    have pa := (add_spot a 0 hsp).2
    have eg : ((List.range len).map f)[i] = f i := by simp
    rw [eg]
    exact ⟨a.block, a.off, congrArg some pa, cell_lt c0, by simpa using c0, c1, c2, hok⟩

/-! ### the listed variable -/
theorem etG : Tryd.prog.globalNamed "errors.errorType" = some 1 := by kernel_rfl
theorem rtT : (Tryd.prog.cutTypes.find? (·.1 == "internal/reflectlite.rtype")).map (·.2) = some 84 := by kernel_rfl
theorem nTypes : Tryd.prog.types.size = 151 := by kernel_rfl
theorem oneRow : ((List.range 151).filter fun t => Tryd.prog.rowNamed t [101, 114, 114, 111, 114]) = [29] := by kernel_rfl
theorem errT_of_handles {W : World} (h : handlesMet Tryd.prog [("errors.errorType", Rows.laid_errors_errorType)] W) : ErrT W := by
  obtain ⟨name, u, ty, e1, e2, e3, e4, e5⟩ := h _ (List.mem_singleton.2 rfl)
  have en : name = [101, 114, 114, 111, 114] := (Option.some.inj e1).symm
  subst en
  obtain rfl := Option.some.inj (rtT.symm.trans e2)
  have hm : ty ∈ (List.range 151).filter fun t => Tryd.prog.rowNamed t [101, 114, 114, 111, 114] := List.mem_filter.2 ⟨List.mem_range.2 (by rw [← nTypes]; exact e3), e4⟩
  rw [oneRow] at hm
  obtain rfl := List.mem_singleton.1 hm
  have hh : typeHandle Tryd.prog 29 = .pointer (some ⟨5, 29, none⟩) := by kernel_rfl
  rw [hh] at e5
  unfold ErrT
  simpa using World.var?_cell etG e5 0
/-- what the rows of FaultFound and FaultWrapped list -/
def listed1 : List (String × DataW Unit) := [("errors.errorType", Rows.laid_errors_errorType)]
theorem errT1 {W : World} (h : laidMetH Tryd.prog listed1 W) : ErrT W := by
  have h' : laidMet Tryd.prog [] W ∧ handlesMet Tryd.prog [("errors.errorType", Rows.laid_errors_errorType)] W := h
  exact errT_of_handles h'.2

theorem own : ownKnob Tryd.prog.godebug = none := by kernel_rfl
/-- a world for the witness: the settled one, the variable's cell laid -/
noncomputable def laidWorld (os : Os) : World :=
  let w0 := World.holding Tryd.prog os ⟨#[], #[], []⟩
  { w0 with heap := w0.heap.modify 1 fun
      | .cells _ t frozen => .cells #[.iface 84 (.agg #[.pointer (some ⟨5, 29, none⟩)])] t frozen
      | o => o }
theorem met1 (os : Os) (args : Array Value) : laidMetH Tryd.prog listed1 ((laidWorld os).forCall (fun _ _ => 0) ⟨#[], args, []⟩).memory :=
  laidMetH_of_parts (laidMet_nil _ _) (by kernel_rfl)

end Go.Proofs.YtdaeiapogipjbaaDoor.Fault
