import Derived.Test.YtkjnddgjnlbopaaRows
import Derived.ProofKit
import Derived.ChangeSlices
import Derived.Deep.Slices
import Derived.Lib.SmallJoins
import Derived.MakeChecks
import Derived.SizedLaws
import Derived.Below
/-
  The program lays out its own memory, and reads no setting: what each frame asks; a slice of texts that came in, opened.
-/
namespace Go.Proofs.Ytkjnddgjnlbopaa.Frame
open Go Go.ChangeShapes Go.WideShapes Go.ChangeAt Go.RowKit
theorem own : ownKnob Try.prog.godebug = none := by kernel_rfl
theorem laid : laidOutB Try.prog = true := by kernel_rfl

theorem cell_spot {w : World} {a : Addr} {v : Value} (h : w.cell? a = some v) : a.spot = none := by
  unfold World.cell? at h
  split at h
  · split at h
    · cases h
    · rename_i hs; simpa using hs
  · cases h
theorem add_spot (a : Addr) (i : Nat) (hs : a.spot = none) : a.add i = ⟨a.block, a.off + i, none⟩ ∧ a = ⟨a.block, a.off, none⟩ := by
  obtain ⟨b, o, s⟩ := a
  simp only [] at hs
  subst hs
  exact ⟨by simp [Addr.add], rfl⟩
theorem cell_lt {w : World} {b o : Nat} {v : Value} (h : w.cell? ⟨b, o, none⟩ = some v) : b < w.heap.size := by
  unfold World.cell? at h
  rcases Nat.lt_or_ge b w.heap.size with h1 | h1
  · exact h1
  · rw [Array.getElem?_eq_none h1] at h; cases h
/-- texts that lie in a slice -/
def Strs (w : World) (A : Option Addr) (xs : List ByteArray) : Prop := ∀ j (h : j < xs.length), ∃ b o, A = some ⟨b, o, none⟩ ∧ b < w.heap.size ∧ xs[j].size ≤ maxLen ∧ w.cell? ⟨b, o + j, none⟩ = some (.string xs[j])
theorem Strs.below {w w' : World} {A : Option Addr} {xs : List ByteArray} (h : Strs w A xs) (hb : Below w.heap.size w w') : Strs w' A xs := fun j hj => by
  obtain ⟨b, o, e, h1, h2, h3⟩ := h j hj
  exact ⟨b, o, e, Nat.lt_of_lt_of_le h1 hb.size, h2, (hb.cell (p := ⟨b, o + j, none⟩) h1).trans h3⟩

variable {H : Type} {enc : TypeId × Value → H} {w : World} {base : Nat} {spare : Nat → Bool} {held : Bool}
theorem cellsStr : Try.prog.cellsOf 9 = 1 := by kernel_rfl
set_option maxRecDepth 100000 in
theorem open_strs {v : Value} {d : DataW H} {p : List MemPlace} {r : Reach} {b0 : Nat} (hv : Value.okWide Try.prog w r b0 26 v) (h : DataW.Trod enc Try.prog w base spare held 26 v d p) :
    ∃ (A : Option Addr) (cap : Nat) (xs : List ByteArray), v = .slice A xs.length cap ∧ xs.length ≤ cap ∧ cap ≤ maxLen ∧ Strs w A xs := by
  obtain ⟨A0, len0, cap0, rfl⟩ := okWide_slice Try.underlying26 hv
  obtain ⟨fuel, hf⟩ := h
  rcases Deep.open_slice Try.underlying26 hf with ⟨hcs, hd⟩ | ⟨a, len, cap, m, n, D, Pl, hcs, hb, hl, hm, hmm, hx, hi⟩
  · have e : Value.slice A0 len0 cap0 = .slice none 0 0 := by simpa [Value.cells] using hcs
    injection e with e1 e2 e3
    subst e1 e2 e3
    exact ⟨none, 0, [], rfl, Nat.le_refl _, Nat.zero_le _, fun j hj => absurd hj (Nat.not_lt_zero _)⟩
  · have e : Value.slice A0 len0 cap0 = .slice (some a) len cap := by simpa [Value.cells] using hcs
    injection e with e1 e2 e3
    subst e1 e2 e3
    have hlm : len0 ≤ m := by rw [hmm]; split <;> omega
    rw [cellsStr] at hi
    have hch : ∀ i, i < len0 → ∃ x : ByteArray, ∃ cs', w.cells? base (a.add (i * 1)) 1 = some cs' ∧ cs' = [.string x] ∧ x.size ≤ maxLen := fun i hil => by
      obtain ⟨cs', hc, ht⟩ := hi i (by omega)
      obtain ⟨s, hv, _, hw⟩ := DataW.trod_string Try.underlying9 ht
      exact ⟨s, cs', hc, hv, hw⟩
    obtain ⟨g, hg⟩ := Deep.choose_lt (α := ByteArray) (n := len0) (p := fun i x => ∃ cs', w.cells? base (a.add (i * 1)) 1 = some cs' ∧ cs' = [.string x] ∧ x.size ≤ maxLen) hch
    refine ⟨some a, cap0, (List.range len0).map g, by simp, by simpa using hl, hm, fun k hk => ?_⟩
    have hk' : k < len0 := by simpa using hk
    obtain ⟨cs', hc, rfl, hsz⟩ := hg k hk'
    obtain ⟨_, _, hat⟩ := World.cells?_some hc
    have hsp : a.spot = none := by
      obtain ⟨cs0, hc0, rfl, _⟩ := hg 0 (by omega)
      obtain ⟨_, _, hat0⟩ := World.cells?_some hc0
      have z0 := hat0 0 (by omega)
      rw [show ([Value.string (g 0)] : List Value)[0]? = some (.string (g 0)) from rfl, Deep.add_add] at z0
      have := cell_spot z0
      simpa [Addr.add] using this
    have q0 : w.cell? ⟨a.block, a.off + k, none⟩ = some (.string (g k)) := by
      have c0 := hat 0 (by omega)
      rw [Deep.add_add, (add_spot a _ hsp).1] at c0
      simpa using c0
    have e : ((List.range len0).map g)[k] = g k := by simp
    rw [e]
    exact ⟨a.block, a.off, congrArg some (add_spot a 0 hsp).2, cell_lt q0, hsz, q0⟩
end Go.Proofs.Ytkjnddgjnlbopaa.Frame
