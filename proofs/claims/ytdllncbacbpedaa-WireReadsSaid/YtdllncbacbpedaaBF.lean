/-
  A slice of Items that came in, opened.
-/
import Derived.Test.YtdllncbacbpedaaB16
import Derived.ProofKit
import Derived.OpenShut
import Derived.Deep.Slices
namespace Go.Proofs.Ytdllncbacbpedaa.Wire
open Go.ChangeShapes Go.WideShapes Go.ChangeAt Go.RowKit

theorem cell_lt {w : World} {b o : Nat} {v : Value} (h : w.cell? ⟨b, o, none⟩ = some v) : b < w.heap.size := by
  rcases Nat.lt_or_ge b w.heap.size with h1 | h1
  · exact h1
  · unfold World.cell? at h
    rw [show w.heap[(⟨b, o, none⟩ : Addr).block]? = none from Array.getElem?_eq_none h1] at h
    cases h
theorem cell_spot {w : World} {a : Addr} {v : Value} (h : w.cell? a = some v) : a.spot = none := by
  unfold World.cell? at h
  split at h
  · split at h
    · cases h
    · rename_i hs; simpa using hs
  · cases h
theorem add_spot (a : Addr) (i : Nat) (hs : a.spot = none) : a.add i = ⟨a.block, a.off + i, none⟩ ∧ a = ⟨a.block, a.off, none⟩ := by
  obtain ⟨b, o, s⟩ := a
  simp only [] at hs
  subst hs
  exact ⟨addr_add b o i, rfl⟩

variable {H : Type} {enc : TypeId × Value → H} {w : World} {base : Nat} {spare : Nat → Bool} {held : Bool}
theorem open_item {fuel : Nat} {cs : List Value} {y : DataW H × List MemPlace} (h : DataW.trod enc Try.prog w base spare held fuel 56 cs = some y) :
    ∃ x : It, cs = [.int .u8 (x.k : Int), .int .u64 (U x.n), .string x.t, .int .i64 x.m] ∧ x.ok := by
  obtain ⟨xs, n, _, _, hlen, hxl, hg⟩ := DataW.trod_struct Try.underlying56 h
  have hC : Try.prog.cellsOf 56 = 4 := by kernel_rfl
  have k5 : Try.prog.cellsOf 5 = 1 := by kernel_rfl
  have k23 : Try.prog.cellsOf 23 = 1 := by kernel_rfl
  have k9 : Try.prog.cellsOf 9 = 1 := by kernel_rfl
  have k3 : Try.prog.cellsOf 3 = 1 := by kernel_rfl
  rw [hC] at hlen
  match cs, hlen with
  | [c0, c1, c2, c3], _ =>
    have g0 := hg 0 _ rfl
    have g1 := hg 1 _ rfl
    have g2 := hg 2 _ rfl
    have g3 := hg 3 _ rfl
    match xs, hxl with
    | [y0, y1, y2, y3], _ =>
      simp only [k5, k23, k9, k3, List.drop_zero, List.drop_succ_cons, List.take_succ_cons, List.take_zero, List.getElem?_cons_zero, List.getElem?_cons_succ] at g0 g1 g2 g3
      obtain ⟨a0, e0, _, w0⟩ := DataW.trod_int Try.underlying5 g0
      obtain ⟨a1, e1, _, w1⟩ := DataW.trod_int Try.underlying23 g1
      obtain ⟨s2, e2, _, w2⟩ := DataW.trod_string Try.underlying9 g2
      obtain ⟨a3, e3, _, w3⟩ := DataW.trod_int Try.underlying3 g3
      obtain ⟨rfl⟩ : c0 = _ := by injection e0
      obtain ⟨rfl⟩ : c1 = _ := by injection e1
      obtain ⟨rfl⟩ : c2 = _ := by injection e2
      obtain ⟨rfl⟩ : c3 = _ := by injection e3
      have b0 : 0 ≤ a0 ∧ a0 ≤ 255 := by simp [Lit.wf, IntKind.min, IntKind.max, IntKind.bits, IntKind.signed] at w0; omega
      have b3 : -9223372036854775808 ≤ a3 ∧ a3 ≤ 9223372036854775807 := by simp [Lit.wf, IntKind.min, IntKind.max, IntKind.bits, IntKind.signed] at w3; omega
      obtain ⟨n1, rfl, hn⟩ := num_of w1
      exact ⟨⟨a0.toNat, n1, s2, a3⟩, by simp only []; rw [Int.toNat_of_nonneg b0.1], by show a0.toNat < 256; omega, hn, w2, b3.2, b3.1⟩
instance : Inhabited It := ⟨⟨0, 0, ⟨#[]⟩, 0⟩⟩
theorem open_items {v : Value} {d : DataW H} {p : List MemPlace} {r : Reach} {b0 : Nat} (hv : Value.okWide Try.prog w r b0 52 v) (h : DataW.Trod enc Try.prog w base spare held 52 v d p) :
    ∃ (A : Option Addr) (cap : Nat) (xs : List It), v = .slice A xs.length cap ∧ xs.length ≤ cap ∧ cap ≤ maxLen ∧ Items w A xs w.heap.size := by
  obtain ⟨A, len, cap, rfl⟩ := okWide_slice Try.underlying52 hv
  obtain ⟨fuel, hf⟩ := h
  have hC : Try.prog.cellsOf 56 = 4 := by kernel_rfl
  rcases Deep.open_slice Try.underlying52 hf with ⟨hcs, _⟩ | ⟨a, len', cap', m, n, D, Pl, hcs, hb, hl, hm, hmm, _, hi⟩
  · have e : Value.slice A len cap = .slice none 0 0 := by simpa [Value.cells] using hcs
    injection e with e1 e2 e3
    subst e1 e2 e3
    exact ⟨none, 0, [], rfl, Nat.le_refl _, Nat.zero_le _, fun i h => absurd h (by simp)⟩
  · have e : Value.slice A len cap = .slice (some a) len' cap' := by simpa [Value.cells] using hcs
    injection e with e1 e2 e3
    subst e1 e2 e3
    have hlm : len ≤ m := by rw [hmm]; split <;> omega
    rw [hC] at hi
    obtain ⟨f, hfx⟩ := Deep.choose_lt (α := It) (n := len) (p := fun i x => ∃ cs', w.cells? base (a.add (i * 4)) 4 = some cs' ∧ cs' = [.int .u8 (x.k : Int), .int .u64 (U x.n), .string x.t, .int .i64 x.m] ∧ x.ok) (fun i hil => by
      obtain ⟨cs', hc, ht⟩ := hi i (by omega)
      obtain ⟨x, hx, hok⟩ := open_item ht
      exact ⟨x, cs', hc, hx, hok⟩)
    refine ⟨some a, cap, (List.range len).map f, by simp, by simpa using hl, hm, ?_⟩
    intro i hil
    have hsp : a.spot = none := by
      have hl0 : 0 < len := by have : i < len := by simpa using hil
                               omega
      obtain ⟨cs', hc, rfl, _⟩ := hfx 0 hl0
      obtain ⟨_, _, hat⟩ := World.cells?_some hc
      have c0 := hat 0 (by omega)
      simp only [List.getElem?_cons_zero] at c0
      rw [Deep.add_add] at c0
      have := cell_spot c0
      simpa [Addr.add] using this
    have hil' : i < len := by simpa using hil
    obtain ⟨cs', hc, rfl, hok⟩ := hfx i hil'
    obtain ⟨_, _, hat⟩ := World.cells?_some hc
    have c0 := hat 0 (by omega)
    have c1 := hat 1 (by omega)
    have c2 := hat 2 (by omega)
    have c3 := hat 3 (by omega)
    simp only [List.getElem?_cons_zero, List.getElem?_cons_succ] at c0 c1 c2 c3
    rw [Deep.add_add] at c0 c1 c2 c3
    rw [(add_spot a _ hsp).1] at c0 c1 c2 c3
    have pa := (add_spot a 0 hsp).2
    have eg : ((List.range len).map f)[i] = f i := by simp
    rw [eg]
    exact ⟨a.block, a.off, congrArg some pa, cell_lt c0, by simpa using c0, c1, c2, c3, hok⟩

end Go.Proofs.Ytdllncbacbpedaa.Wire
