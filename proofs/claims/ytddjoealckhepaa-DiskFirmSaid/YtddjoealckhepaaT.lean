import Derived.Test.YtddjoealckhepaaS
import Derived.ProofKit
import Derived.ChangeSlices
import Derived.Deep.Slices
import Derived.Lib.SmallJoins
import Derived.MakeChecks
import Derived.SizedLaws
/-
  What is handed in to the laws, opened: scripts (slices of Op), slices of int.
-/
namespace Go.Proofs.Ytddjoealckhepaa.Disk
open Go Go.ChangeShapes Go.WideShapes Go.ChangeAt Go.RowKit

theorem cell_spot {w : World} {a : Addr} {v : Value} (h : w.cell? a = some v) : a.spot = none := by
  unfold World.cell? at h
  split at h
  · split at h
    · cases h
    · rename_i hs; simpa using hs
  · cases h
theorem add_spot (a : Addr) (i : Nat) (hs : a.spot = none) : a.add i = ⟨a.block, a.off + i, none⟩ ∧ a = ⟨a.block, a.off, none⟩ := by
  obtain ⟨b, o, s⟩ := a
  simp only [] at hs
  subst hs
  exact ⟨by simp [Addr.add], rfl⟩
theorem cell_lt {w : World} {b o : Nat} {v : Value} (h : w.cell? ⟨b, o, none⟩ = some v) : b < w.heap.size := by
  unfold World.cell? at h
  rcases Nat.lt_or_ge b w.heap.size with h1 | h1
  · exact h1
  · rw [Array.getElem?_eq_none h1] at h; cases h

/-- numbers that lie in a slice -/
def Nums (w : World) (K : Option Addr) (ks : List Int) : Prop := ∀ j (h : j < ks.length), ∃ b o, K = some ⟨b, o, none⟩ ∧ b < w.heap.size ∧ w.cell? ⟨b, o + j, none⟩ = some (.int .i64 ks[j])
theorem Nums.below {w w' : World} {K : Option Addr} {ks : List Int} (h : Nums w K ks) (hb : Below w.heap.size w w') : Nums w' K ks := fun j hj => by
  obtain ⟨b, o, e, h1, h2⟩ := h j hj
  exact ⟨b, o, e, Nat.lt_of_lt_of_le h1 hb.size, (hb.cell (p := ⟨b, o + j, none⟩) h1).trans h2⟩
theorem Nums.kat {w W : World} {a : Nat} {K : Option Addr} {ks : List Int} (h : Nums w K ks) (hb : Below w.heap.size w W) (ha : w.heap.size ≤ a) : KAt W a K ks := fun j hj => by
  obtain ⟨b, o, e, h1, h2⟩ := h j hj
  exact ⟨b, o, e, Nat.lt_of_lt_of_le h1 hb.size, by omega, (hb.cell (p := ⟨b, o + j, none⟩) h1).trans h2⟩
/-- what is done -/
structure OpX where
  k : Nat
  n : Nm
  t : Nm
  s : List UInt8
  m : Int
  K : Option Addr
  c : Nat
  ks : List Int
instance : Inhabited OpX := ⟨⟨0, [], [], [], 0, none, 0, []⟩⟩
def opC (x : OpX) : List Value := [.int .u8 (x.k : Int), .string (S x.n), .string (S x.t), .string (S x.s), .int .i64 x.m, .slice x.K x.ks.length x.c]
structure OpAt (w : World) (x : OpX) : Prop where
  k : x.k < 256
  n : x.n.length ≤ maxLen
  t : x.t.length ≤ maxLen
  s : x.s.length ≤ maxLen
  m : -9223372036854775808 ≤ x.m ∧ x.m ≤ 9223372036854775807
  c : x.ks.length ≤ x.c ∧ x.c ≤ maxLen
  nums : Nums w x.K x.ks
theorem OpAt.below {w w' : World} {x : OpX} (h : OpAt w x) (hb : Below w.heap.size w w') : OpAt w' x := { h with nums := h.nums.below hb }
def cellsX (xs : List OpX) : List Value := xs.flatMap opC
theorem cellsX_len (xs : List OpX) : (cellsX xs).length = xs.length * 6 := by
  unfold cellsX
  induction xs with
  | nil => rfl
  | cons x xs ih => rw [List.flatMap_cons, List.length_append, ih, List.length_cons]; show 6 + _ = _; omega
theorem cellsX_at (xs : List OpX) (k j : Nat) (hk : k < xs.length) (hj : j < 6) : (cellsX xs)[k * 6 + j]? = (opC xs[k])[j]? := by
  unfold cellsX
  induction xs generalizing k with
  | nil => exact absurd hk (by simp)
  | cons x xs ih =>
    rw [List.flatMap_cons]
    cases k with
    | zero => rw [List.getElem?_append_left (by show _ < 6; omega)]; simp
    | succ k =>
      rw [List.getElem?_append_right (by show 6 ≤ _; omega)]
      have := ih k (by simpa using hk)
      rw [show (k + 1) * 6 + j - (opC x).length = k * 6 + j by show (k + 1) * 6 + j - 6 = _; omega]
      simpa using this
/-- these Ops lie one behind the other from A on -/
def Ops (w : World) (A : Option Addr) (xs : List OpX) : Prop := ∀ k (h : k < xs.length), ∃ b o, A = some ⟨b, o, none⟩ ∧ b < w.heap.size ∧ OpAt w xs[k] ∧
  w.cell? ⟨b, o + k * 6, none⟩ = some (.int .u8 (xs[k].k : Int)) ∧ w.cell? ⟨b, o + k * 6 + 1, none⟩ = some (.string (S xs[k].n)) ∧ w.cell? ⟨b, o + k * 6 + 2, none⟩ = some (.string (S xs[k].t)) ∧
  w.cell? ⟨b, o + k * 6 + 3, none⟩ = some (.string (S xs[k].s)) ∧ w.cell? ⟨b, o + k * 6 + 4, none⟩ = some (.int .i64 xs[k].m) ∧ w.cell? ⟨b, o + k * 6 + 5, none⟩ = some (.slice xs[k].K xs[k].ks.length xs[k].c)
theorem Ops.below {w w' : World} {A : Option Addr} {xs : List OpX} (h : Ops w A xs) (hb : Below w.heap.size w w') : Ops w' A xs := fun k hk => by
  obtain ⟨b, o, e, h1, h2, c0, c1, c2, c3, c4, c5⟩ := h k hk
  exact ⟨b, o, e, Nat.lt_of_lt_of_le h1 hb.size, h2.below hb, (hb.cell h1).trans c0, (hb.cell h1).trans c1, (hb.cell h1).trans c2, (hb.cell h1).trans c3, (hb.cell h1).trans c4, (hb.cell h1).trans c5⟩

variable {H : Type} {enc : TypeId × Value → H} {w : World} {base : Nat} {spare : Nat → Bool} {held : Bool}
theorem cellsInt : Try.prog.cellsOf 3 = 1 := by kernel_rfl
theorem cellsT : Try.prog.cellsOf 9 = 1 := by kernel_rfl
theorem wf64 {x : Int} (h : (Lit.int .i64 x).wf = true) : -9223372036854775808 ≤ x ∧ x ≤ 9223372036854775807 := by
  simp [Lit.wf, IntKind.min, IntKind.max, IntKind.bits, IntKind.signed] at h; omega
set_option maxRecDepth 100000 in
theorem open_ints' {fuel : Nat} {v : Value} {y : DataW H × List MemPlace} (hf : DataW.trod enc Try.prog w base spare held fuel 52 [v] = some y) :
    ∃ (A : Option Addr) (cap : Nat) (xs : List Int), v = .slice A xs.length cap ∧ xs.length ≤ cap ∧ cap ≤ maxLen ∧ Nums w A xs := by
  rcases Deep.open_slice Try.underlying52 hf with ⟨hcs, _⟩ | ⟨a, len, cap, m, n, D, Pl, hcs, hb, hl, hm, hmm, hx, hi⟩
  · have e : v = .slice none 0 0 := by simpa using hcs
    subst e
    exact ⟨none, 0, [], rfl, Nat.le_refl _, Nat.zero_le _, fun j hj => absurd hj (Nat.not_lt_zero _)⟩
  · have e : v = .slice (some a) len cap := by simpa using hcs
    subst e
    have hlm : len ≤ m := by rw [hmm]; split <;> omega
    rw [cellsInt] at hi
    have hch : ∀ i, i < len → ∃ x : Int, ∃ cs', w.cells? base (a.add (i * 1)) 1 = some cs' ∧ cs' = [.int .i64 x] := fun i hil => by
      obtain ⟨cs', hc, ht⟩ := hi i (by omega)
      obtain ⟨x, hx, _, _⟩ := DataW.trod_int Try.underlying3 ht
      exact ⟨x, cs', hc, hx⟩
    by_cases h0 : len = 0
    · subst h0
      exact ⟨some a, cap, [], rfl, Nat.zero_le _, hm, fun j hj => absurd hj (Nat.not_lt_zero _)⟩
    · obtain ⟨g, hg⟩ := Deep.choose_lt (α := Int) (n := len) (p := fun i x => ∃ cs', w.cells? base (a.add (i * 1)) 1 = some cs' ∧ cs' = [.int .i64 x]) hch
      have hsp : a.spot = none := by
        obtain ⟨cs0, hc0, rfl⟩ := hg 0 (by omega)
        obtain ⟨_, _, hat⟩ := World.cells?_some hc0
        have c0 := hat 0 (by omega)
        simp only [List.getElem?_cons_zero] at c0
        rw [Deep.add_add] at c0
        have := cell_spot c0
        simpa [Addr.add] using this
      refine ⟨some a, cap, (List.range len).map g, by simp, by simpa using hl, hm, fun j hj => ?_⟩
      have hj' : j < len := by simpa using hj
      obtain ⟨cs', hc, rfl⟩ := hg j hj'
      obtain ⟨_, _, hat⟩ := World.cells?_some hc
      have c0 := hat 0 (by omega)
      simp only [List.getElem?_cons_zero] at c0
      rw [Deep.add_add, (add_spot a _ hsp).1] at c0
      have c1 : w.cell? ⟨a.block, a.off + j, none⟩ = some (.int .i64 (g j)) := by simpa using c0
      exact ⟨a.block, a.off, congrArg some (add_spot a 0 hsp).2, cell_lt c1, by simpa using c1⟩
set_option maxRecDepth 100000 in
theorem open_keep {v : Value} {d : DataW H} {p : List MemPlace} {r : Reach} {b0 : Nat} (_hv : Value.okWide Try.prog w r b0 52 v) (h : DataW.Trod enc Try.prog w base spare held 52 v d p) :
    ∃ (A : Option Addr) (cap : Nat) (xs : List Int), v = .slice A xs.length cap ∧ xs.length ≤ cap ∧ cap ≤ maxLen ∧ Nums w A xs := by
  obtain ⟨A0, len0, cap0, rfl⟩ := okWide_slice Try.underlying52 _hv
  obtain ⟨fuel, hf⟩ := h
  exact open_ints' hf
theorem bounds8 {x : Int} (h : (Lit.int .u8 x).wf = true) : 0 ≤ x ∧ x ≤ 255 := by
  simp [Lit.wf, IntKind.min, IntKind.max, IntKind.bits, IntKind.signed] at h; omega
theorem open_u8 {fuel : Nat} {v : Value} {y : DataW H × List MemPlace} (hf : DataW.trod enc Try.prog w base spare held fuel 5 [v] = some y) : ∃ n : Nat, n < 256 ∧ v = .int .u8 n := by
  obtain ⟨n, hv, _, hw⟩ := DataW.trod_int Try.underlying5 hf
  have hb := bounds8 hw
  obtain ⟨m, rfl⟩ := Int.eq_ofNat_of_zero_le hb.1
  exact ⟨m, by omega, by simpa using hv⟩
theorem open_str {fuel : Nat} {v : Value} {y : DataW H × List MemPlace} (hf : DataW.trod enc Try.prog w base spare held fuel 9 [v] = some y) : ∃ l : List UInt8, l.length ≤ maxLen ∧ v = .string (S l) := by
  obtain ⟨s, hv, _, hw⟩ := DataW.trod_string Try.underlying9 hf
  exact ⟨s.toList, by rw [list_len]; exact hw, by rw [S_of]; simpa using hv⟩
theorem cellsO : Try.prog.cellsOf 54 = 6 := by kernel_rfl
set_option maxRecDepth 100000 in
theorem open_op {fuel : Nat} {cs : List Value} {y : DataW H × List MemPlace} (h : DataW.trod enc Try.prog w base spare held fuel 54 cs = some y) : ∃ x : OpX, cs = opC x ∧ OpAt w x := by
  obtain ⟨xs, n, _, rfl, hlen, hxl, hg⟩ := DataW.trod_struct Try.underlying54 h
  have k0 : Try.prog.cellsOf 5 = 1 := by kernel_rfl
  have k1 : Try.prog.cellsOf 52 = 1 := by kernel_rfl
  have k2 : Try.prog.cellsOf 3 = 1 := by kernel_rfl
  rw [cellsO] at hlen
  match cs, hlen with
  | [c0, c1, c2, c3, c4, c5], _ =>
    have g0 := hg 0 _ rfl
    have g1 := hg 1 _ rfl
    have g2 := hg 2 _ rfl
    have g3 := hg 3 _ rfl
    have g4 := hg 4 _ rfl
    have g5 := hg 5 _ rfl
    match xs, hxl with
    | [y0, y1, y2, y3, y4, y5], _ =>
      simp only [k0, k1, k2, cellsT, List.drop_zero, List.drop_succ_cons, List.take_succ_cons, List.take_zero, List.getElem?_cons_zero, List.getElem?_cons_succ] at g0 g1 g2 g3 g4 g5
      obtain ⟨a, ha, rfl⟩ := open_u8 g0
      obtain ⟨b, hb, rfl⟩ := open_str g1
      obtain ⟨c, hc, rfl⟩ := open_str g2
      obtain ⟨d, hd, rfl⟩ := open_str g3
      obtain ⟨e, he, _, hw⟩ := DataW.trod_int Try.underlying3 g4
      have he' : List.take (Try.prog.cellsOf 3) [c4, c5] = [.int .i64 e] := he
      rw [k2] at he'
      obtain rfl : c4 = .int .i64 e := by simpa using he'
      obtain ⟨A, ca, us, rfl, l1, m1, n1⟩ := open_ints' g5
      exact ⟨⟨a, b, c, d, e, A, ca, us⟩, rfl, ha, hb, hc, hd, wf64 hw, ⟨l1, m1⟩, n1⟩
set_option maxRecDepth 100000 in
theorem open_ops {v : Value} {d : DataW H} {p : List MemPlace} {r : Reach} {b0 : Nat} (hv : Value.okWide Try.prog w r b0 46 v) (h : DataW.Trod enc Try.prog w base spare held 46 v d p) :
    ∃ (A : Option Addr) (cap : Nat) (xs : List OpX), v = .slice A xs.length cap ∧ xs.length ≤ cap ∧ cap ≤ maxLen ∧ Ops w A xs := by
  obtain ⟨A0, len0, cap0, rfl⟩ := okWide_slice Try.underlying46 hv
  obtain ⟨fuel, hf⟩ := h
  rcases Deep.open_slice Try.underlying46 hf with ⟨hcs, hd⟩ | ⟨a, len, cap, m, n, D, Pl, hcs, hb, hl, hm, hmm, hx, hi⟩
  · have e : Value.slice A0 len0 cap0 = .slice none 0 0 := by simpa [Value.cells] using hcs
    injection e with e1 e2 e3
    subst e1 e2 e3
    exact ⟨none, 0, [], rfl, Nat.le_refl _, Nat.zero_le _, fun j hj => absurd hj (Nat.not_lt_zero _)⟩
  · have e : Value.slice A0 len0 cap0 = .slice (some a) len cap := by simpa [Value.cells] using hcs
    injection e with e1 e2 e3
    subst e1 e2 e3
    have hlm : len0 ≤ m := by rw [hmm]; split <;> omega
    rw [cellsO] at hi
    have hch : ∀ i, i < len0 → ∃ x : OpX, ∃ cs', w.cells? base (a.add (i * 6)) 6 = some cs' ∧ cs' = opC x ∧ OpAt w x := fun i hil => by
      obtain ⟨cs', hc, ht⟩ := hi i (by omega)
      obtain ⟨x, hx, h1⟩ := open_op ht
      exact ⟨x, cs', hc, hx, h1⟩
    obtain ⟨g, hg⟩ := Deep.choose_lt (α := OpX) (n := len0) (p := fun i x => ∃ cs', w.cells? base (a.add (i * 6)) 6 = some cs' ∧ cs' = opC x ∧ OpAt w x) hch
    refine ⟨some a, cap0, (List.range len0).map g, by simp, by simpa using hl, hm, fun k hk => ?_⟩
    have hk' : k < len0 := by simpa using hk
    obtain ⟨cs', hc, rfl, hat'⟩ := hg k hk'
    obtain ⟨_, _, hat⟩ := World.cells?_some hc
    have hsp : a.spot = none := by
      obtain ⟨cs0, hc0, rfl, _⟩ := hg 0 (by omega)
      obtain ⟨_, _, hat0⟩ := World.cells?_some hc0
      have z0 := hat0 0 (by omega)
      rw [show (opC (g 0))[0]? = some (.int .u8 ((g 0).k : Int)) from rfl, Deep.add_add] at z0
      have := cell_spot z0
      simpa [Addr.add] using this
    have key : ∀ j, j < 6 → w.cell? ⟨a.block, a.off + (k * 6 + j), none⟩ = (opC (g k))[j]? := fun j hj => by
      have c0 := hat j (by omega)
      rw [Deep.add_add, (add_spot a _ hsp).1] at c0
      exact c0
    have q0 := key 0 (by omega)
    have q1 := key 1 (by omega)
    have q2 := key 2 (by omega)
    have q3 := key 3 (by omega)
    have q4 := key 4 (by omega)
    have q5 := key 5 (by omega)
    have e : ((List.range len0).map g)[k] = g k := by simp
    rw [e]
    exact ⟨a.block, a.off, congrArg some (add_spot a 0 hsp).2, cell_lt q0, hat', q0, q1, q2, q3, q4, q5⟩
theorem own : ownKnob Try.prog.godebug = none := by kernel_rfl
theorem laid : laidOutB Try.prog = true := by kernel_rfl
end Go.Proofs.Ytddjoealckhepaa.Disk
