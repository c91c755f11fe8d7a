import Derived.Test.YticfnfekkmkclaaGreatDoorMY
/-
  Rows of files, slices of int that are handed in, opened.
-/
namespace Go.Proofs.YticfnfekkmkclaaGreatDoor.Manif
open Go Go.ChangeShapes Go.WideShapes Go.ChangeAt Go.RowKit
open Go.Proofs.YticfnfekkmkclaaGreatDoor.Disk (Fi RowF fiC S)

variable {H : Type} {enc : TypeId × Value → H} {w : World} {base : Nat} {spare : Nat → Bool} {held : Bool}
theorem cellsT1 : Tryz.prog.cellsOf 9 = 1 := by kernel_rfl
theorem cellsI1 : Tryz.prog.cellsOf 3 = 1 := by kernel_rfl
theorem cellsFi : Tryz.prog.cellsOf 71 = 3 := by kernel_rfl
theorem S_ofD (s : ByteArray) : S s.data.toList = s := by unfold S; simp
theorem open_str {fuel : Nat} {v : Value} {y : DataW H × List MemPlace} (hf : DataW.trod enc Tryz.prog w base spare held fuel 9 [v] = some y) : ∃ l : List UInt8, l.length ≤ maxLen ∧ v = .string (S l) := by
  obtain ⟨s, hv, _, hw⟩ := DataW.trod_string Tryz.underlying9 hf
  exact ⟨s.data.toList, by simpa using hw, by rw [S_ofD]; simpa using hv⟩
set_option maxRecDepth 100000 in
theorem open_fi {fuel : Nat} {cs : List Value} {y : DataW H × List MemPlace} (h : DataW.trod enc Tryz.prog w base spare held fuel 71 cs = some y) : ∃ x : Fi, cs = fiC x ∧ x.n.length ≤ maxLen ∧ x.d.length ≤ maxLen ∧ x.p.length ≤ maxLen := by
  obtain ⟨xs, n, _, rfl, hlen, hxl, hg⟩ := DataW.trod_struct Tryz.underlying71 h
  rw [cellsFi] at hlen
  match cs, hlen with
  | [c0, c1, c2], _ =>
    have g0 := hg 0 _ rfl
    have g1 := hg 1 _ rfl
    have g2 := hg 2 _ rfl
    match xs, hxl with
    | [y0, y1, y2], _ =>
      simp only [cellsT1, List.drop_zero, List.drop_succ_cons, List.take_succ_cons, List.take_zero, List.getElem?_cons_zero, List.getElem?_cons_succ] at g0 g1 g2
      obtain ⟨a, ha, rfl⟩ := open_str g0
      obtain ⟨b, hb, rfl⟩ := open_str g1
      obtain ⟨c, hc, rfl⟩ := open_str g2
      exact ⟨⟨a, b, c⟩, rfl, ha, hb, hc⟩
set_option maxRecDepth 100000 in
theorem open_files {v : Value} {d : DataW H} {p : List MemPlace} {r : Reach} {b0 : Nat} (hv : Value.okWide Tryz.prog w r b0 44 v) (h : DataW.Trod enc Tryz.prog w base spare held 44 v d p) :
    ∃ (A : Option Addr) (cap : Nat) (xs : List Fi), v = .slice A xs.length cap ∧ xs.length ≤ cap ∧ cap ≤ maxLen ∧ RowF w A xs ∧ Fit xs := by
  obtain ⟨A0, len0, cap0, rfl⟩ := okWide_slice Tryz.underlying44 hv
  obtain ⟨fuel, hf⟩ := h
  rcases Deep.open_slice Tryz.underlying44 hf with ⟨hcs, hd⟩ | ⟨a, len, cap, m, n, D, Pl, hcs, hb, hl, hm, hmm, hx, hi⟩
  · have e : Value.slice A0 len0 cap0 = .slice none 0 0 := by simpa [Value.cells] using hcs
    injection e with e1 e2 e3
    subst e1 e2 e3
    exact ⟨none, 0, [], rfl, Nat.le_refl _, Nat.zero_le _, (fun j hj => absurd hj (Nat.not_lt_zero _)), fun x hx => by cases hx⟩
  · have e : Value.slice A0 len0 cap0 = .slice (some a) len cap := by simpa [Value.cells] using hcs
    injection e with e1 e2 e3
    subst e1 e2 e3
    have hlm : len0 ≤ m := by rw [hmm]; split <;> omega
    rw [cellsFi] at hi
    have hch : ∀ i, i < len0 → ∃ x : Fi, ∃ cs', w.cells? base (a.add (i * 3)) 3 = some cs' ∧ cs' = fiC x ∧ x.n.length ≤ maxLen ∧ x.d.length ≤ maxLen ∧ x.p.length ≤ maxLen := fun i hil => by
      obtain ⟨cs', hc, ht⟩ := hi i (by omega)
      obtain ⟨x, hx, h1⟩ := open_fi ht
      exact ⟨x, cs', hc, hx, h1⟩
    haveI : Inhabited Fi := ⟨⟨[], [], []⟩⟩
    obtain ⟨g, hg⟩ := Deep.choose_lt (α := Fi) (n := len0) (p := fun i x => ∃ cs', w.cells? base (a.add (i * 3)) 3 = some cs' ∧ cs' = fiC x ∧ x.n.length ≤ maxLen ∧ x.d.length ≤ maxLen ∧ x.p.length ≤ maxLen) hch
    refine ⟨some a, cap0, (List.range len0).map g, by simp, by simpa using hl, hm, fun k hk => ?_, fun x hx => ?_⟩
    · have hk' : k < len0 := by simpa using hk
      obtain ⟨cs', hc, rfl, -⟩ := hg k hk'
      obtain ⟨_, _, hat⟩ := World.cells?_some hc
      have hsp : a.spot = none := by
        obtain ⟨cs0, hc0, rfl, _⟩ := hg 0 (by omega)
        obtain ⟨_, _, hat0⟩ := World.cells?_some hc0
        have z0 := hat0 0 (by omega)
        rw [show (fiC (g 0))[0]? = some (.string (S (g 0).n)) from rfl, Deep.add_add] at z0
        have := cell_spot z0
        simpa [Addr.add] using this
      have key : ∀ j, j < 3 → w.cell? ⟨a.block, a.off + (k * 3 + j), none⟩ = (fiC (g k))[j]? := fun j hj => by
        have c0 := hat j (by omega)
        rw [Deep.add_add, (add_spot a _ hsp).1] at c0
        exact c0
      have q0 := key 0 (by omega)
      have q1 := key 1 (by omega)
      have q2 := key 2 (by omega)
      have e : ((List.range len0).map g)[k] = g k := by simp
      rw [e]
      exact ⟨a.block, a.off, congrArg some (add_spot a 0 hsp).2, cell_lt q0, q0, q1, q2⟩
    · obtain ⟨i, hi', rfl⟩ := List.mem_map.1 hx
      obtain ⟨_, _, _, h1⟩ := hg i (List.mem_range.1 hi')
      exact h1
/-- numbers that lie in a slice -/
def Nums (w : World) (K : Option Addr) (ks : List Int) : Prop := ∀ j (h : j < ks.length), ∃ b o, K = some ⟨b, o, none⟩ ∧ b < w.heap.size ∧ w.cell? ⟨b, o + j, none⟩ = some (.int .i64 ks[j])
theorem Nums.below {w w' : World} {K : Option Addr} {ks : List Int} (h : Nums w K ks) (hb : Below w.heap.size w w') : Nums w' K ks := fun j hj => by
  obtain ⟨b, o, e, h1, h2⟩ := h j hj
  exact ⟨b, o, e, Nat.lt_of_lt_of_le h1 hb.size, (hb.cell (p := ⟨b, o + j, none⟩) h1).trans h2⟩
theorem Nums.kat {w W : World} {a : Nat} {K : Option Addr} {ks : List Int} (h : Nums w K ks) (hb : Below w.heap.size w W) (ha : w.heap.size ≤ a) : Disk.KAt W a K ks := fun j hj => by
  obtain ⟨b, o, e, h1, h2⟩ := h j hj
  exact ⟨b, o, e, Nat.lt_of_lt_of_le h1 hb.size, by omega, (hb.cell (p := ⟨b, o + j, none⟩) h1).trans h2⟩
set_option maxRecDepth 100000 in
theorem open_keep {v : Value} {d : DataW H} {p : List MemPlace} {r : Reach} {b0 : Nat} (_hv : Value.okWide Tryz.prog w r b0 48 v) (h : DataW.Trod enc Tryz.prog w base spare held 48 v d p) :
    ∃ (A : Option Addr) (cap : Nat) (xs : List Int), v = .slice A xs.length cap ∧ xs.length ≤ cap ∧ cap ≤ maxLen ∧ Nums w A xs := by
  obtain ⟨A0, len0, cap0, rfl⟩ := okWide_slice Tryz.underlying48 _hv
  obtain ⟨fuel, hf⟩ := h
  rcases Deep.open_slice Tryz.underlying48 hf with ⟨hcs, _⟩ | ⟨a, len, cap, m, n, D, Pl, hcs, hb, hl, hm, hmm, hx, hi⟩
  · have e : Value.slice A0 len0 cap0 = .slice none 0 0 := by simpa [Value.cells] using hcs
    injection e with e1 e2 e3
    subst e1 e2 e3
    exact ⟨none, 0, [], rfl, Nat.le_refl _, Nat.zero_le _, fun j hj => absurd hj (Nat.not_lt_zero _)⟩
  · have e : Value.slice A0 len0 cap0 = .slice (some a) len cap := by simpa [Value.cells] using hcs
    injection e with e1 e2 e3
    subst e1 e2 e3
    have hlm : len0 ≤ m := by rw [hmm]; split <;> omega
    rw [cellsI1] at hi
    have hch : ∀ i, i < len0 → ∃ x : Int, ∃ cs', w.cells? base (a.add (i * 1)) 1 = some cs' ∧ cs' = [.int .i64 x] := fun i hil => by
      obtain ⟨cs', hc, ht⟩ := hi i (by omega)
      obtain ⟨x, hx, _, _⟩ := DataW.trod_int Tryz.underlying3 ht
      exact ⟨x, cs', hc, hx⟩
    obtain ⟨g, hg⟩ := Deep.choose_lt (α := Int) (n := len0) (p := fun i x => ∃ cs', w.cells? base (a.add (i * 1)) 1 = some cs' ∧ cs' = [.int .i64 x]) hch
    refine ⟨some a, cap0, (List.range len0).map g, by simp, by simpa using hl, hm, fun j hj => ?_⟩
    have hj' : j < len0 := by simpa using hj
    have hsp : a.spot = none := by
      obtain ⟨cs0, hc0, rfl⟩ := hg 0 (by omega)
      obtain ⟨_, _, hat⟩ := World.cells?_some hc0
      have c0 := hat 0 (by omega)
      simp only [List.getElem?_cons_zero] at c0
      rw [Deep.add_add] at c0
      have := cell_spot c0
      simpa [Addr.add] using this
    obtain ⟨cs', hc, rfl⟩ := hg j hj'
    obtain ⟨_, _, hat⟩ := World.cells?_some hc
    have c0 := hat 0 (by omega)
    simp only [List.getElem?_cons_zero] at c0
    rw [Deep.add_add, (add_spot a _ hsp).1] at c0
    have c1 : w.cell? ⟨a.block, a.off + j, none⟩ = some (.int .i64 (g j)) := by simpa using c0
    exact ⟨a.block, a.off, congrArg some (add_spot a 0 hsp).2, cell_lt c1, by simpa using c1⟩
end Go.Proofs.YticfnfekkmkclaaGreatDoor.Manif
