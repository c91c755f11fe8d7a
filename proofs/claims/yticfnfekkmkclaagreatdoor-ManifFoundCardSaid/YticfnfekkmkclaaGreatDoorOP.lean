import Derived.Test.YticfnfekkmkclaaGreatDoorMF
import Derived.Test.YticfnfekkmkclaaGreatDoorS
import Derived.ProofKit
import Derived.OpenShut
import Derived.ChangeSlices
import Derived.Deep.Slices
import Derived.Lib.SmallJoins
import Derived.MakeChecks
import Derived.SizedLaws
/-
  What is handed in to the laws, opened: manifests, rows of files, slices of int.
-/
namespace Go.Proofs.YticfnfekkmkclaaGreatDoor.Manif
open Go Go.ChangeShapes Go.WideShapes Go.ChangeAt Go.RowKit
open Go.Proofs.YticfnfekkmkclaaGreatDoor.Disk (Fi RowF fiC)

theorem cell_spot {w : World} {a : Addr} {v : Value} (h : w.cell? a = some v) : a.spot = none := by
  unfold World.cell? at h
  split at h
  · split at h
    · cases h
    · rename_i hs; simpa using hs
  · cases h
theorem add_spot (a : Addr) (i : Nat) (hs : a.spot = none) : a.add i = ⟨a.block, a.off + i, none⟩ ∧ a = ⟨a.block, a.off, none⟩ := by
  obtain ⟨b, o, s⟩ := a
  simp only [] at hs
  subst hs
  exact ⟨by simp [Addr.add], rfl⟩
theorem cell_lt {w : World} {b o : Nat} {v : Value} (h : w.cell? ⟨b, o, none⟩ = some v) : b < w.heap.size := by
  unfold World.cell? at h
  rcases Nat.lt_or_ge b w.heap.size with h1 | h1
  · exact h1
  · rw [Array.getElem?_eq_none h1] at h; cases h
variable {H : Type} {enc : TypeId × Value → H} {w : World} {base : Nat} {spare : Nat → Bool} {held : Bool}
theorem wf64 {x : Int} (h : (Lit.int .i64 x).wf = true) : -9223372036854775808 ≤ x ∧ x ≤ 9223372036854775807 := by
  simp [Lit.wf, IntKind.min, IntKind.max, IntKind.bits, IntKind.signed] at h; omega
theorem cells64 : Tryz.prog.cellsOf 2 = 1 := by kernel_rfl
theorem cellsEn : Tryz.prog.cellsOf 80 = 2 := by kernel_rfl
def In64 (l : List (Int × Int)) : Prop := ∀ p ∈ l, (-9223372036854775808 ≤ p.1 ∧ p.1 ≤ 9223372036854775807) ∧ (-9223372036854775808 ≤ p.2 ∧ p.2 ≤ 9223372036854775807)
theorem open_i64 {fuel : Nat} {v : Value} {y : DataW H × List MemPlace} (hf : DataW.trod enc Tryz.prog w base spare held fuel 2 [v] = some y) : ∃ x : Int, v = .int .i64 x ∧ -9223372036854775808 ≤ x ∧ x ≤ 9223372036854775807 := by
  obtain ⟨x, hx, _, hw⟩ := DataW.trod_int Tryz.underlying2 hf
  exact ⟨x, by simpa using hx, wf64 hw⟩
set_option maxRecDepth 100000 in
theorem open_en {fuel : Nat} {cs : List Value} {y : DataW H × List MemPlace} (h : DataW.trod enc Tryz.prog w base spare held fuel 80 cs = some y) : ∃ x : Int × Int, cs = [.int .i64 x.1, .int .i64 x.2] ∧ (-9223372036854775808 ≤ x.1 ∧ x.1 ≤ 9223372036854775807) ∧ (-9223372036854775808 ≤ x.2 ∧ x.2 ≤ 9223372036854775807) := by
  obtain ⟨xs, n, _, rfl, hlen, hxl, hg⟩ := DataW.trod_struct Tryz.underlying80 h
  rw [cellsEn] at hlen
  match cs, hlen with
  | [c0, c1], _ =>
    have g0 := hg 0 _ rfl
    have g1 := hg 1 _ rfl
    match xs, hxl with
    | [y0, y1], _ =>
      simp only [cells64, List.drop_zero, List.drop_succ_cons, List.take_succ_cons, List.take_zero, List.getElem?_cons_zero, List.getElem?_cons_succ] at g0 g1
      obtain ⟨a, rfl, ha⟩ := open_i64 g0
      obtain ⟨b, hb, _, hw⟩ := DataW.trod_int Tryz.underlying2 g1
      have hb' : List.take (Tryz.prog.cellsOf 2) [c1] = [.int .i64 b] := hb
      rw [cells64] at hb'
      obtain rfl : c1 = .int .i64 b := by simpa using hb'
      exact ⟨(a, b), rfl, ha, wf64 hw⟩
set_option maxRecDepth 100000 in
theorem open_ens {fuel : Nat} {v : Value} {y : DataW H × List MemPlace} (hf : DataW.trod enc Tryz.prog w base spare held fuel 45 [v] = some y) :
    ∃ (A : Option Addr) (cap : Nat) (l : List (Int × Int)), v = .slice A l.length cap ∧ l.length ≤ cap ∧ cap ≤ maxLen ∧ RowE w A l ∧ In64 l := by
  rcases Deep.open_slice Tryz.underlying45 hf with ⟨hcs, _⟩ | ⟨a, len, cap, m, n, D, Pl, hcs, hb, hl, hm, hmm, hx, hi⟩
  · have e : v = .slice none 0 0 := by simpa using hcs
    subst e
    exact ⟨none, 0, [], rfl, Nat.le_refl _, Nat.zero_le _, (fun j hj => absurd hj (Nat.not_lt_zero _)), fun p hp => by cases hp⟩
  · have e : v = .slice (some a) len cap := by simpa using hcs
    subst e
    have hlm : len ≤ m := by rw [hmm]; split <;> omega
    rw [cellsEn] at hi
    have hch : ∀ i, i < len → ∃ x : Int × Int, ∃ cs', w.cells? base (a.add (i * 2)) 2 = some cs' ∧ cs' = [.int .i64 x.1, .int .i64 x.2] ∧ (-9223372036854775808 ≤ x.1 ∧ x.1 ≤ 9223372036854775807) ∧ (-9223372036854775808 ≤ x.2 ∧ x.2 ≤ 9223372036854775807) := fun i hil => by
      obtain ⟨cs', hc, ht⟩ := hi i (by omega)
      obtain ⟨x, hx, h1⟩ := open_en ht
      exact ⟨x, cs', hc, hx, h1⟩
    obtain ⟨g, hg⟩ := Deep.choose_lt (α := Int × Int) (n := len) (p := fun i x => ∃ cs', w.cells? base (a.add (i * 2)) 2 = some cs' ∧ cs' = [.int .i64 x.1, .int .i64 x.2] ∧ (-9223372036854775808 ≤ x.1 ∧ x.1 ≤ 9223372036854775807) ∧ (-9223372036854775808 ≤ x.2 ∧ x.2 ≤ 9223372036854775807)) hch
    refine ⟨some a, cap, (List.range len).map g, by simp, by simpa using hl, hm, fun k hk => ?_, fun p hp => ?_⟩
    · have hk' : k < len := by simpa using hk
      obtain ⟨cs', hc, rfl, -⟩ := hg k hk'
      obtain ⟨_, _, hat⟩ := World.cells?_some hc
      have hsp : a.spot = none := by
        obtain ⟨cs0, hc0, rfl, _⟩ := hg 0 (by omega)
        obtain ⟨_, _, hat0⟩ := World.cells?_some hc0
        have z0 := hat0 0 (by omega)
        simp only [List.getElem?_cons_zero] at z0
        rw [Deep.add_add] at z0
        have := cell_spot z0
        simpa [Addr.add] using this
      have key : ∀ j, j < 2 → w.cell? ⟨a.block, a.off + (k * 2 + j), none⟩ = ([.int .i64 (g k).1, .int .i64 (g k).2] : List Value)[j]? := fun j hj => by
        have c0 := hat j (by omega)
        rw [Deep.add_add, (add_spot a _ hsp).1] at c0
        exact c0
      have q0 := key 0 (by omega)
      have q1 := key 1 (by omega)
      have e : ((List.range len).map g)[k] = g k := by simp
      rw [e]
      exact ⟨a.block, a.off, congrArg some (add_spot a 0 hsp).2, cell_lt q0, q0, q1⟩
    · obtain ⟨i, hi', rfl⟩ := List.mem_map.1 hp
      obtain ⟨_, _, _, h1⟩ := hg i (List.mem_range.1 hi')
      exact h1
set_option maxRecDepth 100000 in
/-- a manifest that is handed in -/
theorem open_man {v : Value} {d : DataW H} {p : List MemPlace} {r : Reach} {b0 : Nat} (hv : Value.okWide Tryz.prog w r b0 47 v) (h : DataW.Trod enc Tryz.prog w base spare held 47 v d p) :
    ∃ (g : Int) (A : Option Addr) (cap : Nat) (l : List (Int × Int)), v = .agg #[.int .i64 g, .slice A l.length cap] ∧ (-9223372036854775808 ≤ g ∧ g ≤ 9223372036854775807) ∧ l.length ≤ cap ∧ cap ≤ maxLen ∧ RowE w A l ∧ In64 l := by
  obtain ⟨v0, v1, y0, y1, n, rfl, rfl, _, h0, h1⟩ := Joins.open_agg2 Tryz.underlying47 (by kernel_rfl) (by kernel_rfl) hv h
  obtain ⟨g, rfl, hg⟩ := open_i64 h0
  obtain ⟨A, cap, l, rfl, l1, m1, r1, i1⟩ := open_ens h1
  exact ⟨g, A, cap, l, rfl, hg, l1, m1, r1, i1⟩
theorem laid : laidOutB Tryz.prog = true := by kernel_rfl
end Go.Proofs.YticfnfekkmkclaaGreatDoor.Manif
