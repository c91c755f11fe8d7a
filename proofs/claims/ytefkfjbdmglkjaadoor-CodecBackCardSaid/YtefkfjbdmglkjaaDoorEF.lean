/-
  Events and commands that came in, opened; a world that holds the listed variables.
-/
import Derived.Test.YtefkfjbdmglkjaaDoorE13
import Derived.ProofKit
import Derived.OpenShut
import Derived.ChangeSlices
import Derived.Deep.Slices
import Derived.Lib.SmallJoins
import Derived.MakeChecks
import Derived.SizedLaws
namespace Go.Proofs.YtefkfjbdmglkjaaDoor.Schema
open Go Go.ChangeShapes Go.WideShapes Go.ChangeAt Go.RowKit

theorem cell_spot {w : World} {a : Addr} {v : Value} (h : w.cell? a = some v) : a.spot = none := by
  unfold World.cell? at h
  split at h
  · split at h
    · cases h
    · rename_i hs; simpa using hs
  · cases h
theorem add_spot (a : Addr) (i : Nat) (hs : a.spot = none) : a.add i = ⟨a.block, a.off + i, none⟩ ∧ a = ⟨a.block, a.off, none⟩ := by
  obtain ⟨b, o, s⟩ := a
  simp only [] at hs
  subst hs
  exact ⟨addr_add b o i, rfl⟩

variable {H : Type} {enc : TypeId × Value → H} {w : World} {base : Nat} {spare : Nat → Bool} {held : Bool}
set_option maxRecDepth 100000 in
/-- a slice of one-cell values, opened -/
theorem open_vals {α : Type} {T E : TypeId} (f : α → Value) (P : α → Prop) (hT : Tryd.prog.underlying T = some (.slice E)) (hE : Tryd.prog.cellsOf E = 1)
    (one : ∀ {n : Nat} {cs : List Value} {y : DataW H × List MemPlace}, DataW.trod enc Tryd.prog w base spare held n E cs = some y → ∃ x, cs = [f x] ∧ P x)
    {fuel : Nat} {v : Value} {y : DataW H × List MemPlace} (hf : DataW.trod enc Tryd.prog w base spare held fuel T [v] = some y) :
    ∃ (A : Option Addr) (cap : Nat) (xs : List α), v = .slice A xs.length cap ∧ xs.length ≤ cap ∧ cap ≤ maxLen ∧ (∀ x ∈ xs, P x) ∧ VAt w A (xs.map f) ∧ (A = none → cap = 0) ∧ ((∀ n ∈ y.1.weights Tryd.prog T, n ≤ reachBytes) → xs.length * Tryd.prog.bytesOf E ≤ reachBytes) := by
  rcases Deep.open_slice hT hf with ⟨hcs, _⟩ | ⟨a, len, cap, m, n, D, Pl, hcs, hb, hl, hm, hmm, hx, hi⟩
  · have e : v = .slice none 0 0 := by simpa using hcs
    subst e
    exact ⟨none, 0, [], rfl, Nat.le_refl _, Nat.zero_le _, (fun x hx => by cases hx), VAt.nil _ _, (fun _ => rfl), fun _ => by simp⟩
  · have hwt : (∀ n ∈ y.1.weights Tryd.prog T, n ≤ reachBytes) → len * Tryd.prog.bytesOf E ≤ reachBytes := fun h => by
      rw [hx] at h
      have := h _ (by simp only [DataW.weights, hT]; exact List.mem_cons_self)
      simp only [List.length_map, List.length_range] at this
      exact Nat.le_trans (Nat.mul_le_mul_right _ (Nat.le_add_right _ _)) this
    have e : v = .slice (some a) len cap := by simpa using hcs
    subst e
    have hlm : len ≤ m := by rw [hmm]; split <;> omega
    rw [hE] at hi
    have hch : ∀ i, i < len → ∃ x : α, ∃ cs', w.cells? base (a.add (i * 1)) 1 = some cs' ∧ cs' = [f x] ∧ P x := fun i hil => by
      obtain ⟨cs', hc, ht⟩ := hi i (by omega)
      obtain ⟨x, hx, hok⟩ := one ht
      exact ⟨x, cs', hc, hx, hok⟩
    by_cases h0 : len = 0
    · subst h0
      exact ⟨some a, cap, [], rfl, Nat.zero_le _, hm, (fun x hx => by cases hx), VAt.nil _ _, (fun h => by cases h), fun _ => by simp⟩
    · obtain ⟨x0, cs0, hc0, rfl, _⟩ := hch 0 (by omega)
      have hsp : a.spot = none := by
        obtain ⟨_, _, hat⟩ := World.cells?_some hc0
        have c0 := hat 0 (by omega)
        simp only [List.getElem?_cons_zero] at c0
        rw [Deep.add_add] at c0
        have := cell_spot c0
        simpa [Addr.add] using this
      haveI : Inhabited α := ⟨x0⟩
      obtain ⟨g, hg⟩ := Deep.choose_lt (α := α) (n := len) (p := fun i x => ∃ cs', w.cells? base (a.add (i * 1)) 1 = some cs' ∧ cs' = [f x] ∧ P x) hch
      refine ⟨some a, cap, (List.range len).map g, by simp, by simpa using hl, hm, ?_, ?_, (fun h => by cases h), fun h => by simpa using hwt h⟩
      · intro x hx
        obtain ⟨i, hi', rfl⟩ := List.mem_map.1 hx
        obtain ⟨_, _, _, hP⟩ := hg i (List.mem_range.1 hi')
        exact hP
      · intro k u hu
        have hk : k < len := by
          have := (List.getElem?_eq_some_iff.1 hu).1
          simpa using this
        obtain ⟨cs', hc, rfl, _⟩ := hg k hk
        obtain ⟨_, _, hat⟩ := World.cells?_some hc
        have c0 := hat 0 (by omega)
        simp only [List.getElem?_cons_zero] at c0
        rw [Deep.add_add, (add_spot a _ hsp).1] at c0
        have hu' : u = f (g k) := by
          simp [hk] at hu
          exact hu.symm
        subst hu'
        exact ⟨a.block, a.off, congrArg some (add_spot a 0 hsp).2, by simpa using c0⟩
theorem cellsN : Tryd.prog.cellsOf 2 = 1 := by kernel_rfl
theorem cellsT : Tryd.prog.cellsOf 9 = 1 := by kernel_rfl
theorem open_nums {fuel : Nat} {v : Value} {y : DataW H × List MemPlace} (hf : DataW.trod enc Tryd.prog w base spare held fuel 23 [v] = some y) :
    ∃ (A : Option Addr) (cap : Nat) (xs : List Int), v = .slice A xs.length cap ∧ xs.length ≤ cap ∧ cap ≤ maxLen ∧ Fits64 xs ∧ VAt w A (nums xs) ∧ (A = none → cap = 0) ∧ ((∀ n ∈ y.1.weights Tryd.prog 23, n ≤ reachBytes) → xs.length * Tryd.prog.bytesOf 2 ≤ reachBytes) :=
  open_vals (Value.int .i64) (fun x => -9223372036854775808 ≤ x ∧ x ≤ 9223372036854775807) Tryd.underlying23 cellsN (fun h => by
    obtain ⟨n, rfl, _, hw⟩ := DataW.trod_int Tryd.underlying2 h
    exact ⟨n, rfl, by simp [Lit.wf, IntKind.min, IntKind.max, IntKind.bits, IntKind.signed] at hw; omega⟩) hf
theorem open_texts {fuel : Nat} {v : Value} {y : DataW H × List MemPlace} (hf : DataW.trod enc Tryd.prog w base spare held fuel 24 [v] = some y) :
    ∃ (A : Option Addr) (cap : Nat) (xs : List ByteArray), v = .slice A xs.length cap ∧ xs.length ≤ cap ∧ cap ≤ maxLen ∧ (∀ x ∈ xs, x.size ≤ maxLen) ∧ VAt w A (texts xs) ∧ (A = none → cap = 0) ∧ ((∀ n ∈ y.1.weights Tryd.prog 24, n ≤ reachBytes) → xs.length * Tryd.prog.bytesOf 9 ≤ reachBytes) :=
  open_vals Value.string (fun x => x.size ≤ maxLen) Tryd.underlying24 cellsT (fun h => by
    obtain ⟨s, rfl, _, hw⟩ := DataW.trod_string Tryd.underlying9 h
    exact ⟨s, rfl, hw⟩) hf
theorem open_u8 {fuel : Nat} {v : Value} {y : DataW H × List MemPlace} (hf : DataW.trod enc Tryd.prog w base spare held fuel 5 [v] = some y) : ∃ n : Nat, n < 256 ∧ v = .int .u8 n := by
  obtain ⟨n, hv, _, hw⟩ := DataW.trod_int Tryd.underlying5 hf
  have hb := bounds_u8 hw
  obtain ⟨m, rfl⟩ := Int.eq_ofNat_of_zero_le hb.1
  exact ⟨m, by omega, by simpa using hv⟩
set_option maxRecDepth 100000 in
theorem bytesN : Tryd.prog.bytesOf 2 = 8 := by kernel_rfl
theorem bytesT : Tryd.prog.bytesOf 9 = 16 := by kernel_rfl
set_option maxRecDepth 100000 in
theorem open_ev {v : Value} {d : DataW H} {p : List MemPlace} {r : Reach} {b0 : Nat} (hv : Value.okWide Tryd.prog w r b0 26 v) (h : DataW.Trod enc Tryd.prog w base spare held 26 v d p) :
    ∃ (A : Option Addr) (ca : Nat) (B : Option Addr) (cb : Nat) (e : Ev), v = evV A ca B cb e ∧ EvAt w A ca B cb e ∧ ca ≤ maxLen ∧ cb ≤ maxLen ∧ ((∀ n ∈ d.weights Tryd.prog 26, n ≤ reachBytes) → e.ns.length ≤ 140737488355328 ∧ e.ts.length ≤ 140737488355328) := by
  obtain ⟨v0, v1, v2, v3, y0, y1, y2, y3, n, rfl, rfl, _, h0, h1, h2, h3⟩ := Joins.open_agg4 Tryd.underlying26 (by kernel_rfl) (by kernel_rfl) hv h
  obtain ⟨a, ha, rfl⟩ := open_u8 h0
  obtain ⟨b, hb, rfl⟩ := open_u8 h1
  obtain ⟨A, ca, xs, rfl, l1, m1, f1, t1, n1, r1⟩ := open_nums h2
  obtain ⟨B, cb, ys, rfl, l2, m2, f2, t2, n2, r2⟩ := open_texts h3
  exact ⟨A, ca, B, cb, ⟨a, b, xs, ys⟩, rfl, ⟨ha, hb, f1, f2, t1, t2, n1, n2, l1, l2⟩, m1, m2, fun hw => by
    have hw' : ∀ n ∈ DataW.weightsEach Tryd.prog [5, 5, 23, 24] [y0.1, y1.1, y2.1, y3.1], n ≤ reachBytes := fun n hn => hw n (by simp only [DataW.weights, Tryd.underlying26]; exact hn)
    have q1 := r1 (fun n hn => hw' n (DataW.weights_mem_each (j := 2) rfl rfl n hn))
    have q2 := r2 (fun n hn => hw' n (DataW.weights_mem_each (j := 3) rfl rfl n hn))
    rw [bytesN] at q1
    rw [bytesT] at q2
    unfold reachBytes at q1 q2
    exact ⟨by simp only []; omega, by simp only []; omega⟩⟩
/-! ### the listed variables -/
theorem listed_plain (w : World) : laidMetH Tryd.prog listed w = laidMet Tryd.prog listed w := MakeChecks.laidMetH_plain _ _ _ (by kernel_rfl)
theorem env_ofH {W : World} (h : laidMetH Tryd.prog listed W) : Env W := env_of (by rw [← listed_plain]; exact h)
theorem own : ownKnob Tryd.prog.godebug = none := by kernel_rfl
theorem met (os : Os) (args : Array Value) : laidMetH Tryd.prog listed ((World.laidAll Tryd.prog os listed).forCall (fun _ _ => 0) ⟨#[], args, []⟩).memory := by
  rw [listed_plain]; exact laidMet_laidAll _ (by kernel_rfl) (by kernel_rfl)

end Go.Proofs.YtefkfjbdmglkjaaDoor.Schema
