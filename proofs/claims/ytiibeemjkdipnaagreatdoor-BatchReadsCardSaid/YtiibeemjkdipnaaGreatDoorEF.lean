import Derived.Test.YtiibeemjkdipnaaGreatDoorE13
import Derived.ProofKit
import Derived.OpenShut
import Derived.ChangeSlices
import Derived.Deep.Slices
import Derived.Lib.SmallJoins
import Derived.MakeChecks
import Derived.SizedLaws
/-
  Events and commands that came in, opened; a world that holds the listed variables.
-/
namespace Go.Proofs.YtiibeemjkdipnaaGreatDoor.Schema
open Go Go.ChangeShapes Go.WideShapes Go.ChangeAt Go.RowKit

theorem cell_spot {w : World} {a : Addr} {v : Value} (h : w.cell? a = some v) : a.spot = none := by
  unfold World.cell? at h
  split at h
  · split at h
    · cases h
    · rename_i hs; simpa using hs
  · cases h
theorem add_spot (a : Addr) (i : Nat) (hs : a.spot = none) : a.add i = ⟨a.block, a.off + i, none⟩ ∧ a = ⟨a.block, a.off, none⟩ := by
  obtain ⟨b, o, s⟩ := a
  simp only [] at hs
  subst hs
  exact ⟨addr_add b o i, rfl⟩

variable {H : Type} {enc : TypeId × Value → H} {w : World} {base : Nat} {spare : Nat → Bool} {held : Bool}
set_option maxRecDepth 100000 in
/-- a slice of one-cell values, opened -/
theorem open_vals {α : Type} {T E : TypeId} (f : α → Value) (P : α → Prop) (hT : Tryz.prog.underlying T = some (.slice E)) (hE : Tryz.prog.cellsOf E = 1)
    (one : ∀ {n : Nat} {cs : List Value} {y : DataW H × List MemPlace}, DataW.trod enc Tryz.prog w base spare held n E cs = some y → ∃ x, cs = [f x] ∧ P x)
    {fuel : Nat} {v : Value} {y : DataW H × List MemPlace} (hf : DataW.trod enc Tryz.prog w base spare held fuel T [v] = some y) :
    ∃ (A : Option Addr) (cap : Nat) (xs : List α), v = .slice A xs.length cap ∧ xs.length ≤ cap ∧ cap ≤ maxLen ∧ (∀ x ∈ xs, P x) ∧ VAt w A (xs.map f) ∧ (A = none → cap = 0) ∧ ((∀ n ∈ y.1.weights Tryz.prog T, n ≤ reachBytes) → xs.length * Tryz.prog.bytesOf E ≤ reachBytes) := by
  rcases Deep.open_slice hT hf with ⟨hcs, _⟩ | ⟨a, len, cap, m, n, D, Pl, hcs, hb, hl, hm, hmm, hx, hi⟩
  · have e : v = .slice none 0 0 := by simpa using hcs
    subst e
    exact ⟨none, 0, [], rfl, Nat.le_refl _, Nat.zero_le _, (fun x hx => by cases hx), VAt.nil _ _, (fun _ => rfl), fun _ => by simp⟩
  · have hwt : (∀ n ∈ y.1.weights Tryz.prog T, n ≤ reachBytes) → len * Tryz.prog.bytesOf E ≤ reachBytes := fun h => by
      rw [hx] at h
      have := h _ (by simp only [DataW.weights, hT]; exact List.mem_cons_self)
      simp only [List.length_map, List.length_range] at this
      exact Nat.le_trans (Nat.mul_le_mul_right _ (Nat.le_add_right _ _)) this
    have e : v = .slice (some a) len cap := by simpa using hcs
    subst e
    have hlm : len ≤ m := by rw [hmm]; split <;> omega
    rw [hE] at hi
    have hch : ∀ i, i < len → ∃ x : α, ∃ cs', w.cells? base (a.add (i * 1)) 1 = some cs' ∧ cs' = [f x] ∧ P x := fun i hil => by
      obtain ⟨cs', hc, ht⟩ := hi i (by omega)
      obtain ⟨x, hx, hok⟩ := one ht
      exact ⟨x, cs', hc, hx, hok⟩
    by_cases h0 : len = 0
    · subst h0
      exact ⟨some a, cap, [], rfl, Nat.zero_le _, hm, (fun x hx => by cases hx), VAt.nil _ _, (fun h => by cases h), fun _ => by simp⟩
    · obtain ⟨x0, cs0, hc0, rfl, _⟩ := hch 0 (by omega)
      have hsp : a.spot = none := by
        obtain ⟨_, _, hat⟩ := World.cells?_some hc0
        have c0 := hat 0 (by omega)
        simp only [List.getElem?_cons_zero] at c0
        rw [Deep.add_add] at c0
        have := cell_spot c0
        simpa [Addr.add] using this
      haveI : Inhabited α := ⟨x0⟩
      obtain ⟨g, hg⟩ := Deep.choose_lt (α := α) (n := len) (p := fun i x => ∃ cs', w.cells? base (a.add (i * 1)) 1 = some cs' ∧ cs' = [f x] ∧ P x) hch
      refine ⟨some a, cap, (List.range len).map g, by simp, by simpa using hl, hm, ?_, ?_, (fun h => by cases h), fun h => by simpa using hwt h⟩
      · intro x hx
        obtain ⟨i, hi', rfl⟩ := List.mem_map.1 hx
        obtain ⟨_, _, _, hP⟩ := hg i (List.mem_range.1 hi')
        exact hP
      · intro k u hu
        have hk : k < len := by
          have := (List.getElem?_eq_some_iff.1 hu).1
          simpa using this
        obtain ⟨cs', hc, rfl, _⟩ := hg k hk
        obtain ⟨_, _, hat⟩ := World.cells?_some hc
        have c0 := hat 0 (by omega)
        simp only [List.getElem?_cons_zero] at c0
        rw [Deep.add_add, (add_spot a _ hsp).1] at c0
        have hu' : u = f (g k) := by
          simp [hk] at hu
          exact hu.symm
        subst hu'
        exact ⟨a.block, a.off, congrArg some (add_spot a 0 hsp).2, by simpa using c0⟩
theorem cellsN : Tryz.prog.cellsOf 2 = 1 := by kernel_rfl
theorem cellsT : Tryz.prog.cellsOf 9 = 1 := by kernel_rfl
theorem open_nums {fuel : Nat} {v : Value} {y : DataW H × List MemPlace} (hf : DataW.trod enc Tryz.prog w base spare held fuel 36 [v] = some y) :
    ∃ (A : Option Addr) (cap : Nat) (xs : List Int), v = .slice A xs.length cap ∧ xs.length ≤ cap ∧ cap ≤ maxLen ∧ Fits64 xs ∧ VAt w A (nums xs) ∧ (A = none → cap = 0) ∧ ((∀ n ∈ y.1.weights Tryz.prog 36, n ≤ reachBytes) → xs.length * Tryz.prog.bytesOf 2 ≤ reachBytes) :=
  open_vals (Value.int .i64) (fun x => -9223372036854775808 ≤ x ∧ x ≤ 9223372036854775807) Tryz.underlying36 cellsN (fun h => by
    obtain ⟨n, rfl, _, hw⟩ := DataW.trod_int Tryz.underlying2 h
    exact ⟨n, rfl, by simp [Lit.wf, IntKind.min, IntKind.max, IntKind.bits, IntKind.signed] at hw; omega⟩) hf
theorem open_texts {fuel : Nat} {v : Value} {y : DataW H × List MemPlace} (hf : DataW.trod enc Tryz.prog w base spare held fuel 37 [v] = some y) :
    ∃ (A : Option Addr) (cap : Nat) (xs : List ByteArray), v = .slice A xs.length cap ∧ xs.length ≤ cap ∧ cap ≤ maxLen ∧ (∀ x ∈ xs, x.size ≤ maxLen) ∧ VAt w A (texts xs) ∧ (A = none → cap = 0) ∧ ((∀ n ∈ y.1.weights Tryz.prog 37, n ≤ reachBytes) → xs.length * Tryz.prog.bytesOf 9 ≤ reachBytes) :=
  open_vals Value.string (fun x => x.size ≤ maxLen) Tryz.underlying37 cellsT (fun h => by
    obtain ⟨s, rfl, _, hw⟩ := DataW.trod_string Tryz.underlying9 h
    exact ⟨s, rfl, hw⟩) hf
theorem open_u8 {fuel : Nat} {v : Value} {y : DataW H × List MemPlace} (hf : DataW.trod enc Tryz.prog w base spare held fuel 5 [v] = some y) : ∃ n : Nat, n < 256 ∧ v = .int .u8 n := by
  obtain ⟨n, hv, _, hw⟩ := DataW.trod_int Tryz.underlying5 hf
  have hb := bounds_u8 hw
  obtain ⟨m, rfl⟩ := Int.eq_ofNat_of_zero_le hb.1
  exact ⟨m, by omega, by simpa using hv⟩
set_option maxRecDepth 100000 in
theorem bytesN : Tryz.prog.bytesOf 2 = 8 := by kernel_rfl
theorem bytesT : Tryz.prog.bytesOf 9 = 16 := by kernel_rfl
set_option maxRecDepth 100000 in
theorem open_ev {v : Value} {d : DataW H} {p : List MemPlace} {r : Reach} {b0 : Nat} (hv : Value.okWide Tryz.prog w r b0 39 v) (h : DataW.Trod enc Tryz.prog w base spare held 39 v d p) :
    ∃ (A : Option Addr) (ca : Nat) (B : Option Addr) (cb : Nat) (e : Ev), v = evV A ca B cb e ∧ EvAt w A ca B cb e ∧ ca ≤ maxLen ∧ cb ≤ maxLen ∧ ((∀ n ∈ d.weights Tryz.prog 39, n ≤ reachBytes) → e.ns.length ≤ 140737488355328 ∧ e.ts.length ≤ 140737488355328) := by
  obtain ⟨v0, v1, v2, v3, y0, y1, y2, y3, n, rfl, rfl, _, h0, h1, h2, h3⟩ := Joins.open_agg4 Tryz.underlying39 (by kernel_rfl) (by kernel_rfl) hv h
  obtain ⟨a, ha, rfl⟩ := open_u8 h0
  obtain ⟨b, hb, rfl⟩ := open_u8 h1
  obtain ⟨A, ca, xs, rfl, l1, m1, f1, t1, n1, r1⟩ := open_nums h2
  obtain ⟨B, cb, ys, rfl, l2, m2, f2, t2, n2, r2⟩ := open_texts h3
  exact ⟨A, ca, B, cb, ⟨a, b, xs, ys⟩, rfl, ⟨ha, hb, f1, f2, t1, t2, n1, n2, l1, l2⟩, m1, m2, fun hw => by
    have hw' : ∀ n ∈ DataW.weightsEach Tryz.prog [5, 5, 36, 37] [y0.1, y1.1, y2.1, y3.1], n ≤ reachBytes := fun n hn => hw n (by simp only [DataW.weights, Tryz.underlying39]; exact hn)
    have q1 := r1 (fun n hn => hw' n (DataW.weights_mem_each (j := 2) rfl rfl n hn))
    have q2 := r2 (fun n hn => hw' n (DataW.weights_mem_each (j := 3) rfl rfl n hn))
    rw [bytesN] at q1
    rw [bytesT] at q2
    unfold reachBytes at q1 q2
    exact ⟨by simp only []; omega, by simp only []; omega⟩⟩
/-! ### the listed variables -/
theorem listed_plain (w : World) : laidMetH Tryz.prog listed w = laidMet Tryz.prog listed w := MakeChecks.laidMetH_plain _ _ _ (by kernel_rfl)
theorem env_ofH {W : World} (h : laidMetH Tryz.prog listed W) : Env W := env_of (by rw [← listed_plain]; exact h)
theorem own : ownKnob Tryz.prog.godebug = none := by kernel_rfl
theorem met (os : Os) (args : Array Value) : laidMetH Tryz.prog listed ((World.laidAll Tryz.prog os listed).forCall (fun _ _ => 0) ⟨#[], args, []⟩).memory := by
  rw [listed_plain]; exact laidMet_laidAll _ (by kernel_rfl) (by kernel_rfl)

end Go.Proofs.YtiibeemjkdipnaaGreatDoor.Schema

/-
  Rows of events: slices of events that came in, opened; what lies in one; events appended to one of the call's own.
-/
namespace Go.Proofs.YtiibeemjkdipnaaGreatDoor.Schema
open Go Go.ChangeShapes Go.WideShapes Go.ChangeAt Go.RowKit

/-- an event, and where its numbers and texts lie -/
structure Lx where
  A : Option Addr
  ca : Nat
  C : Option Addr
  cc : Nat
  e : Ev
instance : Inhabited Lx := ⟨⟨none, 0, none, 0, ⟨0, 0, [], []⟩⟩⟩
def lxC (x : Lx) : List Value := [.int .u8 x.e.v, .int .u8 x.e.k, .slice x.A x.e.ns.length x.ca, .slice x.C x.e.ts.length x.cc]
def LxAt (w : World) (x : Lx) : Prop := EvAt w x.A x.ca x.C x.cc x.e
theorem LxAt.below {w w' : World} {x : Lx} (h : LxAt w x) (hb : Below w.heap.size w w') : LxAt w' x := EvAt.below h hb
/-- the cells of a row -/
def cellsX (xs : List Lx) : List Value := xs.flatMap lxC
theorem cellsX_len (xs : List Lx) : (cellsX xs).length = xs.length * 4 := by
  unfold cellsX
  induction xs with
  | nil => rfl
  | cons x xs ih => rw [List.flatMap_cons, List.length_append, ih, List.length_cons]; show 4 + _ = _; omega
theorem cellsX_at (xs : List Lx) (k j : Nat) (hk : k < xs.length) (hj : j < 4) : (cellsX xs)[k * 4 + j]? = (lxC xs[k])[j]? := by
  unfold cellsX
  induction xs generalizing k with
  | nil => exact absurd hk (by simp)
  | cons x xs ih =>
    rw [List.flatMap_cons]
    cases k with
    | zero => rw [List.getElem?_append_left (by show _ < 4; omega)]; simp
    | succ k =>
      rw [List.getElem?_append_right (by show 4 ≤ _; omega)]
      have := ih k (by simpa using hk)
      rw [show (k + 1) * 4 + j - (lxC x).length = k * 4 + j by show (k + 1) * 4 + j - 4 = _; omega]
      simpa using this
theorem cellsX_snoc (xs : List Lx) (x : Lx) : cellsX (xs ++ [x]) = cellsX xs ++ lxC x := by unfold cellsX; rw [List.flatMap_append]; simp
theorem lxC_cell (x : Lx) : ∀ u ∈ lxC x, u.oneCell' = true := by
  intro u hu
  unfold lxC at hu
  simp only [List.mem_cons, List.not_mem_nil, or_false] at hu
  rcases hu with rfl | rfl | rfl | rfl <;> rfl
theorem cellsX_cell (xs : List Lx) : ∀ u ∈ cellsX xs, u.oneCell' = true := fun u hu => by
  obtain ⟨x, _, h⟩ := List.mem_flatMap.1 hu
  exact lxC_cell x u h

/-- these events lie one behind the other from A on -/
def Row (w : World) (A : Option Addr) (xs : List Lx) : Prop := VAt w A (cellsX xs) ∧ ∀ x ∈ xs, LxAt w x
theorem Row.below {w w' : World} {A : Option Addr} {xs : List Lx} (h : Row w A xs) (hb : Below w.heap.size w w') : Row w' A xs := ⟨h.1.below hb, fun x hx => (h.2 x hx).below hb⟩
theorem Row.nil (w : World) (A : Option Addr) : Row w A [] := ⟨VAt.nil _ _, fun x hx => by cases hx⟩
theorem Row.at {w : World} {A : Option Addr} {xs : List Lx} (h : Row w A xs) (k : Nat) (hk : k < xs.length) : ∃ b o, A = some ⟨b, o, none⟩ ∧ b < w.heap.size ∧
    w.cell? ⟨b, o + k * 4, none⟩ = some (.int .u8 xs[k].e.v) ∧ w.cell? ⟨b, o + k * 4 + 1, none⟩ = some (.int .u8 xs[k].e.k) ∧
    w.cell? ⟨b, o + k * 4 + 2, none⟩ = some (.slice xs[k].A xs[k].e.ns.length xs[k].ca) ∧ w.cell? ⟨b, o + k * 4 + 3, none⟩ = some (.slice xs[k].C xs[k].e.ts.length xs[k].cc) ∧ LxAt w xs[k] := by
  obtain ⟨b, o, hA, c0⟩ := h.1 (k * 4) (.int .u8 xs[k].e.v) (by have := cellsX_at xs k 0 hk (by omega); simpa [lxC] using this)
  have get : ∀ j u, j < 4 → (lxC xs[k])[j]? = some u → w.cell? ⟨b, o + (k * 4 + j), none⟩ = some u := fun j u hj hu => by
    obtain ⟨b', o', hA', c⟩ := h.1 (k * 4 + j) u (by rw [cellsX_at xs k j hk hj]; exact hu)
    rw [hA] at hA'
    injection hA' with e; injection e with e1 e2; subst e1; subst e2
    exact c
  refine ⟨b, o, hA, cell_lt c0, c0, ?_, ?_, ?_, h.2 _ (List.getElem_mem hk)⟩
  · rw [Nat.add_assoc]; exact get 1 _ (by omega) rfl
  · rw [Nat.add_assoc]; exact get 2 _ (by omega) rfl
  · rw [Nat.add_assoc]; exact get 3 _ (by omega) rfl
theorem lx_v (x : Lx) : evV x.A x.ca x.C x.cc x.e = .agg #[.int .u8 x.e.v, .int .u8 x.e.k, .slice x.A x.e.ns.length x.ca, .slice x.C x.e.ts.length x.cc] := rfl

/-! ### a row that came in, opened -/
theorem weights_mem_all {H : Type} {P : Program} {e : TypeId} : ∀ {ds : List (DataW H)} {d : DataW H}, d ∈ ds → ∀ n ∈ d.weights P e, n ∈ DataW.weightsAll P e ds
  | d0 :: ds, d, hd, n, hn => by
    simp only [DataW.weightsAll, List.mem_append]
    rcases List.mem_cons.1 hd with rfl | hd
    · exact Or.inl hn
    · exact Or.inr (weights_mem_all hd n hn)
  | [], _, hd, _, _ => by cases hd

variable {H : Type} {enc : TypeId × Value → H} {w : World} {base : Nat} {spare : Nat → Bool} {held : Bool}
def Light (x : Lx) : Prop := x.e.ns.length * 8 ≤ 140737488351232 ∧ x.e.ts.length * 16 ≤ 140737488351232
set_option maxRecDepth 100000 in
theorem open_evc {fuel : Nat} {cs : List Value} {y : DataW H × List MemPlace} (h : DataW.trod enc Tryz.prog w base spare held fuel 39 cs = some y) :
    ∃ x : Lx, cs = lxC x ∧ LxAt w x ∧ ((∀ n ∈ y.1.weights Tryz.prog 39, n ≤ reachBytes) → Light x) := by
  obtain ⟨xs, n, _, rfl, hlen, hxl, hg⟩ := DataW.trod_struct Tryz.underlying39 h
  have hC : Tryz.prog.cellsOf 39 = 4 := by kernel_rfl
  have k0 : Tryz.prog.cellsOf 5 = 1 := by kernel_rfl
  have k1 : Tryz.prog.cellsOf 36 = 1 := by kernel_rfl
  have k2 : Tryz.prog.cellsOf 37 = 1 := by kernel_rfl
  rw [hC] at hlen
  match cs, hlen with
  | [c0, c1, c2, c3], _ =>
    have g0 := hg 0 _ rfl
    have g1 := hg 1 _ rfl
    have g2 := hg 2 _ rfl
    have g3 := hg 3 _ rfl
    match xs, hxl with
    | [y0, y1, y2, y3], _ =>
      simp only [k0, k1, k2, List.drop_zero, List.drop_succ_cons, List.take_succ_cons, List.take_zero, List.getElem?_cons_zero, List.getElem?_cons_succ] at g0 g1 g2 g3
      obtain ⟨a, ha, rfl⟩ := open_u8 g0
      obtain ⟨b, hb, rfl⟩ := open_u8 g1
      obtain ⟨A, ca, us, rfl, l1, m1, f1, t1, n1, r1⟩ := open_nums g2
      obtain ⟨B, cb, ys, rfl, l2, m2, f2, t2, n2, r2⟩ := open_texts g3
      refine ⟨⟨A, ca, B, cb, ⟨a, b, us, ys⟩⟩, rfl, ⟨ha, hb, f1, f2, t1, t2, n1, n2, l1, l2⟩, fun hw => ?_⟩
      have hw' : ∀ n ∈ DataW.weightsEach Tryz.prog [5, 5, 36, 37] [y0.1, y1.1, y2.1, y3.1], n ≤ reachBytes := fun n hn => hw n (by simp only [DataW.weights, Tryz.underlying39]; exact hn)
      have q1 := r1 (fun n hn => hw' n (DataW.weights_mem_each (j := 2) rfl rfl n hn))
      have q2 := r2 (fun n hn => hw' n (DataW.weights_mem_each (j := 3) rfl rfl n hn))
      rw [bytesN] at q1
      rw [bytesT] at q2
      unfold reachBytes at q1 q2
      exact ⟨by simp only []; omega, by simp only []; omega⟩
theorem cellsE : Tryz.prog.cellsOf 39 = 4 := by kernel_rfl
theorem bytesE : Tryz.prog.bytesOf 39 = 56 := by kernel_rfl
set_option maxRecDepth 100000 in
theorem open_evs {v : Value} {d : DataW H} {p : List MemPlace} {r : Reach} {b0 : Nat} (hv : Value.okWide Tryz.prog w r b0 22 v) (h : DataW.Trod enc Tryz.prog w base spare held 22 v d p) :
    ∃ (A : Option Addr) (cap : Nat) (xs : List Lx), v = .slice A xs.length cap ∧ xs.length ≤ cap ∧ cap ≤ maxLen ∧ Row w A xs ∧ (A = none → cap = 0) ∧ ((∀ n ∈ d.weights Tryz.prog 22, n ≤ reachBytes) → xs.length ≤ 2513169434917 ∧ ∀ x ∈ xs, Light x) := by
  obtain ⟨A0, len0, cap0, rfl⟩ := okWide_slice Tryz.underlying22 hv
  obtain ⟨fuel, hf⟩ := h
  rcases Deep.open_slice Tryz.underlying22 hf with ⟨hcs, hd⟩ | ⟨a, len, cap, m, n, D, Pl, hcs, hb, hl, hm, hmm, hx, hi⟩
  · have e : Value.slice A0 len0 cap0 = .slice none 0 0 := by simpa [Value.cells] using hcs
    injection e with e1 e2 e3
    subst e1 e2 e3
    exact ⟨none, 0, [], rfl, Nat.le_refl _, Nat.zero_le _, Row.nil _ _, (fun _ => rfl), fun _ => ⟨Nat.zero_le _, fun x hx => by cases hx⟩⟩
  · have e : Value.slice A0 len0 cap0 = .slice (some a) len cap := by simpa [Value.cells] using hcs
    injection e with e1 e2 e3
    subst e1 e2 e3
    have hlm : len0 ≤ m := by rw [hmm]; split <;> omega
    rw [cellsE] at hi
    have hch : ∀ i, i < len0 → ∃ x : Lx, ∃ cs', w.cells? base (a.add (i * 4)) 4 = some cs' ∧ cs' = lxC x ∧ LxAt w x ∧ ((∀ n ∈ (D i).weights Tryz.prog 39, n ≤ reachBytes) → Light x) := fun i hil => by
      obtain ⟨cs', hc, ht⟩ := hi i (by omega)
      obtain ⟨x, hx, h1, h2⟩ := open_evc ht
      exact ⟨x, cs', hc, hx, h1, h2⟩
    obtain ⟨g, hg⟩ := Deep.choose_lt (α := Lx) (n := len0) (p := fun i x => ∃ cs', w.cells? base (a.add (i * 4)) 4 = some cs' ∧ cs' = lxC x ∧ LxAt w x ∧ ((∀ n ∈ (D i).weights Tryz.prog 39, n ≤ reachBytes) → Light x)) hch
    refine ⟨some a, cap0, (List.range len0).map g, by simp, by simpa using hl, hm, ⟨?_, ?_⟩, (fun h => by cases h), fun hw => ?_⟩
    · intro q u hu
      have hq : q < len0 * 4 := by
        have := (List.getElem?_eq_some_iff.1 hu).1
        rw [cellsX_len] at this
        simpa using this
      have hdiv : q = q / 4 * 4 + q % 4 := by omega
      have hk : q / 4 < len0 := by omega
      have hj : q % 4 < 4 := by omega
      have hu' : (lxC (g (q / 4)))[q % 4]? = some u := by
        have := cellsX_at ((List.range len0).map g) (q / 4) (q % 4) (by simpa using hk) hj
        rw [← hdiv, hu] at this
        simpa using this.symm
      obtain ⟨cs', hc, rfl, _⟩ := hg (q / 4) hk
      obtain ⟨_, _, hat⟩ := World.cells?_some hc
      have c0 := hat (q % 4) (by omega)
      rw [hu', Deep.add_add] at c0
      rw [← hdiv] at c0
      have hsp : a.spot = none := by
        obtain ⟨cs0, hc0, rfl, _⟩ := hg 0 (by omega)
        obtain ⟨_, _, hat0⟩ := World.cells?_some hc0
        have z0 := hat0 0 (by omega)
        rw [show (lxC (g 0))[0]? = some (.int .u8 (g 0).e.v) from rfl, Deep.add_add] at z0
        have := cell_spot z0
        simpa [Addr.add] using this
      rw [(add_spot a _ hsp).1] at c0
      exact ⟨a.block, a.off, congrArg some (add_spot a 0 hsp).2, c0⟩
    · intro x hx
      obtain ⟨i, hi', rfl⟩ := List.mem_map.1 hx
      obtain ⟨_, _, _, h, _⟩ := hg i (List.mem_range.1 hi')
      exact h
    · rw [show d = .slice ((List.range len0).map D) ((List.range (m - len0)).map fun j => D (len0 + j)) from congrArg Prod.fst hx] at hw
      have hw' : ∀ n ∈ (((List.range len0).map D).length + ((List.range (m - len0)).map fun j => D (len0 + j)).length) * Tryz.prog.bytesOf 39 :: (DataW.weightsAll Tryz.prog 39 ((List.range len0).map D) ++ DataW.weightsAll Tryz.prog 39 ((List.range (m - len0)).map fun j => D (len0 + j))), n ≤ reachBytes := fun n hn => hw n (by simp only [DataW.weights, Tryz.underlying22]; exact hn)
      constructor
      · have := hw' _ List.mem_cons_self
        rw [bytesE] at this
        simp only [List.length_map, List.length_range] at this ⊢
        unfold reachBytes at this
        omega
      · intro x hx
        obtain ⟨i, hi', rfl⟩ := List.mem_map.1 hx
        obtain ⟨_, _, _, _, h⟩ := hg i (List.mem_range.1 hi')
        exact h fun n hn => hw' n (List.mem_cons_of_mem _ (List.mem_append_left _ (weights_mem_all (List.mem_map.2 ⟨i, hi', rfl⟩) n hn)))

/-! ### a row of the call's own -/
def OwnR (w : World) (base : Nat) (v : Value) (xs : List Lx) : Prop := w.ownsRow base 39 4 v xs.length (cellsX xs)
theorem OwnR.nil (w : World) (base : Nat) : OwnR w base (.slice none 0 0) [] := World.ownsRow_nil w base _ _
theorem OwnR.below {w w' : World} {base : Nat} {v : Value} {xs : List Lx} (h : OwnR w base v xs) (hb : Below w.heap.size w w') : OwnR w' base v xs := by
  obtain ⟨h1, h2⟩ := h
  refine ⟨h1, ?_⟩
  rcases h2 with h2 | ⟨g, cap, cur, e, hbg, hg, r⟩
  · exact Or.inl h2
  · exact Or.inr ⟨g, cap, cur, e, hbg, by rw [hb.block g (Array.getElem?_eq_some_iff.1 hg).1]; exact hg, r⟩
theorem OwnR.vat {w : World} {base : Nat} {v : Value} {xs : List Lx} (h : OwnR w base v xs) : ∃ (A : Option Addr) (cap : Nat), v = .slice A xs.length cap ∧ VAt w A (cellsX xs) ∧ (A = none → cap = 0) ∧ xs.length ≤ cap ∧ cap ≤ maxLen := by
  obtain ⟨_, h⟩ := h
  rcases h with ⟨rfl, h0⟩ | ⟨g, cap, cur, rfl, hb, hg, hn, hc, hs, ht⟩
  · have : xs = [] := List.eq_nil_of_length_eq_zero h0
    subst this
    exact ⟨none, 0, rfl, VAt.nil _ _, fun _ => rfl, Nat.le_refl _, Nat.zero_le _⟩
  · refine ⟨_, cap, rfl, fun k u hu => ⟨g, 0, rfl, ?_⟩, (fun h => by cases h), hn, hc⟩
    have hk : k < xs.length * 4 := by
      have := (List.getElem?_eq_some_iff.1 hu).1
      rw [cellsX_len] at this; exact this
    have e : cur[k]? = some u := by
      have h1 : (cellsX xs)[k]? = cur.toList[k]? := by
        conv => lhs; rw [← ht]
        rw [List.getElem?_take, if_pos hk]
      rw [← Array.getElem?_toList, ← h1, hu]
    simp [World.cell?, hg, e]
theorem infoE : (Tryz.prog.info? 39).map (fun i => (i.zero, i.size, i.bytes)) = some (some (.agg #[.int .u8 0, .int .u8 0, .slice none 0 0, .slice none 0 0]), 4, 56) := by kernel_rfl
theorem info_parts4 {P : Program} {E : TypeId} {z : Value} {n b : Nat} (h : (P.info? E).map (fun i => (i.zero, i.size, i.bytes)) = some (some z, n, b)) : ∃ i, P.info? E = some i ∧ i.zero = some z ∧ i.size = n ∧ i.bytes = b := by
  cases hi : P.info? E with
  | none => rw [hi] at h; cases h
  | some i =>
    rw [hi] at h
    simp only [Option.map_some, Option.some.injEq, Prod.mk.injEq] at h
    exact ⟨i, rfl, h.1, h.2.1, h.2.2⟩
/-- what a new block of four cells holds is one event's -/
theorem lx_new (w : World) (x : Lx) : VAt (w.alloc (.cells #[.int .u8 x.e.v, .int .u8 x.e.k, .slice x.A x.e.ns.length x.ca, .slice x.C x.e.ts.length x.cc] 39)) (some ⟨w.heap.size, 0, none⟩) (lxC x) := by
  intro k u h
  obtain ⟨q0, q1, q2, q3⟩ := box4 w (.int .u8 x.e.v) (.int .u8 x.e.k) (.slice x.A x.e.ns.length x.ca) (.slice x.C x.e.ts.length x.cc) 39
  match k with
  | 0 => obtain rfl : _ = u := by simpa [lxC] using h
         exact ⟨_, 0, rfl, q0⟩
  | 1 => obtain rfl : _ = u := by simpa [lxC] using h
         exact ⟨_, 0, rfl, q1⟩
  | 2 => obtain rfl : _ = u := by simpa [lxC] using h
         exact ⟨_, 0, rfl, q2⟩
  | 3 => obtain rfl : _ = u := by simpa [lxC] using h
         exact ⟨_, 0, rfl, q3⟩
  | k + 4 => simp [lxC] at h
set_option maxRecDepth 100000 in
/-- append of one event -/
theorem wp_append_ev {o : Oper} {a : Act} {w : World} {K : Act → World → Prop} {Q : Exit → Act → World → Prop} (s x : Operand)
    (ho : o.op = .call { callee := .builtin .append, args := #[s, x], argTypes := #[22, 22] })
    (base : Nat) (v : Value) (xs : List Lx) (hs : a.eval s = v) (hown : OwnR w base v xs)
    (ad : Addr) (cap : Nat) (y : Lx) (hx : a.eval x = .slice (some ad) 1 cap) (hn : VAt w (some ad) (lxC y))
    (hlen : xs.length ≤ 1000000) (hbase : base ≤ w.heap.size)
    (h : ∀ v' w', OwnR w' base v' (xs ++ [y]) → w.grownBy w' v.ownBlock → K (a.put o.dst v') w') : o.wp Tryz.prog a w K Q := by
  obtain ⟨i0, hi, hz0, hz1, hz2⟩ := info_parts4 infoE
  refine wp_append_own w s x 22 ho base 39 i0 _ 4 56 Tryz.underlying22 hi hz0 hz1 hz2 rfl (by decide) v xs.length (cellsX xs) hs hown ad 1 cap (lxC y) hx rfl ?_ (lxC_cell y) (by unfold maxLen; omega) (by omega) hbase ?_
  · intro j u hj
    obtain ⟨b, o, e, hc⟩ := hn j u hj
    injection e with e; subst e
    rw [addr_add, hc]
  · intro v' w' hown' hg _
    exact h v' w' (by unfold OwnR; rw [cellsX_snoc, List.length_append]; exact hown') hg
theorem wpList_append_ev {ops : Array Oper} {rest : List Oper} {o : Oper} {a : Act} {w : World} {Q : Exit → Act → World → Prop} (hgd : o.guard = none) (s x : Operand)
    (ho : o.op = .call { callee := .builtin .append, args := #[s, x], argTypes := #[22, 22] })
    (base : Nat) (v : Value) (xs : List Lx) (hs : a.eval s = v) (hown : OwnR w base v xs)
    (ad : Addr) (cap : Nat) (y : Lx) (hx : a.eval x = .slice (some ad) 1 cap) (hn : VAt w (some ad) (lxC y))
    (hlen : xs.length ≤ 1000000) (hbase : base ≤ w.heap.size)
    (h : ∀ v' w', OwnR w' base v' (xs ++ [y]) → w.grownBy w' v.ownBlock → wpList Tryz.prog ops Q rest (a.put o.dst v') w') : wpList Tryz.prog ops Q (o :: rest) a w :=
  wpList_plain hgd fun _ hK => wp_append_ev s x ho base v xs hs hown ad cap y hx hn hlen hbase fun v' w' h2 h3 => hK _ _ (h v' w' h2 h3)
theorem step_append_ev {ops : Array Oper} {o : Oper} {a : Act} {w : World} {K : Act → World → Prop} {Q : Exit → Act → World → Prop} {X : Prop} (hgd : o.guard = none) (s x : Operand)
    (ho : o.op = .call { callee := .builtin .append, args := #[s, x], argTypes := #[22, 22] })
    (base : Nat) (v : Value) (xs : List Lx) (hs : a.eval s = v) (hown : OwnR w base v xs)
    (ad : Addr) (cap : Nat) (y : Lx) (hx : a.eval x = .slice (some ad) 1 cap) (hn : VAt w (some ad) (lxC y))
    (hlen : xs.length ≤ 1000000) (hbase : base ≤ w.heap.size)
    (h : ∀ v' w', OwnR w' base v' (xs ++ [y]) → w.grownBy w' v.ownBlock → K (a.put o.dst v') w') :
    if Region.wanted o (yielded ops a.tmps) = true then Oper.wp Tryz.prog o a w K Q else X := by
  rw [if_pos (by simp [Region.wanted, hgd])]
  exact wp_append_ev s x ho base v xs hs hown ad cap y hx hn hlen hbase h
theorem OwnR.below_grown {B : Nat} {w w' : World} {v : Value} {base : Nat} {xs : List Lx} (ho : OwnR w base v xs) (hb : B ≤ base) (hB : B ≤ w.heap.size) (h : w.grownBy w' v.ownBlock) : Below B w w' :=
  ⟨h.os, h.tape, h.output, h.size, fun k hk => h.block k (by omega) (fun e => by
    have := World.ownsRow.lt ho k e.symm
    omega)⟩

end Go.Proofs.YtiibeemjkdipnaaGreatDoor.Schema
