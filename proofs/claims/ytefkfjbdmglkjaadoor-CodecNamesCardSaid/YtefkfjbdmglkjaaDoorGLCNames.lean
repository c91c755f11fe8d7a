import Derived.Test.YtefkfjbdmglkjaaDoorGN
import Derived.Test.YtefkfjbdmglkjaaDoorGLUnlike
/-
  The walk of the statement CodecNames.
-/
namespace Go.Proofs.YtefkfjbdmglkjaaDoor.Codec
open Go Go.RowKit
open Go.Proofs.YtefkfjbdmglkjaaDoor.Wire (Wr Only Rd Step U rdS new_any)
open Go.Proofs.YtefkfjbdmglkjaaDoor.Schema

theorem vat_new (w : World) (cs : Array Value) (T : TypeId) : VAt (w.alloc (.cells cs T)) (some ⟨w.heap.size, 0, none⟩) cs.toList := by
  intro k u h
  refine ⟨_, 0, rfl, ?_⟩
  rw [Nat.zero_add]
  unfold World.cell?
  rw [show (w.alloc _).heap[(⟨w.heap.size, k, none⟩ : Addr).block]? = _ from (MapKept.heap_alloc w _).1]
  simpa using h
theorem ev_plain {w : World} {A : Option Addr} (v k : Nat) (ns : List Int) (hv : v < 256) (hk : k < 256) (hf : Fits64 ns) (h : VAt w A (nums ns)) (h0 : A = none → ns = []) : LxAt w ⟨A, ns.length, none, 0, ⟨v, k, ns, []⟩⟩ :=
  ⟨hv, hk, hf, (fun t ht => by cases ht), h, VAt.nil _ _, (fun e => by rw [h0 e]; rfl), (fun _ => rfl), Nat.le_refl _, Nat.le_refl _⟩
theorem ev_named {w : World} {A C : Option Addr} (v k : Nat) (ns : List Int) (ts : List ByteArray) (hv : v < 256) (hk : k < 256) (hf : Fits64 ns) (ht : ∀ t ∈ ts, t.size ≤ maxLen) (h : VAt w A (nums ns)) (h2 : VAt w C (texts ts)) (h0 : A = none → ns = []) (h1 : C = none → ts = []) : LxAt w ⟨A, ns.length, C, ts.length, ⟨v, k, ns, ts⟩⟩ :=
  ⟨hv, hk, hf, ht, h, h2, (fun e => by rw [h0 e]; rfl), (fun e => by rw [h1 e]; rfl), Nat.le_refl _, Nat.le_refl _⟩
def fitsB (ns : List Int) : Bool := ns.all fun n => decide (-9223372036854775808 ≤ n ∧ n ≤ 9223372036854775807)
theorem fits_of {ns : List Int} (h : fitsB ns = true) : Fits64 ns := fun x hx => by simpa using List.all_eq_true.1 h x hx
/-- the rows: an event, and its bytes -/
abbrev R5 := Lx × ByteArray
def c5 (x : R5) : List Value := lxC x.1 ++ [.string x.2]
theorem c5_at (xs : List R5) (k j : Nat) (hk : k < xs.length) (hj : j < 5) : (xs.flatMap c5)[k * 5 + j]? = (c5 xs[k])[j]? := by
  induction xs generalizing k with
  | nil => exact absurd hk (by simp)
  | cons x xs ih =>
    rw [List.flatMap_cons]
    cases k with
    | zero => rw [List.getElem?_append_left (by show _ < 5; omega)]; simp
    | succ k =>
      rw [List.getElem?_append_right (by show 5 ≤ _; omega)]
      have := ih k (by simpa using hk)
      rw [show (k + 1) * 5 + j - (c5 x).length = k * 5 + j by show (k + 1) * 5 + j - 5 = _; omega]
      simpa using this
theorem r5_at {w : World} {A : Option Addr} {xs : List R5} (h : VAt w A (xs.flatMap c5)) (k : Nat) (hk : k < xs.length) : ∃ b o, A = some ⟨b, o, none⟩ ∧ b < w.heap.size ∧ w.cell? ⟨b, o + k * 5, none⟩ = some (.int .u8 xs[k].1.e.v) ∧ w.cell? ⟨b, o + k * 5 + 1, none⟩ = some (.int .u8 xs[k].1.e.k) ∧ w.cell? ⟨b, o + k * 5 + 2, none⟩ = some (.slice xs[k].1.A xs[k].1.e.ns.length xs[k].1.ca) ∧ w.cell? ⟨b, o + k * 5 + 3, none⟩ = some (.slice xs[k].1.C xs[k].1.e.ts.length xs[k].1.cc) ∧ w.cell? ⟨b, o + k * 5 + 4, none⟩ = some (.string xs[k].2) := by
  obtain ⟨b, o, hA, c0⟩ := h (k * 5) (.int .u8 xs[k].1.e.v) (by have := c5_at xs k 0 hk (by omega); simpa [c5, lxC] using this)
  have get : ∀ j u, j < 5 → (c5 xs[k])[j]? = some u → w.cell? ⟨b, o + (k * 5 + j), none⟩ = some u := fun j u hj hu => by
    obtain ⟨b', o', hA', c⟩ := h (k * 5 + j) u (by rw [c5_at xs k j hk hj]; exact hu)
    rw [hA] at hA'
    injection hA' with e; injection e with e1 e2; subst e1; subst e2
    exact c
  refine ⟨b, o, hA, cell_lt c0, c0, ?_, ?_, ?_, ?_⟩
  · rw [Nat.add_assoc]; exact get 1 _ (by omega) rfl
  · rw [Nat.add_assoc]; exact get 2 _ (by omega) rfl
  · rw [Nat.add_assoc]; exact get 3 _ (by omega) rfl
  · rw [Nat.add_assoc]; exact get 4 _ (by omega) rfl
theorem r2_at {w : World} {A : Option Addr} {xs : List (ByteArray × Nat)} (h : VAt w A (xs.flatMap fun y => [.string y.1, .int .i64 (y.2 : Int)])) (k : Nat) (hk : k < xs.length) : ∃ b o, A = some ⟨b, o, none⟩ ∧ b < w.heap.size ∧ w.cell? ⟨b, o + k * 2, none⟩ = some (.string xs[k].1) ∧ w.cell? ⟨b, o + k * 2 + 1, none⟩ = some (.int .i64 (xs[k].2 : Int)) := by
  have gen : ∀ (ys : List (ByteArray × Nat)) (k j : Nat) (hk : k < ys.length), j < 2 → (ys.flatMap fun y => [Value.string y.1, .int .i64 (y.2 : Int)])[k * 2 + j]? = [Value.string ys[k].1, .int .i64 (ys[k].2 : Int)][j]? := by
    intro ys
    induction ys with
    | nil => intro k j hk _; exact absurd hk (by simp)
    | cons y ys ih =>
      intro k j hk hj
      rw [List.flatMap_cons]
      cases k with
      | zero => rw [List.getElem?_append_left (by show _ < 2; omega)]; simp
      | succ k =>
        rw [List.getElem?_append_right (by show 2 ≤ _; omega)]
        have := ih k j (by simpa using hk) hj
        rw [show (k + 1) * 2 + j - [Value.string y.1, .int .i64 (y.2 : Int)].length = k * 2 + j by show (k + 1) * 2 + j - 2 = _; omega]
        simpa using this
  obtain ⟨b, o, hA, c0⟩ := h (k * 2) (.string xs[k].1) (by have := gen xs k 0 hk (by omega); simpa using this)
  obtain ⟨b', o', hA', c⟩ := h (k * 2 + 1) (.int .i64 (xs[k].2 : Int)) (by rw [gen xs k 1 hk (by omega)]; rfl)
  rw [hA] at hA'
  injection hA' with e; injection e with e1 e2; subst e1; subst e2
  exact ⟨b, o, hA, cell_lt c0, c0, c⟩
def Five (w : World) (b : Nat) (a0 a1 a2 a3 a4 : Value) : Prop := w.cell? ⟨b, 0, none⟩ = some a0 ∧ w.cell? ⟨b, 1, none⟩ = some a1 ∧ w.cell? ⟨b, 2, none⟩ = some a2 ∧ w.cell? ⟨b, 3, none⟩ = some a3 ∧ w.cell? ⟨b, 4, none⟩ = some a4
theorem Five.below {w w' : World} {b : Nat} {a0 a1 a2 a3 a4 : Value} (h : Five w b a0 a1 a2 a3 a4) (hb : Below w.heap.size w w') : Five w' b a0 a1 a2 a3 a4 := ⟨cell_kept h.1 hb, cell_kept h.2.1 hb, cell_kept h.2.2.1 hb, cell_kept h.2.2.2.1 hb, cell_kept h.2.2.2.2 hb⟩
theorem box5 (w : World) (a b c d e : Value) (T : TypeId) : Five (w.alloc (.cells #[a, b, c, d, e] T)) w.heap.size a b c d e := by
  have h : ∀ j, (w.alloc (.cells #[a, b, c, d, e] T)).cell? ⟨w.heap.size, j, none⟩ = #[a, b, c, d, e][j]? := fun j => by
    unfold World.cell?
    rw [show (w.alloc _).heap[(⟨w.heap.size, j, none⟩ : Addr).block]? = _ from (MapKept.heap_alloc w _).1]
    rfl
  exact ⟨h 0, h 1, h 2, h 3, h 4⟩
theorem box2 (w : World) (a b : Value) (T : TypeId) : Two (w.alloc (.cells #[a, b] T)) w.heap.size a b := two_new w a b T
theorem step_bel {w W W' : World} {r : Nat} {s : ByteArray} {i e : Nat} (h : Below w.heap.size w W) (k : Step W W' r s i e) (hr : w.heap.size ≤ r) : Below w.heap.size w W' := h.trans (Wire.step_low k hr h.size)
theorem S_nil : Wire.S [] = ⟨#[]⟩ := rfl
theorem str_empty (s : ByteArray) (h : s.size = 0) : s = ⟨#[]⟩ := by
  apply Wire.ba_ext
  exact List.eq_nil_of_length_eq_zero (by rw [Wire.size_list]; exact h)
theorem mem_map {α β : Type} {f : α → β} {xs : List α} {p : β → Bool} (h : (xs.map f).all p = true) : ∀ x ∈ xs, p (f x) = true := fun x hx => List.all_eq_true.1 h _ (List.mem_map.2 ⟨x, hx, rfl⟩)
def good5 : List (Ev × ByteArray) := [(⟨1, 6, [64, 11258999068426], []⟩, ⟨#[]⟩), (⟨3, 6, [64, 1125899906842624], []⟩, ⟨#[]⟩), (⟨1, 11, [1, 2, 3, 0, 5, 6], []⟩, ⟨#[1, 11, 1, 2, 3, 0, 5, 6]⟩), (⟨3, 11, [1, 2, 3, 1, 5, 6], []⟩, ⟨#[3, 11, 1, 2, 3, 1, 5, 6]⟩), (⟨1, 13, [2, 1, 5, 6], []⟩, ⟨#[1, 13, 2, 1, 5, 6]⟩), (⟨2, 13, [2, 1, 5, 6, 0], []⟩, ⟨#[2, 13, 2, 1, 5, 6, 0]⟩), (⟨1, 3, [3], [⟨#[120]⟩]⟩, ⟨#[1, 3, 3, 1, 120]⟩), (⟨2, 3, [3, 128], [⟨#[120, 45, 57, 95, 122]⟩]⟩, ⟨#[2, 3, 3, 128, 1, 5, 120, 45, 57, 95, 122]⟩), (⟨2, 21, [1, 2, 3], []⟩, ⟨#[2, 21, 1, 2, 3]⟩), (⟨3, 22, [7], [⟨#[113]⟩]⟩, ⟨#[3, 22, 7, 1, 113]⟩), (⟨3, 23, [1, 2], []⟩, ⟨#[3, 23, 1, 2]⟩), (⟨1, 10, [10], []⟩, ⟨#[1, 10, 10]⟩), (⟨3, 10, [1000], []⟩, ⟨#[3, 10, 232, 7]⟩), (⟨3, 20, [1099511627776], []⟩, ⟨#[]⟩), (⟨3, 14, [1099511627776, 64, 16, 1048576, 1125899906842624, 1125899906842624, 1099511627776], []⟩, ⟨#[]⟩)]
def p5 (y : Ev × ByteArray) : Bool := may y.1 && (decide (y.2.size = 0) || decide (Wire.S (encB y.1) = y.2))
theorem good5_ok : good5.all p5 = true := by decide +kernel
def bad4 : List Ev := [⟨0, 0, [], []⟩, ⟨0, 20, [5], []⟩, ⟨4, 20, [5], []⟩, ⟨3, 0, [], []⟩, ⟨3, 24, [1], []⟩, ⟨1, 21, [1, 2, 3], []⟩, ⟨2, 22, [1], []⟩, ⟨3, 20, [], []⟩, ⟨3, 20, [1, 2], []⟩, ⟨3, 20, [0], []⟩, ⟨3, 20, [1099511627777], []⟩, ⟨2, 20, [109951162778], []⟩, ⟨3, 6, [65, 1], []⟩, ⟨1, 6, [1, 11258999068427], []⟩, ⟨3, 11, [1, 2, 3, 0, 5, 6], []⟩, ⟨2, 11, [1, 2, 3, 2, 5, 6], []⟩, ⟨3, 1, [1], [⟨#[]⟩]⟩, ⟨3, 1, [1], [⟨#[65]⟩]⟩, ⟨3, 1, [1], [⟨#[97, 98, 99, 100, 101, 102, 103, 104, 105, 106, 107, 108, 109, 110, 111, 112, 113, 114, 115, 116, 117, 118, 119, 120, 121]⟩]⟩, ⟨3, 20, [5], [⟨#[97]⟩]⟩, ⟨3, 1, [1], []⟩, ⟨3, 1, [1], [⟨#[97]⟩, ⟨#[98]⟩]⟩]
theorem bad4_ok : bad4.all (fun y => !may y && decide (y.ns.length ≤ 100) && decide (y.ts.length ≤ 100)) = true := by decide +kernel
def refs : List (ByteArray × Nat) := [(⟨#[]⟩, 8), (⟨#[0]⟩, 43), (⟨#[3]⟩, 8), (⟨#[3, 0]⟩, 4), (⟨#[3, 24]⟩, 4), (⟨#[3, 6, 1]⟩, 8), (⟨#[3, 6, 65, 5]⟩, 40), (⟨#[3, 6, 129, 0, 5]⟩, 4), (⟨#[3, 6, 1, 5, 0]⟩, 4), (⟨#[3, 10, 233, 7]⟩, 40), (⟨#[1, 10, 11]⟩, 40), (⟨#[3, 1, 1, 0]⟩, 4), (⟨#[3, 1, 1, 25]⟩, 40), (⟨#[3, 1, 1, 2, 97]⟩, 8), (⟨#[3, 1, 1, 1, 65]⟩, 4), (⟨#[3, 11, 1, 2, 3, 0, 5, 6]⟩, 4), (⟨#[2, 22, 7, 1, 113]⟩, 4)]
theorem refs_ok : refs.all (fun y => decide (decW y.1 = y.2) && decide (y.2 ≠ 0) && decide (y.1.size ≤ 100)) = true := by decide +kernel

set_option maxRecDepth 100000 in
set_option maxHeartbeats 8000000 in
theorem names_any (w : World) (E : Env w) : Calls Tryd.prog 3 #[] w fun z w' => z = .returned (.bool true) ∧ Below w.heap.size w w' := by
  have HE := Lib.hid E
  clear E
  go_enter Tryd.func3, Tryd.ntmps3
  go_wp2_with fail
  refine (works_any w HE.out).mono ?_
  rintro z W ⟨rfl, hb⟩
  have HB := Lib.hid hb
  clear hb
  have HL := Lib.hid (fun x (hx : x ∈ ([] : List Lx)) => show LxAt W x from by cases hx)
  have hb := (Below.refl W.heap.size W).alloc (Nat.le_refl _) (.cells #[.int .i64 64, .int .i64 11258999068426] 2)
  have HV := Lib.hid (vat_new W #[.int .i64 64, .int .i64 11258999068426] 2)
  replace HL := Lib.hid (fun x hx => (HL.out x hx).below hb)
  replace HB := Lib.hid (below_step HB.out hb)
  clear hb
  go_wp2_with fail
  refine (event_any 1 6 (some ⟨W.heap.size, 0, none⟩) 2 2 (W.alloc (.cells #[.int .i64 64, .int .i64 11258999068426] 2))).mono ?_
  rintro z Wa0 ⟨rfl, hb⟩
  generalize W.heap.size = q0 at HV ⊢
  have hl : ∀ x ∈ (⟨(some ⟨q0, 0, none⟩), 2, none, 0, ⟨1, 6, [64, 11258999068426], []⟩⟩ : Lx) :: ([] : List Lx), LxAt Wa0 x := fun x hx => by
    rcases List.mem_cons.1 hx with rfl | hx
    · exact ev_plain 1 6 [64, 11258999068426] (by decide) (by decide) (fits_of (by decide)) (HV.out.below hb) (fun e => by cases e)
    · exact (HL.out x hx).below hb
  replace HL := Lib.hid hl
  replace HB := Lib.hid (below_step HB.out hb)
  clear hl hb HV
  have hb := (Below.refl Wa0.heap.size Wa0).alloc (Nat.le_refl _) (.cells #[.int .i64 64, .int .i64 1125899906842624] 2)
  have HV := Lib.hid (vat_new Wa0 #[.int .i64 64, .int .i64 1125899906842624] 2)
  replace HL := Lib.hid (fun x hx => (HL.out x hx).below hb)
  replace HB := Lib.hid (below_step HB.out hb)
  clear hb
  go_wp2_with fail
  refine (event_any 3 6 (some ⟨Wa0.heap.size, 0, none⟩) 2 2 (Wa0.alloc (.cells #[.int .i64 64, .int .i64 1125899906842624] 2))).mono ?_
  rintro z Wa1 ⟨rfl, hb⟩
  generalize Wa0.heap.size = q1 at HV ⊢
  have hl : ∀ x ∈ (⟨(some ⟨q1, 0, none⟩), 2, none, 0, ⟨3, 6, [64, 1125899906842624], []⟩⟩ : Lx) :: ([⟨(some ⟨q0, 0, none⟩), 2, none, 0, ⟨1, 6, [64, 11258999068426], []⟩⟩] : List Lx), LxAt Wa1 x := fun x hx => by
    rcases List.mem_cons.1 hx with rfl | hx
    · exact ev_plain 3 6 [64, 1125899906842624] (by decide) (by decide) (fits_of (by decide)) (HV.out.below hb) (fun e => by cases e)
    · exact (HL.out x hx).below hb
  replace HL := Lib.hid hl
  replace HB := Lib.hid (below_step HB.out hb)
  clear hl hb HV
  have hb := (Below.refl Wa1.heap.size Wa1).alloc (Nat.le_refl _) (.cells #[.int .i64 1, .int .i64 2, .int .i64 3, .int .i64 0, .int .i64 5, .int .i64 6] 2)
  have HV := Lib.hid (vat_new Wa1 #[.int .i64 1, .int .i64 2, .int .i64 3, .int .i64 0, .int .i64 5, .int .i64 6] 2)
  replace HL := Lib.hid (fun x hx => (HL.out x hx).below hb)
  replace HB := Lib.hid (below_step HB.out hb)
  clear hb
  go_wp2_with fail
  refine (event_any 1 11 (some ⟨Wa1.heap.size, 0, none⟩) 6 6 (Wa1.alloc (.cells #[.int .i64 1, .int .i64 2, .int .i64 3, .int .i64 0, .int .i64 5, .int .i64 6] 2))).mono ?_
  rintro z Wa2 ⟨rfl, hb⟩
  generalize Wa1.heap.size = q2 at HV ⊢
  have hl : ∀ x ∈ (⟨(some ⟨q2, 0, none⟩), 6, none, 0, ⟨1, 11, [1, 2, 3, 0, 5, 6], []⟩⟩ : Lx) :: ([⟨(some ⟨q1, 0, none⟩), 2, none, 0, ⟨3, 6, [64, 1125899906842624], []⟩⟩, ⟨(some ⟨q0, 0, none⟩), 2, none, 0, ⟨1, 6, [64, 11258999068426], []⟩⟩] : List Lx), LxAt Wa2 x := fun x hx => by
    rcases List.mem_cons.1 hx with rfl | hx
    · exact ev_plain 1 11 [1, 2, 3, 0, 5, 6] (by decide) (by decide) (fits_of (by decide)) (HV.out.below hb) (fun e => by cases e)
    · exact (HL.out x hx).below hb
  replace HL := Lib.hid hl
  replace HB := Lib.hid (below_step HB.out hb)
  clear hl hb HV
  have hb := (Below.refl Wa2.heap.size Wa2).alloc (Nat.le_refl _) (.cells #[.int .i64 1, .int .i64 2, .int .i64 3, .int .i64 1, .int .i64 5, .int .i64 6] 2)
  have HV := Lib.hid (vat_new Wa2 #[.int .i64 1, .int .i64 2, .int .i64 3, .int .i64 1, .int .i64 5, .int .i64 6] 2)
  replace HL := Lib.hid (fun x hx => (HL.out x hx).below hb)
  replace HB := Lib.hid (below_step HB.out hb)
  clear hb
  go_wp2_with fail
  refine (event_any 3 11 (some ⟨Wa2.heap.size, 0, none⟩) 6 6 (Wa2.alloc (.cells #[.int .i64 1, .int .i64 2, .int .i64 3, .int .i64 1, .int .i64 5, .int .i64 6] 2))).mono ?_
  rintro z Wa3 ⟨rfl, hb⟩
  generalize Wa2.heap.size = q3 at HV ⊢
  have hl : ∀ x ∈ (⟨(some ⟨q3, 0, none⟩), 6, none, 0, ⟨3, 11, [1, 2, 3, 1, 5, 6], []⟩⟩ : Lx) :: ([⟨(some ⟨q2, 0, none⟩), 6, none, 0, ⟨1, 11, [1, 2, 3, 0, 5, 6], []⟩⟩, ⟨(some ⟨q1, 0, none⟩), 2, none, 0, ⟨3, 6, [64, 1125899906842624], []⟩⟩, ⟨(some ⟨q0, 0, none⟩), 2, none, 0, ⟨1, 6, [64, 11258999068426], []⟩⟩] : List Lx), LxAt Wa3 x := fun x hx => by
    rcases List.mem_cons.1 hx with rfl | hx
    · exact ev_plain 3 11 [1, 2, 3, 1, 5, 6] (by decide) (by decide) (fits_of (by decide)) (HV.out.below hb) (fun e => by cases e)
    · exact (HL.out x hx).below hb
  replace HL := Lib.hid hl
  replace HB := Lib.hid (below_step HB.out hb)
  clear hl hb HV
  have hb := (Below.refl Wa3.heap.size Wa3).alloc (Nat.le_refl _) (.cells #[.int .i64 2, .int .i64 1, .int .i64 5, .int .i64 6] 2)
  have HV := Lib.hid (vat_new Wa3 #[.int .i64 2, .int .i64 1, .int .i64 5, .int .i64 6] 2)
  replace HL := Lib.hid (fun x hx => (HL.out x hx).below hb)
  replace HB := Lib.hid (below_step HB.out hb)
  clear hb
  go_wp2_with fail
  refine (event_any 1 13 (some ⟨Wa3.heap.size, 0, none⟩) 4 4 (Wa3.alloc (.cells #[.int .i64 2, .int .i64 1, .int .i64 5, .int .i64 6] 2))).mono ?_
  rintro z Wa4 ⟨rfl, hb⟩
  generalize Wa3.heap.size = q4 at HV ⊢
  have hl : ∀ x ∈ (⟨(some ⟨q4, 0, none⟩), 4, none, 0, ⟨1, 13, [2, 1, 5, 6], []⟩⟩ : Lx) :: ([⟨(some ⟨q3, 0, none⟩), 6, none, 0, ⟨3, 11, [1, 2, 3, 1, 5, 6], []⟩⟩, ⟨(some ⟨q2, 0, none⟩), 6, none, 0, ⟨1, 11, [1, 2, 3, 0, 5, 6], []⟩⟩, ⟨(some ⟨q1, 0, none⟩), 2, none, 0, ⟨3, 6, [64, 1125899906842624], []⟩⟩, ⟨(some ⟨q0, 0, none⟩), 2, none, 0, ⟨1, 6, [64, 11258999068426], []⟩⟩] : List Lx), LxAt Wa4 x := fun x hx => by
    rcases List.mem_cons.1 hx with rfl | hx
    · exact ev_plain 1 13 [2, 1, 5, 6] (by decide) (by decide) (fits_of (by decide)) (HV.out.below hb) (fun e => by cases e)
    · exact (HL.out x hx).below hb
  replace HL := Lib.hid hl
  replace HB := Lib.hid (below_step HB.out hb)
  clear hl hb HV
  have hb := (Below.refl Wa4.heap.size Wa4).alloc (Nat.le_refl _) (.cells #[.int .i64 2, .int .i64 1, .int .i64 5, .int .i64 6, .int .i64 0] 2)
  have HV := Lib.hid (vat_new Wa4 #[.int .i64 2, .int .i64 1, .int .i64 5, .int .i64 6, .int .i64 0] 2)
  replace HL := Lib.hid (fun x hx => (HL.out x hx).below hb)
  replace HB := Lib.hid (below_step HB.out hb)
  clear hb
  go_wp2_with fail
  refine (event_any 2 13 (some ⟨Wa4.heap.size, 0, none⟩) 5 5 (Wa4.alloc (.cells #[.int .i64 2, .int .i64 1, .int .i64 5, .int .i64 6, .int .i64 0] 2))).mono ?_
  rintro z Wa5 ⟨rfl, hb⟩
  generalize Wa4.heap.size = q5 at HV ⊢
  have hl : ∀ x ∈ (⟨(some ⟨q5, 0, none⟩), 5, none, 0, ⟨2, 13, [2, 1, 5, 6, 0], []⟩⟩ : Lx) :: ([⟨(some ⟨q4, 0, none⟩), 4, none, 0, ⟨1, 13, [2, 1, 5, 6], []⟩⟩, ⟨(some ⟨q3, 0, none⟩), 6, none, 0, ⟨3, 11, [1, 2, 3, 1, 5, 6], []⟩⟩, ⟨(some ⟨q2, 0, none⟩), 6, none, 0, ⟨1, 11, [1, 2, 3, 0, 5, 6], []⟩⟩, ⟨(some ⟨q1, 0, none⟩), 2, none, 0, ⟨3, 6, [64, 1125899906842624], []⟩⟩, ⟨(some ⟨q0, 0, none⟩), 2, none, 0, ⟨1, 6, [64, 11258999068426], []⟩⟩] : List Lx), LxAt Wa5 x := fun x hx => by
    rcases List.mem_cons.1 hx with rfl | hx
    · exact ev_plain 2 13 [2, 1, 5, 6, 0] (by decide) (by decide) (fits_of (by decide)) (HV.out.below hb) (fun e => by cases e)
    · exact (HL.out x hx).below hb
  replace HL := Lib.hid hl
  replace HB := Lib.hid (below_step HB.out hb)
  clear hl hb HV
  have hb := (Below.refl Wa5.heap.size Wa5).alloc (Nat.le_refl _) (.cells #[.int .i64 3] 2)
  have HV := Lib.hid (vat_new Wa5 #[.int .i64 3] 2)
  replace HL := Lib.hid (fun x hx => (HL.out x hx).below hb)
  replace HB := Lib.hid (below_step HB.out hb)
  clear hb
  go_wp2_with fail
  refine (named_any 1 3 ⟨#[120]⟩ (some ⟨Wa5.heap.size, 0, none⟩) 1 1 (Wa5.alloc (.cells #[.int .i64 3] 2))).mono ?_
  rintro z Wa6 ⟨p6, rfl, hone, hb⟩
  generalize Wa5.heap.size = q6 at HV ⊢
  have hl : ∀ x ∈ (⟨(some ⟨q6, 0, none⟩), 1, some ⟨p6, 0, none⟩, 1, ⟨1, 3, [3], [⟨#[120]⟩]⟩⟩ : Lx) :: ([⟨(some ⟨q5, 0, none⟩), 5, none, 0, ⟨2, 13, [2, 1, 5, 6, 0], []⟩⟩, ⟨(some ⟨q4, 0, none⟩), 4, none, 0, ⟨1, 13, [2, 1, 5, 6], []⟩⟩, ⟨(some ⟨q3, 0, none⟩), 6, none, 0, ⟨3, 11, [1, 2, 3, 1, 5, 6], []⟩⟩, ⟨(some ⟨q2, 0, none⟩), 6, none, 0, ⟨1, 11, [1, 2, 3, 0, 5, 6], []⟩⟩, ⟨(some ⟨q1, 0, none⟩), 2, none, 0, ⟨3, 6, [64, 1125899906842624], []⟩⟩, ⟨(some ⟨q0, 0, none⟩), 2, none, 0, ⟨1, 6, [64, 11258999068426], []⟩⟩] : List Lx), LxAt Wa6 x := fun x hx => by
    rcases List.mem_cons.1 hx with rfl | hx
    · exact ev_named 1 3 [3] [⟨#[120]⟩] (by decide) (by decide) (fits_of (by decide)) (fun t ht => by simp at ht; subst ht; decide) (HV.out.below hb) (one_vat hone) (fun e => by cases e) (fun e => by cases e)
    · exact (HL.out x hx).below hb
  replace HL := Lib.hid hl
  replace HB := Lib.hid (below_step HB.out hb)
  clear hl hb HV hone
  have hb := (Below.refl Wa6.heap.size Wa6).alloc (Nat.le_refl _) (.cells #[.int .i64 3, .int .i64 128] 2)
  have HV := Lib.hid (vat_new Wa6 #[.int .i64 3, .int .i64 128] 2)
  replace HL := Lib.hid (fun x hx => (HL.out x hx).below hb)
  replace HB := Lib.hid (below_step HB.out hb)
  clear hb
  go_wp2_with fail
  refine (named_any 2 3 ⟨#[120, 45, 57, 95, 122]⟩ (some ⟨Wa6.heap.size, 0, none⟩) 2 2 (Wa6.alloc (.cells #[.int .i64 3, .int .i64 128] 2))).mono ?_
  rintro z Wa7 ⟨p7, rfl, hone, hb⟩
  generalize Wa6.heap.size = q7 at HV ⊢
  have hl : ∀ x ∈ (⟨(some ⟨q7, 0, none⟩), 2, some ⟨p7, 0, none⟩, 1, ⟨2, 3, [3, 128], [⟨#[120, 45, 57, 95, 122]⟩]⟩⟩ : Lx) :: ([⟨(some ⟨q6, 0, none⟩), 1, some ⟨p6, 0, none⟩, 1, ⟨1, 3, [3], [⟨#[120]⟩]⟩⟩, ⟨(some ⟨q5, 0, none⟩), 5, none, 0, ⟨2, 13, [2, 1, 5, 6, 0], []⟩⟩, ⟨(some ⟨q4, 0, none⟩), 4, none, 0, ⟨1, 13, [2, 1, 5, 6], []⟩⟩, ⟨(some ⟨q3, 0, none⟩), 6, none, 0, ⟨3, 11, [1, 2, 3, 1, 5, 6], []⟩⟩, ⟨(some ⟨q2, 0, none⟩), 6, none, 0, ⟨1, 11, [1, 2, 3, 0, 5, 6], []⟩⟩, ⟨(some ⟨q1, 0, none⟩), 2, none, 0, ⟨3, 6, [64, 1125899906842624], []⟩⟩, ⟨(some ⟨q0, 0, none⟩), 2, none, 0, ⟨1, 6, [64, 11258999068426], []⟩⟩] : List Lx), LxAt Wa7 x := fun x hx => by
    rcases List.mem_cons.1 hx with rfl | hx
    · exact ev_named 2 3 [3, 128] [⟨#[120, 45, 57, 95, 122]⟩] (by decide) (by decide) (fits_of (by decide)) (fun t ht => by simp at ht; subst ht; decide) (HV.out.below hb) (one_vat hone) (fun e => by cases e) (fun e => by cases e)
    · exact (HL.out x hx).below hb
  replace HL := Lib.hid hl
  replace HB := Lib.hid (below_step HB.out hb)
  clear hl hb HV hone
  have hb := (Below.refl Wa7.heap.size Wa7).alloc (Nat.le_refl _) (.cells #[.int .i64 1, .int .i64 2, .int .i64 3] 2)
  have HV := Lib.hid (vat_new Wa7 #[.int .i64 1, .int .i64 2, .int .i64 3] 2)
  replace HL := Lib.hid (fun x hx => (HL.out x hx).below hb)
  replace HB := Lib.hid (below_step HB.out hb)
  clear hb
  go_wp2_with fail
  refine (event_any 2 21 (some ⟨Wa7.heap.size, 0, none⟩) 3 3 (Wa7.alloc (.cells #[.int .i64 1, .int .i64 2, .int .i64 3] 2))).mono ?_
  rintro z Wa8 ⟨rfl, hb⟩
  generalize Wa7.heap.size = q8 at HV ⊢
  have hl : ∀ x ∈ (⟨(some ⟨q8, 0, none⟩), 3, none, 0, ⟨2, 21, [1, 2, 3], []⟩⟩ : Lx) :: ([⟨(some ⟨q7, 0, none⟩), 2, some ⟨p7, 0, none⟩, 1, ⟨2, 3, [3, 128], [⟨#[120, 45, 57, 95, 122]⟩]⟩⟩, ⟨(some ⟨q6, 0, none⟩), 1, some ⟨p6, 0, none⟩, 1, ⟨1, 3, [3], [⟨#[120]⟩]⟩⟩, ⟨(some ⟨q5, 0, none⟩), 5, none, 0, ⟨2, 13, [2, 1, 5, 6, 0], []⟩⟩, ⟨(some ⟨q4, 0, none⟩), 4, none, 0, ⟨1, 13, [2, 1, 5, 6], []⟩⟩, ⟨(some ⟨q3, 0, none⟩), 6, none, 0, ⟨3, 11, [1, 2, 3, 1, 5, 6], []⟩⟩, ⟨(some ⟨q2, 0, none⟩), 6, none, 0, ⟨1, 11, [1, 2, 3, 0, 5, 6], []⟩⟩, ⟨(some ⟨q1, 0, none⟩), 2, none, 0, ⟨3, 6, [64, 1125899906842624], []⟩⟩, ⟨(some ⟨q0, 0, none⟩), 2, none, 0, ⟨1, 6, [64, 11258999068426], []⟩⟩] : List Lx), LxAt Wa8 x := fun x hx => by
    rcases List.mem_cons.1 hx with rfl | hx
    · exact ev_plain 2 21 [1, 2, 3] (by decide) (by decide) (fits_of (by decide)) (HV.out.below hb) (fun e => by cases e)
    · exact (HL.out x hx).below hb
  replace HL := Lib.hid hl
  replace HB := Lib.hid (below_step HB.out hb)
  clear hl hb HV
  have hb := (Below.refl Wa8.heap.size Wa8).alloc (Nat.le_refl _) (.cells #[.int .i64 7] 2)
  have HV := Lib.hid (vat_new Wa8 #[.int .i64 7] 2)
  replace HL := Lib.hid (fun x hx => (HL.out x hx).below hb)
  replace HB := Lib.hid (below_step HB.out hb)
  clear hb
  go_wp2_with fail
  refine (named_any 3 22 ⟨#[113]⟩ (some ⟨Wa8.heap.size, 0, none⟩) 1 1 (Wa8.alloc (.cells #[.int .i64 7] 2))).mono ?_
  rintro z Wa9 ⟨p9, rfl, hone, hb⟩
  generalize Wa8.heap.size = q9 at HV ⊢
  have hl : ∀ x ∈ (⟨(some ⟨q9, 0, none⟩), 1, some ⟨p9, 0, none⟩, 1, ⟨3, 22, [7], [⟨#[113]⟩]⟩⟩ : Lx) :: ([⟨(some ⟨q8, 0, none⟩), 3, none, 0, ⟨2, 21, [1, 2, 3], []⟩⟩, ⟨(some ⟨q7, 0, none⟩), 2, some ⟨p7, 0, none⟩, 1, ⟨2, 3, [3, 128], [⟨#[120, 45, 57, 95, 122]⟩]⟩⟩, ⟨(some ⟨q6, 0, none⟩), 1, some ⟨p6, 0, none⟩, 1, ⟨1, 3, [3], [⟨#[120]⟩]⟩⟩, ⟨(some ⟨q5, 0, none⟩), 5, none, 0, ⟨2, 13, [2, 1, 5, 6, 0], []⟩⟩, ⟨(some ⟨q4, 0, none⟩), 4, none, 0, ⟨1, 13, [2, 1, 5, 6], []⟩⟩, ⟨(some ⟨q3, 0, none⟩), 6, none, 0, ⟨3, 11, [1, 2, 3, 1, 5, 6], []⟩⟩, ⟨(some ⟨q2, 0, none⟩), 6, none, 0, ⟨1, 11, [1, 2, 3, 0, 5, 6], []⟩⟩, ⟨(some ⟨q1, 0, none⟩), 2, none, 0, ⟨3, 6, [64, 1125899906842624], []⟩⟩, ⟨(some ⟨q0, 0, none⟩), 2, none, 0, ⟨1, 6, [64, 11258999068426], []⟩⟩] : List Lx), LxAt Wa9 x := fun x hx => by
    rcases List.mem_cons.1 hx with rfl | hx
    · exact ev_named 3 22 [7] [⟨#[113]⟩] (by decide) (by decide) (fits_of (by decide)) (fun t ht => by simp at ht; subst ht; decide) (HV.out.below hb) (one_vat hone) (fun e => by cases e) (fun e => by cases e)
    · exact (HL.out x hx).below hb
  replace HL := Lib.hid hl
  replace HB := Lib.hid (below_step HB.out hb)
  clear hl hb HV hone
  have hb := (Below.refl Wa9.heap.size Wa9).alloc (Nat.le_refl _) (.cells #[.int .i64 1, .int .i64 2] 2)
  have HV := Lib.hid (vat_new Wa9 #[.int .i64 1, .int .i64 2] 2)
  replace HL := Lib.hid (fun x hx => (HL.out x hx).below hb)
  replace HB := Lib.hid (below_step HB.out hb)
  clear hb
  go_wp2_with fail
  refine (event_any 3 23 (some ⟨Wa9.heap.size, 0, none⟩) 2 2 (Wa9.alloc (.cells #[.int .i64 1, .int .i64 2] 2))).mono ?_
  rintro z Wa10 ⟨rfl, hb⟩
  generalize Wa9.heap.size = q10 at HV ⊢
  have hl : ∀ x ∈ (⟨(some ⟨q10, 0, none⟩), 2, none, 0, ⟨3, 23, [1, 2], []⟩⟩ : Lx) :: ([⟨(some ⟨q9, 0, none⟩), 1, some ⟨p9, 0, none⟩, 1, ⟨3, 22, [7], [⟨#[113]⟩]⟩⟩, ⟨(some ⟨q8, 0, none⟩), 3, none, 0, ⟨2, 21, [1, 2, 3], []⟩⟩, ⟨(some ⟨q7, 0, none⟩), 2, some ⟨p7, 0, none⟩, 1, ⟨2, 3, [3, 128], [⟨#[120, 45, 57, 95, 122]⟩]⟩⟩, ⟨(some ⟨q6, 0, none⟩), 1, some ⟨p6, 0, none⟩, 1, ⟨1, 3, [3], [⟨#[120]⟩]⟩⟩, ⟨(some ⟨q5, 0, none⟩), 5, none, 0, ⟨2, 13, [2, 1, 5, 6, 0], []⟩⟩, ⟨(some ⟨q4, 0, none⟩), 4, none, 0, ⟨1, 13, [2, 1, 5, 6], []⟩⟩, ⟨(some ⟨q3, 0, none⟩), 6, none, 0, ⟨3, 11, [1, 2, 3, 1, 5, 6], []⟩⟩, ⟨(some ⟨q2, 0, none⟩), 6, none, 0, ⟨1, 11, [1, 2, 3, 0, 5, 6], []⟩⟩, ⟨(some ⟨q1, 0, none⟩), 2, none, 0, ⟨3, 6, [64, 1125899906842624], []⟩⟩, ⟨(some ⟨q0, 0, none⟩), 2, none, 0, ⟨1, 6, [64, 11258999068426], []⟩⟩] : List Lx), LxAt Wa10 x := fun x hx => by
    rcases List.mem_cons.1 hx with rfl | hx
    · exact ev_plain 3 23 [1, 2] (by decide) (by decide) (fits_of (by decide)) (HV.out.below hb) (fun e => by cases e)
    · exact (HL.out x hx).below hb
  replace HL := Lib.hid hl
  replace HB := Lib.hid (below_step HB.out hb)
  clear hl hb HV
  have hb := (Below.refl Wa10.heap.size Wa10).alloc (Nat.le_refl _) (.cells #[.int .i64 10] 2)
  have HV := Lib.hid (vat_new Wa10 #[.int .i64 10] 2)
  replace HL := Lib.hid (fun x hx => (HL.out x hx).below hb)
  replace HB := Lib.hid (below_step HB.out hb)
  clear hb
  go_wp2_with fail
  refine (event_any 1 10 (some ⟨Wa10.heap.size, 0, none⟩) 1 1 (Wa10.alloc (.cells #[.int .i64 10] 2))).mono ?_
  rintro z Wa11 ⟨rfl, hb⟩
  generalize Wa10.heap.size = q11 at HV ⊢
  have hl : ∀ x ∈ (⟨(some ⟨q11, 0, none⟩), 1, none, 0, ⟨1, 10, [10], []⟩⟩ : Lx) :: ([⟨(some ⟨q10, 0, none⟩), 2, none, 0, ⟨3, 23, [1, 2], []⟩⟩, ⟨(some ⟨q9, 0, none⟩), 1, some ⟨p9, 0, none⟩, 1, ⟨3, 22, [7], [⟨#[113]⟩]⟩⟩, ⟨(some ⟨q8, 0, none⟩), 3, none, 0, ⟨2, 21, [1, 2, 3], []⟩⟩, ⟨(some ⟨q7, 0, none⟩), 2, some ⟨p7, 0, none⟩, 1, ⟨2, 3, [3, 128], [⟨#[120, 45, 57, 95, 122]⟩]⟩⟩, ⟨(some ⟨q6, 0, none⟩), 1, some ⟨p6, 0, none⟩, 1, ⟨1, 3, [3], [⟨#[120]⟩]⟩⟩, ⟨(some ⟨q5, 0, none⟩), 5, none, 0, ⟨2, 13, [2, 1, 5, 6, 0], []⟩⟩, ⟨(some ⟨q4, 0, none⟩), 4, none, 0, ⟨1, 13, [2, 1, 5, 6], []⟩⟩, ⟨(some ⟨q3, 0, none⟩), 6, none, 0, ⟨3, 11, [1, 2, 3, 1, 5, 6], []⟩⟩, ⟨(some ⟨q2, 0, none⟩), 6, none, 0, ⟨1, 11, [1, 2, 3, 0, 5, 6], []⟩⟩, ⟨(some ⟨q1, 0, none⟩), 2, none, 0, ⟨3, 6, [64, 1125899906842624], []⟩⟩, ⟨(some ⟨q0, 0, none⟩), 2, none, 0, ⟨1, 6, [64, 11258999068426], []⟩⟩] : List Lx), LxAt Wa11 x := fun x hx => by
    rcases List.mem_cons.1 hx with rfl | hx
    · exact ev_plain 1 10 [10] (by decide) (by decide) (fits_of (by decide)) (HV.out.below hb) (fun e => by cases e)
    · exact (HL.out x hx).below hb
  replace HL := Lib.hid hl
  replace HB := Lib.hid (below_step HB.out hb)
  clear hl hb HV
  have hb := (Below.refl Wa11.heap.size Wa11).alloc (Nat.le_refl _) (.cells #[.int .i64 1000] 2)
  have HV := Lib.hid (vat_new Wa11 #[.int .i64 1000] 2)
  replace HL := Lib.hid (fun x hx => (HL.out x hx).below hb)
  replace HB := Lib.hid (below_step HB.out hb)
  clear hb
  go_wp2_with fail
  refine (event_any 3 10 (some ⟨Wa11.heap.size, 0, none⟩) 1 1 (Wa11.alloc (.cells #[.int .i64 1000] 2))).mono ?_
  rintro z Wa12 ⟨rfl, hb⟩
  generalize Wa11.heap.size = q12 at HV ⊢
  have hl : ∀ x ∈ (⟨(some ⟨q12, 0, none⟩), 1, none, 0, ⟨3, 10, [1000], []⟩⟩ : Lx) :: ([⟨(some ⟨q11, 0, none⟩), 1, none, 0, ⟨1, 10, [10], []⟩⟩, ⟨(some ⟨q10, 0, none⟩), 2, none, 0, ⟨3, 23, [1, 2], []⟩⟩, ⟨(some ⟨q9, 0, none⟩), 1, some ⟨p9, 0, none⟩, 1, ⟨3, 22, [7], [⟨#[113]⟩]⟩⟩, ⟨(some ⟨q8, 0, none⟩), 3, none, 0, ⟨2, 21, [1, 2, 3], []⟩⟩, ⟨(some ⟨q7, 0, none⟩), 2, some ⟨p7, 0, none⟩, 1, ⟨2, 3, [3, 128], [⟨#[120, 45, 57, 95, 122]⟩]⟩⟩, ⟨(some ⟨q6, 0, none⟩), 1, some ⟨p6, 0, none⟩, 1, ⟨1, 3, [3], [⟨#[120]⟩]⟩⟩, ⟨(some ⟨q5, 0, none⟩), 5, none, 0, ⟨2, 13, [2, 1, 5, 6, 0], []⟩⟩, ⟨(some ⟨q4, 0, none⟩), 4, none, 0, ⟨1, 13, [2, 1, 5, 6], []⟩⟩, ⟨(some ⟨q3, 0, none⟩), 6, none, 0, ⟨3, 11, [1, 2, 3, 1, 5, 6], []⟩⟩, ⟨(some ⟨q2, 0, none⟩), 6, none, 0, ⟨1, 11, [1, 2, 3, 0, 5, 6], []⟩⟩, ⟨(some ⟨q1, 0, none⟩), 2, none, 0, ⟨3, 6, [64, 1125899906842624], []⟩⟩, ⟨(some ⟨q0, 0, none⟩), 2, none, 0, ⟨1, 6, [64, 11258999068426], []⟩⟩] : List Lx), LxAt Wa12 x := fun x hx => by
    rcases List.mem_cons.1 hx with rfl | hx
    · exact ev_plain 3 10 [1000] (by decide) (by decide) (fits_of (by decide)) (HV.out.below hb) (fun e => by cases e)
    · exact (HL.out x hx).below hb
  replace HL := Lib.hid hl
  replace HB := Lib.hid (below_step HB.out hb)
  clear hl hb HV
  have hb := (Below.refl Wa12.heap.size Wa12).alloc (Nat.le_refl _) (.cells #[.int .i64 1099511627776] 2)
  have HV := Lib.hid (vat_new Wa12 #[.int .i64 1099511627776] 2)
  replace HL := Lib.hid (fun x hx => (HL.out x hx).below hb)
  replace HB := Lib.hid (below_step HB.out hb)
  clear hb
  go_wp2_with fail
  refine (event_any 3 20 (some ⟨Wa12.heap.size, 0, none⟩) 1 1 (Wa12.alloc (.cells #[.int .i64 1099511627776] 2))).mono ?_
  rintro z Wa13 ⟨rfl, hb⟩
  generalize Wa12.heap.size = q13 at HV ⊢
  have hl : ∀ x ∈ (⟨(some ⟨q13, 0, none⟩), 1, none, 0, ⟨3, 20, [1099511627776], []⟩⟩ : Lx) :: ([⟨(some ⟨q12, 0, none⟩), 1, none, 0, ⟨3, 10, [1000], []⟩⟩, ⟨(some ⟨q11, 0, none⟩), 1, none, 0, ⟨1, 10, [10], []⟩⟩, ⟨(some ⟨q10, 0, none⟩), 2, none, 0, ⟨3, 23, [1, 2], []⟩⟩, ⟨(some ⟨q9, 0, none⟩), 1, some ⟨p9, 0, none⟩, 1, ⟨3, 22, [7], [⟨#[113]⟩]⟩⟩, ⟨(some ⟨q8, 0, none⟩), 3, none, 0, ⟨2, 21, [1, 2, 3], []⟩⟩, ⟨(some ⟨q7, 0, none⟩), 2, some ⟨p7, 0, none⟩, 1, ⟨2, 3, [3, 128], [⟨#[120, 45, 57, 95, 122]⟩]⟩⟩, ⟨(some ⟨q6, 0, none⟩), 1, some ⟨p6, 0, none⟩, 1, ⟨1, 3, [3], [⟨#[120]⟩]⟩⟩, ⟨(some ⟨q5, 0, none⟩), 5, none, 0, ⟨2, 13, [2, 1, 5, 6, 0], []⟩⟩, ⟨(some ⟨q4, 0, none⟩), 4, none, 0, ⟨1, 13, [2, 1, 5, 6], []⟩⟩, ⟨(some ⟨q3, 0, none⟩), 6, none, 0, ⟨3, 11, [1, 2, 3, 1, 5, 6], []⟩⟩, ⟨(some ⟨q2, 0, none⟩), 6, none, 0, ⟨1, 11, [1, 2, 3, 0, 5, 6], []⟩⟩, ⟨(some ⟨q1, 0, none⟩), 2, none, 0, ⟨3, 6, [64, 1125899906842624], []⟩⟩, ⟨(some ⟨q0, 0, none⟩), 2, none, 0, ⟨1, 6, [64, 11258999068426], []⟩⟩] : List Lx), LxAt Wa13 x := fun x hx => by
    rcases List.mem_cons.1 hx with rfl | hx
    · exact ev_plain 3 20 [1099511627776] (by decide) (by decide) (fits_of (by decide)) (HV.out.below hb) (fun e => by cases e)
    · exact (HL.out x hx).below hb
  replace HL := Lib.hid hl
  replace HB := Lib.hid (below_step HB.out hb)
  clear hl hb HV
  have hb := (Below.refl Wa13.heap.size Wa13).alloc (Nat.le_refl _) (.cells #[.int .i64 1099511627776, .int .i64 64, .int .i64 16, .int .i64 1048576, .int .i64 1125899906842624, .int .i64 1125899906842624, .int .i64 1099511627776] 2)
  have HV := Lib.hid (vat_new Wa13 #[.int .i64 1099511627776, .int .i64 64, .int .i64 16, .int .i64 1048576, .int .i64 1125899906842624, .int .i64 1125899906842624, .int .i64 1099511627776] 2)
  replace HL := Lib.hid (fun x hx => (HL.out x hx).below hb)
  replace HB := Lib.hid (below_step HB.out hb)
  clear hb
  go_wp2_with fail
  refine (event_any 3 14 (some ⟨Wa13.heap.size, 0, none⟩) 7 7 (Wa13.alloc (.cells #[.int .i64 1099511627776, .int .i64 64, .int .i64 16, .int .i64 1048576, .int .i64 1125899906842624, .int .i64 1125899906842624, .int .i64 1099511627776] 2))).mono ?_
  rintro z Wa14 ⟨rfl, hb⟩
  generalize Wa13.heap.size = q14 at HV ⊢
  have hl : ∀ x ∈ (⟨(some ⟨q14, 0, none⟩), 7, none, 0, ⟨3, 14, [1099511627776, 64, 16, 1048576, 1125899906842624, 1125899906842624, 1099511627776], []⟩⟩ : Lx) :: ([⟨(some ⟨q13, 0, none⟩), 1, none, 0, ⟨3, 20, [1099511627776], []⟩⟩, ⟨(some ⟨q12, 0, none⟩), 1, none, 0, ⟨3, 10, [1000], []⟩⟩, ⟨(some ⟨q11, 0, none⟩), 1, none, 0, ⟨1, 10, [10], []⟩⟩, ⟨(some ⟨q10, 0, none⟩), 2, none, 0, ⟨3, 23, [1, 2], []⟩⟩, ⟨(some ⟨q9, 0, none⟩), 1, some ⟨p9, 0, none⟩, 1, ⟨3, 22, [7], [⟨#[113]⟩]⟩⟩, ⟨(some ⟨q8, 0, none⟩), 3, none, 0, ⟨2, 21, [1, 2, 3], []⟩⟩, ⟨(some ⟨q7, 0, none⟩), 2, some ⟨p7, 0, none⟩, 1, ⟨2, 3, [3, 128], [⟨#[120, 45, 57, 95, 122]⟩]⟩⟩, ⟨(some ⟨q6, 0, none⟩), 1, some ⟨p6, 0, none⟩, 1, ⟨1, 3, [3], [⟨#[120]⟩]⟩⟩, ⟨(some ⟨q5, 0, none⟩), 5, none, 0, ⟨2, 13, [2, 1, 5, 6, 0], []⟩⟩, ⟨(some ⟨q4, 0, none⟩), 4, none, 0, ⟨1, 13, [2, 1, 5, 6], []⟩⟩, ⟨(some ⟨q3, 0, none⟩), 6, none, 0, ⟨3, 11, [1, 2, 3, 1, 5, 6], []⟩⟩, ⟨(some ⟨q2, 0, none⟩), 6, none, 0, ⟨1, 11, [1, 2, 3, 0, 5, 6], []⟩⟩, ⟨(some ⟨q1, 0, none⟩), 2, none, 0, ⟨3, 6, [64, 1125899906842624], []⟩⟩, ⟨(some ⟨q0, 0, none⟩), 2, none, 0, ⟨1, 6, [64, 11258999068426], []⟩⟩] : List Lx), LxAt Wa14 x := fun x hx => by
    rcases List.mem_cons.1 hx with rfl | hx
    · exact ev_plain 3 14 [1099511627776, 64, 16, 1048576, 1125899906842624, 1125899906842624, 1099511627776] (by decide) (by decide) (fits_of (by decide)) (HV.out.below hb) (fun e => by cases e)
    · exact (HL.out x hx).below hb
  replace HL := Lib.hid hl
  replace HB := Lib.hid (below_step HB.out hb)
  clear hl hb HV
  obtain ⟨R, hR⟩ : ∃ R : List R5, R = [(⟨(some ⟨q0, 0, none⟩), 2, none, 0, ⟨1, 6, [64, 11258999068426], []⟩⟩, ⟨#[]⟩), (⟨(some ⟨q1, 0, none⟩), 2, none, 0, ⟨3, 6, [64, 1125899906842624], []⟩⟩, ⟨#[]⟩), (⟨(some ⟨q2, 0, none⟩), 6, none, 0, ⟨1, 11, [1, 2, 3, 0, 5, 6], []⟩⟩, ⟨#[1, 11, 1, 2, 3, 0, 5, 6]⟩), (⟨(some ⟨q3, 0, none⟩), 6, none, 0, ⟨3, 11, [1, 2, 3, 1, 5, 6], []⟩⟩, ⟨#[3, 11, 1, 2, 3, 1, 5, 6]⟩), (⟨(some ⟨q4, 0, none⟩), 4, none, 0, ⟨1, 13, [2, 1, 5, 6], []⟩⟩, ⟨#[1, 13, 2, 1, 5, 6]⟩), (⟨(some ⟨q5, 0, none⟩), 5, none, 0, ⟨2, 13, [2, 1, 5, 6, 0], []⟩⟩, ⟨#[2, 13, 2, 1, 5, 6, 0]⟩), (⟨(some ⟨q6, 0, none⟩), 1, some ⟨p6, 0, none⟩, 1, ⟨1, 3, [3], [⟨#[120]⟩]⟩⟩, ⟨#[1, 3, 3, 1, 120]⟩), (⟨(some ⟨q7, 0, none⟩), 2, some ⟨p7, 0, none⟩, 1, ⟨2, 3, [3, 128], [⟨#[120, 45, 57, 95, 122]⟩]⟩⟩, ⟨#[2, 3, 3, 128, 1, 5, 120, 45, 57, 95, 122]⟩), (⟨(some ⟨q8, 0, none⟩), 3, none, 0, ⟨2, 21, [1, 2, 3], []⟩⟩, ⟨#[2, 21, 1, 2, 3]⟩), (⟨(some ⟨q9, 0, none⟩), 1, some ⟨p9, 0, none⟩, 1, ⟨3, 22, [7], [⟨#[113]⟩]⟩⟩, ⟨#[3, 22, 7, 1, 113]⟩), (⟨(some ⟨q10, 0, none⟩), 2, none, 0, ⟨3, 23, [1, 2], []⟩⟩, ⟨#[3, 23, 1, 2]⟩), (⟨(some ⟨q11, 0, none⟩), 1, none, 0, ⟨1, 10, [10], []⟩⟩, ⟨#[1, 10, 10]⟩), (⟨(some ⟨q12, 0, none⟩), 1, none, 0, ⟨3, 10, [1000], []⟩⟩, ⟨#[3, 10, 232, 7]⟩), (⟨(some ⟨q13, 0, none⟩), 1, none, 0, ⟨3, 20, [1099511627776], []⟩⟩, ⟨#[]⟩), (⟨(some ⟨q14, 0, none⟩), 7, none, 0, ⟨3, 14, [1099511627776, 64, 16, 1048576, 1125899906842624, 1125899906842624, 1099511627776], []⟩⟩, ⟨#[]⟩)] := ⟨_, rfl⟩
  have hb := (Below.refl Wa14.heap.size Wa14).alloc (Nat.le_refl _) (.cells #[.int .u8 1, .int .u8 6, .slice (some ⟨q0, 0, none⟩) 2 2, .slice none 0 0, .string ⟨#[]⟩, .int .u8 3, .int .u8 6, .slice (some ⟨q1, 0, none⟩) 2 2, .slice none 0 0, .string ⟨#[]⟩, .int .u8 1, .int .u8 11, .slice (some ⟨q2, 0, none⟩) 6 6, .slice none 0 0, .string ⟨#[1, 11, 1, 2, 3, 0, 5, 6]⟩, .int .u8 3, .int .u8 11, .slice (some ⟨q3, 0, none⟩) 6 6, .slice none 0 0, .string ⟨#[3, 11, 1, 2, 3, 1, 5, 6]⟩, .int .u8 1, .int .u8 13, .slice (some ⟨q4, 0, none⟩) 4 4, .slice none 0 0, .string ⟨#[1, 13, 2, 1, 5, 6]⟩, .int .u8 2, .int .u8 13, .slice (some ⟨q5, 0, none⟩) 5 5, .slice none 0 0, .string ⟨#[2, 13, 2, 1, 5, 6, 0]⟩, .int .u8 1, .int .u8 3, .slice (some ⟨q6, 0, none⟩) 1 1, .slice (some ⟨p6, 0, none⟩) 1 1, .string ⟨#[1, 3, 3, 1, 120]⟩, .int .u8 2, .int .u8 3, .slice (some ⟨q7, 0, none⟩) 2 2, .slice (some ⟨p7, 0, none⟩) 1 1, .string ⟨#[2, 3, 3, 128, 1, 5, 120, 45, 57, 95, 122]⟩, .int .u8 2, .int .u8 21, .slice (some ⟨q8, 0, none⟩) 3 3, .slice none 0 0, .string ⟨#[2, 21, 1, 2, 3]⟩, .int .u8 3, .int .u8 22, .slice (some ⟨q9, 0, none⟩) 1 1, .slice (some ⟨p9, 0, none⟩) 1 1, .string ⟨#[3, 22, 7, 1, 113]⟩, .int .u8 3, .int .u8 23, .slice (some ⟨q10, 0, none⟩) 2 2, .slice none 0 0, .string ⟨#[3, 23, 1, 2]⟩, .int .u8 1, .int .u8 10, .slice (some ⟨q11, 0, none⟩) 1 1, .slice none 0 0, .string ⟨#[1, 10, 10]⟩, .int .u8 3, .int .u8 10, .slice (some ⟨q12, 0, none⟩) 1 1, .slice none 0 0, .string ⟨#[3, 10, 232, 7]⟩, .int .u8 3, .int .u8 20, .slice (some ⟨q13, 0, none⟩) 1 1, .slice none 0 0, .string ⟨#[]⟩, .int .u8 3, .int .u8 14, .slice (some ⟨q14, 0, none⟩) 7 7, .slice none 0 0, .string ⟨#[]⟩] 28)
  have HVR := Lib.hid (show VAt (Wa14.alloc (.cells #[.int .u8 1, .int .u8 6, .slice (some ⟨q0, 0, none⟩) 2 2, .slice none 0 0, .string ⟨#[]⟩, .int .u8 3, .int .u8 6, .slice (some ⟨q1, 0, none⟩) 2 2, .slice none 0 0, .string ⟨#[]⟩, .int .u8 1, .int .u8 11, .slice (some ⟨q2, 0, none⟩) 6 6, .slice none 0 0, .string ⟨#[1, 11, 1, 2, 3, 0, 5, 6]⟩, .int .u8 3, .int .u8 11, .slice (some ⟨q3, 0, none⟩) 6 6, .slice none 0 0, .string ⟨#[3, 11, 1, 2, 3, 1, 5, 6]⟩, .int .u8 1, .int .u8 13, .slice (some ⟨q4, 0, none⟩) 4 4, .slice none 0 0, .string ⟨#[1, 13, 2, 1, 5, 6]⟩, .int .u8 2, .int .u8 13, .slice (some ⟨q5, 0, none⟩) 5 5, .slice none 0 0, .string ⟨#[2, 13, 2, 1, 5, 6, 0]⟩, .int .u8 1, .int .u8 3, .slice (some ⟨q6, 0, none⟩) 1 1, .slice (some ⟨p6, 0, none⟩) 1 1, .string ⟨#[1, 3, 3, 1, 120]⟩, .int .u8 2, .int .u8 3, .slice (some ⟨q7, 0, none⟩) 2 2, .slice (some ⟨p7, 0, none⟩) 1 1, .string ⟨#[2, 3, 3, 128, 1, 5, 120, 45, 57, 95, 122]⟩, .int .u8 2, .int .u8 21, .slice (some ⟨q8, 0, none⟩) 3 3, .slice none 0 0, .string ⟨#[2, 21, 1, 2, 3]⟩, .int .u8 3, .int .u8 22, .slice (some ⟨q9, 0, none⟩) 1 1, .slice (some ⟨p9, 0, none⟩) 1 1, .string ⟨#[3, 22, 7, 1, 113]⟩, .int .u8 3, .int .u8 23, .slice (some ⟨q10, 0, none⟩) 2 2, .slice none 0 0, .string ⟨#[3, 23, 1, 2]⟩, .int .u8 1, .int .u8 10, .slice (some ⟨q11, 0, none⟩) 1 1, .slice none 0 0, .string ⟨#[1, 10, 10]⟩, .int .u8 3, .int .u8 10, .slice (some ⟨q12, 0, none⟩) 1 1, .slice none 0 0, .string ⟨#[3, 10, 232, 7]⟩, .int .u8 3, .int .u8 20, .slice (some ⟨q13, 0, none⟩) 1 1, .slice none 0 0, .string ⟨#[]⟩, .int .u8 3, .int .u8 14, .slice (some ⟨q14, 0, none⟩) 7 7, .slice none 0 0, .string ⟨#[]⟩] 28)) (some ⟨Wa14.heap.size, 0, none⟩) (R.flatMap c5) from by rw [hR]; exact vat_new Wa14 #[.int .u8 1, .int .u8 6, .slice (some ⟨q0, 0, none⟩) 2 2, .slice none 0 0, .string ⟨#[]⟩, .int .u8 3, .int .u8 6, .slice (some ⟨q1, 0, none⟩) 2 2, .slice none 0 0, .string ⟨#[]⟩, .int .u8 1, .int .u8 11, .slice (some ⟨q2, 0, none⟩) 6 6, .slice none 0 0, .string ⟨#[1, 11, 1, 2, 3, 0, 5, 6]⟩, .int .u8 3, .int .u8 11, .slice (some ⟨q3, 0, none⟩) 6 6, .slice none 0 0, .string ⟨#[3, 11, 1, 2, 3, 1, 5, 6]⟩, .int .u8 1, .int .u8 13, .slice (some ⟨q4, 0, none⟩) 4 4, .slice none 0 0, .string ⟨#[1, 13, 2, 1, 5, 6]⟩, .int .u8 2, .int .u8 13, .slice (some ⟨q5, 0, none⟩) 5 5, .slice none 0 0, .string ⟨#[2, 13, 2, 1, 5, 6, 0]⟩, .int .u8 1, .int .u8 3, .slice (some ⟨q6, 0, none⟩) 1 1, .slice (some ⟨p6, 0, none⟩) 1 1, .string ⟨#[1, 3, 3, 1, 120]⟩, .int .u8 2, .int .u8 3, .slice (some ⟨q7, 0, none⟩) 2 2, .slice (some ⟨p7, 0, none⟩) 1 1, .string ⟨#[2, 3, 3, 128, 1, 5, 120, 45, 57, 95, 122]⟩, .int .u8 2, .int .u8 21, .slice (some ⟨q8, 0, none⟩) 3 3, .slice none 0 0, .string ⟨#[2, 21, 1, 2, 3]⟩, .int .u8 3, .int .u8 22, .slice (some ⟨q9, 0, none⟩) 1 1, .slice (some ⟨p9, 0, none⟩) 1 1, .string ⟨#[3, 22, 7, 1, 113]⟩, .int .u8 3, .int .u8 23, .slice (some ⟨q10, 0, none⟩) 2 2, .slice none 0 0, .string ⟨#[3, 23, 1, 2]⟩, .int .u8 1, .int .u8 10, .slice (some ⟨q11, 0, none⟩) 1 1, .slice none 0 0, .string ⟨#[1, 10, 10]⟩, .int .u8 3, .int .u8 10, .slice (some ⟨q12, 0, none⟩) 1 1, .slice none 0 0, .string ⟨#[3, 10, 232, 7]⟩, .int .u8 3, .int .u8 20, .slice (some ⟨q13, 0, none⟩) 1 1, .slice none 0 0, .string ⟨#[]⟩, .int .u8 3, .int .u8 14, .slice (some ⟨q14, 0, none⟩) 7 7, .slice none 0 0, .string ⟨#[]⟩] 28)
  have HRL := Lib.hid (show ∀ x ∈ R, LxAt (Wa14.alloc (.cells #[.int .u8 1, .int .u8 6, .slice (some ⟨q0, 0, none⟩) 2 2, .slice none 0 0, .string ⟨#[]⟩, .int .u8 3, .int .u8 6, .slice (some ⟨q1, 0, none⟩) 2 2, .slice none 0 0, .string ⟨#[]⟩, .int .u8 1, .int .u8 11, .slice (some ⟨q2, 0, none⟩) 6 6, .slice none 0 0, .string ⟨#[1, 11, 1, 2, 3, 0, 5, 6]⟩, .int .u8 3, .int .u8 11, .slice (some ⟨q3, 0, none⟩) 6 6, .slice none 0 0, .string ⟨#[3, 11, 1, 2, 3, 1, 5, 6]⟩, .int .u8 1, .int .u8 13, .slice (some ⟨q4, 0, none⟩) 4 4, .slice none 0 0, .string ⟨#[1, 13, 2, 1, 5, 6]⟩, .int .u8 2, .int .u8 13, .slice (some ⟨q5, 0, none⟩) 5 5, .slice none 0 0, .string ⟨#[2, 13, 2, 1, 5, 6, 0]⟩, .int .u8 1, .int .u8 3, .slice (some ⟨q6, 0, none⟩) 1 1, .slice (some ⟨p6, 0, none⟩) 1 1, .string ⟨#[1, 3, 3, 1, 120]⟩, .int .u8 2, .int .u8 3, .slice (some ⟨q7, 0, none⟩) 2 2, .slice (some ⟨p7, 0, none⟩) 1 1, .string ⟨#[2, 3, 3, 128, 1, 5, 120, 45, 57, 95, 122]⟩, .int .u8 2, .int .u8 21, .slice (some ⟨q8, 0, none⟩) 3 3, .slice none 0 0, .string ⟨#[2, 21, 1, 2, 3]⟩, .int .u8 3, .int .u8 22, .slice (some ⟨q9, 0, none⟩) 1 1, .slice (some ⟨p9, 0, none⟩) 1 1, .string ⟨#[3, 22, 7, 1, 113]⟩, .int .u8 3, .int .u8 23, .slice (some ⟨q10, 0, none⟩) 2 2, .slice none 0 0, .string ⟨#[3, 23, 1, 2]⟩, .int .u8 1, .int .u8 10, .slice (some ⟨q11, 0, none⟩) 1 1, .slice none 0 0, .string ⟨#[1, 10, 10]⟩, .int .u8 3, .int .u8 10, .slice (some ⟨q12, 0, none⟩) 1 1, .slice none 0 0, .string ⟨#[3, 10, 232, 7]⟩, .int .u8 3, .int .u8 20, .slice (some ⟨q13, 0, none⟩) 1 1, .slice none 0 0, .string ⟨#[]⟩, .int .u8 3, .int .u8 14, .slice (some ⟨q14, 0, none⟩) 7 7, .slice none 0 0, .string ⟨#[]⟩] 28)) x.1 from fun x hx => (HL.out x.1 (by have h : x.1 ∈ R.map Prod.fst := List.mem_map_of_mem hx; rw [hR] at h; exact List.mem_reverse.2 h)).below hb)
  have HRP := Lib.hid (show ∀ x ∈ R, p5 (x.1.e, x.2) = true from mem_map (f := fun x : R5 => (x.1.e, x.2)) (by rw [hR]; exact good5_ok))
  have HRN := Lib.hid (show R.length = 15 from by rw [hR]; rfl)
  replace HB := Lib.hid (below_step HB.out hb)
  clear hb hR HL
  go_wp2_with fail
  generalize Wa14.alloc (.cells #[.int .u8 1, .int .u8 6, .slice (some ⟨q0, 0, none⟩) 2 2, .slice none 0 0, .string ⟨#[]⟩, .int .u8 3, .int .u8 6, .slice (some ⟨q1, 0, none⟩) 2 2, .slice none 0 0, .string ⟨#[]⟩, .int .u8 1, .int .u8 11, .slice (some ⟨q2, 0, none⟩) 6 6, .slice none 0 0, .string ⟨#[1, 11, 1, 2, 3, 0, 5, 6]⟩, .int .u8 3, .int .u8 11, .slice (some ⟨q3, 0, none⟩) 6 6, .slice none 0 0, .string ⟨#[3, 11, 1, 2, 3, 1, 5, 6]⟩, .int .u8 1, .int .u8 13, .slice (some ⟨q4, 0, none⟩) 4 4, .slice none 0 0, .string ⟨#[1, 13, 2, 1, 5, 6]⟩, .int .u8 2, .int .u8 13, .slice (some ⟨q5, 0, none⟩) 5 5, .slice none 0 0, .string ⟨#[2, 13, 2, 1, 5, 6, 0]⟩, .int .u8 1, .int .u8 3, .slice (some ⟨q6, 0, none⟩) 1 1, .slice (some ⟨p6, 0, none⟩) 1 1, .string ⟨#[1, 3, 3, 1, 120]⟩, .int .u8 2, .int .u8 3, .slice (some ⟨q7, 0, none⟩) 2 2, .slice (some ⟨p7, 0, none⟩) 1 1, .string ⟨#[2, 3, 3, 128, 1, 5, 120, 45, 57, 95, 122]⟩, .int .u8 2, .int .u8 21, .slice (some ⟨q8, 0, none⟩) 3 3, .slice none 0 0, .string ⟨#[2, 21, 1, 2, 3]⟩, .int .u8 3, .int .u8 22, .slice (some ⟨q9, 0, none⟩) 1 1, .slice (some ⟨p9, 0, none⟩) 1 1, .string ⟨#[3, 22, 7, 1, 113]⟩, .int .u8 3, .int .u8 23, .slice (some ⟨q10, 0, none⟩) 2 2, .slice none 0 0, .string ⟨#[3, 23, 1, 2]⟩, .int .u8 1, .int .u8 10, .slice (some ⟨q11, 0, none⟩) 1 1, .slice none 0 0, .string ⟨#[1, 10, 10]⟩, .int .u8 3, .int .u8 10, .slice (some ⟨q12, 0, none⟩) 1 1, .slice none 0 0, .string ⟨#[3, 10, 232, 7]⟩, .int .u8 3, .int .u8 20, .slice (some ⟨q13, 0, none⟩) 1 1, .slice none 0 0, .string ⟨#[]⟩, .int .u8 3, .int .u8 14, .slice (some ⟨q14, 0, none⟩) 7 7, .slice none 0 0, .string ⟨#[]⟩] 28) = V at HVR HRL HB ⊢
  obtain ⟨A0, hA0⟩ : ∃ A0, A0 = some (⟨Wa14.heap.size, 0, none⟩ : Addr) := ⟨_, rfl⟩
  rw [← hA0] at HVR ⊢
  clear hA0
  go_loopw [66] (fun j wr => ∃ k : Nat, j = .int .i64 k ∧ k ≤ 15 ∧ Hid (Below V.heap.size V wr)) (fun j _ => 15 - (intOf j).toNat)
  case atStart => exact ⟨0, rfl, Nat.zero_le _, Below.refl _ _⟩
  case round =>
    obtain ⟨k, rfl, hk, HBk⟩ := hrel
    by_cases hlt : k < 15
    · have z0 : (0 : Int) ≤ (k : Int) := by omega
      have z1 : (k : Int) < 15 := by omega
      have hkR : k < R.length := by rw [HRN.out]; exact hlt
      obtain ⟨b, o, rfl, hbl, c0, c1, c2, c3, c4⟩ := r5_at HVR.out k hkR
      have hrl := HRL.out _ (List.getElem_mem hkR)
      have hrp := HRP.out _ (List.getElem_mem hkR)
      have d0 := (HBk.out.cell (p := ⟨b, _, none⟩) hbl).trans c0
      have d1 := (HBk.out.cell (p := ⟨b, _, none⟩) hbl).trans c1
      have d2 := (HBk.out.cell (p := ⟨b, _, none⟩) hbl).trans c2
      have d3 := (HBk.out.cell (p := ⟨b, _, none⟩) hbl).trans c3
      have d4 := (HBk.out.cell (p := ⟨b, _, none⟩) hbl).trans c4
      clear c0 c1 c2 c3 c4 hbl
      generalize R[k] = y at d0 d1 d2 d3 d4 hrl hrp
      obtain ⟨x, s⟩ := y
      simp only [] at d0 d1 d2 d3 d4 hrl hrp
      have hm : may x.e = true := by unfold p5 at hrp; simp only [Bool.and_eq_true] at hrp; exact hrp.1
      have hs2 : s.size = 0 ∨ Wire.S (encB x.e) = s := by unfold p5 at hrp; simp only [Bool.and_eq_true, Bool.or_eq_true, decide_eq_true_eq] at hrp; exact hrp.2
      have HX := Lib.hid (hrl.below HBk.out)
      have HM := Lib.hid hm
      have HS2 := Lib.hid hs2
      clear hrl hrp hm hs2
      go_upto_region 6 with (fail)
      clear d0 d1 d2 d3 d4
      have hb := (Below.refl wr.heap.size wr).alloc (Nat.le_refl _) (.cells #[.int .u8 x.e.v, .int .u8 x.e.k, .slice x.A x.e.ns.length x.ca, .slice x.C x.e.ts.length x.cc, .string s] 28)
      have HP := Lib.hid (box5 wr (.int .u8 x.e.v) (.int .u8 x.e.k) (.slice x.A x.e.ns.length x.ca) (.slice x.C x.e.ts.length x.cc) (.string s) 28)
      replace HX := Lib.hid (HX.out.below hb)
      have HB2 := Lib.hid (below_step HBk.out hb)
      clear hb HBk
      generalize wr.alloc (.cells #[.int .u8 x.e.v, .int .u8 x.e.k, .slice x.A x.e.ns.length x.ca, .slice x.C x.e.ts.length x.cc, .string s] 28) = V1 at HP HX HB2 ⊢
      generalize wr.heap.size = q at HP ⊢
      have HEN := Lib.hid (Encode_any V1 x.A x.ca x.C x.cc x.e (by have := (may_lens HM.out).1; omega) HX.out (HE.out.below (below_step HB.out HB2.out)))
      simp only [evV] at HEN
      rw [show putE x.e = 0 from if_pos HM.out] at HEN
      obtain ⟨p0, p1, p2, p3, p4⟩ := HP.out
      go_wp2_with fail
      clear p0 p1 p2 p3 p4
      refine HEN.out.mono ?_
      rintro z V2 ⟨rfl, hb⟩
      clear HEN
      replace HP := Lib.hid (HP.out.below hb)
      replace HX := Lib.hid (HX.out.below hb)
      replace HB2 := Lib.hid (below_step HB2.out hb)
      clear hb
      have HBO := Lib.hid (fun (hm : may x.e = true) => both_any (Wire.S (encB x.e)) (by rw [S_size]; have := enc_short hm; omega) x.A x.ca x.C x.cc x.e (by have := (may_lens hm).1; omega) (by have := (may_lens hm).2; omega) V2 HX.out (HE.out.below (below_step HB.out HB2.out)) hm rfl (dec_enc hm).1 (dec_enc hm).2)
      have HBP := Lib.hid (HBO.out HM.out)
      clear HBO
      simp only [evV] at HBP
      have HTT : Hid (∀ T : ByteArray, (T.toList == T.toList) = true) := str_self
      generalize Wire.S (encB x.e) = T at HBP HS2 ⊢
      rcases HS2.out with hs0 | hs0
      · have hse := str_empty s hs0
        subst hse
        clear HS2 hs0 HTT
        have w1 : ((ByteArray.mk #[]).toList == (ByteArray.mk #[]).toList) = true := str_self _
        have w2 : ((ByteArray.mk #[]).toList != (ByteArray.mk #[]).toList) = false := by rw [bne, w1]; rfl
        obtain ⟨p0, p1, p2, p3, p4⟩ := HP.out
        go_wp2_with fail
        clear p0 p1 p2 p3 p4
        refine HBP.out.mono ?_
        rintro z V3 ⟨rfl, hb⟩
        have HB3 := Lib.hid (below_step HB2.out hb)
        clear hb
        go_wp2_with fail
        go_roundw
        case rel => exact ⟨k + 1, by go_num, by omega, HB3⟩
        case measure => simp [intOf] <;> omega
      · subst hs0
        clear HS2
        have w1 := HTT.out T
        have w2 : (T.toList != T.toList) = false := by rw [bne, w1]; rfl
        clear HTT
        by_cases ht0 : T.toList = []
        · have w3 : (T.toList == []) = true := by rw [ht0]; rfl
          have w4 : (T.toList != (ByteArray.mk #[]).toList) = false := by rw [bne, show (ByteArray.mk #[]).toList = [] from by rw [ByteArray.toList_eq], ht0]; rfl
          have w5 : (T.toList == (ByteArray.mk #[]).toList) = true := by rw [show (ByteArray.mk #[]).toList = [] from by rw [ByteArray.toList_eq], ht0]; rfl
          obtain ⟨p0, p1, p2, p3, p4⟩ := HP.out
          go_wp2_with fail
          clear p0 p1 p2 p3 p4
          refine HBP.out.mono ?_
          rintro z V3 ⟨rfl, hb⟩
          have HB3 := Lib.hid (below_step HB2.out hb)
          clear hb
          go_wp2_with fail
          go_roundw
          case rel => exact ⟨k + 1, by go_num, by omega, HB3⟩
          case measure => simp [intOf] <;> omega
        · have w3 : (T.toList == []) = false := by rw [beq_eq_false_iff_ne]; exact ht0
          have w5 : (T.toList == (ByteArray.mk #[]).toList) = false := by rw [beq_eq_false_iff_ne, show (ByteArray.mk #[]).toList = [] from by rw [ByteArray.toList_eq]]; exact ht0
          have w4 : (T.toList != (ByteArray.mk #[]).toList) = true := by rw [bne, w5]; rfl
          obtain ⟨p0, p1, p2, p3, p4⟩ := HP.out
          go_wp2_with fail
          clear p0 p1 p2 p3 p4
          refine HBP.out.mono ?_
          rintro z V3 ⟨rfl, hb⟩
          have HB3 := Lib.hid (below_step HB2.out hb)
          clear hb
          go_wp2_with fail
          go_roundw
          case rel => exact ⟨k + 1, by go_num, by omega, HB3⟩
          case measure => simp [intOf] <;> omega
    have z1 : ¬ (k : Int) < 15 := by omega
    have z2 : decide ((k : Int) < 15) = false := decide_eq_false z1
    replace HB := Lib.hid (below_step HB.out HBk.out)
    clear HBk HVR HRL HRP HRN hk hlt
    have HL := Lib.hid (fun x (hx : x ∈ ([] : List Lx)) => show LxAt wr x from by cases hx)
    have hl : ∀ x ∈ (⟨none, 0, none, 0, ⟨0, 0, [], []⟩⟩ : Lx) :: ([] : List Lx), LxAt wr x := fun x hx => by
      rcases List.mem_cons.1 hx with rfl | hx
      · exact ev_plain 0 0 [] (by decide) (by decide) (fits_of rfl) (VAt.nil _ _) (fun _ => rfl)
      · exact HL.out x hx
    replace HL := Lib.hid hl
    clear hl
    have hb := (Below.refl wr.heap.size wr).alloc (Nat.le_refl _) (.cells #[.int .i64 5] 2)
    have HV := Lib.hid (vat_new wr #[.int .i64 5] 2)
    replace HL := Lib.hid (fun x hx => (HL.out x hx).below hb)
    replace HB := Lib.hid (below_step HB.out hb)
    clear hb
    go_wp2_with fail
    refine (event_any 0 20 (some ⟨wr.heap.size, 0, none⟩) 1 1 (wr.alloc (.cells #[.int .i64 5] 2))).mono ?_
    rintro z Wb1 ⟨rfl, hb⟩
    generalize wr.heap.size = q1 at HV ⊢
    have hl : ∀ x ∈ (⟨(some ⟨q1, 0, none⟩), 1, none, 0, ⟨0, 20, [5], []⟩⟩ : Lx) :: ([⟨none, 0, none, 0, ⟨0, 0, [], []⟩⟩] : List Lx), LxAt Wb1 x := fun x hx => by
      rcases List.mem_cons.1 hx with rfl | hx
      · exact ev_plain 0 20 [5] (by decide) (by decide) (fits_of (by decide)) (HV.out.below hb) (fun e => by cases e)
      · exact (HL.out x hx).below hb
    replace HL := Lib.hid hl
    replace HB := Lib.hid (below_step HB.out hb)
    clear hl hb HV
    have hb := (Below.refl Wb1.heap.size Wb1).alloc (Nat.le_refl _) (.cells #[.int .i64 5] 2)
    have HV := Lib.hid (vat_new Wb1 #[.int .i64 5] 2)
    replace HL := Lib.hid (fun x hx => (HL.out x hx).below hb)
    replace HB := Lib.hid (below_step HB.out hb)
    clear hb
    go_wp2_with fail
    refine (event_any 4 20 (some ⟨Wb1.heap.size, 0, none⟩) 1 1 (Wb1.alloc (.cells #[.int .i64 5] 2))).mono ?_
    rintro z Wb2 ⟨rfl, hb⟩
    generalize Wb1.heap.size = q2 at HV ⊢
    have hl : ∀ x ∈ (⟨(some ⟨q2, 0, none⟩), 1, none, 0, ⟨4, 20, [5], []⟩⟩ : Lx) :: ([⟨(some ⟨q1, 0, none⟩), 1, none, 0, ⟨0, 20, [5], []⟩⟩, ⟨none, 0, none, 0, ⟨0, 0, [], []⟩⟩] : List Lx), LxAt Wb2 x := fun x hx => by
      rcases List.mem_cons.1 hx with rfl | hx
      · exact ev_plain 4 20 [5] (by decide) (by decide) (fits_of (by decide)) (HV.out.below hb) (fun e => by cases e)
      · exact (HL.out x hx).below hb
    replace HL := Lib.hid hl
    replace HB := Lib.hid (below_step HB.out hb)
    clear hl hb HV
    go_wp2_with fail
    refine (event_any 3 0 none 0 0 Wb2).mono ?_
    rintro z Wb3 ⟨rfl, hb⟩
    have hl : ∀ x ∈ (⟨none, 0, none, 0, ⟨3, 0, [], []⟩⟩ : Lx) :: ([⟨(some ⟨q2, 0, none⟩), 1, none, 0, ⟨4, 20, [5], []⟩⟩, ⟨(some ⟨q1, 0, none⟩), 1, none, 0, ⟨0, 20, [5], []⟩⟩, ⟨none, 0, none, 0, ⟨0, 0, [], []⟩⟩] : List Lx), LxAt Wb3 x := fun x hx => by
      rcases List.mem_cons.1 hx with rfl | hx
      · exact ev_plain 3 0 [] (by decide) (by decide) (fits_of (by decide)) (VAt.nil _ _) (fun e => by rfl)
      · exact (HL.out x hx).below hb
    replace HL := Lib.hid hl
    replace HB := Lib.hid (below_step HB.out hb)
    clear hl hb
    have hb := (Below.refl Wb3.heap.size Wb3).alloc (Nat.le_refl _) (.cells #[.int .i64 1] 2)
    have HV := Lib.hid (vat_new Wb3 #[.int .i64 1] 2)
    replace HL := Lib.hid (fun x hx => (HL.out x hx).below hb)
    replace HB := Lib.hid (below_step HB.out hb)
    clear hb
    go_wp2_with fail
    refine (event_any 3 24 (some ⟨Wb3.heap.size, 0, none⟩) 1 1 (Wb3.alloc (.cells #[.int .i64 1] 2))).mono ?_
    rintro z Wb4 ⟨rfl, hb⟩
    generalize Wb3.heap.size = q4 at HV ⊢
    have hl : ∀ x ∈ (⟨(some ⟨q4, 0, none⟩), 1, none, 0, ⟨3, 24, [1], []⟩⟩ : Lx) :: ([⟨none, 0, none, 0, ⟨3, 0, [], []⟩⟩, ⟨(some ⟨q2, 0, none⟩), 1, none, 0, ⟨4, 20, [5], []⟩⟩, ⟨(some ⟨q1, 0, none⟩), 1, none, 0, ⟨0, 20, [5], []⟩⟩, ⟨none, 0, none, 0, ⟨0, 0, [], []⟩⟩] : List Lx), LxAt Wb4 x := fun x hx => by
      rcases List.mem_cons.1 hx with rfl | hx
      · exact ev_plain 3 24 [1] (by decide) (by decide) (fits_of (by decide)) (HV.out.below hb) (fun e => by cases e)
      · exact (HL.out x hx).below hb
    replace HL := Lib.hid hl
    replace HB := Lib.hid (below_step HB.out hb)
    clear hl hb HV
    have hb := (Below.refl Wb4.heap.size Wb4).alloc (Nat.le_refl _) (.cells #[.int .i64 1, .int .i64 2, .int .i64 3] 2)
    have HV := Lib.hid (vat_new Wb4 #[.int .i64 1, .int .i64 2, .int .i64 3] 2)
    replace HL := Lib.hid (fun x hx => (HL.out x hx).below hb)
    replace HB := Lib.hid (below_step HB.out hb)
    clear hb
    go_wp2_with fail
    refine (event_any 1 21 (some ⟨Wb4.heap.size, 0, none⟩) 3 3 (Wb4.alloc (.cells #[.int .i64 1, .int .i64 2, .int .i64 3] 2))).mono ?_
    rintro z Wb5 ⟨rfl, hb⟩
    generalize Wb4.heap.size = q5 at HV ⊢
    have hl : ∀ x ∈ (⟨(some ⟨q5, 0, none⟩), 3, none, 0, ⟨1, 21, [1, 2, 3], []⟩⟩ : Lx) :: ([⟨(some ⟨q4, 0, none⟩), 1, none, 0, ⟨3, 24, [1], []⟩⟩, ⟨none, 0, none, 0, ⟨3, 0, [], []⟩⟩, ⟨(some ⟨q2, 0, none⟩), 1, none, 0, ⟨4, 20, [5], []⟩⟩, ⟨(some ⟨q1, 0, none⟩), 1, none, 0, ⟨0, 20, [5], []⟩⟩, ⟨none, 0, none, 0, ⟨0, 0, [], []⟩⟩] : List Lx), LxAt Wb5 x := fun x hx => by
      rcases List.mem_cons.1 hx with rfl | hx
      · exact ev_plain 1 21 [1, 2, 3] (by decide) (by decide) (fits_of (by decide)) (HV.out.below hb) (fun e => by cases e)
      · exact (HL.out x hx).below hb
    replace HL := Lib.hid hl
    replace HB := Lib.hid (below_step HB.out hb)
    clear hl hb HV
    have hb := (Below.refl Wb5.heap.size Wb5).alloc (Nat.le_refl _) (.cells #[.int .i64 1] 2)
    have HV := Lib.hid (vat_new Wb5 #[.int .i64 1] 2)
    replace HL := Lib.hid (fun x hx => (HL.out x hx).below hb)
    replace HB := Lib.hid (below_step HB.out hb)
    clear hb
    go_wp2_with fail
    refine (event_any 2 22 (some ⟨Wb5.heap.size, 0, none⟩) 1 1 (Wb5.alloc (.cells #[.int .i64 1] 2))).mono ?_
    rintro z Wb6 ⟨rfl, hb⟩
    generalize Wb5.heap.size = q6 at HV ⊢
    have hl : ∀ x ∈ (⟨(some ⟨q6, 0, none⟩), 1, none, 0, ⟨2, 22, [1], []⟩⟩ : Lx) :: ([⟨(some ⟨q5, 0, none⟩), 3, none, 0, ⟨1, 21, [1, 2, 3], []⟩⟩, ⟨(some ⟨q4, 0, none⟩), 1, none, 0, ⟨3, 24, [1], []⟩⟩, ⟨none, 0, none, 0, ⟨3, 0, [], []⟩⟩, ⟨(some ⟨q2, 0, none⟩), 1, none, 0, ⟨4, 20, [5], []⟩⟩, ⟨(some ⟨q1, 0, none⟩), 1, none, 0, ⟨0, 20, [5], []⟩⟩, ⟨none, 0, none, 0, ⟨0, 0, [], []⟩⟩] : List Lx), LxAt Wb6 x := fun x hx => by
      rcases List.mem_cons.1 hx with rfl | hx
      · exact ev_plain 2 22 [1] (by decide) (by decide) (fits_of (by decide)) (HV.out.below hb) (fun e => by cases e)
      · exact (HL.out x hx).below hb
    replace HL := Lib.hid hl
    replace HB := Lib.hid (below_step HB.out hb)
    clear hl hb HV
    go_wp2_with fail
    refine (event_any 3 20 none 0 0 Wb6).mono ?_
    rintro z Wb7 ⟨rfl, hb⟩
    have hl : ∀ x ∈ (⟨none, 0, none, 0, ⟨3, 20, [], []⟩⟩ : Lx) :: ([⟨(some ⟨q6, 0, none⟩), 1, none, 0, ⟨2, 22, [1], []⟩⟩, ⟨(some ⟨q5, 0, none⟩), 3, none, 0, ⟨1, 21, [1, 2, 3], []⟩⟩, ⟨(some ⟨q4, 0, none⟩), 1, none, 0, ⟨3, 24, [1], []⟩⟩, ⟨none, 0, none, 0, ⟨3, 0, [], []⟩⟩, ⟨(some ⟨q2, 0, none⟩), 1, none, 0, ⟨4, 20, [5], []⟩⟩, ⟨(some ⟨q1, 0, none⟩), 1, none, 0, ⟨0, 20, [5], []⟩⟩, ⟨none, 0, none, 0, ⟨0, 0, [], []⟩⟩] : List Lx), LxAt Wb7 x := fun x hx => by
      rcases List.mem_cons.1 hx with rfl | hx
      · exact ev_plain 3 20 [] (by decide) (by decide) (fits_of (by decide)) (VAt.nil _ _) (fun e => by rfl)
      · exact (HL.out x hx).below hb
    replace HL := Lib.hid hl
    replace HB := Lib.hid (below_step HB.out hb)
    clear hl hb
    have hb := (Below.refl Wb7.heap.size Wb7).alloc (Nat.le_refl _) (.cells #[.int .i64 1, .int .i64 2] 2)
    have HV := Lib.hid (vat_new Wb7 #[.int .i64 1, .int .i64 2] 2)
    replace HL := Lib.hid (fun x hx => (HL.out x hx).below hb)
    replace HB := Lib.hid (below_step HB.out hb)
    clear hb
    go_wp2_with fail
    refine (event_any 3 20 (some ⟨Wb7.heap.size, 0, none⟩) 2 2 (Wb7.alloc (.cells #[.int .i64 1, .int .i64 2] 2))).mono ?_
    rintro z Wb8 ⟨rfl, hb⟩
    generalize Wb7.heap.size = q8 at HV ⊢
    have hl : ∀ x ∈ (⟨(some ⟨q8, 0, none⟩), 2, none, 0, ⟨3, 20, [1, 2], []⟩⟩ : Lx) :: ([⟨none, 0, none, 0, ⟨3, 20, [], []⟩⟩, ⟨(some ⟨q6, 0, none⟩), 1, none, 0, ⟨2, 22, [1], []⟩⟩, ⟨(some ⟨q5, 0, none⟩), 3, none, 0, ⟨1, 21, [1, 2, 3], []⟩⟩, ⟨(some ⟨q4, 0, none⟩), 1, none, 0, ⟨3, 24, [1], []⟩⟩, ⟨none, 0, none, 0, ⟨3, 0, [], []⟩⟩, ⟨(some ⟨q2, 0, none⟩), 1, none, 0, ⟨4, 20, [5], []⟩⟩, ⟨(some ⟨q1, 0, none⟩), 1, none, 0, ⟨0, 20, [5], []⟩⟩, ⟨none, 0, none, 0, ⟨0, 0, [], []⟩⟩] : List Lx), LxAt Wb8 x := fun x hx => by
      rcases List.mem_cons.1 hx with rfl | hx
      · exact ev_plain 3 20 [1, 2] (by decide) (by decide) (fits_of (by decide)) (HV.out.below hb) (fun e => by cases e)
      · exact (HL.out x hx).below hb
    replace HL := Lib.hid hl
    replace HB := Lib.hid (below_step HB.out hb)
    clear hl hb HV
    have hb := (Below.refl Wb8.heap.size Wb8).alloc (Nat.le_refl _) (.cells #[.int .i64 0] 2)
    have HV := Lib.hid (vat_new Wb8 #[.int .i64 0] 2)
    replace HL := Lib.hid (fun x hx => (HL.out x hx).below hb)
    replace HB := Lib.hid (below_step HB.out hb)
    clear hb
    go_wp2_with fail
    refine (event_any 3 20 (some ⟨Wb8.heap.size, 0, none⟩) 1 1 (Wb8.alloc (.cells #[.int .i64 0] 2))).mono ?_
    rintro z Wb9 ⟨rfl, hb⟩
    generalize Wb8.heap.size = q9 at HV ⊢
    have hl : ∀ x ∈ (⟨(some ⟨q9, 0, none⟩), 1, none, 0, ⟨3, 20, [0], []⟩⟩ : Lx) :: ([⟨(some ⟨q8, 0, none⟩), 2, none, 0, ⟨3, 20, [1, 2], []⟩⟩, ⟨none, 0, none, 0, ⟨3, 20, [], []⟩⟩, ⟨(some ⟨q6, 0, none⟩), 1, none, 0, ⟨2, 22, [1], []⟩⟩, ⟨(some ⟨q5, 0, none⟩), 3, none, 0, ⟨1, 21, [1, 2, 3], []⟩⟩, ⟨(some ⟨q4, 0, none⟩), 1, none, 0, ⟨3, 24, [1], []⟩⟩, ⟨none, 0, none, 0, ⟨3, 0, [], []⟩⟩, ⟨(some ⟨q2, 0, none⟩), 1, none, 0, ⟨4, 20, [5], []⟩⟩, ⟨(some ⟨q1, 0, none⟩), 1, none, 0, ⟨0, 20, [5], []⟩⟩, ⟨none, 0, none, 0, ⟨0, 0, [], []⟩⟩] : List Lx), LxAt Wb9 x := fun x hx => by
      rcases List.mem_cons.1 hx with rfl | hx
      · exact ev_plain 3 20 [0] (by decide) (by decide) (fits_of (by decide)) (HV.out.below hb) (fun e => by cases e)
      · exact (HL.out x hx).below hb
    replace HL := Lib.hid hl
    replace HB := Lib.hid (below_step HB.out hb)
    clear hl hb HV
    have hb := (Below.refl Wb9.heap.size Wb9).alloc (Nat.le_refl _) (.cells #[.int .i64 1099511627777] 2)
    have HV := Lib.hid (vat_new Wb9 #[.int .i64 1099511627777] 2)
    replace HL := Lib.hid (fun x hx => (HL.out x hx).below hb)
    replace HB := Lib.hid (below_step HB.out hb)
    clear hb
    go_wp2_with fail
    refine (event_any 3 20 (some ⟨Wb9.heap.size, 0, none⟩) 1 1 (Wb9.alloc (.cells #[.int .i64 1099511627777] 2))).mono ?_
    rintro z Wb10 ⟨rfl, hb⟩
    generalize Wb9.heap.size = q10 at HV ⊢
    have hl : ∀ x ∈ (⟨(some ⟨q10, 0, none⟩), 1, none, 0, ⟨3, 20, [1099511627777], []⟩⟩ : Lx) :: ([⟨(some ⟨q9, 0, none⟩), 1, none, 0, ⟨3, 20, [0], []⟩⟩, ⟨(some ⟨q8, 0, none⟩), 2, none, 0, ⟨3, 20, [1, 2], []⟩⟩, ⟨none, 0, none, 0, ⟨3, 20, [], []⟩⟩, ⟨(some ⟨q6, 0, none⟩), 1, none, 0, ⟨2, 22, [1], []⟩⟩, ⟨(some ⟨q5, 0, none⟩), 3, none, 0, ⟨1, 21, [1, 2, 3], []⟩⟩, ⟨(some ⟨q4, 0, none⟩), 1, none, 0, ⟨3, 24, [1], []⟩⟩, ⟨none, 0, none, 0, ⟨3, 0, [], []⟩⟩, ⟨(some ⟨q2, 0, none⟩), 1, none, 0, ⟨4, 20, [5], []⟩⟩, ⟨(some ⟨q1, 0, none⟩), 1, none, 0, ⟨0, 20, [5], []⟩⟩, ⟨none, 0, none, 0, ⟨0, 0, [], []⟩⟩] : List Lx), LxAt Wb10 x := fun x hx => by
      rcases List.mem_cons.1 hx with rfl | hx
      · exact ev_plain 3 20 [1099511627777] (by decide) (by decide) (fits_of (by decide)) (HV.out.below hb) (fun e => by cases e)
      · exact (HL.out x hx).below hb
    replace HL := Lib.hid hl
    replace HB := Lib.hid (below_step HB.out hb)
    clear hl hb HV
    have hb := (Below.refl Wb10.heap.size Wb10).alloc (Nat.le_refl _) (.cells #[.int .i64 109951162778] 2)
    have HV := Lib.hid (vat_new Wb10 #[.int .i64 109951162778] 2)
    replace HL := Lib.hid (fun x hx => (HL.out x hx).below hb)
    replace HB := Lib.hid (below_step HB.out hb)
    clear hb
    go_wp2_with fail
    refine (event_any 2 20 (some ⟨Wb10.heap.size, 0, none⟩) 1 1 (Wb10.alloc (.cells #[.int .i64 109951162778] 2))).mono ?_
    rintro z Wb11 ⟨rfl, hb⟩
    generalize Wb10.heap.size = q11 at HV ⊢
    have hl : ∀ x ∈ (⟨(some ⟨q11, 0, none⟩), 1, none, 0, ⟨2, 20, [109951162778], []⟩⟩ : Lx) :: ([⟨(some ⟨q10, 0, none⟩), 1, none, 0, ⟨3, 20, [1099511627777], []⟩⟩, ⟨(some ⟨q9, 0, none⟩), 1, none, 0, ⟨3, 20, [0], []⟩⟩, ⟨(some ⟨q8, 0, none⟩), 2, none, 0, ⟨3, 20, [1, 2], []⟩⟩, ⟨none, 0, none, 0, ⟨3, 20, [], []⟩⟩, ⟨(some ⟨q6, 0, none⟩), 1, none, 0, ⟨2, 22, [1], []⟩⟩, ⟨(some ⟨q5, 0, none⟩), 3, none, 0, ⟨1, 21, [1, 2, 3], []⟩⟩, ⟨(some ⟨q4, 0, none⟩), 1, none, 0, ⟨3, 24, [1], []⟩⟩, ⟨none, 0, none, 0, ⟨3, 0, [], []⟩⟩, ⟨(some ⟨q2, 0, none⟩), 1, none, 0, ⟨4, 20, [5], []⟩⟩, ⟨(some ⟨q1, 0, none⟩), 1, none, 0, ⟨0, 20, [5], []⟩⟩, ⟨none, 0, none, 0, ⟨0, 0, [], []⟩⟩] : List Lx), LxAt Wb11 x := fun x hx => by
      rcases List.mem_cons.1 hx with rfl | hx
      · exact ev_plain 2 20 [109951162778] (by decide) (by decide) (fits_of (by decide)) (HV.out.below hb) (fun e => by cases e)
      · exact (HL.out x hx).below hb
    replace HL := Lib.hid hl
    replace HB := Lib.hid (below_step HB.out hb)
    clear hl hb HV
    have hb := (Below.refl Wb11.heap.size Wb11).alloc (Nat.le_refl _) (.cells #[.int .i64 65, .int .i64 1] 2)
    have HV := Lib.hid (vat_new Wb11 #[.int .i64 65, .int .i64 1] 2)
    replace HL := Lib.hid (fun x hx => (HL.out x hx).below hb)
    replace HB := Lib.hid (below_step HB.out hb)
    clear hb
    go_wp2_with fail
    refine (event_any 3 6 (some ⟨Wb11.heap.size, 0, none⟩) 2 2 (Wb11.alloc (.cells #[.int .i64 65, .int .i64 1] 2))).mono ?_
    rintro z Wb12 ⟨rfl, hb⟩
    generalize Wb11.heap.size = q12 at HV ⊢
    have hl : ∀ x ∈ (⟨(some ⟨q12, 0, none⟩), 2, none, 0, ⟨3, 6, [65, 1], []⟩⟩ : Lx) :: ([⟨(some ⟨q11, 0, none⟩), 1, none, 0, ⟨2, 20, [109951162778], []⟩⟩, ⟨(some ⟨q10, 0, none⟩), 1, none, 0, ⟨3, 20, [1099511627777], []⟩⟩, ⟨(some ⟨q9, 0, none⟩), 1, none, 0, ⟨3, 20, [0], []⟩⟩, ⟨(some ⟨q8, 0, none⟩), 2, none, 0, ⟨3, 20, [1, 2], []⟩⟩, ⟨none, 0, none, 0, ⟨3, 20, [], []⟩⟩, ⟨(some ⟨q6, 0, none⟩), 1, none, 0, ⟨2, 22, [1], []⟩⟩, ⟨(some ⟨q5, 0, none⟩), 3, none, 0, ⟨1, 21, [1, 2, 3], []⟩⟩, ⟨(some ⟨q4, 0, none⟩), 1, none, 0, ⟨3, 24, [1], []⟩⟩, ⟨none, 0, none, 0, ⟨3, 0, [], []⟩⟩, ⟨(some ⟨q2, 0, none⟩), 1, none, 0, ⟨4, 20, [5], []⟩⟩, ⟨(some ⟨q1, 0, none⟩), 1, none, 0, ⟨0, 20, [5], []⟩⟩, ⟨none, 0, none, 0, ⟨0, 0, [], []⟩⟩] : List Lx), LxAt Wb12 x := fun x hx => by
      rcases List.mem_cons.1 hx with rfl | hx
      · exact ev_plain 3 6 [65, 1] (by decide) (by decide) (fits_of (by decide)) (HV.out.below hb) (fun e => by cases e)
      · exact (HL.out x hx).below hb
    replace HL := Lib.hid hl
    replace HB := Lib.hid (below_step HB.out hb)
    clear hl hb HV
    have hb := (Below.refl Wb12.heap.size Wb12).alloc (Nat.le_refl _) (.cells #[.int .i64 1, .int .i64 11258999068427] 2)
    have HV := Lib.hid (vat_new Wb12 #[.int .i64 1, .int .i64 11258999068427] 2)
    replace HL := Lib.hid (fun x hx => (HL.out x hx).below hb)
    replace HB := Lib.hid (below_step HB.out hb)
    clear hb
    go_wp2_with fail
    refine (event_any 1 6 (some ⟨Wb12.heap.size, 0, none⟩) 2 2 (Wb12.alloc (.cells #[.int .i64 1, .int .i64 11258999068427] 2))).mono ?_
    rintro z Wb13 ⟨rfl, hb⟩
    generalize Wb12.heap.size = q13 at HV ⊢
    have hl : ∀ x ∈ (⟨(some ⟨q13, 0, none⟩), 2, none, 0, ⟨1, 6, [1, 11258999068427], []⟩⟩ : Lx) :: ([⟨(some ⟨q12, 0, none⟩), 2, none, 0, ⟨3, 6, [65, 1], []⟩⟩, ⟨(some ⟨q11, 0, none⟩), 1, none, 0, ⟨2, 20, [109951162778], []⟩⟩, ⟨(some ⟨q10, 0, none⟩), 1, none, 0, ⟨3, 20, [1099511627777], []⟩⟩, ⟨(some ⟨q9, 0, none⟩), 1, none, 0, ⟨3, 20, [0], []⟩⟩, ⟨(some ⟨q8, 0, none⟩), 2, none, 0, ⟨3, 20, [1, 2], []⟩⟩, ⟨none, 0, none, 0, ⟨3, 20, [], []⟩⟩, ⟨(some ⟨q6, 0, none⟩), 1, none, 0, ⟨2, 22, [1], []⟩⟩, ⟨(some ⟨q5, 0, none⟩), 3, none, 0, ⟨1, 21, [1, 2, 3], []⟩⟩, ⟨(some ⟨q4, 0, none⟩), 1, none, 0, ⟨3, 24, [1], []⟩⟩, ⟨none, 0, none, 0, ⟨3, 0, [], []⟩⟩, ⟨(some ⟨q2, 0, none⟩), 1, none, 0, ⟨4, 20, [5], []⟩⟩, ⟨(some ⟨q1, 0, none⟩), 1, none, 0, ⟨0, 20, [5], []⟩⟩, ⟨none, 0, none, 0, ⟨0, 0, [], []⟩⟩] : List Lx), LxAt Wb13 x := fun x hx => by
      rcases List.mem_cons.1 hx with rfl | hx
      · exact ev_plain 1 6 [1, 11258999068427] (by decide) (by decide) (fits_of (by decide)) (HV.out.below hb) (fun e => by cases e)
      · exact (HL.out x hx).below hb
    replace HL := Lib.hid hl
    replace HB := Lib.hid (below_step HB.out hb)
    clear hl hb HV
    have hb := (Below.refl Wb13.heap.size Wb13).alloc (Nat.le_refl _) (.cells #[.int .i64 1, .int .i64 2, .int .i64 3, .int .i64 0, .int .i64 5, .int .i64 6] 2)
    have HV := Lib.hid (vat_new Wb13 #[.int .i64 1, .int .i64 2, .int .i64 3, .int .i64 0, .int .i64 5, .int .i64 6] 2)
    replace HL := Lib.hid (fun x hx => (HL.out x hx).below hb)
    replace HB := Lib.hid (below_step HB.out hb)
    clear hb
    go_wp2_with fail
    refine (event_any 3 11 (some ⟨Wb13.heap.size, 0, none⟩) 6 6 (Wb13.alloc (.cells #[.int .i64 1, .int .i64 2, .int .i64 3, .int .i64 0, .int .i64 5, .int .i64 6] 2))).mono ?_
    rintro z Wb14 ⟨rfl, hb⟩
    generalize Wb13.heap.size = q14 at HV ⊢
    have hl : ∀ x ∈ (⟨(some ⟨q14, 0, none⟩), 6, none, 0, ⟨3, 11, [1, 2, 3, 0, 5, 6], []⟩⟩ : Lx) :: ([⟨(some ⟨q13, 0, none⟩), 2, none, 0, ⟨1, 6, [1, 11258999068427], []⟩⟩, ⟨(some ⟨q12, 0, none⟩), 2, none, 0, ⟨3, 6, [65, 1], []⟩⟩, ⟨(some ⟨q11, 0, none⟩), 1, none, 0, ⟨2, 20, [109951162778], []⟩⟩, ⟨(some ⟨q10, 0, none⟩), 1, none, 0, ⟨3, 20, [1099511627777], []⟩⟩, ⟨(some ⟨q9, 0, none⟩), 1, none, 0, ⟨3, 20, [0], []⟩⟩, ⟨(some ⟨q8, 0, none⟩), 2, none, 0, ⟨3, 20, [1, 2], []⟩⟩, ⟨none, 0, none, 0, ⟨3, 20, [], []⟩⟩, ⟨(some ⟨q6, 0, none⟩), 1, none, 0, ⟨2, 22, [1], []⟩⟩, ⟨(some ⟨q5, 0, none⟩), 3, none, 0, ⟨1, 21, [1, 2, 3], []⟩⟩, ⟨(some ⟨q4, 0, none⟩), 1, none, 0, ⟨3, 24, [1], []⟩⟩, ⟨none, 0, none, 0, ⟨3, 0, [], []⟩⟩, ⟨(some ⟨q2, 0, none⟩), 1, none, 0, ⟨4, 20, [5], []⟩⟩, ⟨(some ⟨q1, 0, none⟩), 1, none, 0, ⟨0, 20, [5], []⟩⟩, ⟨none, 0, none, 0, ⟨0, 0, [], []⟩⟩] : List Lx), LxAt Wb14 x := fun x hx => by
      rcases List.mem_cons.1 hx with rfl | hx
      · exact ev_plain 3 11 [1, 2, 3, 0, 5, 6] (by decide) (by decide) (fits_of (by decide)) (HV.out.below hb) (fun e => by cases e)
      · exact (HL.out x hx).below hb
    replace HL := Lib.hid hl
    replace HB := Lib.hid (below_step HB.out hb)
    clear hl hb HV
    have hb := (Below.refl Wb14.heap.size Wb14).alloc (Nat.le_refl _) (.cells #[.int .i64 1, .int .i64 2, .int .i64 3, .int .i64 2, .int .i64 5, .int .i64 6] 2)
    have HV := Lib.hid (vat_new Wb14 #[.int .i64 1, .int .i64 2, .int .i64 3, .int .i64 2, .int .i64 5, .int .i64 6] 2)
    replace HL := Lib.hid (fun x hx => (HL.out x hx).below hb)
    replace HB := Lib.hid (below_step HB.out hb)
    clear hb
    go_wp2_with fail
    refine (event_any 2 11 (some ⟨Wb14.heap.size, 0, none⟩) 6 6 (Wb14.alloc (.cells #[.int .i64 1, .int .i64 2, .int .i64 3, .int .i64 2, .int .i64 5, .int .i64 6] 2))).mono ?_
    rintro z Wb15 ⟨rfl, hb⟩
    generalize Wb14.heap.size = q15 at HV ⊢
    have hl : ∀ x ∈ (⟨(some ⟨q15, 0, none⟩), 6, none, 0, ⟨2, 11, [1, 2, 3, 2, 5, 6], []⟩⟩ : Lx) :: ([⟨(some ⟨q14, 0, none⟩), 6, none, 0, ⟨3, 11, [1, 2, 3, 0, 5, 6], []⟩⟩, ⟨(some ⟨q13, 0, none⟩), 2, none, 0, ⟨1, 6, [1, 11258999068427], []⟩⟩, ⟨(some ⟨q12, 0, none⟩), 2, none, 0, ⟨3, 6, [65, 1], []⟩⟩, ⟨(some ⟨q11, 0, none⟩), 1, none, 0, ⟨2, 20, [109951162778], []⟩⟩, ⟨(some ⟨q10, 0, none⟩), 1, none, 0, ⟨3, 20, [1099511627777], []⟩⟩, ⟨(some ⟨q9, 0, none⟩), 1, none, 0, ⟨3, 20, [0], []⟩⟩, ⟨(some ⟨q8, 0, none⟩), 2, none, 0, ⟨3, 20, [1, 2], []⟩⟩, ⟨none, 0, none, 0, ⟨3, 20, [], []⟩⟩, ⟨(some ⟨q6, 0, none⟩), 1, none, 0, ⟨2, 22, [1], []⟩⟩, ⟨(some ⟨q5, 0, none⟩), 3, none, 0, ⟨1, 21, [1, 2, 3], []⟩⟩, ⟨(some ⟨q4, 0, none⟩), 1, none, 0, ⟨3, 24, [1], []⟩⟩, ⟨none, 0, none, 0, ⟨3, 0, [], []⟩⟩, ⟨(some ⟨q2, 0, none⟩), 1, none, 0, ⟨4, 20, [5], []⟩⟩, ⟨(some ⟨q1, 0, none⟩), 1, none, 0, ⟨0, 20, [5], []⟩⟩, ⟨none, 0, none, 0, ⟨0, 0, [], []⟩⟩] : List Lx), LxAt Wb15 x := fun x hx => by
      rcases List.mem_cons.1 hx with rfl | hx
      · exact ev_plain 2 11 [1, 2, 3, 2, 5, 6] (by decide) (by decide) (fits_of (by decide)) (HV.out.below hb) (fun e => by cases e)
      · exact (HL.out x hx).below hb
    replace HL := Lib.hid hl
    replace HB := Lib.hid (below_step HB.out hb)
    clear hl hb HV
    have hb := (Below.refl Wb15.heap.size Wb15).alloc (Nat.le_refl _) (.cells #[.int .i64 1] 2)
    have HV := Lib.hid (vat_new Wb15 #[.int .i64 1] 2)
    replace HL := Lib.hid (fun x hx => (HL.out x hx).below hb)
    replace HB := Lib.hid (below_step HB.out hb)
    clear hb
    go_wp2_with fail
    refine (named_any 3 1 ⟨#[]⟩ (some ⟨Wb15.heap.size, 0, none⟩) 1 1 (Wb15.alloc (.cells #[.int .i64 1] 2))).mono ?_
    rintro z Wb16 ⟨p16, rfl, hone, hb⟩
    generalize Wb15.heap.size = q16 at HV ⊢
    have hl : ∀ x ∈ (⟨(some ⟨q16, 0, none⟩), 1, some ⟨p16, 0, none⟩, 1, ⟨3, 1, [1], [⟨#[]⟩]⟩⟩ : Lx) :: ([⟨(some ⟨q15, 0, none⟩), 6, none, 0, ⟨2, 11, [1, 2, 3, 2, 5, 6], []⟩⟩, ⟨(some ⟨q14, 0, none⟩), 6, none, 0, ⟨3, 11, [1, 2, 3, 0, 5, 6], []⟩⟩, ⟨(some ⟨q13, 0, none⟩), 2, none, 0, ⟨1, 6, [1, 11258999068427], []⟩⟩, ⟨(some ⟨q12, 0, none⟩), 2, none, 0, ⟨3, 6, [65, 1], []⟩⟩, ⟨(some ⟨q11, 0, none⟩), 1, none, 0, ⟨2, 20, [109951162778], []⟩⟩, ⟨(some ⟨q10, 0, none⟩), 1, none, 0, ⟨3, 20, [1099511627777], []⟩⟩, ⟨(some ⟨q9, 0, none⟩), 1, none, 0, ⟨3, 20, [0], []⟩⟩, ⟨(some ⟨q8, 0, none⟩), 2, none, 0, ⟨3, 20, [1, 2], []⟩⟩, ⟨none, 0, none, 0, ⟨3, 20, [], []⟩⟩, ⟨(some ⟨q6, 0, none⟩), 1, none, 0, ⟨2, 22, [1], []⟩⟩, ⟨(some ⟨q5, 0, none⟩), 3, none, 0, ⟨1, 21, [1, 2, 3], []⟩⟩, ⟨(some ⟨q4, 0, none⟩), 1, none, 0, ⟨3, 24, [1], []⟩⟩, ⟨none, 0, none, 0, ⟨3, 0, [], []⟩⟩, ⟨(some ⟨q2, 0, none⟩), 1, none, 0, ⟨4, 20, [5], []⟩⟩, ⟨(some ⟨q1, 0, none⟩), 1, none, 0, ⟨0, 20, [5], []⟩⟩, ⟨none, 0, none, 0, ⟨0, 0, [], []⟩⟩] : List Lx), LxAt Wb16 x := fun x hx => by
      rcases List.mem_cons.1 hx with rfl | hx
      · exact ev_named 3 1 [1] [⟨#[]⟩] (by decide) (by decide) (fits_of (by decide)) (fun t ht => by simp at ht; subst ht; decide) (HV.out.below hb) (one_vat hone) (fun e => by cases e) (fun e => by cases e)
      · exact (HL.out x hx).below hb
    replace HL := Lib.hid hl
    replace HB := Lib.hid (below_step HB.out hb)
    clear hl hb HV hone
    have hb := (Below.refl Wb16.heap.size Wb16).alloc (Nat.le_refl _) (.cells #[.int .i64 1] 2)
    have HV := Lib.hid (vat_new Wb16 #[.int .i64 1] 2)
    replace HL := Lib.hid (fun x hx => (HL.out x hx).below hb)
    replace HB := Lib.hid (below_step HB.out hb)
    clear hb
    go_wp2_with fail
    refine (named_any 3 1 ⟨#[65]⟩ (some ⟨Wb16.heap.size, 0, none⟩) 1 1 (Wb16.alloc (.cells #[.int .i64 1] 2))).mono ?_
    rintro z Wb17 ⟨p17, rfl, hone, hb⟩
    generalize Wb16.heap.size = q17 at HV ⊢
    have hl : ∀ x ∈ (⟨(some ⟨q17, 0, none⟩), 1, some ⟨p17, 0, none⟩, 1, ⟨3, 1, [1], [⟨#[65]⟩]⟩⟩ : Lx) :: ([⟨(some ⟨q16, 0, none⟩), 1, some ⟨p16, 0, none⟩, 1, ⟨3, 1, [1], [⟨#[]⟩]⟩⟩, ⟨(some ⟨q15, 0, none⟩), 6, none, 0, ⟨2, 11, [1, 2, 3, 2, 5, 6], []⟩⟩, ⟨(some ⟨q14, 0, none⟩), 6, none, 0, ⟨3, 11, [1, 2, 3, 0, 5, 6], []⟩⟩, ⟨(some ⟨q13, 0, none⟩), 2, none, 0, ⟨1, 6, [1, 11258999068427], []⟩⟩, ⟨(some ⟨q12, 0, none⟩), 2, none, 0, ⟨3, 6, [65, 1], []⟩⟩, ⟨(some ⟨q11, 0, none⟩), 1, none, 0, ⟨2, 20, [109951162778], []⟩⟩, ⟨(some ⟨q10, 0, none⟩), 1, none, 0, ⟨3, 20, [1099511627777], []⟩⟩, ⟨(some ⟨q9, 0, none⟩), 1, none, 0, ⟨3, 20, [0], []⟩⟩, ⟨(some ⟨q8, 0, none⟩), 2, none, 0, ⟨3, 20, [1, 2], []⟩⟩, ⟨none, 0, none, 0, ⟨3, 20, [], []⟩⟩, ⟨(some ⟨q6, 0, none⟩), 1, none, 0, ⟨2, 22, [1], []⟩⟩, ⟨(some ⟨q5, 0, none⟩), 3, none, 0, ⟨1, 21, [1, 2, 3], []⟩⟩, ⟨(some ⟨q4, 0, none⟩), 1, none, 0, ⟨3, 24, [1], []⟩⟩, ⟨none, 0, none, 0, ⟨3, 0, [], []⟩⟩, ⟨(some ⟨q2, 0, none⟩), 1, none, 0, ⟨4, 20, [5], []⟩⟩, ⟨(some ⟨q1, 0, none⟩), 1, none, 0, ⟨0, 20, [5], []⟩⟩, ⟨none, 0, none, 0, ⟨0, 0, [], []⟩⟩] : List Lx), LxAt Wb17 x := fun x hx => by
      rcases List.mem_cons.1 hx with rfl | hx
      · exact ev_named 3 1 [1] [⟨#[65]⟩] (by decide) (by decide) (fits_of (by decide)) (fun t ht => by simp at ht; subst ht; decide) (HV.out.below hb) (one_vat hone) (fun e => by cases e) (fun e => by cases e)
      · exact (HL.out x hx).below hb
    replace HL := Lib.hid hl
    replace HB := Lib.hid (below_step HB.out hb)
    clear hl hb HV hone
    have hb := (Below.refl Wb17.heap.size Wb17).alloc (Nat.le_refl _) (.cells #[.int .i64 1] 2)
    have HV := Lib.hid (vat_new Wb17 #[.int .i64 1] 2)
    replace HL := Lib.hid (fun x hx => (HL.out x hx).below hb)
    replace HB := Lib.hid (below_step HB.out hb)
    clear hb
    go_wp2_with fail
    refine (named_any 3 1 ⟨#[97, 98, 99, 100, 101, 102, 103, 104, 105, 106, 107, 108, 109, 110, 111, 112, 113, 114, 115, 116, 117, 118, 119, 120, 121]⟩ (some ⟨Wb17.heap.size, 0, none⟩) 1 1 (Wb17.alloc (.cells #[.int .i64 1] 2))).mono ?_
    rintro z Wb18 ⟨p18, rfl, hone, hb⟩
    generalize Wb17.heap.size = q18 at HV ⊢
    have hl : ∀ x ∈ (⟨(some ⟨q18, 0, none⟩), 1, some ⟨p18, 0, none⟩, 1, ⟨3, 1, [1], [⟨#[97, 98, 99, 100, 101, 102, 103, 104, 105, 106, 107, 108, 109, 110, 111, 112, 113, 114, 115, 116, 117, 118, 119, 120, 121]⟩]⟩⟩ : Lx) :: ([⟨(some ⟨q17, 0, none⟩), 1, some ⟨p17, 0, none⟩, 1, ⟨3, 1, [1], [⟨#[65]⟩]⟩⟩, ⟨(some ⟨q16, 0, none⟩), 1, some ⟨p16, 0, none⟩, 1, ⟨3, 1, [1], [⟨#[]⟩]⟩⟩, ⟨(some ⟨q15, 0, none⟩), 6, none, 0, ⟨2, 11, [1, 2, 3, 2, 5, 6], []⟩⟩, ⟨(some ⟨q14, 0, none⟩), 6, none, 0, ⟨3, 11, [1, 2, 3, 0, 5, 6], []⟩⟩, ⟨(some ⟨q13, 0, none⟩), 2, none, 0, ⟨1, 6, [1, 11258999068427], []⟩⟩, ⟨(some ⟨q12, 0, none⟩), 2, none, 0, ⟨3, 6, [65, 1], []⟩⟩, ⟨(some ⟨q11, 0, none⟩), 1, none, 0, ⟨2, 20, [109951162778], []⟩⟩, ⟨(some ⟨q10, 0, none⟩), 1, none, 0, ⟨3, 20, [1099511627777], []⟩⟩, ⟨(some ⟨q9, 0, none⟩), 1, none, 0, ⟨3, 20, [0], []⟩⟩, ⟨(some ⟨q8, 0, none⟩), 2, none, 0, ⟨3, 20, [1, 2], []⟩⟩, ⟨none, 0, none, 0, ⟨3, 20, [], []⟩⟩, ⟨(some ⟨q6, 0, none⟩), 1, none, 0, ⟨2, 22, [1], []⟩⟩, ⟨(some ⟨q5, 0, none⟩), 3, none, 0, ⟨1, 21, [1, 2, 3], []⟩⟩, ⟨(some ⟨q4, 0, none⟩), 1, none, 0, ⟨3, 24, [1], []⟩⟩, ⟨none, 0, none, 0, ⟨3, 0, [], []⟩⟩, ⟨(some ⟨q2, 0, none⟩), 1, none, 0, ⟨4, 20, [5], []⟩⟩, ⟨(some ⟨q1, 0, none⟩), 1, none, 0, ⟨0, 20, [5], []⟩⟩, ⟨none, 0, none, 0, ⟨0, 0, [], []⟩⟩] : List Lx), LxAt Wb18 x := fun x hx => by
      rcases List.mem_cons.1 hx with rfl | hx
      · exact ev_named 3 1 [1] [⟨#[97, 98, 99, 100, 101, 102, 103, 104, 105, 106, 107, 108, 109, 110, 111, 112, 113, 114, 115, 116, 117, 118, 119, 120, 121]⟩] (by decide) (by decide) (fits_of (by decide)) (fun t ht => by simp at ht; subst ht; decide) (HV.out.below hb) (one_vat hone) (fun e => by cases e) (fun e => by cases e)
      · exact (HL.out x hx).below hb
    replace HL := Lib.hid hl
    replace HB := Lib.hid (below_step HB.out hb)
    clear hl hb HV hone
    have hb := (Below.refl Wb18.heap.size Wb18).alloc (Nat.le_refl _) (.cells #[.int .i64 5] 2)
    have HV := Lib.hid (vat_new Wb18 #[.int .i64 5] 2)
    replace HL := Lib.hid (fun x hx => (HL.out x hx).below hb)
    replace HB := Lib.hid (below_step HB.out hb)
    clear hb
    go_wp2_with fail
    refine (named_any 3 20 ⟨#[97]⟩ (some ⟨Wb18.heap.size, 0, none⟩) 1 1 (Wb18.alloc (.cells #[.int .i64 5] 2))).mono ?_
    rintro z Wb19 ⟨p19, rfl, hone, hb⟩
    generalize Wb18.heap.size = q19 at HV ⊢
    have hl : ∀ x ∈ (⟨(some ⟨q19, 0, none⟩), 1, some ⟨p19, 0, none⟩, 1, ⟨3, 20, [5], [⟨#[97]⟩]⟩⟩ : Lx) :: ([⟨(some ⟨q18, 0, none⟩), 1, some ⟨p18, 0, none⟩, 1, ⟨3, 1, [1], [⟨#[97, 98, 99, 100, 101, 102, 103, 104, 105, 106, 107, 108, 109, 110, 111, 112, 113, 114, 115, 116, 117, 118, 119, 120, 121]⟩]⟩⟩, ⟨(some ⟨q17, 0, none⟩), 1, some ⟨p17, 0, none⟩, 1, ⟨3, 1, [1], [⟨#[65]⟩]⟩⟩, ⟨(some ⟨q16, 0, none⟩), 1, some ⟨p16, 0, none⟩, 1, ⟨3, 1, [1], [⟨#[]⟩]⟩⟩, ⟨(some ⟨q15, 0, none⟩), 6, none, 0, ⟨2, 11, [1, 2, 3, 2, 5, 6], []⟩⟩, ⟨(some ⟨q14, 0, none⟩), 6, none, 0, ⟨3, 11, [1, 2, 3, 0, 5, 6], []⟩⟩, ⟨(some ⟨q13, 0, none⟩), 2, none, 0, ⟨1, 6, [1, 11258999068427], []⟩⟩, ⟨(some ⟨q12, 0, none⟩), 2, none, 0, ⟨3, 6, [65, 1], []⟩⟩, ⟨(some ⟨q11, 0, none⟩), 1, none, 0, ⟨2, 20, [109951162778], []⟩⟩, ⟨(some ⟨q10, 0, none⟩), 1, none, 0, ⟨3, 20, [1099511627777], []⟩⟩, ⟨(some ⟨q9, 0, none⟩), 1, none, 0, ⟨3, 20, [0], []⟩⟩, ⟨(some ⟨q8, 0, none⟩), 2, none, 0, ⟨3, 20, [1, 2], []⟩⟩, ⟨none, 0, none, 0, ⟨3, 20, [], []⟩⟩, ⟨(some ⟨q6, 0, none⟩), 1, none, 0, ⟨2, 22, [1], []⟩⟩, ⟨(some ⟨q5, 0, none⟩), 3, none, 0, ⟨1, 21, [1, 2, 3], []⟩⟩, ⟨(some ⟨q4, 0, none⟩), 1, none, 0, ⟨3, 24, [1], []⟩⟩, ⟨none, 0, none, 0, ⟨3, 0, [], []⟩⟩, ⟨(some ⟨q2, 0, none⟩), 1, none, 0, ⟨4, 20, [5], []⟩⟩, ⟨(some ⟨q1, 0, none⟩), 1, none, 0, ⟨0, 20, [5], []⟩⟩, ⟨none, 0, none, 0, ⟨0, 0, [], []⟩⟩] : List Lx), LxAt Wb19 x := fun x hx => by
      rcases List.mem_cons.1 hx with rfl | hx
      · exact ev_named 3 20 [5] [⟨#[97]⟩] (by decide) (by decide) (fits_of (by decide)) (fun t ht => by simp at ht; subst ht; decide) (HV.out.below hb) (one_vat hone) (fun e => by cases e) (fun e => by cases e)
      · exact (HL.out x hx).below hb
    replace HL := Lib.hid hl
    replace HB := Lib.hid (below_step HB.out hb)
    clear hl hb HV hone
    have hb := (Below.refl Wb19.heap.size Wb19).alloc (Nat.le_refl _) (.cells #[.int .i64 1] 2)
    have HV := Lib.hid (vat_new Wb19 #[.int .i64 1] 2)
    replace HL := Lib.hid (fun x hx => (HL.out x hx).below hb)
    replace HB := Lib.hid (below_step HB.out hb)
    clear hb
    go_wp2_with fail
    refine (event_any 3 1 (some ⟨Wb19.heap.size, 0, none⟩) 1 1 (Wb19.alloc (.cells #[.int .i64 1] 2))).mono ?_
    rintro z Wb20 ⟨rfl, hb⟩
    generalize Wb19.heap.size = q20 at HV ⊢
    have hl : ∀ x ∈ (⟨(some ⟨q20, 0, none⟩), 1, none, 0, ⟨3, 1, [1], []⟩⟩ : Lx) :: ([⟨(some ⟨q19, 0, none⟩), 1, some ⟨p19, 0, none⟩, 1, ⟨3, 20, [5], [⟨#[97]⟩]⟩⟩, ⟨(some ⟨q18, 0, none⟩), 1, some ⟨p18, 0, none⟩, 1, ⟨3, 1, [1], [⟨#[97, 98, 99, 100, 101, 102, 103, 104, 105, 106, 107, 108, 109, 110, 111, 112, 113, 114, 115, 116, 117, 118, 119, 120, 121]⟩]⟩⟩, ⟨(some ⟨q17, 0, none⟩), 1, some ⟨p17, 0, none⟩, 1, ⟨3, 1, [1], [⟨#[65]⟩]⟩⟩, ⟨(some ⟨q16, 0, none⟩), 1, some ⟨p16, 0, none⟩, 1, ⟨3, 1, [1], [⟨#[]⟩]⟩⟩, ⟨(some ⟨q15, 0, none⟩), 6, none, 0, ⟨2, 11, [1, 2, 3, 2, 5, 6], []⟩⟩, ⟨(some ⟨q14, 0, none⟩), 6, none, 0, ⟨3, 11, [1, 2, 3, 0, 5, 6], []⟩⟩, ⟨(some ⟨q13, 0, none⟩), 2, none, 0, ⟨1, 6, [1, 11258999068427], []⟩⟩, ⟨(some ⟨q12, 0, none⟩), 2, none, 0, ⟨3, 6, [65, 1], []⟩⟩, ⟨(some ⟨q11, 0, none⟩), 1, none, 0, ⟨2, 20, [109951162778], []⟩⟩, ⟨(some ⟨q10, 0, none⟩), 1, none, 0, ⟨3, 20, [1099511627777], []⟩⟩, ⟨(some ⟨q9, 0, none⟩), 1, none, 0, ⟨3, 20, [0], []⟩⟩, ⟨(some ⟨q8, 0, none⟩), 2, none, 0, ⟨3, 20, [1, 2], []⟩⟩, ⟨none, 0, none, 0, ⟨3, 20, [], []⟩⟩, ⟨(some ⟨q6, 0, none⟩), 1, none, 0, ⟨2, 22, [1], []⟩⟩, ⟨(some ⟨q5, 0, none⟩), 3, none, 0, ⟨1, 21, [1, 2, 3], []⟩⟩, ⟨(some ⟨q4, 0, none⟩), 1, none, 0, ⟨3, 24, [1], []⟩⟩, ⟨none, 0, none, 0, ⟨3, 0, [], []⟩⟩, ⟨(some ⟨q2, 0, none⟩), 1, none, 0, ⟨4, 20, [5], []⟩⟩, ⟨(some ⟨q1, 0, none⟩), 1, none, 0, ⟨0, 20, [5], []⟩⟩, ⟨none, 0, none, 0, ⟨0, 0, [], []⟩⟩] : List Lx), LxAt Wb20 x := fun x hx => by
      rcases List.mem_cons.1 hx with rfl | hx
      · exact ev_plain 3 1 [1] (by decide) (by decide) (fits_of (by decide)) (HV.out.below hb) (fun e => by cases e)
      · exact (HL.out x hx).below hb
    replace HL := Lib.hid hl
    replace HB := Lib.hid (below_step HB.out hb)
    clear hl hb HV
    have hb := (Below.refl Wb20.heap.size Wb20).alloc (Nat.le_refl _) (.cells #[.int .i64 1] 2)
    have HV := Lib.hid (vat_new Wb20 #[.int .i64 1] 2)
    replace HL := Lib.hid (fun x hx => (HL.out x hx).below hb)
    replace HB := Lib.hid (below_step HB.out hb)
    clear hb
    have hb := (Below.refl (Wb20.alloc (.cells #[.int .i64 1] 2)).heap.size (Wb20.alloc (.cells #[.int .i64 1] 2))).alloc (Nat.le_refl _) (.cells #[.string ⟨#[97]⟩, .string ⟨#[98]⟩] 9)
    have hv2 := vat_new (Wb20.alloc (.cells #[.int .i64 1] 2)) #[.string ⟨#[97]⟩, .string ⟨#[98]⟩] 9
    have hszt : (Wb20.alloc (.cells #[.int .i64 1] 2)).heap.size = Wb20.heap.size + 1 := by simp
    rw [hszt] at hv2
    have HV2 := Lib.hid hv2
    clear hv2 hszt
    replace HL := Lib.hid (fun x hx => (HL.out x hx).below hb)
    replace HB := Lib.hid (below_step HB.out hb)
    replace HV := Lib.hid (HV.out.below hb)
    clear hb
    have hl : ∀ x ∈ (⟨some ⟨Wb20.heap.size, 0, none⟩, 1, some ⟨Wb20.heap.size + 1, 0, none⟩, 2, ⟨3, 1, [1], [⟨#[97]⟩, ⟨#[98]⟩]⟩⟩ : Lx) :: ([⟨(some ⟨q20, 0, none⟩), 1, none, 0, ⟨3, 1, [1], []⟩⟩, ⟨(some ⟨q19, 0, none⟩), 1, some ⟨p19, 0, none⟩, 1, ⟨3, 20, [5], [⟨#[97]⟩]⟩⟩, ⟨(some ⟨q18, 0, none⟩), 1, some ⟨p18, 0, none⟩, 1, ⟨3, 1, [1], [⟨#[97, 98, 99, 100, 101, 102, 103, 104, 105, 106, 107, 108, 109, 110, 111, 112, 113, 114, 115, 116, 117, 118, 119, 120, 121]⟩]⟩⟩, ⟨(some ⟨q17, 0, none⟩), 1, some ⟨p17, 0, none⟩, 1, ⟨3, 1, [1], [⟨#[65]⟩]⟩⟩, ⟨(some ⟨q16, 0, none⟩), 1, some ⟨p16, 0, none⟩, 1, ⟨3, 1, [1], [⟨#[]⟩]⟩⟩, ⟨(some ⟨q15, 0, none⟩), 6, none, 0, ⟨2, 11, [1, 2, 3, 2, 5, 6], []⟩⟩, ⟨(some ⟨q14, 0, none⟩), 6, none, 0, ⟨3, 11, [1, 2, 3, 0, 5, 6], []⟩⟩, ⟨(some ⟨q13, 0, none⟩), 2, none, 0, ⟨1, 6, [1, 11258999068427], []⟩⟩, ⟨(some ⟨q12, 0, none⟩), 2, none, 0, ⟨3, 6, [65, 1], []⟩⟩, ⟨(some ⟨q11, 0, none⟩), 1, none, 0, ⟨2, 20, [109951162778], []⟩⟩, ⟨(some ⟨q10, 0, none⟩), 1, none, 0, ⟨3, 20, [1099511627777], []⟩⟩, ⟨(some ⟨q9, 0, none⟩), 1, none, 0, ⟨3, 20, [0], []⟩⟩, ⟨(some ⟨q8, 0, none⟩), 2, none, 0, ⟨3, 20, [1, 2], []⟩⟩, ⟨none, 0, none, 0, ⟨3, 20, [], []⟩⟩, ⟨(some ⟨q6, 0, none⟩), 1, none, 0, ⟨2, 22, [1], []⟩⟩, ⟨(some ⟨q5, 0, none⟩), 3, none, 0, ⟨1, 21, [1, 2, 3], []⟩⟩, ⟨(some ⟨q4, 0, none⟩), 1, none, 0, ⟨3, 24, [1], []⟩⟩, ⟨none, 0, none, 0, ⟨3, 0, [], []⟩⟩, ⟨(some ⟨q2, 0, none⟩), 1, none, 0, ⟨4, 20, [5], []⟩⟩, ⟨(some ⟨q1, 0, none⟩), 1, none, 0, ⟨0, 20, [5], []⟩⟩, ⟨none, 0, none, 0, ⟨0, 0, [], []⟩⟩] : List Lx), LxAt ((Wb20.alloc (.cells #[.int .i64 1] 2)).alloc (.cells #[.string ⟨#[97]⟩, .string ⟨#[98]⟩] 9)) x := fun x hx => by
      rcases List.mem_cons.1 hx with rfl | hx
      · exact ev_named 3 1 [1] [⟨#[97]⟩, ⟨#[98]⟩] (by decide) (by decide) (fits_of (by decide)) (fun t ht => by simp at ht; rcases ht with rfl | rfl <;> decide) HV.out HV2.out (fun e => by cases e) (fun e => by cases e)
      · exact HL.out x hx
    replace HL := Lib.hid hl
    clear hl HV HV2
    obtain ⟨X, hX⟩ : ∃ X : List Lx, X = [⟨none, 0, none, 0, ⟨0, 0, [], []⟩⟩, ⟨(some ⟨q1, 0, none⟩), 1, none, 0, ⟨0, 20, [5], []⟩⟩, ⟨(some ⟨q2, 0, none⟩), 1, none, 0, ⟨4, 20, [5], []⟩⟩, ⟨none, 0, none, 0, ⟨3, 0, [], []⟩⟩, ⟨(some ⟨q4, 0, none⟩), 1, none, 0, ⟨3, 24, [1], []⟩⟩, ⟨(some ⟨q5, 0, none⟩), 3, none, 0, ⟨1, 21, [1, 2, 3], []⟩⟩, ⟨(some ⟨q6, 0, none⟩), 1, none, 0, ⟨2, 22, [1], []⟩⟩, ⟨none, 0, none, 0, ⟨3, 20, [], []⟩⟩, ⟨(some ⟨q8, 0, none⟩), 2, none, 0, ⟨3, 20, [1, 2], []⟩⟩, ⟨(some ⟨q9, 0, none⟩), 1, none, 0, ⟨3, 20, [0], []⟩⟩, ⟨(some ⟨q10, 0, none⟩), 1, none, 0, ⟨3, 20, [1099511627777], []⟩⟩, ⟨(some ⟨q11, 0, none⟩), 1, none, 0, ⟨2, 20, [109951162778], []⟩⟩, ⟨(some ⟨q12, 0, none⟩), 2, none, 0, ⟨3, 6, [65, 1], []⟩⟩, ⟨(some ⟨q13, 0, none⟩), 2, none, 0, ⟨1, 6, [1, 11258999068427], []⟩⟩, ⟨(some ⟨q14, 0, none⟩), 6, none, 0, ⟨3, 11, [1, 2, 3, 0, 5, 6], []⟩⟩, ⟨(some ⟨q15, 0, none⟩), 6, none, 0, ⟨2, 11, [1, 2, 3, 2, 5, 6], []⟩⟩, ⟨(some ⟨q16, 0, none⟩), 1, some ⟨p16, 0, none⟩, 1, ⟨3, 1, [1], [⟨#[]⟩]⟩⟩, ⟨(some ⟨q17, 0, none⟩), 1, some ⟨p17, 0, none⟩, 1, ⟨3, 1, [1], [⟨#[65]⟩]⟩⟩, ⟨(some ⟨q18, 0, none⟩), 1, some ⟨p18, 0, none⟩, 1, ⟨3, 1, [1], [⟨#[97, 98, 99, 100, 101, 102, 103, 104, 105, 106, 107, 108, 109, 110, 111, 112, 113, 114, 115, 116, 117, 118, 119, 120, 121]⟩]⟩⟩, ⟨(some ⟨q19, 0, none⟩), 1, some ⟨p19, 0, none⟩, 1, ⟨3, 20, [5], [⟨#[97]⟩]⟩⟩, ⟨(some ⟨q20, 0, none⟩), 1, none, 0, ⟨3, 1, [1], []⟩⟩, ⟨some ⟨Wb20.heap.size, 0, none⟩, 1, some ⟨Wb20.heap.size + 1, 0, none⟩, 2, ⟨3, 1, [1], [⟨#[97]⟩, ⟨#[98]⟩]⟩⟩] := ⟨_, rfl⟩
    have hb := (Below.refl ((Wb20.alloc (.cells #[.int .i64 1] 2)).alloc (.cells #[.string ⟨#[97]⟩, .string ⟨#[98]⟩] 9)).heap.size ((Wb20.alloc (.cells #[.int .i64 1] 2)).alloc (.cells #[.string ⟨#[97]⟩, .string ⟨#[98]⟩] 9))).alloc (Nat.le_refl _) (.cells #[.int .u8 0, .int .u8 0, .slice none 0 0, .slice none 0 0, .int .u8 0, .int .u8 20, .slice (some ⟨q1, 0, none⟩) 1 1, .slice none 0 0, .int .u8 4, .int .u8 20, .slice (some ⟨q2, 0, none⟩) 1 1, .slice none 0 0, .int .u8 3, .int .u8 0, .slice none 0 0, .slice none 0 0, .int .u8 3, .int .u8 24, .slice (some ⟨q4, 0, none⟩) 1 1, .slice none 0 0, .int .u8 1, .int .u8 21, .slice (some ⟨q5, 0, none⟩) 3 3, .slice none 0 0, .int .u8 2, .int .u8 22, .slice (some ⟨q6, 0, none⟩) 1 1, .slice none 0 0, .int .u8 3, .int .u8 20, .slice none 0 0, .slice none 0 0, .int .u8 3, .int .u8 20, .slice (some ⟨q8, 0, none⟩) 2 2, .slice none 0 0, .int .u8 3, .int .u8 20, .slice (some ⟨q9, 0, none⟩) 1 1, .slice none 0 0, .int .u8 3, .int .u8 20, .slice (some ⟨q10, 0, none⟩) 1 1, .slice none 0 0, .int .u8 2, .int .u8 20, .slice (some ⟨q11, 0, none⟩) 1 1, .slice none 0 0, .int .u8 3, .int .u8 6, .slice (some ⟨q12, 0, none⟩) 2 2, .slice none 0 0, .int .u8 1, .int .u8 6, .slice (some ⟨q13, 0, none⟩) 2 2, .slice none 0 0, .int .u8 3, .int .u8 11, .slice (some ⟨q14, 0, none⟩) 6 6, .slice none 0 0, .int .u8 2, .int .u8 11, .slice (some ⟨q15, 0, none⟩) 6 6, .slice none 0 0, .int .u8 3, .int .u8 1, .slice (some ⟨q16, 0, none⟩) 1 1, .slice (some ⟨p16, 0, none⟩) 1 1, .int .u8 3, .int .u8 1, .slice (some ⟨q17, 0, none⟩) 1 1, .slice (some ⟨p17, 0, none⟩) 1 1, .int .u8 3, .int .u8 1, .slice (some ⟨q18, 0, none⟩) 1 1, .slice (some ⟨p18, 0, none⟩) 1 1, .int .u8 3, .int .u8 20, .slice (some ⟨q19, 0, none⟩) 1 1, .slice (some ⟨p19, 0, none⟩) 1 1, .int .u8 3, .int .u8 1, .slice (some ⟨q20, 0, none⟩) 1 1, .slice none 0 0, .int .u8 3, .int .u8 1, .slice (some ⟨Wb20.heap.size, 0, none⟩) 1 1, .slice (some ⟨Wb20.heap.size + 1, 0, none⟩) 2 2] 26)
    have HVX := Lib.hid (show Row (((Wb20.alloc (.cells #[.int .i64 1] 2)).alloc (.cells #[.string ⟨#[97]⟩, .string ⟨#[98]⟩] 9)).alloc (.cells #[.int .u8 0, .int .u8 0, .slice none 0 0, .slice none 0 0, .int .u8 0, .int .u8 20, .slice (some ⟨q1, 0, none⟩) 1 1, .slice none 0 0, .int .u8 4, .int .u8 20, .slice (some ⟨q2, 0, none⟩) 1 1, .slice none 0 0, .int .u8 3, .int .u8 0, .slice none 0 0, .slice none 0 0, .int .u8 3, .int .u8 24, .slice (some ⟨q4, 0, none⟩) 1 1, .slice none 0 0, .int .u8 1, .int .u8 21, .slice (some ⟨q5, 0, none⟩) 3 3, .slice none 0 0, .int .u8 2, .int .u8 22, .slice (some ⟨q6, 0, none⟩) 1 1, .slice none 0 0, .int .u8 3, .int .u8 20, .slice none 0 0, .slice none 0 0, .int .u8 3, .int .u8 20, .slice (some ⟨q8, 0, none⟩) 2 2, .slice none 0 0, .int .u8 3, .int .u8 20, .slice (some ⟨q9, 0, none⟩) 1 1, .slice none 0 0, .int .u8 3, .int .u8 20, .slice (some ⟨q10, 0, none⟩) 1 1, .slice none 0 0, .int .u8 2, .int .u8 20, .slice (some ⟨q11, 0, none⟩) 1 1, .slice none 0 0, .int .u8 3, .int .u8 6, .slice (some ⟨q12, 0, none⟩) 2 2, .slice none 0 0, .int .u8 1, .int .u8 6, .slice (some ⟨q13, 0, none⟩) 2 2, .slice none 0 0, .int .u8 3, .int .u8 11, .slice (some ⟨q14, 0, none⟩) 6 6, .slice none 0 0, .int .u8 2, .int .u8 11, .slice (some ⟨q15, 0, none⟩) 6 6, .slice none 0 0, .int .u8 3, .int .u8 1, .slice (some ⟨q16, 0, none⟩) 1 1, .slice (some ⟨p16, 0, none⟩) 1 1, .int .u8 3, .int .u8 1, .slice (some ⟨q17, 0, none⟩) 1 1, .slice (some ⟨p17, 0, none⟩) 1 1, .int .u8 3, .int .u8 1, .slice (some ⟨q18, 0, none⟩) 1 1, .slice (some ⟨p18, 0, none⟩) 1 1, .int .u8 3, .int .u8 20, .slice (some ⟨q19, 0, none⟩) 1 1, .slice (some ⟨p19, 0, none⟩) 1 1, .int .u8 3, .int .u8 1, .slice (some ⟨q20, 0, none⟩) 1 1, .slice none 0 0, .int .u8 3, .int .u8 1, .slice (some ⟨Wb20.heap.size, 0, none⟩) 1 1, .slice (some ⟨Wb20.heap.size + 1, 0, none⟩) 2 2] 26)) (some ⟨((Wb20.alloc (.cells #[.int .i64 1] 2)).alloc (.cells #[.string ⟨#[97]⟩, .string ⟨#[98]⟩] 9)).heap.size, 0, none⟩) X from ⟨by rw [hX]; exact vat_new ((Wb20.alloc (.cells #[.int .i64 1] 2)).alloc (.cells #[.string ⟨#[97]⟩, .string ⟨#[98]⟩] 9)) #[.int .u8 0, .int .u8 0, .slice none 0 0, .slice none 0 0, .int .u8 0, .int .u8 20, .slice (some ⟨q1, 0, none⟩) 1 1, .slice none 0 0, .int .u8 4, .int .u8 20, .slice (some ⟨q2, 0, none⟩) 1 1, .slice none 0 0, .int .u8 3, .int .u8 0, .slice none 0 0, .slice none 0 0, .int .u8 3, .int .u8 24, .slice (some ⟨q4, 0, none⟩) 1 1, .slice none 0 0, .int .u8 1, .int .u8 21, .slice (some ⟨q5, 0, none⟩) 3 3, .slice none 0 0, .int .u8 2, .int .u8 22, .slice (some ⟨q6, 0, none⟩) 1 1, .slice none 0 0, .int .u8 3, .int .u8 20, .slice none 0 0, .slice none 0 0, .int .u8 3, .int .u8 20, .slice (some ⟨q8, 0, none⟩) 2 2, .slice none 0 0, .int .u8 3, .int .u8 20, .slice (some ⟨q9, 0, none⟩) 1 1, .slice none 0 0, .int .u8 3, .int .u8 20, .slice (some ⟨q10, 0, none⟩) 1 1, .slice none 0 0, .int .u8 2, .int .u8 20, .slice (some ⟨q11, 0, none⟩) 1 1, .slice none 0 0, .int .u8 3, .int .u8 6, .slice (some ⟨q12, 0, none⟩) 2 2, .slice none 0 0, .int .u8 1, .int .u8 6, .slice (some ⟨q13, 0, none⟩) 2 2, .slice none 0 0, .int .u8 3, .int .u8 11, .slice (some ⟨q14, 0, none⟩) 6 6, .slice none 0 0, .int .u8 2, .int .u8 11, .slice (some ⟨q15, 0, none⟩) 6 6, .slice none 0 0, .int .u8 3, .int .u8 1, .slice (some ⟨q16, 0, none⟩) 1 1, .slice (some ⟨p16, 0, none⟩) 1 1, .int .u8 3, .int .u8 1, .slice (some ⟨q17, 0, none⟩) 1 1, .slice (some ⟨p17, 0, none⟩) 1 1, .int .u8 3, .int .u8 1, .slice (some ⟨q18, 0, none⟩) 1 1, .slice (some ⟨p18, 0, none⟩) 1 1, .int .u8 3, .int .u8 20, .slice (some ⟨q19, 0, none⟩) 1 1, .slice (some ⟨p19, 0, none⟩) 1 1, .int .u8 3, .int .u8 1, .slice (some ⟨q20, 0, none⟩) 1 1, .slice none 0 0, .int .u8 3, .int .u8 1, .slice (some ⟨Wb20.heap.size, 0, none⟩) 1 1, .slice (some ⟨Wb20.heap.size + 1, 0, none⟩) 2 2] 26, fun x hx => (HL.out x (by rw [hX] at hx; exact List.mem_reverse.2 hx)).below hb⟩)
    have HXP := Lib.hid (show ∀ x ∈ X, (!may x.e && decide (x.e.ns.length ≤ 100) && decide (x.e.ts.length ≤ 100)) = true from mem_map (f := fun x : Lx => x.e) (p := fun y => !may y && decide (y.ns.length ≤ 100) && decide (y.ts.length ≤ 100)) (by rw [hX]; exact bad4_ok))
    have HXN := Lib.hid (show X.length = 22 from by rw [hX]; rfl)
    replace HB := Lib.hid (below_step HB.out hb)
    clear hb hX HL
    skip
    go_wp2_with fail
    obtain ⟨n0, hn0⟩ : ∃ n0, n0 = ((Wb20.alloc (.cells #[.int .i64 1] 2)).alloc (.cells #[.string ⟨#[97]⟩, .string ⟨#[98]⟩] 9)).heap.size := ⟨_, rfl⟩
    have hn1 : Wb20.heap.size + 1 + 1 = n0 := by rw [hn0]; simp
    rw [← hn0] at HVX
    generalize ((Wb20.alloc (.cells #[.int .i64 1] 2)).alloc (.cells #[.string ⟨#[97]⟩, .string ⟨#[98]⟩] 9)).alloc (.cells #[.int .u8 0, .int .u8 0, .slice none 0 0, .slice none 0 0, .int .u8 0, .int .u8 20, .slice (some ⟨q1, 0, none⟩) 1 1, .slice none 0 0, .int .u8 4, .int .u8 20, .slice (some ⟨q2, 0, none⟩) 1 1, .slice none 0 0, .int .u8 3, .int .u8 0, .slice none 0 0, .slice none 0 0, .int .u8 3, .int .u8 24, .slice (some ⟨q4, 0, none⟩) 1 1, .slice none 0 0, .int .u8 1, .int .u8 21, .slice (some ⟨q5, 0, none⟩) 3 3, .slice none 0 0, .int .u8 2, .int .u8 22, .slice (some ⟨q6, 0, none⟩) 1 1, .slice none 0 0, .int .u8 3, .int .u8 20, .slice none 0 0, .slice none 0 0, .int .u8 3, .int .u8 20, .slice (some ⟨q8, 0, none⟩) 2 2, .slice none 0 0, .int .u8 3, .int .u8 20, .slice (some ⟨q9, 0, none⟩) 1 1, .slice none 0 0, .int .u8 3, .int .u8 20, .slice (some ⟨q10, 0, none⟩) 1 1, .slice none 0 0, .int .u8 2, .int .u8 20, .slice (some ⟨q11, 0, none⟩) 1 1, .slice none 0 0, .int .u8 3, .int .u8 6, .slice (some ⟨q12, 0, none⟩) 2 2, .slice none 0 0, .int .u8 1, .int .u8 6, .slice (some ⟨q13, 0, none⟩) 2 2, .slice none 0 0, .int .u8 3, .int .u8 11, .slice (some ⟨q14, 0, none⟩) 6 6, .slice none 0 0, .int .u8 2, .int .u8 11, .slice (some ⟨q15, 0, none⟩) 6 6, .slice none 0 0, .int .u8 3, .int .u8 1, .slice (some ⟨q16, 0, none⟩) 1 1, .slice (some ⟨p16, 0, none⟩) 1 1, .int .u8 3, .int .u8 1, .slice (some ⟨q17, 0, none⟩) 1 1, .slice (some ⟨p17, 0, none⟩) 1 1, .int .u8 3, .int .u8 1, .slice (some ⟨q18, 0, none⟩) 1 1, .slice (some ⟨p18, 0, none⟩) 1 1, .int .u8 3, .int .u8 20, .slice (some ⟨q19, 0, none⟩) 1 1, .slice (some ⟨p19, 0, none⟩) 1 1, .int .u8 3, .int .u8 1, .slice (some ⟨q20, 0, none⟩) 1 1, .slice none 0 0, .int .u8 3, .int .u8 1, .slice (some ⟨Wb20.heap.size, 0, none⟩) 1 1, .slice (some ⟨Wb20.heap.size + 1, 0, none⟩) 2 2] 26) = V2 at HVX HB ⊢
    try rw [← hn0]
    try rw [hn1]
    clear hn0 hn1
    generalize hA0 : (some (⟨n0, 0, none⟩ : Addr)) = A0 at HVX ⊢
    clear hA0
    go_loopw [141] (fun j wr => ∃ k : Nat, j = .int .i64 k ∧ k ≤ 22 ∧ Hid (Below V2.heap.size V2 wr)) (fun j _ => 22 - (intOf j).toNat)
    case atStart => exact ⟨0, rfl, Nat.zero_le _, Below.refl _ _⟩
    case round =>
      obtain ⟨k, rfl, hk, HBk⟩ := hrel
      by_cases hlt : k < 22
      · have z0 : (0 : Int) ≤ (k : Int) := by omega
        have z1 : (k : Int) < 22 := by omega
        have hkR : k < X.length := by rw [HXN.out]; exact hlt
        obtain ⟨b, o, rfl, hbl, c0, c1, c2, c3, hrl⟩ := HVX.out.at k hkR
        have hrp := HXP.out _ (List.getElem_mem hkR)
        have d0 := (HBk.out.cell (p := ⟨b, _, none⟩) hbl).trans c0
        have d1 := (HBk.out.cell (p := ⟨b, _, none⟩) hbl).trans c1
        have d2 := (HBk.out.cell (p := ⟨b, _, none⟩) hbl).trans c2
        have d3 := (HBk.out.cell (p := ⟨b, _, none⟩) hbl).trans c3
        clear c0 c1 c2 c3 hbl
        generalize X[k] = x at d0 d1 d2 d3 hrl hrp
        simp only [Bool.and_eq_true, decide_eq_true_eq, Bool.not_eq_true'] at hrp
        have HX := Lib.hid (hrl.below HBk.out)
        have HM := Lib.hid hrp
        clear hrl hrp
        go_upto_region 13 with (fail)
        clear d0 d1 d2 d3
        have hb := (Below.refl wr.heap.size wr).alloc (Nat.le_refl _) (.cells #[.int .u8 x.e.v, .int .u8 x.e.k, .slice x.A x.e.ns.length x.ca, .slice x.C x.e.ts.length x.cc] 26)
        have HP := Lib.hid (show Four _ wr.heap.size _ _ _ _ from box4 wr (.int .u8 x.e.v) (.int .u8 x.e.k) (.slice x.A x.e.ns.length x.ca) (.slice x.C x.e.ts.length x.cc) 26)
        replace HX := Lib.hid (HX.out.below hb)
        have HB2 := Lib.hid (below_step HBk.out hb)
        clear hb HBk
        generalize wr.alloc (.cells #[.int .u8 x.e.v, .int .u8 x.e.k, .slice x.A x.e.ns.length x.ca, .slice x.C x.e.ts.length x.cc] 26) = V1 at HP HX HB2 ⊢
        generalize wr.heap.size = q at HP ⊢
        have HP4 := Lib.hid (show putE x.e = 4 from if_neg (by rw [HM.out.1.1]; decide))
        have HE0 := Lib.hid (show encB x.e = [] from if_neg (by rw [HM.out.1.1]; decide))
        have HEN := Lib.hid (Encode_any V1 x.A x.ca x.C x.cc x.e (by have := HM.out.1.2; omega) HX.out (HE.out.below (below_step HB.out HB2.out)))
        simp only [evV] at HEN
        rw [HP4.out, HE0.out, S_nil] at HEN
        obtain ⟨p0, p1, p2, p3⟩ := HP.out
        go_wp2_with fail
        clear p0 p1 p2 p3
        refine HEN.out.mono ?_
        rintro z V4 ⟨rfl, hb⟩
        clear HEN
        replace HP := Lib.hid (HP.out.below hb)
        replace HX := Lib.hid (HX.out.below hb)
        replace HB2 := Lib.hid (below_step HB2.out hb)
        clear hb
        have hem : (ByteArray.mk #[]).toList = [] := by rw [ByteArray.toList_eq]
        have w1 : ((ByteArray.mk #[]).toList == (ByteArray.mk #[]).toList) = true := str_self _
        have w2 : ((ByteArray.mk #[]).toList != (ByteArray.mk #[]).toList) = false := by rw [bne, w1]; rfl
        have HEN := Lib.hid (Size_any V4 x.A x.ca x.C x.cc x.e (by have := HM.out.1.2; omega) HX.out (HE.out.below (below_step HB.out HB2.out)))
        simp only [evV] at HEN
        rw [HE0.out] at HEN
        simp only [List.length_nil] at HEN
        have q0 : (((4 : Nat) : Int) != 4) = false := rfl
        obtain ⟨p0, p1, p2, p3⟩ := HP.out
        go_wp2_with fail
        clear p0 p1 p2 p3
        refine HEN.out.mono ?_
        rintro z V5 ⟨rfl, hb⟩
        clear HEN w1 w2 hem
        replace HP := Lib.hid (HP.out.below hb)
        replace HX := Lib.hid (HX.out.below hb)
        replace HB2 := Lib.hid (below_step HB2.out hb)
        clear hb
        have hb := (Below.refl V5.heap.size V5).alloc (Nat.le_refl _) (.cells #[.pointer none, .int .i64 0] 41)
        have HPU := Lib.hid (Put_any V5 (V5.alloc (.cells #[.pointer none, .int .i64 0] 41)) V5.heap.size V5.heap.size [] x.A x.ca x.C x.cc x.e hb (Nat.le_refl _) (Wr.new (Nat.le_refl _)) (by decide) (by have := HM.out.1.2; omega) HX.out (HE.out.below (below_step HB.out HB2.out)))
        simp only [evV] at HPU
        rw [HP4.out] at HPU
        have HP2 := Lib.hid (HP.out.below hb)
        have HBW := Lib.hid hb
        clear hb
        have r0 : (((0 : Nat) : Int) != 0) = false := rfl
        obtain ⟨p0, p1, p2, p3⟩ := HP2.out
        go_wp2_with fail
        clear p0 p1 p2 p3
        refine HPU.out.mono ?_
        rintro z V6 ⟨rfl, _, ho⟩
        have HB3 := Lib.hid (show Below V2.heap.size V2 V6 from HB2.out.trans ((HBW.out.trans ho.below).mono HB2.out.size))
        clear ho HPU HBW
        go_wp2_with fail
        go_roundw
        case rel => exact ⟨k + 1, by go_num, by omega, HB3⟩
        case measure => simp [intOf] <;> omega
      have z1 : ¬ (k : Int) < 22 := by omega
      have z2 : decide ((k : Int) < 22) = false := decide_eq_false z1
      replace HB := Lib.hid (below_step HB.out HBk.out)
      clear HBk HVX HXP HXN hk hlt
      have hb := (Below.refl wr.heap.size wr).alloc (Nat.le_refl _) (.cells #[.string ⟨#[]⟩, .int .i64 8, .string ⟨#[0]⟩, .int .i64 43, .string ⟨#[3]⟩, .int .i64 8, .string ⟨#[3, 0]⟩, .int .i64 4, .string ⟨#[3, 24]⟩, .int .i64 4, .string ⟨#[3, 6, 1]⟩, .int .i64 8, .string ⟨#[3, 6, 65, 5]⟩, .int .i64 40, .string ⟨#[3, 6, 129, 0, 5]⟩, .int .i64 4, .string ⟨#[3, 6, 1, 5, 0]⟩, .int .i64 4, .string ⟨#[3, 10, 233, 7]⟩, .int .i64 40, .string ⟨#[1, 10, 11]⟩, .int .i64 40, .string ⟨#[3, 1, 1, 0]⟩, .int .i64 4, .string ⟨#[3, 1, 1, 25]⟩, .int .i64 40, .string ⟨#[3, 1, 1, 2, 97]⟩, .int .i64 8, .string ⟨#[3, 1, 1, 1, 65]⟩, .int .i64 4, .string ⟨#[3, 11, 1, 2, 3, 0, 5, 6]⟩, .int .i64 4, .string ⟨#[2, 22, 7, 1, 113]⟩, .int .i64 4] 42)
      have HVR := Lib.hid (show VAt (wr.alloc (.cells #[.string ⟨#[]⟩, .int .i64 8, .string ⟨#[0]⟩, .int .i64 43, .string ⟨#[3]⟩, .int .i64 8, .string ⟨#[3, 0]⟩, .int .i64 4, .string ⟨#[3, 24]⟩, .int .i64 4, .string ⟨#[3, 6, 1]⟩, .int .i64 8, .string ⟨#[3, 6, 65, 5]⟩, .int .i64 40, .string ⟨#[3, 6, 129, 0, 5]⟩, .int .i64 4, .string ⟨#[3, 6, 1, 5, 0]⟩, .int .i64 4, .string ⟨#[3, 10, 233, 7]⟩, .int .i64 40, .string ⟨#[1, 10, 11]⟩, .int .i64 40, .string ⟨#[3, 1, 1, 0]⟩, .int .i64 4, .string ⟨#[3, 1, 1, 25]⟩, .int .i64 40, .string ⟨#[3, 1, 1, 2, 97]⟩, .int .i64 8, .string ⟨#[3, 1, 1, 1, 65]⟩, .int .i64 4, .string ⟨#[3, 11, 1, 2, 3, 0, 5, 6]⟩, .int .i64 4, .string ⟨#[2, 22, 7, 1, 113]⟩, .int .i64 4] 42)) (some ⟨wr.heap.size, 0, none⟩) (refs.flatMap fun y => [.string y.1, .int .i64 (y.2 : Int)]) from vat_new wr #[.string ⟨#[]⟩, .int .i64 8, .string ⟨#[0]⟩, .int .i64 43, .string ⟨#[3]⟩, .int .i64 8, .string ⟨#[3, 0]⟩, .int .i64 4, .string ⟨#[3, 24]⟩, .int .i64 4, .string ⟨#[3, 6, 1]⟩, .int .i64 8, .string ⟨#[3, 6, 65, 5]⟩, .int .i64 40, .string ⟨#[3, 6, 129, 0, 5]⟩, .int .i64 4, .string ⟨#[3, 6, 1, 5, 0]⟩, .int .i64 4, .string ⟨#[3, 10, 233, 7]⟩, .int .i64 40, .string ⟨#[1, 10, 11]⟩, .int .i64 40, .string ⟨#[3, 1, 1, 0]⟩, .int .i64 4, .string ⟨#[3, 1, 1, 25]⟩, .int .i64 40, .string ⟨#[3, 1, 1, 2, 97]⟩, .int .i64 8, .string ⟨#[3, 1, 1, 1, 65]⟩, .int .i64 4, .string ⟨#[3, 11, 1, 2, 3, 0, 5, 6]⟩, .int .i64 4, .string ⟨#[2, 22, 7, 1, 113]⟩, .int .i64 4] 42)
      have HRP := Lib.hid (fun y (hy : y ∈ refs) => show (decide (decW y.1 = y.2) && decide (y.2 ≠ 0) && decide (y.1.size ≤ 100)) = true from List.all_eq_true.1 refs_ok y hy)
      have HRN := Lib.hid (show refs.length = 17 from rfl)
      replace HB := Lib.hid (below_step HB.out hb)
      clear hb
      go_wp2_with fail
      generalize wr.alloc (.cells #[.string ⟨#[]⟩, .int .i64 8, .string ⟨#[0]⟩, .int .i64 43, .string ⟨#[3]⟩, .int .i64 8, .string ⟨#[3, 0]⟩, .int .i64 4, .string ⟨#[3, 24]⟩, .int .i64 4, .string ⟨#[3, 6, 1]⟩, .int .i64 8, .string ⟨#[3, 6, 65, 5]⟩, .int .i64 40, .string ⟨#[3, 6, 129, 0, 5]⟩, .int .i64 4, .string ⟨#[3, 6, 1, 5, 0]⟩, .int .i64 4, .string ⟨#[3, 10, 233, 7]⟩, .int .i64 40, .string ⟨#[1, 10, 11]⟩, .int .i64 40, .string ⟨#[3, 1, 1, 0]⟩, .int .i64 4, .string ⟨#[3, 1, 1, 25]⟩, .int .i64 40, .string ⟨#[3, 1, 1, 2, 97]⟩, .int .i64 8, .string ⟨#[3, 1, 1, 1, 65]⟩, .int .i64 4, .string ⟨#[3, 11, 1, 2, 3, 0, 5, 6]⟩, .int .i64 4, .string ⟨#[2, 22, 7, 1, 113]⟩, .int .i64 4] 42) = V3 at HVR HB ⊢
      generalize hA0 : (some (⟨wr.heap.size, 0, none⟩ : Addr)) = A0 at HVR ⊢
      clear hA0
      generalize refs = Y at HVR HRP HRN
      go_loopw [188] (fun j wr => ∃ k : Nat, j = .int .i64 k ∧ k ≤ 17 ∧ Hid (Below V3.heap.size V3 wr)) (fun j _ => 17 - (intOf j).toNat)
      case atStart => exact ⟨0, rfl, Nat.zero_le _, Below.refl _ _⟩
      case round =>
        obtain ⟨k, rfl, hk, HBk⟩ := hrel
        by_cases hlt : k < 17
        · have z0 : (0 : Int) ≤ (k : Int) := by omega
          have z1 : (k : Int) < 17 := by omega
          have hkR : k < Y.length := by rw [HRN.out]; exact hlt
          obtain ⟨b, o, rfl, hbl, c0, c1⟩ := r2_at HVR.out k hkR
          have hrp := HRP.out _ (List.getElem_mem hkR)
          have d0 := (HBk.out.cell (p := ⟨b, _, none⟩) hbl).trans c0
          have d1 := (HBk.out.cell (p := ⟨b, _, none⟩) hbl).trans c1
          clear c0 c1 hbl
          generalize Y[k] = y at d0 d1 hrp
          obtain ⟨s, n⟩ := y
          simp only [Bool.and_eq_true, decide_eq_true_eq] at d0 d1 hrp
          have HM := Lib.hid hrp
          clear hrp
          go_upto_region 20 with (fail)
          clear d0 d1
          have hb := (Below.refl wr.heap.size wr).alloc (Nat.le_refl _) (.cells #[.string s, .int .i64 (n : Int)] 42)
          have HP := Lib.hid (two_new wr (.string s) (.int .i64 (n : Int)) 42)
          have HB2 := Lib.hid (below_step HBk.out hb)
          clear hb HBk
          generalize wr.alloc (.cells #[.string s, .int .i64 (n : Int)] 42) = V1 at HP HB2 ⊢
          generalize wr.heap.size = q at HP ⊢
          have HRF := Lib.hid (refused_any s n (by have := HM.out.2; omega) HM.out.1.1 HM.out.1.2 V1 (HE.out.below (below_step HB.out HB2.out)))
          obtain ⟨p0, p1⟩ := HP.out
          go_wp2_with fail
          clear p0 p1
          refine HRF.out.mono ?_
          rintro z V4 ⟨rfl, hb⟩
          have HB3 := Lib.hid (below_step HB2.out hb)
          clear hb HRF
          go_wp2_with fail
          go_roundw
          case rel => exact ⟨k + 1, by go_num, by omega, HB3⟩
          case measure => simp [intOf] <;> omega
        have z1 : ¬ (k : Int) < 17 := by omega
        have z2 : decide ((k : Int) < 17) = false := decide_eq_false z1
        replace HB := Lib.hid (below_step HB.out HBk.out)
        clear HBk HVR HRP HRN hk hlt
        go_wp2_with fail
        refine (Get_nil wr (HE.out.below HB.out)).mono ?_
        rintro z U1 ⟨rfl, hb⟩
        replace HB := Lib.hid (below_step HB.out hb)
        clear hb z1 z2
        go_upto_region 24 with (fail)
        have hb := (Below.refl U1.heap.size U1).alloc (Nat.le_refl _) (.cells #[.int .u8 0, .int .u8 0, .slice none 0 0, .slice none 0 0] 26)
        replace HB := Lib.hid (below_step HB.out hb)
        clear hb
        generalize U1.alloc (.cells #[.int .u8 0, .int .u8 0, .slice none 0 0, .slice none 0 0] 26) = U2 at HB ⊢
        go_wp2_with fail
        refine (new_any ⟨#[6, 1, 5]⟩ U2).mono ?_
        rintro z U3 ⟨rfl, rfl⟩
        have hb := (Below.refl U2.heap.size U2).alloc (Nat.le_refl _) (.cells (rdS ⟨#[6, 1, 5]⟩ 0 0) 84)
        have HRd := Lib.hid (Rd.new ⟨#[6, 1, 5]⟩ U2)
        have HLO := Lib.hid (show 2 ≤ U2.heap.size from Nat.le_trans HE.out.2.2 HB.out.size)
        have HS0 := Lib.hid (show w.heap.size ≤ U2.heap.size from HB.out.size)
        replace HB := Lib.hid (below_step HB.out hb)
        clear hb
        generalize U2.alloc (.cells (rdS ⟨#[6, 1, 5]⟩ 0 0) 84) = U4 at HRd HB ⊢
        generalize hr0 : U2.heap.size = r0 at HRd HLO ⊢
        have hget := Get_any r0 ⟨#[6, 1, 5]⟩ 0 0 0 U4 HRd.out (Nat.zero_le _) (by decide) (by decide) HLO.out (HE.out.below HB.out)
        have HLR0 := Lib.hid (show w.heap.size ≤ r0 from by rw [← hr0]; exact HS0.out)
        clear hr0
        have hgw : getW ⟨#[6, 1, 5]⟩ 0 0 0 = 43 := rfl
        have hge : getE ⟨#[6, 1, 5]⟩ 0 0 0 = noEv := by unfold getE; rw [hgw]; rfl
        unfold GetRes at hget
        rw [hgw, hge] at hget
        have HGT := Lib.hid hget
        clear hget hgw hge
        go_wp2_with fail
        refine HGT.out.mono ?_
        rintro z U5 ⟨A1, a1, C1, b1, rfl, _, _, hst⟩
        replace HB := Lib.hid (step_bel HB.out hst HLR0.out)
        clear hst HGT HRd
        simp only [evV, noEv, List.length_nil]
        go_upto_region 25 with (fail)
        have hb := (Below.refl U5.heap.size U5).alloc (Nat.le_refl _) (.cells #[.int .u8 0, .int .u8 0, .slice A1 0 a1, .slice C1 0 b1] 26)
        replace HB := Lib.hid (below_step HB.out hb)
        clear hb
        generalize U5.alloc (.cells #[.int .u8 0, .int .u8 0, .slice A1 0 a1, .slice C1 0 b1] 26) = U6 at HB ⊢
        go_wp2_with fail
        refine (new_any ⟨#[6, 1, 5]⟩ U6).mono ?_
        rintro z U7 ⟨rfl, rfl⟩
        have hb := (Below.refl U6.heap.size U6).alloc (Nat.le_refl _) (.cells (rdS ⟨#[6, 1, 5]⟩ 0 0) 84)
        have HRd := Lib.hid (Rd.new ⟨#[6, 1, 5]⟩ U6)
        have HLO := Lib.hid (show 2 ≤ U6.heap.size from Nat.le_trans HE.out.2.2 HB.out.size)
        have HS1 := Lib.hid (show w.heap.size ≤ U6.heap.size from HB.out.size)
        replace HB := Lib.hid (below_step HB.out hb)
        clear hb
        generalize U6.alloc (.cells (rdS ⟨#[6, 1, 5]⟩ 0 0) 84) = U8 at HRd HB ⊢
        generalize hr1 : U6.heap.size = r1 at HRd HLO ⊢
        have hget := Get_any r1 ⟨#[6, 1, 5]⟩ 0 0 9 U8 HRd.out (Nat.zero_le _) (by decide) (by decide) HLO.out (HE.out.below HB.out)
        have HLR1 := Lib.hid (show w.heap.size ≤ r1 from by rw [← hr1]; exact HS1.out)
        clear hr1
        have hgw : getW ⟨#[6, 1, 5]⟩ 0 0 9 = 43 := rfl
        have hge : getE ⟨#[6, 1, 5]⟩ 0 0 9 = noEv := by unfold getE; rw [hgw]; rfl
        unfold GetRes at hget
        rw [hgw, hge] at hget
        have HGT := Lib.hid hget
        clear hget hgw hge
        go_wp2_with fail
        refine HGT.out.mono ?_
        rintro z U9 ⟨A1, a1, C1, b1, rfl, _, _, hst⟩
        replace HB := Lib.hid (step_bel HB.out hst HLR1.out)
        clear hst HGT HRd
        simp only [evV, noEv, List.length_nil]
        go_wp2_with fail
        go_ret
        refine ⟨rfl, ?_⟩
        exact below_step HB.out ((Below.refl _ _).alloc (Nat.le_refl _) _)

end Go.Proofs.YtefkfjbdmglkjaaDoor.Codec
