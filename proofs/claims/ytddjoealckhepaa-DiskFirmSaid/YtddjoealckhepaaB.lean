import Derived.OpenShut
import Derived.Test.YtddjoealckhepaaRows
import Derived.Test.YtddjoealckhepaaA
import Derived.Lay
import Derived.Below
import Derived.KernelRfl
import Derived.WalkSmall
import Derived.Shelf.Vars
import Derived.WalkKit
import Derived.Lib.Hide
import Derived.WalkSpells
import Derived.WalkLawsBesides
import Derived.BigQuiet
import Derived.Deep.QuietTactic
import Derived.Maps.OwnSet
import Derived.Maps.RangeWalk
import Derived.OwnWalk
import Derived.Laws.AppendOwn
import Derived.BigCall
/-
  A disk in memory: its block, its map, what its files are; what turns when something is done to it.
-/
namespace Go.Proofs.Ytddjoealckhepaa.Disk
open Go Go.RowKit Go.Maps

/-- a text -/
def S (l : List UInt8) : ByteArray := ⟨l.toArray⟩
theorem S_list (l : List UInt8) : (S l).toList = l := by rw [ByteArray.toList_eq]; rfl
theorem S_data (l : List UInt8) : (S l).data.toList = l := rfl
theorem S_size (l : List UInt8) : (S l).size = l.length := rfl
theorem S_of (s : ByteArray) : S s.toList = s := by rw [ByteArray.toList_eq]; rfl
theorem S_inj {a b : List UInt8} (h : S a = S b) : a = b := by rw [← S_list a, h, S_list]
theorem list_len (s : ByteArray) : s.toList.length = s.size := by rw [ByteArray.toList_eq]; rfl

/-- a file: its bytes, and how many of them stand for good -/
structure F where
  b : List UInt8
  g : Nat
deriving DecidableEq
def F.ok (f : F) : Prop := f.g ≤ f.b.length ∧ f.b.length ≤ 1048576
def fV (f : F) : Value := .agg #[.string (S f.b), .int .i64 (f.g : Int)]
def fD (f : F) : DataW Unit := .agg [.lit (.string f.b), .lit (.int .i64 (f.g : Int))]
def f0 : F := ⟨[], 0⟩
theorem f0_ok : f0.ok := ⟨Nat.le_refl _, Nat.zero_le _⟩
theorem fV_inj {f g : F} (h : fV f = fV g) : f = g := by
  cases f; cases g
  simp only [fV, Value.agg.injEq, Array.mk.injEq, List.cons.injEq, Value.string.injEq, Value.int.injEq, true_and, and_true] at h
  obtain ⟨h1, h2⟩ := h
  rw [S_inj h1, Int.ofNat.inj h2]
open Classical in
/-- how a file's cells read -/
noncomputable def fileR (v : Value) : Option (DataW Unit × List MemPlace) :=
  if h : ∃ f : F, f.ok ∧ v = fV f then some (fD (Classical.choose h), []) else none
theorem fileR_mk {f : F} (h : f.ok) : fileR (fV f) = some (fD f, []) := by
  have he : ∃ g : F, g.ok ∧ fV f = fV g := ⟨f, h, rfl⟩
  unfold fileR
  rw [dif_pos he, ← fV_inj (Classical.choose_spec he).2]
theorem fileR_inv {v : Value} {y : DataW Unit × List MemPlace} (h : fileR v = some y) : ∃ f : F, f.ok ∧ v = fV f ∧ y = (fD f, []) := by
  unfold fileR at h
  split at h
  · rename_i he
    have hs := Classical.choose_spec he
    injection h with h
    exact ⟨_, hs.1, hs.2, h.symm⟩
  · cases h
theorem fD_inj {f g : F} (h : fD f = fD g) : f = g := by
  cases f; cases g
  simp only [fD, DataW.agg.injEq, List.cons.injEq, DataW.lit.injEq, Lit.string.injEq, Lit.int.injEq, true_and, and_true] at h
  rw [h.1, Int.ofNat.inj h.2]

/-- a disk -/
structure Dk where
  cap : Nat
  l : List (Nm × F)
  gone : Bool
  cut : Bool
  left : Nat
/-- a letter of a name -/
def okC (c : Nat) : Bool := decide (97 ≤ c ∧ c ≤ 122) || decide (65 ≤ c ∧ c ≤ 90) || decide (48 ≤ c ∧ c ≤ 57) || decide (c = 45) || decide (c = 95) || decide (c = 46)
/-- whether a text is a file's name -/
def mayN (n : Nm) : Bool := decide (1 ≤ n.length) && decide (n.length ≤ 24) && n.all fun c => okC c.toNat
def used (l : List (Nm × F)) : Nat := tot (fun f => f.b.length) l
structure Dk.ok (d : Dk) : Prop where
  up : Up d.l
  fs : ∀ p ∈ d.l, p.2.ok
  nm : ∀ p ∈ d.l, mayN p.1 = true
  len : d.l.length ≤ 64
  used : used d.l ≤ d.cap
  cap : d.cap ≤ 9223372036854775807
  left : d.left ≤ 9223372036854775807
  cut : d.cut = false → d.left = 0
def dkV (d : Dk) (b : Nat) : Array Value := #[.int .i64 (d.cap : Int), .map (some b), .bool d.gone, .bool d.cut, .int .i64 (d.left : Int)]
/-- at block a stands a disk whose map is at block b -/
structure DkAt (w : World) (a b : Nat) (d : Dk) : Prop where
  blk : w.heap[a]? = some (.cells (dkV d b) 87 (0, 0))
  mp : w.ownsMap Try.prog 9 fileR b d.l.length (toD fD d.l)
  ok : d.ok
/-- only blocks a and b have turned -/
structure Tn (a b : Nat) (w w' : World) : Prop where
  os : w'.os = w.os
  tape : w'.tape = w.tape
  output : w'.output = w.output
  size : w.heap.size ≤ w'.heap.size
  block : ∀ k, k < w.heap.size → k ≠ a → k ≠ b → w'.heap[k]? = w.heap[k]?
theorem Tn.refl (a b : Nat) (w : World) : Tn a b w w := ⟨rfl, rfl, rfl, Nat.le_refl _, fun _ _ _ _ => rfl⟩
theorem Tn.trans {a b : Nat} {u v w : World} (h : Tn a b u v) (k : Tn a b v w) : Tn a b u w :=
  ⟨k.os.trans h.os, k.tape.trans h.tape, k.output.trans h.output, Nat.le_trans h.size k.size, fun i hi h1 h2 => (k.block i (Nat.lt_of_lt_of_le hi h.size) h1 h2).trans (h.block i hi h1 h2)⟩
theorem Tn.of {a b : Nat} {w w' : World} (h : Below w.heap.size w w') : Tn a b w w' := ⟨h.os, h.tape, h.output, h.size, fun k hk _ _ => h.block k hk⟩
theorem Tn.low {a b B : Nat} {w w' : World} (h : Tn a b w w') (h1 : B ≤ w.heap.size) (h2 : B ≤ a) (h3 : B ≤ b) : Below B w w' :=
  ⟨h.os, h.tape, h.output, h.size, fun k hk => h.block k (by omega) (by omega) (by omega)⟩
theorem Tn.step {a b : Nat} {u v w : World} (h : Tn a b u v) (k : Below v.heap.size v w) : Tn a b u w := h.trans (.of k)
theorem Tn.map {a b : Nat} {w w' : World} (h : w.mapTurned w' b) : Tn a b w w' := by
  have g := h.grown
  exact ⟨g.os, g.tape, g.output, g.size, fun k hk _ h2 => g.block k hk (fun e => h2 (by injection e))⟩
theorem Tn.grown {a b : Nat} {w w' : World} (g : w.grownBy w' (some b)) : Tn a b w w' :=
  ⟨g.os, g.tape, g.output, g.size, fun k hk _ h2 => g.block k hk (fun e => h2 (by injection e))⟩
theorem Tn.set (w : World) (a b o : Nat) (x : Value) : Tn a b w (w.setCell ⟨a, o, none⟩ x) :=
  ⟨rfl, rfl, rfl, by simp [World.setCell], fun k _ h1 _ => Below.heap_setCell w ⟨a, o, none⟩ x k h1⟩
theorem Tn.new {a b : Nat} {u w : World} (h : Tn a b u w) (o : Obj) : Tn a b u (w.alloc o) := h.step ((Below.refl _ _).alloc (Nat.le_refl _) _)
theorem Tn.dn {a b : Nat} {u w : World} (h : Tn a b u w) (n : Nat) : Tn a b u (w.drewN n) := ⟨h.os, h.tape, h.output, h.size, h.block⟩
/-- a cell of a block that is new since -/
theorem Tn.high {a b k : Nat} {u w : World} (h : Tn a b u w) (hk : u.heap.size ≤ k) (o : Nat) (x : Value) : Tn a b u (w.setCell ⟨k, o, none⟩ x) :=
  ⟨h.os, h.tape, h.output, by simpa [World.setCell] using h.size, fun i hi h1 h2 => (Below.heap_setCell w ⟨k, o, none⟩ x i (by show i ≠ k; omega)).trans (h.block i hi h1 h2)⟩
theorem below_dn (n : Nat) (w : World) (z : Nat) : Below n w (w.drewN z) := ⟨rfl, rfl, rfl, Nat.le_refl _, fun _ _ => rfl⟩
theorem below_step {Y w w' : World} (h : Below Y.heap.size Y w) (hb : Below w.heap.size w w') : Below Y.heap.size Y w' := h.trans (hb.mono h.size)

theorem row_lt {w : World} {g : Nat} {o : Obj} (h : w.heap[g]? = some o) : g < w.heap.size := (Array.getElem?_eq_some_iff.1 h).1
theorem cell_row {w : World} {g : Nat} {cs : Array Value} {t : TypeId} {fr : Nat × Nat} (h : w.heap[g]? = some (.cells cs t fr)) (i : Nat) : w.cell? ⟨g, i, none⟩ = cs[i]? := cell_of_row w g i cs _ _ h
theorem frozen_row {w : World} {g : Nat} {cs : Array Value} {t : TypeId} (h : w.heap[g]? = some (.cells cs t (0, 0))) (i : Nat) : w.frozen? ⟨g, i, none⟩ = false := by
  simp [World.frozen?, h]
theorem heap_set {w : World} {b : Nat} {cs : Array Value} {t : TypeId} {fr : Nat × Nat} (h : w.heap[b]? = some (.cells cs t fr)) (i : Nat) (v : Value) : (w.setCell ⟨b, i, none⟩ v).heap[b]? = some (.cells (cs.setIfInBounds i v) t fr) := by
  simp [World.setCell, Array.getElem?_modify, h]
theorem heap_far {w : World} {b k : Nat} (i : Nat) (v : Value) (h : k ≠ b) : (w.setCell ⟨b, i, none⟩ v).heap[k]? = w.heap[k]? := Below.heap_setCell w _ v k h

theorem owns_block {w w' : World} {b n : Nat} {D : DataW Unit} {R : Value → Option (DataW Unit × List MemPlace)} (h : w.ownsMap Try.prog 9 R b n D) (hb : w'.heap[b]? = w.heap[b]?) : w'.ownsMap Try.prog 9 R b n D := by
  obtain ⟨es, clock, h1, h2⟩ := h
  exact ⟨es, clock, hb.trans h1, h2⟩
theorem owns_size {w : World} {b n : Nat} {D : DataW Unit} {R : Value → Option (DataW Unit × List MemPlace)} (h : w.ownsMap Try.prog 9 R b n D) : w.ownsMap Try.prog 9 R b (Maps.size D) D := by
  obtain ⟨es, clock, h1, h2, _, h3⟩ := h
  exact ⟨es, clock, h1, h2, by rw [h3]; simp [Maps.size, length_sorted], h3⟩
theorem DkAt.lt {w : World} {a b : Nat} {d : Dk} (h : DkAt w a b d) : a < w.heap.size ∧ b < w.heap.size := ⟨row_lt h.blk, h.mp.lt⟩
theorem DkAt.ne {w : World} {a b : Nat} {d : Dk} (h : DkAt w a b d) : a ≠ b := by
  obtain ⟨es, clock, h1, _⟩ := h.mp
  intro e; subst e
  rw [h.blk] at h1; cases h1
theorem DkAt.same {w w' : World} {a b : Nat} {d : Dk} (h : DkAt w a b d) (h1 : w'.heap[a]? = w.heap[a]?) (h2 : w'.heap[b]? = w.heap[b]?) : DkAt w' a b d := ⟨h1.trans h.blk, owns_block h.mp h2, h.ok⟩
theorem DkAt.below {w w' : World} {a b : Nat} {d : Dk} (h : DkAt w a b d) (hb : Below w.heap.size w w') : DkAt w' a b d := h.same (hb.block _ h.lt.1) (hb.block _ h.lt.2)
theorem DkAt.new {w : World} {a b : Nat} {d : Dk} (h : DkAt w a b d) (o : Obj) : DkAt (w.alloc o) a b d := h.below ((Below.refl _ _).alloc (Nat.le_refl _) _)
theorem DkAt.dn {w : World} {a b : Nat} {d : Dk} (h : DkAt w a b d) (n : Nat) : DkAt (w.drewN n) a b d := h.same rfl rfl
theorem map_ne {w : World} {a b k n : Nat} {d : Dk} {R : Value → Option (DataW Unit × List MemPlace)} {D : DataW Unit} (h : DkAt w a b d) (hk : w.ownsMap Try.prog 9 R k n D) : a ≠ k := by
  obtain ⟨es, clock, h1, _⟩ := hk
  intro e; subst e
  rw [h.blk] at h1; cases h1
/-- another disk stays -/
theorem DkAt.tn {w w' : World} {a b a' b' : Nat} {d d' : Dk} (h : DkAt w a b d) (h' : DkAt w a' b' d') (ht : Tn a' b' w w') (h1 : a ≠ a') (h2 : b ≠ b') : DkAt w' a b d :=
  h.same (ht.block _ h.lt.1 h1 (map_ne h h'.mp)) (ht.block _ h.lt.2 (map_ne h' h.mp).symm h2)
theorem DkAt.cell {w : World} {a b : Nat} {d : Dk} (h : DkAt w a b d) : w.cell? ⟨a, 0, none⟩ = some (.int .i64 (d.cap : Int)) ∧ w.cell? ⟨a, 1, none⟩ = some (.map (some b)) ∧ w.cell? ⟨a, 2, none⟩ = some (.bool d.gone) ∧ w.cell? ⟨a, 3, none⟩ = some (.bool d.cut) ∧ w.cell? ⟨a, 4, none⟩ = some (.int .i64 (d.left : Int)) :=
  ⟨cell_row h.blk 0, cell_row h.blk 1, cell_row h.blk 2, cell_row h.blk 3, cell_row h.blk 4⟩
theorem DkAt.fz {w : World} {a b : Nat} {d : Dk} (h : DkAt w a b d) (i : Nat) : w.frozen? ⟨a, i, none⟩ = false := frozen_row h.blk i

theorem tkeyed : Keyed Try.prog 9 := string_keyed Try.underlying9
theorem tmap : Try.prog.underlying 83 = some (.map 9 78) := by kernel_rfl
theorem tzero (w : World) : (zeroValue 78).run Try.prog w = .ok (fV f0) w := by kernel_rfl
theorem tkey (n : Nm) (h : n.length ≤ maxLen) : keyOf Try.prog 9 (.string (S n)) = some (.string n) := Go.WideMaps.keyOf_string_mk Try.underlying9 (s := S n) h
/-- a file is looked up -/
theorem look_run {w : World} {b m : Nat} {l : List (Nm × F)} (h : w.ownsMap Try.prog 9 fileR b m (toD fD l)) (n : Nm) (hn : n.length ≤ maxLen) :
    (Instr.lookup 83 (.map (some b)) (.string (S n)) true).run Try.prog w = .ok (.tuple #[fV ((get l n).getD f0), .bool (get l n).isSome]) w ∧
    (Instr.lookup 83 (.map (some b)) (.string (S n)) false).run Try.prog w = .ok (fV ((get l n).getD f0)) w := by
  have key : ∀ v ps, fileR v = some ((toD fD l).atKey (.string n) (fD f0), ps) → v = fV ((get l n).getD f0) := by
    intro v ps hv
    obtain ⟨f, hf, rfl, e⟩ := fileR_inv hv
    injection e with e
    rw [toD_at] at e
    cases hg : get l n with
    | none => rw [hg] at e; rw [fD_inj e]; rfl
    | some g => rw [hg] at e; rw [fD_inj e]; rfl
  obtain ⟨v, ps, h1, h2⟩ := h.look_ok tkeyed tmap (tzero w) (fileR_mk f0_ok) (tkey n hn)
  obtain ⟨v', ps', h3, h4⟩ := h.lookup tkeyed tmap (tzero w) (fileR_mk f0_ok) (tkey n hn)
  rw [key v ps h2, toD_has] at h1
  rw [key v' ps' h4] at h3
  exact ⟨h1, h3⟩
theorem len_run {w : World} {b m : Nat} {l : List (Nm × F)} (h : w.ownsMap Try.prog 9 fileR b m (toD fD l)) (ty : TypeId) : (Builtin.len_ #[83] ty #[.map (some b)]).run Try.prog w = .ok (.int .i64 (l.length : Int)) w := by
  have := h.len tmap ty
  rwa [toD_size] at this
/-- what a disk tells by itself: why nothing may be done -/
def refus (d : Dk) : Nat := if d.gone then 45 else 0

set_option maxRecDepth 100000 in
theorem refusal_any (a b : Nat) (d : Dk) (w : World) (h : DkAt w a b d) :
    Calls Try.prog 46 #[.pointer (some ⟨a, 0, none⟩)] w fun z w' => z = .returned (.int .i64 (refus d : Int)) ∧ w' = w := by
  obtain ⟨c0, c1, c2, c3, c4⟩ := h.cell
  clear h
  unfold refus
  go_enter Try.func46, Try.ntmps46
  cases hg : d.gone with
  | true =>
    rw [hg] at c2
    go_wp2
    go_ret
    exact ⟨rfl, rfl⟩
  | false =>
    rw [hg] at c2
    go_wp2
    go_ret
    exact ⟨rfl, rfl⟩
theorem refusal_nil (w : World) :
    Calls Try.prog 46 #[.pointer none] w fun z w' => z = .returned (.int .i64 2) ∧ w' = w := by
  go_enter Try.func46, Try.ntmps46
  go_wp2
  go_ret
  exact ⟨rfl, rfl⟩
end Go.Proofs.Ytddjoealckhepaa.Disk
