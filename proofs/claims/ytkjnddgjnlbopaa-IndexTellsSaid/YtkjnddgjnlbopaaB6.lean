import Derived.Test.YtkjnddgjnlbopaaB3
import Derived.Laws.BitsAllLaws
import Derived.Laws.Bits64
import Derived.Lib.SlBytesConst
/-
  The Writer's calls.
-/
namespace Go.Proofs.Ytkjnddgjnlbopaa.Wire
open Go.RowKit

/-! ### what a Writer has, and what stays beside it -/
/-- below B all is as it was; of what there was nothing has changed but Writers, their buffers, and rows of bytes -/
structure Only (B : Nat) (w w' : World) : Prop where
  below : Below B w w'
  same : ∀ (k : Nat) (cs : Array Value) (t : TypeId) (fr : Nat × Nat), w.heap[k]? = some (.cells cs t fr) → t ≠ 65 → t ≠ 112 → t ≠ 5 → w'.heap[k]? = some (.cells cs t fr)
theorem Only.refl (B : Nat) (w : World) : Only B w w := ⟨Below.refl _ _, fun _ _ _ _ h _ _ _ => h⟩
theorem Only.trans {B : Nat} {a b c : World} (h : Only B a b) (k : Only B b c) : Only B a c :=
  ⟨h.below.trans k.below, fun i cs t fr hi h1 h2 h3 => k.same i cs t fr (h.same i cs t fr hi h1 h2 h3) h1 h2 h3⟩
theorem Only.of_below {B : Nat} {w w' : World} (h : Below w.heap.size w w') (hB : B ≤ w.heap.size) : Only B w w' :=
  ⟨h.mono hB, fun k cs t fr hk _ _ _ => (h.block k (row_lt hk)).trans hk⟩
theorem Only.alloc {B : Nat} {a w : World} (h : Only B a w) (hB : B ≤ w.heap.size) (o : Obj) : Only B a (w.alloc o) :=
  h.trans (Only.of_below ((Below.refl _ _).alloc (Nat.le_refl _) _) hB)
theorem Only.drewN {B : Nat} {a w : World} (h : Only B a w) (n : Nat) : Only B a (w.drewN n) := ⟨⟨h.below.os, h.below.tape, h.below.output, h.below.size, h.below.block⟩, h.same⟩

/-- the Writer at p has l; what it has lies from B on -/
def Wr (B : Nat) (w : World) (p : Nat) (l : List UInt8) : Prop :=
  B ≤ p ∧ ((w.heap[p]? = some (.cells #[.pointer none, .int .i64 0] 65 (0, 0)) ∧ l = []) ∨
    ∃ q g cap, B ≤ q ∧ B ≤ g ∧ w.heap[p]? = some (.cells (wrS q l.length) 65 (0, 0)) ∧ w.heap[q]? = some (.cells (bfS g l.length cap) 112 (0, 0)) ∧ BRow w g cap l)
theorem Wr.lt {B : Nat} {w : World} {p : Nat} {l : List UInt8} (h : Wr B w p l) : p < w.heap.size := by
  rcases h.2 with ⟨h, _⟩ | ⟨q, g, cap, _, _, h, _⟩ <;> exact row_lt h
theorem Wr.low {B : Nat} {w : World} {p : Nat} {l : List UInt8} (h : Wr B w p l) : B ≤ w.heap.size := Nat.le_trans h.1 (Nat.le_of_lt h.lt)
theorem Wr.keep {B : Nat} {w w' : World} {p : Nat} {l : List UInt8} (h : Wr B w p l) (hk : ∀ k, k < w.heap.size → w'.heap[k]? = w.heap[k]?) : Wr B w' p l := by
  obtain ⟨hB, h⟩ := h
  refine ⟨hB, ?_⟩
  rcases h with ⟨h, e⟩ | ⟨q, g, cap, h1, h2, h3, h4, h5⟩
  · exact Or.inl ⟨(hk p (row_lt h)).trans h, e⟩
  · exact Or.inr ⟨q, g, cap, h1, h2, (hk p (row_lt h3)).trans h3, (hk q (row_lt h4)).trans h4, h5.same (hk g h5.lt)⟩
theorem Wr.below {B : Nat} {w w' : World} {p : Nat} {l : List UInt8} (h : Wr B w p l) (hb : Below w.heap.size w w') : Wr B w' p l := h.keep hb.block
theorem Wr.alloc {B : Nat} {w : World} {p : Nat} {l : List UInt8} (h : Wr B w p l) (o : Obj) : Wr B (w.alloc o) p l := h.keep fun k hk => Below.heap_alloc w o k hk
theorem Wr.drewN {B : Nat} {w : World} {p : Nat} {l : List UInt8} (h : Wr B w p l) (n : Nat) : Wr B (w.drewN n) p l := h
theorem Wr.new {B : Nat} {w : World} (hB : B ≤ w.heap.size) : Wr B (w.alloc (.cells #[.pointer none, .int .i64 0] 65)) w.heap.size [] :=
  ⟨hB, Or.inl ⟨heap_alloc_new w _, rfl⟩⟩
/-- other blocks than a Writer's have changed -/
theorem Wr.beside {B : Nat} {w w' : World} {p r : Nat} {l : List UInt8} {cs : Array Value} {t : TypeId} {fr : Nat × Nat} (h : Wr B w p l) (hg : w.grownBy w' (some r)) (hr : w.heap[r]? = some (.cells cs t fr))
    (h1 : t ≠ 65) (h2 : t ≠ 112) (h3 : t ≠ 5) : Wr B w' p l := by
  obtain ⟨hB, h⟩ := h
  refine ⟨hB, ?_⟩
  have ne : ∀ {k : Nat} {cs' : Array Value} {t' : TypeId} {fr' : Nat × Nat}, w.heap[k]? = some (.cells cs' t' fr') → t ≠ t' → w'.heap[k]? = w.heap[k]? := by
    intro k cs' t' fr' hk ht
    refine hg.block k (row_lt hk) ?_
    intro e
    injection e with e
    subst e
    rw [hr] at hk; injection hk with hk; injection hk with _ e; exact ht e
  rcases h with ⟨h, e⟩ | ⟨q, g, cap, k1, k2, k3, k4, k5⟩
  · exact Or.inl ⟨(ne h h1).trans h, e⟩
  · obtain ⟨cur, lo, hi, k6, k7⟩ := k5
    exact Or.inr ⟨q, g, cap, k1, k2, (ne k3 h1).trans k3, (ne k4 h2).trans k4, cur, lo, hi, (ne k6 h3).trans k6, k7⟩

theorem putB_wr {B p q g : Nat} {l m : List UInt8} {w w' : World} {g' cap' : Nat} (h : PutB p q g l m w w' g' cap') (hp : B ≤ p) (hq : B ≤ q) (hg : B ≤ g) (hB : B ≤ w.heap.size) : Wr B w' p (l ++ m) :=
  ⟨hp, Or.inr ⟨q, g', cap', hq, by rcases h.new with e | e <;> omega, h.hp, h.hq, h.row⟩⟩
theorem putB_only {B p q g : Nat} {l m : List UInt8} {w w' : World} {g' cap' : Nat} {cp cq cg : Array Value} {f1 f2 f3 : Nat × Nat} (h : PutB p q g l m w w' g' cap') (hp : B ≤ p) (hq : B ≤ q) (hg : B ≤ g)
    (kp : w.heap[p]? = some (.cells cp 65 f1)) (kq : w.heap[q]? = some (.cells cq 112 f2)) (kg : w.heap[g]? = some (.cells cg 5 f3)) : Only B w w' := by
  refine ⟨⟨h.os, h.tape, h.output, h.size, fun k hk => h.far k (by have := row_lt kp; omega) (by omega) (by omega) (by omega)⟩, fun k cs t fr hk h1 h2 h3 => ?_⟩
  refine (h.far k (row_lt hk) ?_ ?_ ?_).trans hk
  · rintro rfl; rw [kp] at hk; injection hk with hk; injection hk with _ e; exact h1 e.symm
  · rintro rfl; rw [kq] at hk; injection hk with hk; injection hk with _ e; exact h2 e.symm
  · rintro rfl; rw [kg] at hk; injection hk with hk; injection hk with _ e; exact h3 e.symm

/-! ### Bytes, of a Writer without a buffer, and of nobody's -/
set_option maxHeartbeats 400000 in
theorem bytes_nil (w : World) : Calls Try.prog 33 #[.pointer none] w fun e w' => e = .returned (.string ⟨#[]⟩) ∧ w = w' := by
  go_enter Try.func33, Try.ntmps33
  go_wp2
  go_ret
  exact ⟨rfl, rfl⟩
set_option maxHeartbeats 400000 in
theorem bytes_none (p : Nat) (w : World) (hp : w.heap[p]? = some (.cells #[.pointer none, .int .i64 0] 65 (0, 0))) :
    Calls Try.prog 33 #[.pointer (some ⟨p, 0, none⟩)] w fun e w' => e = .returned (.string ⟨#[]⟩) ∧ w = w' := by
  have p0 : w.cell? ⟨p, 0, none⟩ = some (.pointer none) := cell_row hp 0
  go_enter Try.func33, Try.ntmps33
  go_wp2
  go_ret
  exact ⟨rfl, rfl⟩

/-! ### put -/
theorem bytesRow_none (cap : Nat) : (bytesRow ⟨#[]⟩ cap).size = cap := by unfold bytesRow; simp [ByteArray.size]
theorem first_world (w : World) (p cap n : Nat) (R : Array Value) (hR : R.size = cap) (hp : w.heap[p]? = some (.cells #[.pointer none, .int .i64 0] 65 (0, 0))) :
    ∀ W, W = (((w.drewN n).alloc (Obj.cells R 5 (R.size, R.size + 1))).setCell ⟨p, 0, none⟩ (.pointer (some ⟨w.heap.size + 1, 0, none⟩))).alloc (Obj.cells #[Value.slice (some ⟨w.heap.size, 0, none⟩) 0 cap] 112) →
    W.heap[p]? = some (.cells (wrS (w.heap.size + 1) 0) 65 (0, 0)) ∧ W.heap[w.heap.size + 1]? = some (.cells (bfS w.heap.size 0 cap) 112 (0, 0)) ∧ BRow W w.heap.size cap [] ∧
      (∀ k, k < w.heap.size → k ≠ p → W.heap[k]? = w.heap[k]?) ∧ W.os = w.os ∧ W.tape = w.tape ∧ W.output = w.output ∧ W.heap.size = w.heap.size + 2 := by
  rintro W rfl
  have hpl := row_lt hp
  have h1 : ((w.drewN n).alloc (Obj.cells R 5 (R.size, R.size + 1))).heap[p]? = some (.cells #[.pointer none, .int .i64 0] 65 (0, 0)) := (Below.heap_alloc _ _ p hpl).trans hp
  have hs : (((w.drewN n).alloc (Obj.cells R 5 (R.size, R.size + 1))).setCell ⟨p, 0, none⟩ (.pointer (some ⟨w.heap.size + 1, 0, none⟩))).heap.size = w.heap.size + 1 := by simp [World.setCell]
  refine ⟨?_, ?_, ?_, ?_, rfl, rfl, rfl, ?_⟩
  · rw [Below.heap_alloc _ _ p (by rw [hs]; omega), heap_set h1]; rfl
  · have := heap_alloc_new (((w.drewN n).alloc (Obj.cells R 5 (R.size, R.size + 1))).setCell ⟨p, 0, none⟩ (.pointer (some ⟨w.heap.size + 1, 0, none⟩))) (Obj.cells #[Value.slice (some ⟨w.heap.size, 0, none⟩) 0 cap] 112)
    rw [hs] at this; exact this
  · refine ⟨R, R.size, R.size + 1, ?_, hR, Or.inl (by omega), Nat.zero_le _, rfl⟩
    rw [Below.heap_alloc _ _ _ (by rw [hs]; omega), heap_far 0 _ (by omega)]
    exact heap_alloc_new (w.drewN n) _
  · intro k hk hne
    rw [Below.heap_alloc _ _ k (by rw [hs]; omega), heap_far 0 _ hne]
    exact Below.heap_alloc (w.drewN n) _ k hk
  · simp [World.setCell]
theorem Src.keep' {w w' : World} {a : Addr} {l : List UInt8} (h : Src w a l) (hk : l ≠ [] → w'.heap[a.block]? = w.heap[a.block]?) : Src w' a l := by
  intro j u hu
  have hne : l ≠ [] := by rintro rfl; simp [bvs] at hu
  refine (World.cell?_of_block (w := w) ?_).trans (h j u hu)
  have : (a.add j).block = a.block := by unfold Addr.add; split <;> rfl
  rw [this]; exact hk hne

theorem putB_of0 {p q g g' cap cap' : Nat} {m : List UInt8} {w w1 : World} (hp : w.heap[p]? = some (.cells (wrS q 0) 65 (0, 0))) (hq : w.heap[q]? = some (.cells (bfS g 0 cap) 112 (0, 0)))
    (hpq : p ≠ q) (hpg : p ≠ g) (hqg : q ≠ g) (hrow : BRow w1 g' cap' ([] ++ m)) (hgrow : w.drew.grownBy w1 (some g)) (hg' : g' = g ∨ w.drew.heap.size ≤ g') :
    PutB p q g [] m w ((w1.setCell ⟨q, 0, none⟩ (.slice (some ⟨g', 0, none⟩) m.length cap')).setCell ⟨p, 1, none⟩ (.int .i64 (m.length : Int))) g' cap' := by
  have h := putB_of (l := []) (n := 1) hp hq hpq hpg hqg hrow hgrow hg'
  have e : (([] : List UInt8).length : Int) + (m.length : Int) = (m.length : Int) := by simp
  rw [e, List.length_nil, Nat.zero_add] at h
  exact h
set_option maxRecDepth 100000 in
set_option maxHeartbeats 400000 in
theorem put_first (w : World) (B p : Nat) (m : List UInt8) (a : Addr) (c : Nat) (hB : B ≤ p)
    (hp : w.heap[p]? = some (.cells #[.pointer none, .int .i64 0] 65 (0, 0)))
    (ha : m ≠ [] → a.block < w.heap.size ∧ a.block ≠ p) (hsrc : Src w a m) (hs : m.length ≤ 1000000000000) :
    Calls Try.prog 81 #[.pointer (some ⟨p, 0, none⟩), .slice (some a) m.length c] w fun e w' => e = .returned (.tuple #[]) ∧ Wr B w' p m ∧ Only B w w' := by
  have p0 : w.cell? ⟨p, 0, none⟩ = some (.pointer none) := cell_row hp 0
  have fp0 := frozen_row hp 0
  have hpl : p < w.heap.size := row_lt hp
  have H := Lib.hid hp
  go_enter Try.func81, Try.ntmps81
  go_wp2_with fail
  go_quiet (fail)
  go_wp2_with fail
  refine (bytes_none p (w.drewN nq) hp).mono ?_; rintro e w1 ⟨rfl, rfl⟩
  have hconv := run_bytes_of_string (P := Try.prog) (w.drewN nq) 9 110 5 ⟨#[]⟩ Try.underlying9 Try.underlying110 Try.underlying5
  have hsz := bytesRow_none (grownCap (w.drewN nq) (ByteArray.size ⟨#[]⟩) 0 5)
  generalize grownCap (w.drewN nq) (ByteArray.size ⟨#[]⟩) 0 5 = cap at *
  generalize bytesRow ⟨#[]⟩ cap = R at *
  have HSZ := Lib.hid hsz; clear hsz
  have c1 : ∀ o1 o2, (((w.drewN (nq + 1)).alloc o1).alloc o2).cell? ⟨p, 0, none⟩ = some (.pointer none) := fun o1 o2 => by
    rw [World.cell?_alloc_lt _ _ _ (by simp; omega), World.cell?_alloc_lt _ _ _ (by simp; omega)]; exact p0
  have c2 : ∀ o1 o2, (((w.drewN (nq + 1)).alloc o1).alloc o2).frozen? ⟨p, 0, none⟩ = false := fun o1 o2 => by
    rw [World.frozen?_of_block (w := w) ((Below.heap_alloc _ _ p (by simp; omega)).trans (Below.heap_alloc _ _ p (by simp; omega)))]; exact fp0
  go_wp2_with fail
  clear c1 c2 hconv
  have HW := first_world w p cap (nq + 1) R HSZ.out hp _ rfl
  generalize (((w.drewN (nq + 1)).alloc (Obj.cells R 5 (R.size, R.size + 1))).setCell ⟨p, 0, none⟩ (.pointer (some ⟨w.heap.size + 1, 0, none⟩))).alloc (Obj.cells #[Value.slice (some ⟨w.heap.size, 0, none⟩) 0 cap] 112) = W at *
  obtain ⟨kp, kq, krow, kfar, kos, ktape, kout, ksz⟩ := HW
  generalize hg : w.heap.size = g at *
  have hO : Hid (Only B w W) := ⟨⟨kos, ktape, kout, by omega, fun k hk => kfar k (by omega) (by omega)⟩, fun k cs t fr hk h1 h2 h3 => (kfar k (by rw [← hg]; exact row_lt hk) (fun e => by
    subst e; have hp' := H.out; rw [hp'] at hk; injection hk with hk; injection hk with _ e; exact h1 e.symm)).trans hk⟩
  have hsrc3 : Src W a m := hsrc.keep' (fun hm => kfar _ (ha hm).1 (ha hm).2)
  have Hg := Lib.hid hg; clear hg
  have hBg : Hid (B ≤ g) := by show B ≤ g; omega
  clear hp p0 fp0 kfar kos ktape kout hsrc ha
  have p0 : W.cell? ⟨p, 0, none⟩ = some (.pointer (some ⟨g + 1, 0, none⟩)) := cell_row kp 0
  have p1 : W.cell? ⟨p, 1, none⟩ = some (.int .i64 0) := cell_row kp 1
  have q0 : W.cell? ⟨g + 1, 0, none⟩ = some (.slice (some ⟨g, 0, none⟩) 0 cap) := cell_row kq 0
  have fp0 := frozen_row kp 0
  have fp1 := frozen_row kp 1
  have fq0 := frozen_row kq 0
  have hpg : p ≠ g := by omega
  have hpq : p ≠ g + 1 := by omega
  have hqg : g + 1 ≠ g := by omega
  have hpl : p < (W.drew).heap.size := row_lt kp
  have hql : g + 1 < (W.drew).heap.size := row_lt kq
  have hrow' : BRow W.drew g cap [] := krow
  have hsrc' : Src W.drew a m := hsrc3
  go_region_law ((refine step_append_row (by rfl) (.tmp 44) (.tmp 45) (by rfl) g cap [] (by rfl) hrow' a c m (by rfl) hsrc' (by simpa using hs) ?_; intro g' cap' w1 hrow1 hgrow hg'; (have hq0 := grown_frozen hgrow (g + 1) 0 hql hqg); (have hq1 := (grown_cell hgrow (g + 1) 0 hql hqg).trans q0); (have hp0 := (grown_cell hgrow p 0 hpl hpg).trans p0); (have hp1 := (grown_cell hgrow p 1 hpl hpg).trans p1); (have gp0 := (grown_frozen hgrow p 0 hpl hpg).trans fp0); (have gp1 := (grown_frozen hgrow p 1 hpl hpg).trans fp1)))
  all_goals
    have h0 := hq0.trans fq0
    have HP := Lib.hid (putB_of0 kp kq hpq hpg hqg hrow1 hgrow hg')
    have hm : (m.length : Int) ≤ 1000000000000 := by omega
    go_wp2
    go_end0
    have hB1 := hBg.out
    obtain ⟨cur, lo, hi, k1, _⟩ := krow
    exact ⟨rfl, putB_wr (l := []) HP.out hB (by omega) hB1 (by omega), hO.out.trans (putB_only HP.out hB (by omega) hB1 kp kq k1)⟩

/-- put, of a Writer that may have anything -/
theorem put_any (w : World) (B p : Nat) (l m : List UInt8) (a : Addr) (c : Nat) (hw : Wr B w p l)
    (ha : m ≠ [] → a.block < w.heap.size ∧ a.block ≠ p) (hsrc : Src w a m) (hs : l.length + m.length ≤ 1000000000000) :
    Calls Try.prog 81 #[.pointer (some ⟨p, 0, none⟩), .slice (some a) m.length c] w fun e w' => e = .returned (.tuple #[]) ∧ Wr B w' p (l ++ m) ∧ Only B w w' := by
  have hlow := hw.low
  obtain ⟨hB, ⟨hp, rfl⟩ | ⟨q, g, cap, h1, h2, h3, h4, h5⟩⟩ := hw
  · exact put_first w B p m a c hB hp ha hsrc (by simpa using hs)
  · obtain ⟨cur, lo, hi, k1, k2⟩ := h5
    exact (put_more w p q g cap l m a c h3 h4 ⟨cur, lo, hi, k1, k2⟩ hsrc hs).mono fun e w' ⟨he, g', cap', hP⟩ => ⟨he, putB_wr hP hB h1 h2 hlow, putB_only hP hB h1 h2 h3 h4 k1⟩
set_option maxHeartbeats 400000 in
theorem put_nil (x : Value) (w : World) : Calls Try.prog 81 #[.pointer none, x] w fun e w' => e = .returned (.tuple #[]) ∧ w = w' := by
  go_enter Try.func81, Try.ntmps81
  go_wp2
  refine bodyPost_ret (results_none rfl _ _ _) rfl ?_
  exact ⟨rfl, rfl⟩

end Go.Proofs.Ytkjnddgjnlbopaa.Wire

/-
  The Writer's calls: fixed numbers, short ones, texts; what it tells.
-/
namespace Go.Proofs.Ytkjnddgjnlbopaa.Wire
open Go.RowKit

theorem U_div (n k : Nat) : U n / (k : Int) = U (n / k) := by unfold U; rw [Int.natCast_ediv]
theorem U_mod (n k : Nat) : U n % (k : Int) = U (n % k) := by unfold U; rw [Int.natCast_emod]
theorem bv_of (n : Nat) (x : Int) (h : x = U (n % 256)) : Value.int .u8 x = bv (UInt8.ofNat (n % 256)) := by
  unfold bv; rw [h, toNat_ofNat_lt (Nat.mod_lt _ (by decide))]; rfl
/-- the bytes in a new block -/
theorem src_new (w : World) (cs : Array Value) (l : List UInt8) (h : cs.toList = bvs l) : Src (w.alloc (.cells cs 5)) ⟨w.heap.size, 0, none⟩ l :=
  Src.of_block (heap_alloc_new w _) fun j u hu => by rw [← Array.getElem?_toList, h]; exact hu
theorem new_at (w : World) (o : Obj) {B p : Nat} {l : List UInt8} (hw : Wr B w p l) : w.heap.size < (w.alloc o).heap.size ∧ w.heap.size ≠ p := ⟨by simp, by have := hw.lt; omega⟩
/-- put, of bytes that were just laid -/
theorem put_new (w : World) (B p : Nat) (l m : List UInt8) (cs : Array Value) (k : Nat) (hw : Wr B w p l) (hcs : cs.toList = bvs m) (hk : m.length = k) (hs : l.length + k ≤ 1000000000000) :
    Calls Try.prog 81 #[.pointer (some ⟨p, 0, none⟩), .slice (some ⟨w.heap.size, 0, none⟩) k k] (w.alloc (.cells cs 5)) fun e w' => e = .returned (.tuple #[]) ∧ Wr B w' p (l ++ m) ∧ Only B w w' := by
  subst hk
  exact (put_any (w.alloc (.cells cs 5)) B p l m ⟨w.heap.size, 0, none⟩ m.length (hw.alloc _) (fun _ => new_at w _ hw) (src_new w cs m hcs) hs).mono fun e w' ⟨he, h1, h2⟩ => ⟨he, h1, (Only.of_below ((Below.refl _ _).alloc (Nat.le_refl _) _) hw.low).trans h2⟩

def F4 (n : Nat) : List UInt8 := [UInt8.ofNat (n / 72057594037927936 % 256), UInt8.ofNat (n / 281474976710656 % 256), UInt8.ofNat (n / 1099511627776 % 256), UInt8.ofNat (n / 4294967296 % 256)]
def F2 (n : Nat) : List UInt8 := [UInt8.ofNat (n / 16777216 % 256), UInt8.ofNat (n / 65536 % 256)]
def F1 (n : Nat) : List UInt8 := [UInt8.ofNat (n / 256 % 256)]
def F0 (n : Nat) : List UInt8 := [UInt8.ofNat (n % 256)]
theorem fix8 (n : Nat) : fixB 8 n = F4 n ++ F2 n ++ F1 n ++ F0 n := by unfold F4 F2 F1 F0; simp [fixB, Nat.div_div_eq_div_mul]
theorem fix4 (n : Nat) : fixB 4 n = F2 n ++ F1 n ++ F0 n := by unfold F2 F1 F0; simp [fixB, Nat.div_div_eq_div_mul]
theorem fix2 (n : Nat) : fixB 2 n = F1 n ++ F0 n := by unfold F1 F0; simp [fixB]
theorem fix1 (n : Nat) : fixB 1 n = F0 n := by unfold F0; simp [fixB]

theorem U_byte (n k : Nat) : U n / (k : Int) % 256 = U (n / k % 256) := by
  rw [U_div]; exact U_mod (n / k) 256
theorem F4_cells (n : Nat) : (#[.int .u8 (U n / 72057594037927936 % 256), .int .u8 (U n / 281474976710656 % 256), .int .u8 (U n / 1099511627776 % 256), .int .u8 (U n / 4294967296 % 256)] : Array Value).toList = bvs (F4 n) := by
  show [_, _, _, _] = [bv _, bv _, bv _, bv _]
  rw [show Value.int .u8 (U n / 72057594037927936 % 256) = _ from bv_of _ _ (U_byte n 72057594037927936), show Value.int .u8 (U n / 281474976710656 % 256) = _ from bv_of _ _ (U_byte n 281474976710656), show Value.int .u8 (U n / 1099511627776 % 256) = _ from bv_of _ _ (U_byte n 1099511627776), show Value.int .u8 (U n / 4294967296 % 256) = _ from bv_of _ _ (U_byte n 4294967296)]
theorem F2_cells (n : Nat) : (#[.int .u8 (U n / 16777216 % 256), .int .u8 (U n / 65536 % 256)] : Array Value).toList = bvs (F2 n) := by
  show [_, _] = [bv _, bv _]
  rw [show Value.int .u8 (U n / 16777216 % 256) = _ from bv_of _ _ (U_byte n 16777216), show Value.int .u8 (U n / 65536 % 256) = _ from bv_of _ _ (U_byte n 65536)]
theorem F1_cells (n : Nat) : (#[.int .u8 (U n / 256 % 256)] : Array Value).toList = bvs (F1 n) := by
  show [_] = [bv _]
  rw [show Value.int .u8 (U n / 256 % 256) = _ from bv_of _ _ (U_byte n 256)]
theorem F0_cells (n : Nat) : (#[.int .u8 (U n % 256)] : Array Value).toList = bvs (F0 n) := by
  show [_] = [bv _]
  rw [show Value.int .u8 (U n % 256) = _ from bv_of _ _ (U_mod n 256)]

set_option maxRecDepth 100000 in
set_option maxHeartbeats 400000 in
theorem fixed8 (w : World) (B p : Nat) (l : List UInt8) (n : Nat) (hw : Wr B w p l) (hs : l.length + 8 ≤ 1000000000000) :
    Calls Try.prog 80 #[.pointer (some ⟨p, 0, none⟩), .int .u64 (U n), .int .i64 8] w fun e w' => e = .returned (.tuple #[]) ∧ Wr B w' p (l ++ fixB 8 n) ∧ Only B w w' := by
  have HW := Lib.hid hw
  rw [fix8]
  go_enter Try.func80, Try.ntmps80
  go_wp2_with fail
  refine (put_new _ B p l (F4 n) _ 4 HW.out (F4_cells n) rfl (by omega)).mono ?_; rintro e w1 ⟨rfl, h1, o1⟩
  have H1 := Lib.hid h1; have O1 := Lib.hid o1; clear h1 o1
  go_wp2_with fail
  refine (put_new _ B p _ (F2 n) _ 2 H1.out (F2_cells n) rfl (by rw [List.length_append]; show _ + 4 + 2 ≤ _; omega)).mono ?_; rintro e w2 ⟨rfl, h2, o2⟩
  have H2 := Lib.hid h2; have O2 := Lib.hid o2; clear h2 o2
  go_wp2_with fail
  refine (put_new _ B p _ (F1 n) _ 1 H2.out (F1_cells n) rfl (by rw [List.length_append, List.length_append]; show _ + 4 + 2 + 1 ≤ _; omega)).mono ?_; rintro e w3 ⟨rfl, h3, o3⟩
  have H3 := Lib.hid h3; have O3 := Lib.hid o3; clear h3 o3
  go_wp2_with fail
  refine (put_new _ B p _ (F0 n) _ 1 H3.out (F0_cells n) rfl (by rw [List.length_append, List.length_append, List.length_append]; show _ + 4 + 2 + 1 + 1 ≤ _; omega)).mono ?_; rintro e w4 ⟨rfl, h4, o4⟩
  have H4 := Lib.hid h4; have O4 := Lib.hid o4; clear h4 o4
  go_wp2_with fail
  go_end0
  exact ⟨rfl, by have := H4.out; simpa only [List.append_assoc] using this, O1.out.trans (O2.out.trans (O3.out.trans O4.out))⟩
set_option maxRecDepth 100000 in
set_option maxHeartbeats 400000 in
theorem fixed4 (w : World) (B p : Nat) (l : List UInt8) (n : Nat) (hw : Wr B w p l) (hs : l.length + 8 ≤ 1000000000000) :
    Calls Try.prog 80 #[.pointer (some ⟨p, 0, none⟩), .int .u64 (U n), .int .i64 4] w fun e w' => e = .returned (.tuple #[]) ∧ Wr B w' p (l ++ fixB 4 n) ∧ Only B w w' := by
  have HW := Lib.hid hw
  rw [fix4]
  go_enter Try.func80, Try.ntmps80
  go_wp2_with fail
  refine (put_new _ B p _ (F2 n) _ 2 HW.out (F2_cells n) rfl (by omega)).mono ?_; rintro e w2 ⟨rfl, h2, o2⟩
  have H2 := Lib.hid h2; have O2 := Lib.hid o2; clear h2 o2
  go_wp2_with fail
  refine (put_new _ B p _ (F1 n) _ 1 H2.out (F1_cells n) rfl (by rw [List.length_append]; show _ + 2 + 1 ≤ _; omega)).mono ?_; rintro e w3 ⟨rfl, h3, o3⟩
  have H3 := Lib.hid h3; have O3 := Lib.hid o3; clear h3 o3
  go_wp2_with fail
  refine (put_new _ B p _ (F0 n) _ 1 H3.out (F0_cells n) rfl (by rw [List.length_append, List.length_append]; show _ + 2 + 1 + 1 ≤ _; omega)).mono ?_; rintro e w4 ⟨rfl, h4, o4⟩
  have H4 := Lib.hid h4; have O4 := Lib.hid o4; clear h4 o4
  go_wp2_with fail
  go_end0
  exact ⟨rfl, by have := H4.out; simpa only [List.append_assoc] using this, O2.out.trans (O3.out.trans O4.out)⟩
set_option maxRecDepth 100000 in
set_option maxHeartbeats 400000 in
theorem fixed2 (w : World) (B p : Nat) (l : List UInt8) (n : Nat) (hw : Wr B w p l) (hs : l.length + 8 ≤ 1000000000000) :
    Calls Try.prog 80 #[.pointer (some ⟨p, 0, none⟩), .int .u64 (U n), .int .i64 2] w fun e w' => e = .returned (.tuple #[]) ∧ Wr B w' p (l ++ fixB 2 n) ∧ Only B w w' := by
  have HW := Lib.hid hw
  rw [fix2]
  go_enter Try.func80, Try.ntmps80
  go_wp2_with fail
  refine (put_new _ B p _ (F1 n) _ 1 HW.out (F1_cells n) rfl (by omega)).mono ?_; rintro e w3 ⟨rfl, h3, o3⟩
  have H3 := Lib.hid h3; have O3 := Lib.hid o3; clear h3 o3
  go_wp2_with fail
  refine (put_new _ B p _ (F0 n) _ 1 H3.out (F0_cells n) rfl (by rw [List.length_append]; show _ + 1 + 1 ≤ _; omega)).mono ?_; rintro e w4 ⟨rfl, h4, o4⟩
  have H4 := Lib.hid h4; have O4 := Lib.hid o4; clear h4 o4
  go_wp2_with fail
  go_end0
  exact ⟨rfl, by have := H4.out; simpa only [List.append_assoc] using this, O3.out.trans O4.out⟩
set_option maxRecDepth 100000 in
set_option maxHeartbeats 400000 in
theorem fixed1 (w : World) (B p : Nat) (l : List UInt8) (n : Nat) (hw : Wr B w p l) (hs : l.length + 8 ≤ 1000000000000) :
    Calls Try.prog 80 #[.pointer (some ⟨p, 0, none⟩), .int .u64 (U n), .int .i64 1] w fun e w' => e = .returned (.tuple #[]) ∧ Wr B w' p (l ++ fixB 1 n) ∧ Only B w w' := by
  have HW := Lib.hid hw
  rw [fix1]
  go_enter Try.func80, Try.ntmps80
  go_wp2_with fail
  refine (put_new _ B p _ (F0 n) _ 1 HW.out (F0_cells n) rfl (by omega)).mono ?_; rintro e w4 ⟨rfl, h4, o4⟩
  have H4 := Lib.hid h4; have O4 := Lib.hid o4; clear h4 o4
  go_wp2_with fail
  go_end0
  exact ⟨rfl, H4.out, O4.out⟩

/-! ### nobody's Writer -/
theorem below_new (w : World) (o : Obj) {w' : World} (h : w.alloc o = w') : Below w.heap.size w w' := by subst h; exact (Below.refl _ _).alloc (Nat.le_refl _) _
set_option maxRecDepth 100000 in
set_option maxHeartbeats 400000 in
theorem fixed8_nil (w : World) (n : Nat) :
    Calls Try.prog 80 #[.pointer none, .int .u64 (U n), .int .i64 8] w fun e w' => e = .returned (.tuple #[]) ∧ Below w.heap.size w w' := by
  go_enter Try.func80, Try.ntmps80
  go_wp2_with (go_at_call 81; refine (put_nil _ _).mono ?_; rintro e w' ⟨rfl, rfl⟩)
  go_end0
  exact ⟨rfl, ((((Below.refl _ _).alloc (Nat.le_refl _) _).alloc (by simp <;> omega) _).alloc (by simp <;> omega) _).alloc (by simp <;> omega) _⟩
set_option maxRecDepth 100000 in
set_option maxHeartbeats 400000 in
theorem fixed4_nil (w : World) (n : Nat) :
    Calls Try.prog 80 #[.pointer none, .int .u64 (U n), .int .i64 4] w fun e w' => e = .returned (.tuple #[]) ∧ Below w.heap.size w w' := by
  go_enter Try.func80, Try.ntmps80
  go_wp2_with (go_at_call 81; refine (put_nil _ _).mono ?_; rintro e w' ⟨rfl, rfl⟩)
  go_end0
  exact ⟨rfl, (((Below.refl _ _).alloc (Nat.le_refl _) _).alloc (by simp <;> omega) _).alloc (by simp <;> omega) _⟩
set_option maxRecDepth 100000 in
set_option maxHeartbeats 400000 in
theorem fixed1_nil (w : World) (n : Nat) :
    Calls Try.prog 80 #[.pointer none, .int .u64 (U n), .int .i64 1] w fun e w' => e = .returned (.tuple #[]) ∧ Below w.heap.size w w' := by
  go_enter Try.func80, Try.ntmps80
  go_wp2_with (go_at_call 81; refine (put_nil _ _).mono ?_; rintro e w' ⟨rfl, rfl⟩)
  go_end0
  exact ⟨rfl, (Below.refl _ _).alloc (Nat.le_refl _) _⟩

end Go.Proofs.Ytkjnddgjnlbopaa.Wire

/-
  The Writer's calls: U8 to U64, Low, Short, Text, Raw, Len, Bytes.
-/
namespace Go.Proofs.Ytkjnddgjnlbopaa.Wire
open Go.RowKit

/-! ### the bytes of a number of 32 bits, turned about -/
def revN (n : Nat) : Nat := be (fixB 4 n).reverse
theorem tb_two (a b i j : Nat) (h : b < 2 ^ i) : (2 ^ i * a + b).testBit j = if j < i then b.testBit j else a.testBit (j - i) := Nat.testBit_two_pow_mul_add a h j
theorem mask_ff (x : Nat) : x &&& 16711935 = 2 ^ 16 * (x / 65536 % 256) + x % 256 := by
  have hx : x = 2 ^ 16 * (x / 65536) + x % 65536 := by omega
  have hm : (16711935 : Nat) = 2 ^ 16 * 255 + 255 := by decide
  apply Nat.eq_of_testBit_eq; intro j
  rw [Nat.testBit_and, tb_two _ _ 16 j (by omega : x % 256 < 2 ^ 16)]
  have h1 : (16711935 : Nat).testBit j = if j < 16 then (2 ^ 8 - 1).testBit j else (2 ^ 8 - 1).testBit (j - 16) := by rw [hm]; exact tb_two 255 255 16 j (by decide)
  have h2 : x.testBit j = if j < 16 then (x % 2 ^ 16).testBit j else (x / 65536).testBit (j - 16) := by
    have := tb_two (x / 65536) (x % 65536) 16 j (by omega)
    rw [← hx] at this; exact this
  rw [h1, h2]
  have e8 : x % 256 = x % 2 ^ 8 := rfl
  have e9 : x / 65536 % 256 = x / 65536 % 2 ^ 8 := rfl
  rw [e8, e9]
  split
  · rw [Nat.testBit_two_pow_sub_one, Nat.testBit_mod_two_pow, Nat.testBit_mod_two_pow]
    by_cases h : j < 8
    · simp [h, show j < 16 by omega]
    · simp [h]
  · rw [Nat.testBit_two_pow_sub_one, Nat.testBit_mod_two_pow]
    exact Bool.and_comm _ _
theorem or_two (a b c d i : Nat) (hb : b < 2 ^ i) (hd : d < 2 ^ i) : (2 ^ i * a + b) ||| (2 ^ i * c + d) = 2 ^ i * (a ||| c) + (b ||| d) := by
  apply Nat.eq_of_testBit_eq; intro j
  rw [Nat.testBit_or, tb_two _ _ _ _ hb, tb_two _ _ _ _ hd, tb_two _ _ _ _ (Nat.or_lt_two_pow hb hd)]
  split
  · rw [Nat.testBit_or]
  · rw [Nat.testBit_or]
theorem or_add (a b i : Nat) (hb : b < 2 ^ i) : (2 ^ i * a) ||| b = 2 ^ i * a + b := (Nat.two_pow_add_eq_or_of_lt hb a).symm
theorem rev_val (n : Nat) (hn : n < 4294967296) : revN n = 16777216 * (n % 256) + 65536 * (n / 256 % 256) + 256 * (n / 65536 % 256) + n / 16777216 := by
  unfold revN
  have e : (fixB 4 n).reverse = [UInt8.ofNat (n % 256), UInt8.ofNat (n / 256 % 256), UInt8.ofNat (n / 65536 % 256), UInt8.ofNat (n / 16777216 % 256)] := by simp [fixB, Nat.div_div_eq_div_mul]
  rw [e]
  show ((((0 * 256 + (UInt8.ofNat (n % 256)).toNat) * 256 + (UInt8.ofNat (n / 256 % 256)).toNat) * 256 + (UInt8.ofNat (n / 65536 % 256)).toNat) * 256 + (UInt8.ofNat (n / 16777216 % 256)).toNat) = _
  rw [toNat_ofNat_lt (Nat.mod_lt _ (by decide)), toNat_ofNat_lt (Nat.mod_lt _ (by decide)), toNat_ofNat_lt (Nat.mod_lt _ (by decide)), toNat_ofNat_lt (Nat.mod_lt _ (by decide))]
  omega
theorem rev_lt (n : Nat) : revN n < 4294967296 := be_lt 4 _ (by rw [List.length_reverse, fixB_length])
theorem fix_rev (n : Nat) : fixB 4 (revN n) = (fixB 4 n).reverse := fixB_be 4 _ (by rw [List.length_reverse, fixB_length])
theorem rev_rev (n : Nat) (hn : n < 4294967296) : revN (revN n) = n := by
  unfold revN
  rw [fixB_be 4 _ (by rw [List.length_reverse, fixB_length]), List.reverse_reverse, be_fixB]
  exact Nat.mod_eq_of_lt hn
theorem rev_bits (n : Nat) (hn : n < 4294967296) (T : Int) (hT : T = bits .or .u32 (bits .and .u32 (U n / 256) 16711935) (bits .and .u32 (U n) 16711935 * 256 % 4294967296)) :
    bits .or .u32 (T / 65536) (T * 65536 % 4294967296) = U (revN n) := by
  have a1 : bits .and .u32 (U n / 256) 16711935 = ((n / 256 &&& 16711935 : Nat) : Int) := by
    have := u32_and_nat (n / 256) 16711935 (by omega) (by decide)
    rw [Int.natCast_ediv] at this; exact this
  have a2 : bits .and .u32 (U n) 16711935 = ((n &&& 16711935 : Nat) : Int) := u32_and_nat n 16711935 hn (by decide)
  have hA : n / 256 &&& 16711935 = 2 ^ 16 * (n / 16777216) + n / 256 % 256 := by rw [mask_ff]; omega
  have hB : (n &&& 16711935) * 256 % 4294967296 = 2 ^ 16 * (2 ^ 8 * (n / 65536 % 256)) + 2 ^ 8 * (n % 256) := by rw [mask_ff]; omega
  have t1 : T = (((n / 256 &&& 16711935) ||| ((n &&& 16711935) * 256 % 4294967296) : Nat) : Int) := by
    rw [hT, a1, a2, show (((n &&& 16711935 : Nat) : Int) * 256 % 4294967296) = (((n &&& 16711935) * 256 % 4294967296 : Nat) : Int) from rfl]
    exact u32_or_nat _ _ (by rw [hA]; omega) (by omega)
  have t2 : T = ((2 ^ 16 * (2 ^ 8 * (n / 65536 % 256) + n / 16777216) + (2 ^ 8 * (n % 256) + n / 256 % 256) : Nat) : Int) := by
    rw [t1, hA, hB, or_two _ _ _ _ 16 (by omega) (by omega), Nat.or_comm (n / 16777216), or_add _ _ 8 (by omega), Nat.or_comm (n / 256 % 256), or_add _ _ 8 (by omega)]
  have q1 : T / 65536 = ((2 ^ 8 * (n / 65536 % 256) + n / 16777216 : Nat) : Int) := by rw [t2]; omega
  have q2 : T * 65536 % 4294967296 = ((2 ^ 16 * (2 ^ 8 * (n % 256) + n / 256 % 256) : Nat) : Int) := by rw [t2]; omega
  rw [q1, q2, u32_or_nat _ _ (by omega) (by omega), Nat.or_comm, or_add _ _ 16 (by omega), rev_val n hn]
  unfold U; omega

theorem ret_u32 {a b : Int} (h : a = b) : Ending.returned (.int .u32 a) = .returned (.int .u32 b) := by rw [h]
theorem ret_i64 {a b : Int} (h : a = b) : Ending.returned (.int .i64 a) = .returned (.int .i64 b) := by rw [h]
theorem ret_u64 {a b : Int} (h : a = b) : Ending.returned (.int .u64 a) = .returned (.int .u64 b) := by rw [h]
theorem reverse_any (n : Nat) (hn : Hid (n < 4294967296)) (w : World) :
    Calls Try.prog 75 #[.int .u32 (U n)] w fun e w' => e = .returned (.int .u32 (U (revN n))) ∧ w = w' := by
  go_enter Try.func75, Try.ntmps75
  go_wp2_with fail
  go_ret
  exact ⟨ret_u32 (rev_bits n hn.out _ rfl), rfl⟩

/-! ### fixed numbers -/
theorem wrap64U (n : Nat) (h : n < 18446744073709551616) : IntKind.u64.wrap (U n) = U n := by
  rw [IntKind.wrap_u64]; unfold U; omega
set_option maxRecDepth 100000 in
set_option maxHeartbeats 400000 in
theorem u32_any (w : World) (B p : Nat) (l : List UInt8) (n : Nat) (hw : Wr B w p l) (hs : l.length + 8 ≤ 1000000000000) (x : Int) (hx : x = U n) (hn : Hid (n < 4294967296)) :
    Calls Try.prog 56 #[.pointer (some ⟨p, 0, none⟩), .int .u32 x] w fun e w' => e = .returned (.tuple #[]) ∧ Wr B w' p (l ++ fixB 4 n) ∧ Only B w w' := by
  subst hx
  have hu := wrap64U n (by have := hn.out; omega)
  go_enter Try.func56, Try.ntmps56
  go_wp2_with fail
  refine (fixed4 w B p l n hw hs).mono ?_; rintro e w1 ⟨rfl, h1, o1⟩
  have H1 := Lib.hid h1; have O1 := Lib.hid o1; clear h1 o1
  go_wp2_with fail
  go_end0
  exact ⟨rfl, H1.out, O1.out⟩
set_option maxRecDepth 100000 in
set_option maxHeartbeats 400000 in
theorem u64_any (w : World) (B p : Nat) (l : List UInt8) (n : Nat) (hw : Wr B w p l) (hs : l.length + 8 ≤ 1000000000000) (x : Int) (hx : x = U n) :
    Calls Try.prog 57 #[.pointer (some ⟨p, 0, none⟩), .int .u64 x] w fun e w' => e = .returned (.tuple #[]) ∧ Wr B w' p (l ++ fixB 8 n) ∧ Only B w w' := by
  subst hx
  go_enter Try.func57, Try.ntmps57
  go_wp2_with fail
  refine (fixed8 w B p l n hw hs).mono ?_; rintro e w1 ⟨rfl, h1, o1⟩
  have H1 := Lib.hid h1; have O1 := Lib.hid o1; clear h1 o1
  go_wp2_with fail
  go_end0
  exact ⟨rfl, H1.out, O1.out⟩
/-- 4 bytes, the lowest first -/
def lowB (n : Nat) : List UInt8 := (fixB 4 n).reverse
theorem lowB_length (n : Nat) : (lowB n).length = 4 := by unfold lowB; rw [List.length_reverse, fixB_length]
set_option maxRecDepth 100000 in
set_option maxHeartbeats 400000 in
theorem low_any (w : World) (B p : Nat) (l : List UInt8) (n : Nat) (hw : Wr B w p l) (hs : l.length + 8 ≤ 1000000000000) (x : Int) (hx : x = U n) (hn : Hid (n < 4294967296)) :
    Calls Try.prog 58 #[.pointer (some ⟨p, 0, none⟩), .int .u32 x] w fun e w' => e = .returned (.tuple #[]) ∧ Wr B w' p (l ++ lowB n) ∧ Only B w w' := by
  subst hx
  have hr : Hid (revN n < 4294967296) := rev_lt n
  go_enter Try.func58, Try.ntmps58
  go_wp2_with fail
  refine (reverse_any n hn _).mono ?_; rintro e w1 ⟨rfl, rfl⟩
  go_wp2_with fail
  refine (u32_any w B p l (revN n) hw hs _ rfl hr).mono ?_; rintro e w1 ⟨rfl, h1, o1⟩
  have H1 := Lib.hid h1; have O1 := Lib.hid o1; clear h1 o1
  go_wp2_with fail
  go_end0
  exact ⟨rfl, by have := H1.out; rw [fix_rev] at this; exact this, O1.out⟩

/-! ### how many bytes -/
/-! ### the bytes -/
def S (l : List UInt8) : ByteArray := ⟨l.toArray⟩
theorem S_list (l : List UInt8) : (S l).data.toList = l := rfl
theorem S_size (l : List UInt8) : (S l).size = l.length := by unfold S; simp [ByteArray.size]
theorem S_of (s : ByteArray) : S s.data.toList = s := rfl
set_option maxRecDepth 100000 in
set_option maxHeartbeats 400000 in
theorem bytes_any (w : World) (B p : Nat) (l : List UInt8) (hw : Wr B w p l) :
    Calls Try.prog 33 #[.pointer (some ⟨p, 0, none⟩)] w fun e w' => e = .returned (.string (S l)) ∧ ∃ n, w' = w.drewN n := by
  obtain ⟨hB, ⟨hp, rfl⟩ | ⟨q, g, cap, h1, h2, h3, h4, h5⟩⟩ := hw
  · exact (bytes_none p w hp).mono fun e w' ⟨he, hw⟩ => ⟨he, 0, hw.symm⟩
  · have p0 : w.cell? ⟨p, 0, none⟩ = some (.pointer (some ⟨q, 0, none⟩)) := cell_row h3 0
    have p1 : w.cell? ⟨p, 1, none⟩ = some (.int .i64 (l.length : Int)) := cell_row h3 1
    have q0 : w.cell? ⟨q, 0, none⟩ = some (.slice (some ⟨g, 0, none⟩) l.length cap) := cell_row h4 0
    have hback : ∀ n, (convert 110 9 (.slice (some ⟨g, 0, none⟩) l.length cap)).run Try.prog (w.drewN n) = .ok (.string (S l)) (w.drewN n) := fun n =>
      run_convert_bytes_back (P := Try.prog) (w.drewN n) 110 9 5 ⟨g, 0, none⟩ cap l Try.underlying110 Try.underlying5 Try.underlying9 (fun j hj => by rw [addr_add, Nat.zero_add]; exact h5.cell j hj)
    have hl : (l.length : Int) ≤ (cap : Int) := by obtain ⟨_, _, _, _, _, _, h, _⟩ := h5; omega
    have hl0 : (0 : Int) ≤ (l.length : Int) := by omega
    clear h3 h4 h5 hB
    go_enter Try.func33, Try.ntmps33
    go_wp2_with fail
    go_quiet (fail)
    go_wp2_with fail
    go_ret
    exact ⟨rfl, _, rfl⟩

end Go.Proofs.Ytkjnddgjnlbopaa.Wire
