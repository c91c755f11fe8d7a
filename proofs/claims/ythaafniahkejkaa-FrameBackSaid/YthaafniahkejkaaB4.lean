/-
  The Writer's calls.
-/
import Derived.Test.YthaafniahkejkaaB3
namespace Go.Proofs.Ythaafniahkejkaa.Wire
open Go.RowKit

/-! ### what a Writer has, and what stays beside it -/
/-- below B all is as it was; of what there was nothing has changed but Writers, their buffers, and rows of bytes -/
structure Only (B : Nat) (w w' : World) : Prop where
  below : Below B w w'
  same : ∀ (k : Nat) (cs : Array Value) (t : TypeId) (fr : Nat × Nat), w.heap[k]? = some (.cells cs t fr) → t ≠ 67 → t ≠ 89 → t ≠ 5 → w'.heap[k]? = some (.cells cs t fr)
theorem Only.refl (B : Nat) (w : World) : Only B w w := ⟨Below.refl _ _, fun _ _ _ _ h _ _ _ => h⟩
theorem Only.trans {B : Nat} {a b c : World} (h : Only B a b) (k : Only B b c) : Only B a c :=
  ⟨h.below.trans k.below, fun i cs t fr hi h1 h2 h3 => k.same i cs t fr (h.same i cs t fr hi h1 h2 h3) h1 h2 h3⟩
theorem Only.of_below {B : Nat} {w w' : World} (h : Below w.heap.size w w') (hB : B ≤ w.heap.size) : Only B w w' :=
  ⟨h.mono hB, fun k cs t fr hk _ _ _ => (h.block k (row_lt hk)).trans hk⟩
theorem Only.alloc {B : Nat} {a w : World} (h : Only B a w) (hB : B ≤ w.heap.size) (o : Obj) : Only B a (w.alloc o) :=
  h.trans (Only.of_below ((Below.refl _ _).alloc (Nat.le_refl _) _) hB)
theorem Only.drewN {B : Nat} {a w : World} (h : Only B a w) (n : Nat) : Only B a (w.drewN n) := ⟨⟨h.below.os, h.below.tape, h.below.output, h.below.size, h.below.block⟩, h.same⟩

/-- the Writer at p has l; what it has lies from B on -/
def Wr (B : Nat) (w : World) (p : Nat) (l : List UInt8) : Prop :=
  B ≤ p ∧ ((w.heap[p]? = some (.cells #[.pointer none, .int .i64 0] 67 (0, 0)) ∧ l = []) ∨
    ∃ q g cap, B ≤ q ∧ B ≤ g ∧ w.heap[p]? = some (.cells (wrS q l.length) 67 (0, 0)) ∧ w.heap[q]? = some (.cells (bfS g l.length cap) 89 (0, 0)) ∧ BRow w g cap l)
theorem Wr.lt {B : Nat} {w : World} {p : Nat} {l : List UInt8} (h : Wr B w p l) : p < w.heap.size := by
  rcases h.2 with ⟨h, _⟩ | ⟨q, g, cap, _, _, h, _⟩ <;> exact row_lt h
theorem Wr.low {B : Nat} {w : World} {p : Nat} {l : List UInt8} (h : Wr B w p l) : B ≤ w.heap.size := Nat.le_trans h.1 (Nat.le_of_lt h.lt)
theorem Wr.keep {B : Nat} {w w' : World} {p : Nat} {l : List UInt8} (h : Wr B w p l) (hk : ∀ k, k < w.heap.size → w'.heap[k]? = w.heap[k]?) : Wr B w' p l := by
  obtain ⟨hB, h⟩ := h
  refine ⟨hB, ?_⟩
  rcases h with ⟨h, e⟩ | ⟨q, g, cap, h1, h2, h3, h4, h5⟩
  · exact Or.inl ⟨(hk p (row_lt h)).trans h, e⟩
  · exact Or.inr ⟨q, g, cap, h1, h2, (hk p (row_lt h3)).trans h3, (hk q (row_lt h4)).trans h4, h5.same (hk g h5.lt)⟩
theorem Wr.below {B : Nat} {w w' : World} {p : Nat} {l : List UInt8} (h : Wr B w p l) (hb : Below w.heap.size w w') : Wr B w' p l := h.keep hb.block
theorem Wr.alloc {B : Nat} {w : World} {p : Nat} {l : List UInt8} (h : Wr B w p l) (o : Obj) : Wr B (w.alloc o) p l := h.keep fun k hk => Below.heap_alloc w o k hk
theorem Wr.drewN {B : Nat} {w : World} {p : Nat} {l : List UInt8} (h : Wr B w p l) (n : Nat) : Wr B (w.drewN n) p l := h
theorem Wr.new {B : Nat} {w : World} (hB : B ≤ w.heap.size) : Wr B (w.alloc (.cells #[.pointer none, .int .i64 0] 67)) w.heap.size [] :=
  ⟨hB, Or.inl ⟨heap_alloc_new w _, rfl⟩⟩
/-- other blocks than a Writer's have changed -/
theorem Wr.beside {B : Nat} {w w' : World} {p r : Nat} {l : List UInt8} {cs : Array Value} {t : TypeId} {fr : Nat × Nat} (h : Wr B w p l) (hg : w.grownBy w' (some r)) (hr : w.heap[r]? = some (.cells cs t fr))
    (h1 : t ≠ 67) (h2 : t ≠ 89) (h3 : t ≠ 5) : Wr B w' p l := by
  obtain ⟨hB, h⟩ := h
  refine ⟨hB, ?_⟩
  have ne : ∀ {k : Nat} {cs' : Array Value} {t' : TypeId} {fr' : Nat × Nat}, w.heap[k]? = some (.cells cs' t' fr') → t ≠ t' → w'.heap[k]? = w.heap[k]? := by
    intro k cs' t' fr' hk ht
    refine hg.block k (row_lt hk) ?_
    intro e
    injection e with e
    subst e
    rw [hr] at hk; injection hk with hk; injection hk with _ e; exact ht e
  rcases h with ⟨h, e⟩ | ⟨q, g, cap, k1, k2, k3, k4, k5⟩
  · exact Or.inl ⟨(ne h h1).trans h, e⟩
  · obtain ⟨cur, lo, hi, k6, k7⟩ := k5
    exact Or.inr ⟨q, g, cap, k1, k2, (ne k3 h1).trans k3, (ne k4 h2).trans k4, cur, lo, hi, (ne k6 h3).trans k6, k7⟩

theorem putB_wr {B p q g : Nat} {l m : List UInt8} {w w' : World} {g' cap' : Nat} (h : PutB p q g l m w w' g' cap') (hp : B ≤ p) (hq : B ≤ q) (hg : B ≤ g) (hB : B ≤ w.heap.size) : Wr B w' p (l ++ m) :=
  ⟨hp, Or.inr ⟨q, g', cap', hq, by rcases h.new with e | e <;> omega, h.hp, h.hq, h.row⟩⟩
theorem putB_only {B p q g : Nat} {l m : List UInt8} {w w' : World} {g' cap' : Nat} {cp cq cg : Array Value} {f1 f2 f3 : Nat × Nat} (h : PutB p q g l m w w' g' cap') (hp : B ≤ p) (hq : B ≤ q) (hg : B ≤ g)
    (kp : w.heap[p]? = some (.cells cp 67 f1)) (kq : w.heap[q]? = some (.cells cq 89 f2)) (kg : w.heap[g]? = some (.cells cg 5 f3)) : Only B w w' := by
  refine ⟨⟨h.os, h.tape, h.output, h.size, fun k hk => h.far k (by have := row_lt kp; omega) (by omega) (by omega) (by omega)⟩, fun k cs t fr hk h1 h2 h3 => ?_⟩
  refine (h.far k (row_lt hk) ?_ ?_ ?_).trans hk
  · rintro rfl; rw [kp] at hk; injection hk with hk; injection hk with _ e; exact h1 e.symm
  · rintro rfl; rw [kq] at hk; injection hk with hk; injection hk with _ e; exact h2 e.symm
  · rintro rfl; rw [kg] at hk; injection hk with hk; injection hk with _ e; exact h3 e.symm

/-! ### Bytes, of a Writer without a buffer, and of nobody's -/
set_option maxHeartbeats 400000 in
theorem bytes_nil (w : World) : Calls Try.prog 33 #[.pointer none] w fun e w' => e = .returned (.string ⟨#[]⟩) ∧ w = w' := by
  go_enter Try.func33, Try.ntmps33
  go_wp2
  go_ret
  exact ⟨rfl, rfl⟩
set_option maxHeartbeats 400000 in
theorem bytes_none (p : Nat) (w : World) (hp : w.heap[p]? = some (.cells #[.pointer none, .int .i64 0] 67 (0, 0))) :
    Calls Try.prog 33 #[.pointer (some ⟨p, 0, none⟩)] w fun e w' => e = .returned (.string ⟨#[]⟩) ∧ w = w' := by
  have p0 : w.cell? ⟨p, 0, none⟩ = some (.pointer none) := cell_row hp 0
  go_enter Try.func33, Try.ntmps33
  go_wp2
  go_ret
  exact ⟨rfl, rfl⟩

/-! ### put -/
theorem bytesRow_none (cap : Nat) : (bytesRow ⟨#[]⟩ cap).size = cap := by unfold bytesRow; simp [ByteArray.size]
theorem first_world (w : World) (p cap n : Nat) (R : Array Value) (hR : R.size = cap) (hp : w.heap[p]? = some (.cells #[.pointer none, .int .i64 0] 67 (0, 0))) :
    ∀ W, W = (((w.drewN n).alloc (Obj.cells R 5 (R.size, R.size + 1))).setCell ⟨p, 0, none⟩ (.pointer (some ⟨w.heap.size + 1, 0, none⟩))).alloc (Obj.cells #[Value.slice (some ⟨w.heap.size, 0, none⟩) 0 cap] 89) →
    W.heap[p]? = some (.cells (wrS (w.heap.size + 1) 0) 67 (0, 0)) ∧ W.heap[w.heap.size + 1]? = some (.cells (bfS w.heap.size 0 cap) 89 (0, 0)) ∧ BRow W w.heap.size cap [] ∧
      (∀ k, k < w.heap.size → k ≠ p → W.heap[k]? = w.heap[k]?) ∧ W.os = w.os ∧ W.tape = w.tape ∧ W.output = w.output ∧ W.heap.size = w.heap.size + 2 := by
  rintro W rfl
  have hpl := row_lt hp
  have h1 : ((w.drewN n).alloc (Obj.cells R 5 (R.size, R.size + 1))).heap[p]? = some (.cells #[.pointer none, .int .i64 0] 67 (0, 0)) := (Below.heap_alloc _ _ p hpl).trans hp
  have hs : (((w.drewN n).alloc (Obj.cells R 5 (R.size, R.size + 1))).setCell ⟨p, 0, none⟩ (.pointer (some ⟨w.heap.size + 1, 0, none⟩))).heap.size = w.heap.size + 1 := by simp [World.setCell]
  refine ⟨?_, ?_, ?_, ?_, rfl, rfl, rfl, ?_⟩
  · rw [Below.heap_alloc _ _ p (by rw [hs]; omega), heap_set h1]; rfl
  · have := heap_alloc_new (((w.drewN n).alloc (Obj.cells R 5 (R.size, R.size + 1))).setCell ⟨p, 0, none⟩ (.pointer (some ⟨w.heap.size + 1, 0, none⟩))) (Obj.cells #[Value.slice (some ⟨w.heap.size, 0, none⟩) 0 cap] 89)
    rw [hs] at this; exact this
  · refine ⟨R, R.size, R.size + 1, ?_, hR, Or.inl (by omega), Nat.zero_le _, rfl⟩
    rw [Below.heap_alloc _ _ _ (by rw [hs]; omega), heap_far 0 _ (by omega)]
    exact heap_alloc_new (w.drewN n) _
  · intro k hk hne
    rw [Below.heap_alloc _ _ k (by rw [hs]; omega), heap_far 0 _ hne]
    exact Below.heap_alloc (w.drewN n) _ k hk
  · simp [World.setCell]
theorem Src.keep' {w w' : World} {a : Addr} {l : List UInt8} (h : Src w a l) (hk : l ≠ [] → w'.heap[a.block]? = w.heap[a.block]?) : Src w' a l := by
  intro j u hu
  have hne : l ≠ [] := by rintro rfl; simp [bvs] at hu
  refine (World.cell?_of_block (w := w) ?_).trans (h j u hu)
  have : (a.add j).block = a.block := by unfold Addr.add; split <;> rfl
  rw [this]; exact hk hne

theorem putB_of0 {p q g g' cap cap' : Nat} {m : List UInt8} {w w1 : World} (hp : w.heap[p]? = some (.cells (wrS q 0) 67 (0, 0))) (hq : w.heap[q]? = some (.cells (bfS g 0 cap) 89 (0, 0)))
    (hpq : p ≠ q) (hpg : p ≠ g) (hqg : q ≠ g) (hrow : BRow w1 g' cap' ([] ++ m)) (hgrow : w.drew.grownBy w1 (some g)) (hg' : g' = g ∨ w.drew.heap.size ≤ g') :
    PutB p q g [] m w ((w1.setCell ⟨q, 0, none⟩ (.slice (some ⟨g', 0, none⟩) m.length cap')).setCell ⟨p, 1, none⟩ (.int .i64 (m.length : Int))) g' cap' := by
  have h := putB_of (l := []) (n := 1) hp hq hpq hpg hqg hrow hgrow hg'
  have e : (([] : List UInt8).length : Int) + (m.length : Int) = (m.length : Int) := by simp
  rw [e, List.length_nil, Nat.zero_add] at h
  exact h
set_option maxRecDepth 100000 in
set_option maxHeartbeats 400000 in
theorem put_first (w : World) (B p : Nat) (m : List UInt8) (a : Addr) (c : Nat) (hB : B ≤ p)
    (hp : w.heap[p]? = some (.cells #[.pointer none, .int .i64 0] 67 (0, 0)))
    (ha : m ≠ [] → a.block < w.heap.size ∧ a.block ≠ p) (hsrc : Src w a m) (hs : m.length ≤ 1000000000000) :
    Calls Try.prog 48 #[.pointer (some ⟨p, 0, none⟩), .slice (some a) m.length c] w fun e w' => e = .returned (.tuple #[]) ∧ Wr B w' p m ∧ Only B w w' := by
  have p0 : w.cell? ⟨p, 0, none⟩ = some (.pointer none) := cell_row hp 0
  have fp0 := frozen_row hp 0
  have hpl : p < w.heap.size := row_lt hp
  have H := Lib.hid hp
  go_enter Try.func48, Try.ntmps48
  go_wp2_with fail
  go_quiet (fail)
  go_wp2_with fail
  refine (bytes_none p (w.drewN nq) hp).mono ?_; rintro e w1 ⟨rfl, rfl⟩
  have hconv := run_bytes_of_string (P := Try.prog) (w.drewN nq) 9 52 5 ⟨#[]⟩ Try.underlying9 Try.underlying52 Try.underlying5
  have hsz := bytesRow_none (grownCap (w.drewN nq) (ByteArray.size ⟨#[]⟩) 0 5)
  generalize grownCap (w.drewN nq) (ByteArray.size ⟨#[]⟩) 0 5 = cap at *
  generalize bytesRow ⟨#[]⟩ cap = R at *
  have HSZ := Lib.hid hsz; clear hsz
  have c1 : ∀ o1 o2, (((w.drewN (nq + 1)).alloc o1).alloc o2).cell? ⟨p, 0, none⟩ = some (.pointer none) := fun o1 o2 => by
    rw [World.cell?_alloc_lt _ _ _ (by simp; omega), World.cell?_alloc_lt _ _ _ (by simp; omega)]; exact p0
  have c2 : ∀ o1 o2, (((w.drewN (nq + 1)).alloc o1).alloc o2).frozen? ⟨p, 0, none⟩ = false := fun o1 o2 => by
    rw [World.frozen?_of_block (w := w) ((Below.heap_alloc _ _ p (by simp; omega)).trans (Below.heap_alloc _ _ p (by simp; omega)))]; exact fp0
  go_wp2_with fail
  clear c1 c2 hconv
  have HW := first_world w p cap (nq + 1) R HSZ.out hp _ rfl
  generalize (((w.drewN (nq + 1)).alloc (Obj.cells R 5 (R.size, R.size + 1))).setCell ⟨p, 0, none⟩ (.pointer (some ⟨w.heap.size + 1, 0, none⟩))).alloc (Obj.cells #[Value.slice (some ⟨w.heap.size, 0, none⟩) 0 cap] 89) = W at *
  obtain ⟨kp, kq, krow, kfar, kos, ktape, kout, ksz⟩ := HW
  generalize hg : w.heap.size = g at *
  have hO : Hid (Only B w W) := ⟨⟨kos, ktape, kout, by omega, fun k hk => kfar k (by omega) (by omega)⟩, fun k cs t fr hk h1 h2 h3 => (kfar k (by rw [← hg]; exact row_lt hk) (fun e => by
    subst e; have hp' := H.out; rw [hp'] at hk; injection hk with hk; injection hk with _ e; exact h1 e.symm)).trans hk⟩
  have hsrc3 : Src W a m := hsrc.keep' (fun hm => kfar _ (ha hm).1 (ha hm).2)
  have Hg := Lib.hid hg; clear hg
  have hBg : Hid (B ≤ g) := by show B ≤ g; omega
  clear hp p0 fp0 kfar kos ktape kout hsrc ha
  have p0 : W.cell? ⟨p, 0, none⟩ = some (.pointer (some ⟨g + 1, 0, none⟩)) := cell_row kp 0
  have p1 : W.cell? ⟨p, 1, none⟩ = some (.int .i64 0) := cell_row kp 1
  have q0 : W.cell? ⟨g + 1, 0, none⟩ = some (.slice (some ⟨g, 0, none⟩) 0 cap) := cell_row kq 0
  have fp0 := frozen_row kp 0
  have fp1 := frozen_row kp 1
  have fq0 := frozen_row kq 0
  have hpg : p ≠ g := by omega
  have hpq : p ≠ g + 1 := by omega
  have hqg : g + 1 ≠ g := by omega
  have hpl : p < (W.drew).heap.size := row_lt kp
  have hql : g + 1 < (W.drew).heap.size := row_lt kq
  have hrow' : BRow W.drew g cap [] := krow
  have hsrc' : Src W.drew a m := hsrc3
  go_region_law ((refine step_append_row (by rfl) (.tmp 44) (.tmp 45) (by rfl) g cap [] (by rfl) hrow' a c m (by rfl) hsrc' (by simpa using hs) ?_; intro g' cap' w1 hrow1 hgrow hg'; (have hq0 := grown_frozen hgrow (g + 1) 0 hql hqg); (have hq1 := (grown_cell hgrow (g + 1) 0 hql hqg).trans q0); (have hp0 := (grown_cell hgrow p 0 hpl hpg).trans p0); (have hp1 := (grown_cell hgrow p 1 hpl hpg).trans p1); (have gp0 := (grown_frozen hgrow p 0 hpl hpg).trans fp0); (have gp1 := (grown_frozen hgrow p 1 hpl hpg).trans fp1)))
  all_goals
    have h0 := hq0.trans fq0
    have HP := Lib.hid (putB_of0 kp kq hpq hpg hqg hrow1 hgrow hg')
    have hm : (m.length : Int) ≤ 1000000000000 := by omega
    go_wp2
    go_end0
    have hB1 := hBg.out
    obtain ⟨cur, lo, hi, k1, _⟩ := krow
    exact ⟨rfl, putB_wr (l := []) HP.out hB (by omega) hB1 (by omega), hO.out.trans (putB_only HP.out hB (by omega) hB1 kp kq k1)⟩

/-- put, of a Writer that may have anything -/
theorem put_any (w : World) (B p : Nat) (l m : List UInt8) (a : Addr) (c : Nat) (hw : Wr B w p l)
    (ha : m ≠ [] → a.block < w.heap.size ∧ a.block ≠ p) (hsrc : Src w a m) (hs : l.length + m.length ≤ 1000000000000) :
    Calls Try.prog 48 #[.pointer (some ⟨p, 0, none⟩), .slice (some a) m.length c] w fun e w' => e = .returned (.tuple #[]) ∧ Wr B w' p (l ++ m) ∧ Only B w w' := by
  have hlow := hw.low
  obtain ⟨hB, ⟨hp, rfl⟩ | ⟨q, g, cap, h1, h2, h3, h4, h5⟩⟩ := hw
  · exact put_first w B p m a c hB hp ha hsrc (by simpa using hs)
  · obtain ⟨cur, lo, hi, k1, k2⟩ := h5
    exact (put_more w p q g cap l m a c h3 h4 ⟨cur, lo, hi, k1, k2⟩ hsrc hs).mono fun e w' ⟨he, g', cap', hP⟩ => ⟨he, putB_wr hP hB h1 h2 hlow, putB_only hP hB h1 h2 h3 h4 k1⟩
set_option maxHeartbeats 400000 in
theorem put_nil (x : Value) (w : World) : Calls Try.prog 48 #[.pointer none, x] w fun e w' => e = .returned (.tuple #[]) ∧ w = w' := by
  go_enter Try.func48, Try.ntmps48
  go_wp2
  refine bodyPost_ret (results_none rfl _ _ _) rfl ?_
  exact ⟨rfl, rfl⟩

end Go.Proofs.Ythaafniahkejkaa.Wire
