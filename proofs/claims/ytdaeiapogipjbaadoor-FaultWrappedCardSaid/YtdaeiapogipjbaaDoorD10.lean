/-
  A strings.Builder that a call has made: WriteString, and just what it turns.
-/
import Derived.Test.YtdaeiapogipjbaaDoorD9
import Derived.Test.YtdaeiapogipjbaaDoorCS
namespace Go.Proofs.YtdaeiapogipjbaaDoor.Fault
open Go Go.RowKit

/-- from w to w' nothing below hi turned, but block b -/
structure But (hi b : Nat) (w w' : World) : Prop where
  os : w'.os = w.os
  tape : w'.tape = w.tape
  output : w'.output = w.output
  size : w.heap.size ≤ w'.heap.size
  block : ∀ k, k < hi → k ≠ b → w'.heap[k]? = w.heap[k]?
theorem But.trans {hi b : Nat} {X Y Z : World} (h : But hi b X Y) (k : But hi b Y Z) : But hi b X Z :=
  ⟨k.os.trans h.os, k.tape.trans h.tape, k.output.trans h.output, Nat.le_trans h.size k.size, fun i h1 h2 => (k.block i h1 h2).trans (h.block i h1 h2)⟩
theorem But.of_below {hi b : Nat} {w w' : World} (h : Below w.heap.size w w') (hh : hi ≤ w.heap.size) : But hi b w w' := ⟨h.os, h.tape, h.output, h.size, fun k h1 _ => h.block k (by omega)⟩
theorem But.below {hi b n : Nat} {w w' : World} (h : But hi b w w') (h1 : n ≤ hi) (h2 : n ≤ b) : Below n w w' := ⟨h.os, h.tape, h.output, h.size, fun k hk => h.block k (by omega) (by omega)⟩
theorem But.kp {o B b2 hi b : Nat} {w w' : World} (h : But hi b w w') (h1 : o ≤ b) (h2 : b < B) (h3 : b ≠ b2) : Kp o B b2 hi w w' := ⟨h.size, fun r hr hc => h.block r hr (by omega)⟩
theorem But.set {hi b : Nat} (w : World) (j : Nat) (v : Value) : But hi b w (w.setCell ⟨b, j, none⟩ v) := ⟨rfl, rfl, rfl, by simp [World.setCell], fun k _ hk => Below.heap_setCell _ _ _ k (by show k ≠ b; exact hk)⟩

theorem grownBy_setAt (w : World) (b j : Nat) (v : Value) : w.grownBy (w.setCell ⟨b, j, none⟩ v) (some b) :=
  ⟨rfl, rfl, rfl, by simp [World.setCell], fun k _ hk => Below.heap_setCell _ _ _ _ (fun e => hk (by simp [e]))⟩

/-- block b is a Builder that holds bs; its buffer lies at or beyond hi -/
def Bld (hi b : Nat) (p : Value) (bs : List Value) (w : World) : Prop := ∃ v, w.heap[b]? = some (.cells #[p, v] 133 (0, 0)) ∧ w.ownsRow hi 5 1 v bs.length bs
theorem Bld.lt {hi b : Nat} {p : Value} {bs : List Value} {w : World} (h : Bld hi b p bs w) : b < w.heap.size := by
  obtain ⟨v, hb, _⟩ := h; exact (Array.getElem?_eq_some_iff.1 hb).1
theorem row_ne {hi b : Nat} {e : TypeId} {v : Value} {n : Nat} {xs : List Value} {w : World} (h : w.ownsRow hi e 1 v n xs) (hb : b < hi) : v.ownBlock ≠ some b := by
  rcases h.2 with ⟨rfl, _⟩ | ⟨g, cap, cur, rfl, hg, _⟩
  · simp [Value.ownBlock]
  · intro e
    simp [Value.ownBlock] at e
    omega
theorem sizeBuilder : (Tryd.prog.info? 133).map (·.size) = some 2 := by kernel_rfl
theorem liesBuilder : liesAt Tryd.prog Tryd.prog.depth 133 (2 / Tryd.prog.cellsOf 133) 0 133 1 = true := by kernel_rfl
theorem infoByte : (Tryd.prog.info? 5).map (fun i => (i.zero, i.size, i.bytes)) = some (some (.int .u8 0), 1, 1) := by kernel_rfl

set_option maxHeartbeats 1000000 in
set_option maxRecDepth 100000 in
theorem check_used (b : Nat) (w : World) (h0 : w.cell? ⟨b, 0, none⟩ = some (.pointer (some ⟨b, 0, none⟩))) :
    Calls Tryd.prog 84 #[.pointer (some ⟨b, 0, none⟩)] w fun e w' => e = .returned (.tuple #[]) ∧ w' = w := by
  obtain ⟨j, hj, _⟩ := Option.map_eq_some_iff.1 sizeBuilder
  have hne := Lib.run_neq_ptr_same w ⟨b, 0, none⟩ Tryd.underlying131 hj
  go_enter Tryd.func84, Tryd.ntmps84
  go_wp2
  go_end0
  exact ⟨rfl, rfl⟩
set_option maxHeartbeats 1000000 in
set_option maxRecDepth 100000 in
theorem check_fresh (b : Nat) (w : World) (h0 : w.cell? ⟨b, 0, none⟩ = some (.pointer none)) (hsh : w.shape? b = some (133, 2)) (hfz : w.frozen? ⟨b, 0, none⟩ = false) :
    Calls Tryd.prog 84 #[.pointer (some ⟨b, 0, none⟩)] w fun e w' => e = .returned (.tuple #[]) ∧ w' = w.setCell ⟨b, 0, none⟩ (.pointer (some ⟨b, 0, none⟩)) := by
  obtain ⟨j, hj, hjs⟩ := Option.map_eq_some_iff.1 sizeBuilder
  have hne := Lib.run_neq_ptr_same (w.setCell ⟨b, 0, none⟩ (.pointer (some ⟨b, 0, none⟩))) ⟨b, 0, none⟩ Tryd.underlying131 hj
  have hto := Lib.run_to_unsafe w ⟨b, 0, none⟩ Tryd.underlying131 Tryd.underlying65 hj (by rw [hjs]; decide) hsh (Nat.zero_lt_succ 1)
  have hex : (callFunc 86 #[.pointer (some ⟨b, 0, none⟩)]).run Tryd.prog w = .ok (.value (.pointer (some ⟨b, 0, none⟩))) w := by
    rw [run_callFunc_extern Tryd.func86 (by kernel_rfl) (by kernel_rfl) (by kernel_rfl) (e := Extern.AbiNoEscape.same) (by kernel_rfl), Lib.run_noEscape]; rfl
  have hfrom := Lib.run_from_unsafe w ⟨b, 0, none⟩ Tryd.underlying65 Tryd.underlying131 hj hsh liesBuilder
  go_enter Tryd.func84, Tryd.ntmps84
  go_wp2
  go_end0
  exact ⟨rfl, rfl⟩
/-- what a write asks of a Builder's first cell -/
def Self (b : Nat) (p : Value) : Prop := p = .pointer none ∨ p = .pointer (some ⟨b, 0, none⟩)
theorem check {hi b : Nat} {p : Value} {bs : List Value} {w : World} (h : Bld hi b p bs w) (hp : Self b p) (hb : b < hi) :
    Calls Tryd.prog 84 #[.pointer (some ⟨b, 0, none⟩)] w fun e w' => e = .returned (.tuple #[]) ∧ (Bld hi b (.pointer (some ⟨b, 0, none⟩)) bs w' ∧ But hi b w w') := by
  obtain ⟨v, hbk, hown⟩ := h
  rcases hp with rfl | rfl
  · refine (check_fresh b w (by simp [World.cell?, hbk]) (by simp [World.shape?, hbk]) (by simp [World.frozen?, hbk])).mono ?_
    rintro e w' ⟨rfl, rfl⟩
    refine ⟨rfl, ⟨v, ?_, hown.kept (grownBy_setCell' w b _) (.inr (row_ne hown hb))⟩, But.set w 0 _⟩
    simp [World.setCell, Array.getElem?_modify, hbk]
  · refine (check_used b w (by simp [World.cell?, hbk])).mono ?_
    rintro e w' ⟨rfl, rfl⟩
    exact ⟨rfl, ⟨v, hbk, hown⟩, ⟨rfl, rfl, rfl, Nat.le_refl _, fun _ _ _ => rfl⟩⟩

set_option maxHeartbeats 1000000 in
set_option maxRecDepth 100000 in
/-- **WriteString** -/
theorem writes {hi b : Nat} {p : Value} {bs : List Value} (s : ByteArray) {w : World} (h : Bld hi b p bs w) (hp : Self b p) (hb : b < hi) (hlen : bs.length + s.size ≤ 140737488355328) (hhi : hi ≤ w.heap.size) :
    Calls Tryd.prog 81 #[.pointer (some ⟨b, 0, none⟩), .string s] w fun e w' => e = .returned (.tuple #[.int .i64 s.size, .nilIface]) ∧ (Bld hi b (.pointer (some ⟨b, 0, none⟩)) (bs ++ Lib.strCells s) w' ∧ But hi b w w') := by
  obtain ⟨i0, hi0, hz0, hz1, hz2⟩ := info_parts infoByte
  have HC := Lib.hid (check h hp hb)
  clear h hp
  go_enter Tryd.func81, Tryd.ntmps81
  go_wp2_with (go_at_call 84; refine HC.out.mono ?_)
  rintro e w1 ⟨rfl, h1, hb1⟩
  obtain ⟨v, hbk, hown⟩ := h1
  have c0 : w1.cell? ⟨b, 0, none⟩ = some (.pointer (some ⟨b, 0, none⟩)) := by rw [Lib.cell_of_heap hbk]; rfl
  have c1 : w1.cell? ⟨b, 1, none⟩ = some v := by rw [Lib.cell_of_heap hbk]; rfl
  go_wp2_with (at_builtin; refine Lib.wpList_append_own_string _ rfl _ _ 103 9 rfl hi 5 i0 Tryd.underlying103 Tryd.underlying9 hi0 hz0 hz1 hz2 _ _ _ rfl hown s rfl ?c3 ?c4 ?c5 ?_)
  case c3 => unfold maxLen; omega
  case c4 => omega
  case c5 => have := hb1.size; omega
  intro v' w2 hown' hgrow _
  have hlt : b < w1.heap.size := (Array.getElem?_eq_some_iff.1 hbk).1
  have hne := row_ne hown hb
  have hb2 : w2.heap[b]? = some (.cells #[.pointer (some ⟨b, 0, none⟩), v] 133 (0, 0)) := by
    rw [hgrow.block b hlt (fun e => hne e.symm)]
    exact hbk
  have d0 : w2.cell? ⟨b, 0, none⟩ = some (.pointer (some ⟨b, 0, none⟩)) := by rw [Lib.cell_of_heap hb2]; rfl
  have d1 : w2.cell? ⟨b, 1, none⟩ = some v := by rw [Lib.cell_of_heap hb2]; rfl
  have f1 : w2.frozen? ⟨b, 1, none⟩ = false := Lib.frozen_of_heap hb2 1
  obtain ⟨ao, n', cap, rfl⟩ : ∃ ao n' cap, v' = .slice ao n' cap := by
    rcases hown'.2 with ⟨hv, _⟩ | ⟨g, cap, cur, hv, _⟩
    · exact ⟨_, _, _, hv⟩
    · exact ⟨_, _, _, hv⟩
  go_wp2
  go_ret2
  refine ⟨rfl, ⟨.slice ao n' cap, ?_, ?_⟩, hb1.trans (But.trans (Y := w2) ⟨hgrow.os, hgrow.tape, hgrow.output, hgrow.size, fun k h1 h2 => hgrow.block k (by have := hb1.size; omega) (fun e => by have := (hown.lt k e.symm).1; omega)⟩ (But.set w2 1 _))⟩
  · simp [World.setCell, Array.getElem?_modify, hb2]
  · have := hown'.kept (grownBy_setAt w2 b 1 (.slice ao n' cap)) (.inr (row_ne hown' hb))
    simpa [Lib.strCells_length] using this

end Go.Proofs.YtdaeiapogipjbaaDoor.Fault
