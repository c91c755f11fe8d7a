import Derived.Test.YtddjoealckhepaaB
import Derived.StillTailTactics
/-
  What is done is handed to one that counts it: find, count, upTo, and what is done to the map.
-/
namespace Go.Proofs.Ytddjoealckhepaa.Disk
open Go Go.RowKit Go.Maps

def fndE (d : Dk) (n : Nm) : Nat := if d.gone then 45 else if (get d.l n).isSome then 0 else 5
def fndF (d : Dk) (n : Nm) : F := if d.gone then f0 else (get d.l n).getD f0

theorem below2 (w : World) (o o' : Obj) : Below w.heap.size w ((w.alloc o).alloc o') := ((Below.refl w.heap.size w).alloc (Nat.le_refl _) o).alloc (by simp) o'
theorem eqn_nil {P : Program} (w : World) (d : Nat) (t k e : TypeId) (p : Option Nat) (h : P.underlying t = some (.map k e)) : (Op.equalIn (d + 1) t (.map p) (.map none)).run P w = .ok p.isNone w := by
  cases p <;> simp [Op.equalIn, run_underlying h]
theorem eq_nil {P : Program} (w : World) (t k e : TypeId) (p : Option Nat) (h : P.underlying t = some (.map k e)) : (binOp .eql t (.map p) (.map none)).run P w = .ok (.bool p.isNone) w := by
  simp only [binOp]
  simp [show Op.equal t (.map p) (.map none) = Op.equalIn (9999 + 1) t (.map p) (.map none) from rfl, eqn_nil w 9999 t k e p h]
theorem map_nil (b : Nat) (w : World) : (binOp .eql 83 (.map (some b)) (.map none)).run Try.prog w = .ok (.bool false) w :=
  eq_nil w _ _ _ (some b) tmap
theorem bx_own (w : World) (cs : Array Value) (t : TypeId) : (w.alloc (.cells cs t (0, 0))).heap[w.heap.size]? = some (.cells cs t (0, 0)) := (MapKept.heap_alloc w _).1

set_option maxRecDepth 100000 in
set_option maxHeartbeats 1000000 in
theorem find_any (a b : Nat) (d : Dk) (n : Nm) (hn : n.length ≤ maxLen) (w : World) (h : DkAt w a b d) :
    Calls Try.prog 45 #[.pointer (some ⟨a, 0, none⟩), .string (S n)] w fun z w' => z = .returned (.tuple #[fV (fndF d n), .int .i64 (fndE d n : Int)]) ∧ Below w.heap.size w w' := by
  have HD := Lib.hid h
  have HB := Lib.hid ((Below.refl w.heap.size w).alloc (Nat.le_refl _) (.cells #[.string ⟨#[]⟩, .int .i64 0] 78))
  have HR := Lib.hid (refusal_any a b d (w.alloc (.cells #[.string ⟨#[]⟩, .int .i64 0] 78)) (HD.out.new _))
  obtain ⟨c0, c1, c2, c3, c4⟩ := (HD.out.new (.cells #[.string ⟨#[]⟩, .int .i64 0] 78)).cell
  have hl := (look_run (HD.out.new (.cells #[.string ⟨#[]⟩, .int .i64 0] 78)).mp n hn).1
  clear h hn
  cases hg : d.gone with
  | true =>
    have HF := Lib.hid (show fndF d n = f0 by simp [fndF, hg])
    have HE := Lib.hid (show fndE d n = 45 by simp [fndE, hg])
    rw [show refus d = 45 by simp [refus, hg]] at HR
    clear hg hl
    go_enter Try.func45, Try.ntmps45
    go_wp2_with (go_at_call 46; refine HR.out.mono ?_; rintro z w' ⟨rfl, rfl⟩)
    refine bodyPost_ret (v := .tuple #[.agg #[.string ⟨#[]⟩, .int .i64 0], .int .i64 45]) (by simp [results, Try.results45, go_sem]) rfl ?_
    exact ⟨by rw [HF.out, HE.out]; rfl, HB.out⟩
  | false =>
    rw [show refus d = 0 by simp [refus, hg]] at HR
    cases hf : get d.l n with
    | none =>
      have HF := Lib.hid (show fndF d n = f0 by simp [fndF, hg, hf])
      have HE := Lib.hid (show fndE d n = 5 by simp [fndE, hg, hf])
      rw [hf] at hl
      replace hl : (Instr.lookup 83 (.map (some b)) (.string (S n)) true).run Try.prog (w.alloc (.cells #[.string ⟨#[]⟩, .int .i64 0] 78)) = .ok (.tuple #[.agg #[.string ⟨#[]⟩, .int .i64 0], .bool false]) (w.alloc (.cells #[.string ⟨#[]⟩, .int .i64 0] 78)) := hl
      clear hg hf
      go_enter Try.func45, Try.ntmps45
      go_wp2_with (go_at_call 46; refine HR.out.mono ?_; rintro z w' ⟨rfl, rfl⟩)
      refine bodyPost_ret (v := .tuple #[.agg #[.string ⟨#[]⟩, .int .i64 0], .int .i64 5]) (by simp [results, Try.results45, go_sem]) rfl ?_
      exact ⟨by rw [HF.out, HE.out]; rfl, below2 _ _ _⟩
    | some f =>
      have HF := Lib.hid (show fndF d n = f by simp [fndF, hg, hf])
      have HE := Lib.hid (show fndE d n = 0 by simp [fndE, hg, hf])
      rw [hf] at hl
      obtain ⟨fb, fg⟩ := f
      replace hl : (Instr.lookup 83 (.map (some b)) (.string (S n)) true).run Try.prog (w.alloc (.cells #[.string ⟨#[]⟩, .int .i64 0] 78)) = .ok (.tuple #[.agg #[.string (S fb), .int .i64 fg], .bool true]) (w.alloc (.cells #[.string ⟨#[]⟩, .int .i64 0] 78)) := hl
      clear hg hf
      go_enter Try.func45, Try.ntmps45
      go_wp2_with (go_at_call 46; refine HR.out.mono ?_; rintro z w' ⟨rfl, rfl⟩)
      refine bodyPost_ret (v := .tuple #[.agg #[.string (S fb), .int .i64 fg], .int .i64 0]) (by simp [results, Try.results45, go_sem]) rfl ?_
      exact ⟨by rw [HF.out, HE.out]; rfl, below2 _ _ _⟩
/-! ### what turns in a disk -/
theorem DkAt.set {w w' : World} {a b : Nat} {d d' : Dk} (h : DkAt w a b d) (hb : w'.heap[a]? = some (.cells (dkV d' b) 87 (0, 0))) (hm : w'.heap[b]? = w.heap[b]?) (hl : d'.l = d.l) (hok : d'.ok) : DkAt w' a b d' :=
  ⟨hb, by rw [hl]; exact owns_block h.mp hm, hok⟩
theorem DkAt.put {w w' : World} {a b m : Nat} {d : Dk} (h : DkAt w a b d) (n : Nm) (f : F) (hown : w'.ownsMap Try.prog 9 fileR b m ((toD fD d.l).put (.string n) (fD f))) (ht : w.mapTurned w' b) (hok : ({ d with l := put n f d.l } : Dk).ok) : DkAt w' a b { d with l := put n f d.l } := by
  refine ⟨(ht.grown.block a h.lt.1 (fun e => h.ne (by injection e))).trans h.blk, ?_, hok⟩
  rw [toD_put] at hown
  have := owns_size hown
  rwa [toD_size] at this
theorem DkAt.del {w w' : World} {a b m : Nat} {d : Dk} (h : DkAt w a b d) (n : Nm) (hown : w'.ownsMap Try.prog 9 fileR b m ((toD fD d.l).del (.string n))) (ht : w.mapTurned w' b) (hok : ({ d with l := del n d.l } : Dk).ok) : DkAt w' a b { d with l := del n d.l } := by
  refine ⟨(ht.grown.block a h.lt.1 (fun e => h.ne (by injection e))).trans h.blk, ?_, hok⟩
  rw [toD_del] at hown
  have := owns_size hown
  rwa [toD_size] at this
/-- a variable's own block -/
def Bx (w : World) (k : Nat) (cs : Array Value) : Prop := ∃ t, w.heap[k]? = some (.cells cs t (0, 0))
theorem Bx.tn {w w' : World} {k a b : Nat} {d : Dk} {cs : Array Value} (h : Bx w k cs) (hd : DkAt w a b d) (hk : k ≠ a) (ht : Tn a b w w') : Bx w' k cs := by
  obtain ⟨t, h⟩ := h
  refine ⟨t, (ht.block k (row_lt h) hk ?_).trans h⟩
  obtain ⟨es, clock, h1, _⟩ := hd.mp
  intro e; subst e
  rw [h] at h1; cases h1
theorem Bx.cell {w : World} {k : Nat} {cs : Array Value} (h : Bx w k cs) (i : Nat) : w.cell? ⟨k, i, none⟩ = cs[i]? := by
  obtain ⟨t, h⟩ := h
  exact cell_row h i
theorem Bx.below {w w' : World} {k : Nat} {cs : Array Value} (h : Bx w k cs) (hb : Below w.heap.size w w') : Bx w' k cs := by
  obtain ⟨t, h⟩ := h
  exact ⟨t, (hb.block k (row_lt h)).trans h⟩
theorem Bx.dn {w : World} {k : Nat} {cs : Array Value} (h : Bx w k cs) (n : Nat) : Bx (w.drewN n) k cs := h
theorem Bx.new {w : World} {k : Nat} {cs : Array Value} (h : Bx w k cs) (o : Obj) : Bx (w.alloc o) k cs := h.below ((Below.refl _ _).alloc (Nat.le_refl _) _)
theorem bx_new (w : World) (cs : Array Value) (t : TypeId) : Bx (w.alloc (.cells cs t (0, 0))) w.heap.size cs := ⟨t, (MapKept.heap_alloc w _).1⟩

def DoneBy (a b : Nat) (d : Dk) (l : List (Nm × F)) (W : World) (z : Ending) (w' : World) : Prop :=
  z = .returned (.tuple #[]) ∧ DkAt w' a b { d with l := l } ∧ Tn a b W w'

set_option maxRecDepth 100000 in
set_option maxHeartbeats 1000000 in
theorem create1_any (a b k0 k1 : Nat) (d : Dk) (n : Nm) (hn : n.length ≤ maxLen) (W : World) (h : DkAt W a b d) (h0 : Bx W k0 #[.pointer (some ⟨a, 0, none⟩)]) (h1 : Bx W k1 #[.string (S n)]) (hok : ({ d with l := put n f0 d.l } : Dk).ok) :
    Calls Try.prog 49 #[.pointer (some ⟨k0, 0, none⟩), .pointer (some ⟨k1, 0, none⟩)] W (DoneBy a b d (put n f0 d.l) W) := by
  have hmx : Try.prog.follows .mixedOrders = true := by kernel_rfl
  have hnil := map_nil b W
  have e0 := h0.cell 0
  have e1 := h1.cell 0
  obtain ⟨c0, c1, c2, c3, c4⟩ := h.cell
  have HD := Lib.hid h
  have HK := Lib.hid (tkey n hn)
  have HO := Lib.hid hok
  clear h hn hok
  simp only [List.getElem?_toArray, List.getElem?_cons_zero] at e0 e1
  go_enter Try.func49, Try.ntmps49
  go_wp2_with fail
  go_still_tail 6, (by kernel_rfl)
  change wpList _ _ _ _ _ (W.drewN 1)
  generalize hW : W.drewN 1 = W1
  have HT := Lib.hid (show Tn a b W W1 by rw [← hW]; exact (Tn.refl a b W).dn 1)
  have HD1 := Lib.hid (show DkAt W1 a b d by rw [← hW]; exact HD.out.dn 1)
  clear hW c0 c1 c2 c3 c4 e0 e1 h0 h1 hnil
  go_wp2_with (at_mapUpdate; refine wpList_mapUpdate_in _ rfl _ _ _ 83 rfl 9 78 tkeyed tmap fileR b _ (toD fD d.l) rfl HD1.out.mp (by have := HD1.out.ok.len; unfold maxLen; omega) _ _ (.string n) rfl rfl HK.out (fD f0) [] (fileR_mk f0_ok) ?_; intro w1 hown hturn)
  go_end0
  exact ⟨rfl, HD1.out.put n f0 hown hturn HO.out, HT.out.trans (Tn.map hturn)⟩
end Go.Proofs.Ytddjoealckhepaa.Disk
