/-
  The walk of Forge.
-/
import Derived.Test.YtmmggkjfhiflaaaW9
import Derived.Test.YtmmggkjfhiflaaaLBack
import Derived.Lib.ConvBytes
import Derived.Lib.SliceRun
import Derived.Deep.RegionHeld3
import Derived.Deep.RegionWith
import Derived.Deep.MidRow
import Derived.BigQuiet
import Derived.Deep.QuietTactic
namespace Go.Proofs.Ytmmggkjfhiflaaa.Crc
open Go.RowKit

/-- bytes in a block of their own, that may be written -/
def Buf (w : World) (g : Nat) (l : List UInt8) : Prop := g < w.heap.size ∧ ∀ i (h : i < l.length), w.cell? ⟨g, i, none⟩ = some (.int .u8 (l[i].toNat : Int)) ∧ w.frozen? ⟨g, i, none⟩ = false
theorem Buf.below {w w' : World} {g : Nat} {l : List UInt8} (h : Buf w g l) (hb : Below w.heap.size w w') : Buf w' g l :=
  ⟨Nat.lt_of_lt_of_le h.1 hb.size, fun i hi => ⟨by rw [hb.cell (p := ⟨g, i, none⟩) h.1]; exact (h.2 i hi).1, by rw [hb.frozen (p := ⟨g, i, none⟩) h.1]; exact (h.2 i hi).2⟩⟩
theorem Buf.row {w : World} {g : Nat} {l : List UInt8} (h : Buf w g l) : Row8 w g 0 l := ⟨h.1, fun i hi => by rw [Nat.zero_add]; exact (h.2 i hi).1⟩
theorem Buf.take {w : World} {g : Nat} {l : List UInt8} (h : Buf w g l) (n : Nat) : Row8 w g 0 (l.take n) :=
  ⟨h.1, fun i hi => by
    have hi2 : i < l.length := by rw [List.length_take] at hi; omega
    rw [Nat.zero_add, List.getElem_take]; exact (h.2 i hi2).1⟩
theorem Buf.drop {w : World} {g : Nat} {l : List UInt8} (h : Buf w g l) (n : Nat) : Row8 w g n (l.drop n) :=
  ⟨h.1, fun i hi => by
    have hi2 : n + i < l.length := by rw [List.length_drop] at hi; omega
    rw [List.getElem_drop]; exact (h.2 (n + i) hi2).1⟩
/-- m laid over l from n on -/
def over_ (l : List UInt8) (n : Nat) (m : List UInt8) : List UInt8 := l.take n ++ m ++ l.drop (n + m.length)
theorem over_length (l : List UInt8) (n : Nat) (m : List UInt8) (h : n + m.length ≤ l.length) : (over_ l n m).length = l.length := by
  unfold over_; simp; omega
def vals (m : List UInt8) : List Value := m.map fun b : UInt8 => Value.int .u8 (b.toNat : Int)
theorem Buf.store {w : World} {g : Nat} {l : List UInt8} (h : Buf w g l) (n : Nat) (b : UInt8) (hn : n < l.length) : Buf (w.setCell ⟨g, n, none⟩ (.int .u8 (b.toNat : Int))) g (l.set n b) := by
  refine ⟨by rw [World.setCell]; simp; exact h.1, fun i hi => ?_⟩
  rw [List.length_set] at hi
  have hf : ∀ x, (w.setCell ⟨g, n, none⟩ (.int .u8 (b.toNat : Int))).frozen? x = w.frozen? x := fun x => World.frozen?_setCell _ _ _ _
  refine ⟨?_, by rw [hf]; exact (h.2 i hi).2⟩
  rw [List.getElem_set]
  by_cases e : n = i
  · subst e
    rw [if_pos rfl]
    exact World.cell?_setCell_same w _ _ ((h.2 n hn).1)
  · rw [if_neg e]
    rw [World.cell?_setCell_other w _ _ _ (by intro hc; exact e (congrArg Addr.off hc))]
    exact (h.2 i hi).1

theorem over_cons (l : List UInt8) (n : Nat) (b : UInt8) (m : List UInt8) (h : n + (m.length + 1) ≤ l.length) : over_ (l.set n b) (n + 1) m = over_ l n (b :: m) := by
  unfold over_
  have e1 : (l.set n b).take (n + 1) = l.take n ++ [b] := by
    rw [List.take_succ_eq_append_getElem (by rw [List.length_set]; omega), List.getElem_set_self]
    congr 1
    rw [List.take_set]
    exact List.set_eq_of_length_le (by rw [List.length_take]; omega)
  have e2 : (l.set n b).drop (n + 1 + m.length) = l.drop (n + (m.length + 1)) := by
    rw [List.drop_set_of_lt (by omega)]; congr 1; omega
  rw [e1, e2]; simp
theorem Buf.stores {g : Nat} : ∀ (m : List UInt8) {w : World} {l : List UInt8} (n : Nat), Buf w g l → n + m.length ≤ l.length → Buf (w.setCells g n (vals m)) g (over_ l n m)
  | [], w, l, n, h, hn => by
    have e : over_ l n [] = l := by unfold over_; simp
    rw [e]; exact h
  | b :: m, w, l, n, h, hn => by
    have hn2 : n + (m.length + 1) ≤ l.length := hn
    rw [← over_cons l n b m hn2]
    exact Buf.stores m (n + 1) (h.store n b (by omega)) (by rw [List.length_set]; omega)
theorem below_setCells {B g : Nat} {a : World} : ∀ (vs : List Value) (n : Nat) {w : World}, Below B a w → B ≤ g → Below B a (w.setCells g n vs)
  | [], _, _, h, _ => h
  | v :: r, n, _, h, hg => below_setCells r (n + 1) (h.setCell (p := ⟨g, n, none⟩) hg v) hg
theorem over_take (l : List UInt8) (n : Nat) (m : List UInt8) (h : n + m.length ≤ l.length) : (over_ l n m).take n = l.take n := by
  unfold over_
  rw [List.append_assoc, List.take_append_of_le_length (by rw [List.length_take]; omega), List.take_take, Nat.min_self]
theorem over_drop (l : List UInt8) (n : Nat) (m : List UInt8) (h : n + m.length ≤ l.length) : (over_ l n m).drop n = m ++ l.drop (n + m.length) := by
  unfold over_
  rw [List.append_assoc, List.drop_left' (by rw [List.length_take]; omega)]
theorem over_over (l : List UInt8) (n : Nat) (m k : List UInt8) (h : n + m.length ≤ l.length) (hk : k.length = m.length) : over_ (over_ l n m) n k = over_ l n k := by
  show (over_ l n m).take n ++ k ++ (over_ l n m).drop (n + k.length) = _
  rw [over_take l n m h, ← List.drop_drop, over_drop l n m h, List.drop_left' hk.symm, ← hk]; rfl
def none4 : List UInt8 := [0, 0, 0, 0]
def wordOf (l : List UInt8) (n : Nat) (c : W) : W := ofW (l.take n) ^^^ backW c (none4 ++ l.drop (n + 4))
def forgeL (l : List UInt8) (n : Nat) (c : W) : List UInt8 := over_ l n (fourL (wordOf l n c))
/-- '[]byte(s)' -/
theorem conv_string (w : World) (s : ByteArray) : ∃ (W : World) (cap : Nat), (convert 9 42 (.string s)).run Try.prog w = .ok (.slice (some ⟨w.heap.size, 0, none⟩) s.size cap) W ∧ Buf W w.heap.size s.data.toList ∧ Below w.heap.size w W ∧ s.size ≤ cap ∧ W.heap.size = w.heap.size + 1 := by
  have h := Lib.run_convert_string_bytes (P := Try.prog) w 9 42 5 s Try.underlying9 Try.underlying42 Try.underlying5
  refine ⟨_, _, h, ⟨by rw [Lib.bytesWorld_size]; omega, fun i hi => ?_⟩, ?_, ?_, Lib.bytesWorld_size _ _ _⟩
  · have hi2 : i < s.size := by simpa using hi
    refine ⟨?_, ?_⟩
    · rw [Lib.bytesWorld_cell w _ s i hi2, List.getD_eq_getElem?_getD, List.getElem?_eq_getElem hi]; rfl
    · have hsz : s.size ≤ (Lib.bytesCells w 5 s).size := by
        unfold Lib.bytesCells; rw [Array.size_append, Array.size_map]; exact Nat.le_add_right _ _
      simp only [World.frozen?, Lib.bytesWorld_at_new]
      have : ¬ (Lib.bytesCells w 5 s).size ≤ i := by omega
      simp [this]
  · exact ⟨rfl, rfl, rfl, by rw [Lib.bytesWorld_size]; omega, fun k hk => Lib.bytesWorld_at_old _ _ _ _ hk⟩
  · exact grownCap_ge _ _ _ _

set_option maxHeartbeats 400000 in
theorem forge_short (s : ByteArray) (n : Int) (x : Int) (hn : n < 0 ∨ (s.size : Int) - 4 < n) (w : World) (hs : s.size ≤ 281474976700000) :
    Calls Try.prog 16 #[.string s, .int .i64 n, .int .u32 x] w fun e w' => e = .returned (.tuple #[.string ⟨#[]⟩, .int .i64 8]) ∧ Below w.heap.size w w' := by
  by_cases h0 : n < 0
  · go_enter Try.func16, Try.ntmps16
    go_wp2_with fail
    go_ret2
    exact ⟨rfl, Below.refl _ _⟩
  · have h1 : (s.size : Int) - 4 < n := by omega
    clear hn
    go_enter Try.func16, Try.ntmps16
    go_wp2_with fail
    go_ret2
    exact ⟨rfl, Below.refl _ _⟩

theorem zero5 (w : World) : (zeroValue 5).run Try.prog w = .ok (.int .u8 0) w := by kernel_rfl
theorem clear4 (w : World) (g n cap : Nat) (l : List UInt8) (h : Buf w g l) (hn : n + 4 ≤ l.length) : ∃ W : World, (Builtin.clear_ #[42] 0 #[.slice (some ⟨g, n, none⟩) 4 cap]).run Try.prog w = .ok (.tuple #[]) W ∧ Buf W g (over_ l n none4) ∧ (∀ w0 : World, w0.heap.size ≤ g → Below w0.heap.size w0 w → Below w0.heap.size w0 W) ∧ (∀ b o, b ≠ g → W.cell? ⟨b, o, none⟩ = w.cell? ⟨b, o, none⟩) := by
  have hr := Lib.run_clear_slice (P := Try.prog) w 42 5 0 (.int .u8 0) Try.underlying42 zero5 rfl rfl g n 4 cap (by omega)
    (fun j hj => by rw [(h.2 (n + j) (by omega)).1]; rfl) (fun j hj => (h.2 (n + j) (by omega)).2)
  refine ⟨_, hr, h.stores none4 n hn, fun w0 hg hb => below_setCells _ _ hb hg, fun b o hb => ?_⟩
  exact World.cell?_setCells_out _ _ _ _ _ (fun e => absurd e hb)

/-- what stands all through the region: the table, the bytes, and what lies below -/
structure St (g : Nat) (L : List UInt8) (w w' : World) : Prop where
  tab : w'.rangeAt g 0 (cellsW tabs).toList
  buf : Buf w' (g + 1) L
  bel : Below w.heap.size w w'
theorem St.both {g : Nat} {L : List UInt8} {w w' : World} (h : St g L w w') : w'.rangeAt g 0 (cellsW tabs).toList ∧ St g L w w' := ⟨h.tab, h⟩
theorem St.drew {g : Nat} {L : List UInt8} {w w' : World} (h : St g L w w') : St g L w w'.drew := ⟨h.tab, h.buf, h.bel.drew⟩
theorem St.below {g : Nat} {L : List UInt8} {w w' w2 : World} (h : St g L w w') (hb : Below w'.heap.size w' w2) : St g L w w2 :=
  ⟨fun j v hv => by rw [hb.cell (p := ⟨g, 0 + j, none⟩) (Nat.lt_of_succ_lt h.buf.1)]; exact h.tab j v hv, h.buf.below hb, h.bel.trans (hb.mono h.bel.size)⟩
theorem St.alloc {g : Nat} {L : List UInt8} {w w' : World} (h : St g L w w') (o : Obj) : St g L w (w'.alloc o) := h.below ((Below.refl _ _).alloc (Nat.le_refl _) _)
/-- the new block of four bytes -/
def Blk (w : World) (b : Nat) : Prop := w.heap[b]? = some (.cells #[.int .u8 0, .int .u8 0, .int .u8 0, .int .u8 0] 49 (0, 0))
theorem Blk.lt {w : World} {b : Nat} (h : Blk w b) : b < w.heap.size := by
  rcases Nat.lt_or_ge b w.heap.size with g | g
  · exact g
  · unfold Blk at h; rw [Array.getElem?_eq_none g] at h; cases h
theorem Blk.below {w w2 : World} {b : Nat} (h : Blk w b) (hb : Below w.heap.size w w2) : Blk w2 b := by
  unfold Blk; rw [hb.block b h.lt]; exact h
theorem St.setRow {g : Nat} {L : List UInt8} {w w' : World} (h : St g L w w') (b : Nat) (cs : Array Value) (hb : g + 1 < b) (hw : w.heap.size ≤ b) : St g L w (w'.setRow b cs) := by
  have hh : ∀ k, k ≠ b → (w'.setRow b cs).heap[k]? = w'.heap[k]? := fun k hk => setRow_other w' b k cs hk
  have hc : ∀ k o, k ≠ b → (w'.setRow b cs).cell? ⟨k, o, none⟩ = w'.cell? ⟨k, o, none⟩ := fun k o hk => World.cell?_of_block (w := w') (hh k hk)
  have hf : ∀ k o, k ≠ b → (w'.setRow b cs).frozen? ⟨k, o, none⟩ = w'.frozen? ⟨k, o, none⟩ := fun k o hk => World.frozen?_of_block (w := w') (hh k hk)
  refine ⟨fun j v hv => ?_, ⟨?_, fun i hi => ⟨?_, ?_⟩⟩, ?_⟩
  · rw [hc _ _ (by omega)]; exact h.tab j v hv
  · rw [setRow_size]; exact h.buf.1
  · rw [hc _ _ (by omega)]; exact (h.buf.2 i hi).1
  · rw [hf _ _ (by omega)]; exact (h.buf.2 i hi).2
  · exact h.bel.trans ⟨rfl, rfl, rfl, by rw [setRow_size]; exact Nat.le_refl _, fun k hk => hh k (by omega)⟩
theorem copy4 (w : World) (g n d cap b : Nat) (l m : List UInt8) (h : Buf w g l) (hm : m.length = 4) (hn : n + 4 ≤ l.length) (hd : 4 ≤ d) (hb : w.heap[b]? = some (.cells (cellsB m) 49 (0, 0))) (ty : TypeId) :
    (Builtin.copy_ #[42, 42] ty #[.slice (some ⟨g, n, none⟩) d cap, .slice (some ⟨b, 0, none⟩) 4 4]).run Try.prog w = .ok (goInt 4) (w.setCells g n (vals m)) := by
  have hv : (vals m).length = 4 := by unfold vals; rw [List.length_map]; exact hm
  have hl := run_loadCells_list (P := Try.prog) w ⟨b, 0, none⟩ (vals m) (fun j v hj => by
    have hj2 : j < m.length := by
      have := (List.getElem?_eq_some_iff.1 hj).1
      rw [hv] at this; omega
    have hadd : (⟨b, 0, none⟩ : Addr).add j = ⟨b, j, none⟩ := by unfold Addr.add; split <;> simp_all
    rw [hadd, cell_of_row _ _ _ _ _ _ hb, cellsB_get m j hj2]
    unfold vals at hj
    rw [List.getElem?_map, List.getElem?_eq_getElem hj2] at hj
    exact hj)
  have hst := run_storeCells_cells (P := Try.prog) g n (vals m) 0 w (fun j hj => by rw [Nat.add_zero, (h.2 (n + j) (by rw [hv] at hj; omega)).1]; rfl) (fun j hj => by rw [Nat.add_zero]; exact (h.2 (n + j) (by rw [hv] at hj; omega)).2)
    (fun v hv' => by unfold vals at hv'; obtain ⟨x, _, rfl⟩ := List.mem_map.1 hv'; rfl)
  rw [Nat.add_zero] at hst
  rw [hv] at hl
  obtain ⟨i0, hi, hz0, hz1, hz2⟩ := info_parts info5
  have hmin : Nat.min 4 d = 4 := Nat.min_eq_left hd
  simp [Builtin.copy_, run_underlying Try.underlying42, Builtin.lenOf, Builtin.firstCells, sizeOf, typeInfo, hi, hz1, hmin, hl, hst]
def lowB (c : W) (i : Nat) : Int := (((fourL c).getD i 0).toNat : Int)
theorem low_lit (c : W) (w : World) :
    Calls Try.prog 32 #[.int .u32 (V c)] w fun e w' => e = .returned (.agg #[.int .u8 (lowB c 0), .int .u8 (lowB c 1), .int .u8 (lowB c 2), .int .u8 (lowB c 3)]) ∧ Below w.heap.size w w' := low_any c w

/-- the table stands in block g -/
def TabAt (w : World) (g : Nat) : Prop := w.rangeAt g 0 (cellsW tabs).toList
theorem TabAt_drew (w : World) (g : Nat) : TabAt w.drew g = TabAt w g := rfl
theorem TabAt_alloc (w : World) (g : Nat) (o : Obj) (h : TabAt w g) : TabAt (w.alloc o) g = True := eq_true (World.rangeAt_alloc h o)
theorem load_tab (w : World) (g : Nat) (h : TabAt w g) : (Instr.loadAt 24 (.pointer (some ⟨g, 0, none⟩))).run Try.prog w = .ok (.agg (cellsW tabs)) w := by
  have := run_loadAt_mid (P := Try.prog) w g 0 24 (cellsW tabs).toList _ h Try.underlying24 rfl (by rw [Array.length_toList]; exact info24')
  simpa using this
theorem fwd {g : Nat} {L : List UInt8} {w w' : World} (h : St g L w w') (n cap : Nat) (hn : n ≤ L.length) (hm : L.length ≤ maxLen) :
    Calls Try.prog 34 #[.agg (cellsW tabs), .int .u32 0, .slice (some ⟨g + 1, 0, none⟩) n cap] w' fun e w2 => e = .returned (.int .u32 (V (ofW (L.take n)))) ∧ Below w'.heap.size w' w2 := by
  have e : (L.take n).length = n := by rw [List.length_take]; omega
  have := forwardB_any 0 (L.take n) (g + 1) 0 cap 0 rfl w' (by rw [e]; omega) (h.buf.take n)
  rw [e] at this; exact this
theorem bwd {g : Nat} {L : List UInt8} {w w' : World} (h : St g L w w') (c : W) (n k cap : Nat) (hn : n + k = L.length) (hm : L.length ≤ maxLen) :
    Calls Try.prog 35 #[.agg (cellsW tabs), .int .u32 (V c), .slice (some ⟨g + 1, n, none⟩) k cap] w' fun e w2 => e = .returned (.int .u32 (V (backW c (L.drop n)))) ∧ Below w'.heap.size w' w2 := by
  have e : (L.drop n).length = k := by rw [List.length_drop]; omega
  have := backwardB_any c (L.drop n) (g + 1) n cap (V c) rfl w' (by rw [e]; omega) (h.buf.drop n)
  rw [e] at this; exact this

set_option maxRecDepth 100000 in
set_option maxHeartbeats 1000000 in
theorem forge_long (s : ByteArray) (n : Nat) (c : W) (hn : n + 4 ≤ s.size) (w : World) (hs : s.size ≤ 281474976700000) :
    Calls Try.prog 16 #[.string s, .int .i64 (n : Int), .int .u32 (V c)] w fun e w' => e = .returned (.tuple #[.string (S (forgeL s.data.toList n c)), .int .i64 0]) ∧ Below w.heap.size w w' := by
  have hz := zero24
  have hn1 : (n : Int) + 4 ≤ (s.size : Int) := by omega
  go_enter Try.func16, Try.ntmps16
  go_wp2_with fail
  refine (table_any _).mono ?_; rintro e w1 ⟨rfl, hb1⟩
  obtain ⟨W, cap, hrun, hbuf, hbelW, hcap, hWs⟩ := conv_string (w1.alloc (.cells (cellsW tabs) 24)) s
  have e1 : (w1.alloc (.cells (cellsW tabs) 24)).heap.size = w1.heap.size + 1 := by simp
  rw [e1] at hrun hbuf hbelW hWs
  have hlen : s.data.toList.length = s.size := by simp
  obtain ⟨W5, hcl, hbuf5, hbel5, hcell5⟩ := clear4 W (w1.heap.size + 1) n (cap - n) s.data.toList hbuf (by omega)
  have htab5 : W5.rangeAt w1.heap.size 0 (cellsW tabs).toList := by
    intro j v hv
    rw [hcell5 _ _ (by omega), hbelW.cell (p := ⟨w1.heap.size, 0 + j, none⟩) (Nat.lt_succ_self _), cell_of_row _ _ _ _ _ _ (heap_alloc_new w1 _), Nat.zero_add]
    simpa using hv
  have hbel : Below w.heap.size w W5 := hbel5 w (by have := hb1.size; omega) ((hb1.alloc hb1.size _).trans (hbelW.mono (by have := hb1.size; omega)))
  clear hbuf hbelW hbel5 hcell5 hWs
  go_wp2_with (refine wpList_store_row rfl 24 _ _ rfl _ (cellsW tabs) rfl rfl 24 (cellsW zeros) (heap_alloc_new _ _) info24' (by rw [cellsW_size, cellsW_size, tabs_length]; exact List.length_replicate) (cellsW_one _) ?_; rw [setRow_alloc])
  clear hrun hcl
  generalize hG8 : w1.heap.size = g at *
  have hL1 : (over_ s.data.toList n none4).length = s.size := by rw [over_length _ _ _ (by show n + 4 ≤ _; omega)]; exact hlen
  have hT := over_take s.data.toList n none4 (by show n + 4 ≤ _; omega)
  have hD := over_drop s.data.toList n none4 (by show n + 4 ≤ _; omega)
  have hO := over_over s.data.toList n none4 (fourL (wordOf s.data.toList n c)) (by show n + 4 ≤ _; omega) rfl
  have HT := Lib.hid hT; have HD := Lib.hid hD; have HO := Lib.hid hO; have HL := Lib.hid hL1; have HLen := Lib.hid hlen; clear hT hD hO hL1 hlen
  generalize over_ s.data.toList n none4 = L at *
  have hu := Try.underlying24
  have hi : (Try.prog.info? 24).map (·.size) = some (cellsW tabs).toList.length := by rw [Array.length_toList]; exact info24'
  have hl256 : (cellsW tabs).toList.length = 256 := by rw [Array.length_toList, cellsW_size, tabs_length]
  have h1c : ∀ v ∈ (cellsW tabs).toList, v.oneCell' = true := by
    intro v hv
    have := cellsW_one tabs
    rw [Array.all_eq_true_iff_forall_mem] at this
    exact this v (by simpa using hv)
  have hn0 : (0 : Int) ≤ (n : Int) := by omega
  have hn2 : (n : Int) ≤ (s.size : Int) := by omega
  have hn3 : (n : Int) ≤ (cap : Int) := by omega
  have hcn : ¬ cap = n := by omega
  have hg1 : w.heap.size ≤ g := by rw [← hG8]; exact hb1.size
  have hst : St g L w W5 := ⟨htab5, hbuf5, hbel⟩
  have hz49 := zero49
  clear htab5 hbuf5 hbel hb1 hz
  have HM : Hid (L.length ≤ maxLen) := by show _ ≤ _; rw [HL.out]; unfold maxLen; omega
  have hxw : bits .xor .u32 (V (ofW (L.take n))) (V (backW c (L.drop n))) = V (wordOf s.data.toList n c) := by
    rw [bits_xor_V, HT.out, HD.out]; rfl
  refine wp_region_held_drew (S := fun w' => St g L w w') (by kernel_rfl) hst.drew (fun hHeld => ?_)
  refine wpAnyH_take (i := 0) (oi := _) (v := _) rfl (by kernel_rfl) (by kernel_rfl) (by kernel_rfl) (fun _ _ _ h => h) (yieldsIf_load_mid (by rfl) _ _ rfl _ _ rfl _ _ (fun wx hSw => hSw.tab) hu rfl hi) (by assumption) ?_
  (try simp only [List.getElem_toArray, List.getElem_cons_zero, List.getElem_cons_succ, Act.put, List.setIfInBounds_toArray, List.set_cons_zero, List.set_cons_succ, Array.toArray_toList])
  refine wpAnyH_take (i := 1) (oi := _) (v := ?_) rfl (by kernel_rfl) (by kernel_rfl) (by kernel_rfl) (fun _ _ _ h => h) (Or.inl ⟨by rfl, ?_⟩) (by assumption) ?_
  rotate_left
  · intro wx hSw
    (try dsimp only at hSw)
    go_simp
    (try with_reducible rfl)
  (try simp only [List.getElem_toArray, List.getElem_cons_zero, List.getElem_cons_succ, Act.put, List.setIfInBounds_toArray, List.set_cons_zero, List.set_cons_succ, Array.toArray_toList])
  refine wpAnyH_take (i := 2) (oi := _) (v := ?_) rfl (by kernel_rfl) (by kernel_rfl) (by kernel_rfl) (fun _ _ _ h => h) (Or.inl ⟨by rfl, ?_⟩) (by assumption) ?_
  rotate_left
  · intro wx hSw
    (try dsimp only at hSw)
    go_simp
    (try with_reducible rfl)
  (try simp only [List.getElem_toArray, List.getElem_cons_zero, List.getElem_cons_succ, Act.put, List.setIfInBounds_toArray, List.set_cons_zero, List.set_cons_succ, Array.toArray_toList])
  refine wpAnyH_take (i := 3) (oi := _) (v := ?_) rfl (by kernel_rfl) (by kernel_rfl) (by kernel_rfl) (fun _ _ _ h => h) (Or.inl ⟨by rfl, ?_⟩) (by assumption) ?_
  rotate_left
  · intro wx hSw
    (try dsimp only at hSw)
    go_simp
    (try with_reducible rfl)
  (try simp only [List.getElem_toArray, List.getElem_cons_zero, List.getElem_cons_succ, Act.put, List.setIfInBounds_toArray, List.set_cons_zero, List.set_cons_succ, Array.toArray_toList])
  refine wpAnyH_take (i := 5) (oi := _) (v := _) rfl (by kernel_rfl) (by kernel_rfl) (by kernel_rfl) (fun _ _ _ h => h) (yieldsIf_load_mid (by rfl) _ _ rfl _ _ rfl _ _ (fun wx hSw => hSw.tab) hu rfl hi) (by assumption) ?_
  (try simp only [List.getElem_toArray, List.getElem_cons_zero, List.getElem_cons_succ, Act.put, List.setIfInBounds_toArray, List.set_cons_zero, List.set_cons_succ, Array.toArray_toList])
  refine wpAnyH_take (i := 6) (oi := _) (v := ?_) rfl (by kernel_rfl) (by kernel_rfl) (by kernel_rfl) (fun _ _ _ h => h) (Or.inl ⟨by rfl, ?_⟩) (by assumption) ?_
  rotate_left
  · intro wx hSw
    (try dsimp only at hSw)
    go_simp
    (try with_reducible rfl)
  (try simp only [List.getElem_toArray, List.getElem_cons_zero, List.getElem_cons_succ, Act.put, List.setIfInBounds_toArray, List.set_cons_zero, List.set_cons_succ, Array.toArray_toList])
  refine wpAnyH_take (i := 7) (oi := _) (v := ?_) rfl (by kernel_rfl) (by kernel_rfl) (by kernel_rfl) (fun _ _ _ h => h) (Or.inl ⟨by rfl, ?_⟩) (by assumption) ?_
  rotate_left
  · intro wx hSw
    (try dsimp only at hSw)
    go_simp
    (try with_reducible rfl)
  (try simp only [List.getElem_toArray, List.getElem_cons_zero, List.getElem_cons_succ, Act.put, List.setIfInBounds_toArray, List.set_cons_zero, List.set_cons_succ, Array.toArray_toList])
  refine wpAnyH_take (i := 8) (oi := _) (v := ?_) rfl (by kernel_rfl) (by kernel_rfl) (by kernel_rfl) (fun _ _ _ h => h) (Or.inl ⟨by rfl, ?_⟩) (by assumption) ?_
  rotate_left
  · intro wx hSw
    (try dsimp only at hSw)
    go_simp
    (try with_reducible rfl)
  (try simp only [List.getElem_toArray, List.getElem_cons_zero, List.getElem_cons_succ, Act.put, List.setIfInBounds_toArray, List.set_cons_zero, List.set_cons_succ, Array.toArray_toList])
  refine wpAnyH_take (i := 9) (oi := _) (v := ?_) rfl (by kernel_rfl) (by kernel_rfl) (by kernel_rfl) (fun _ _ _ h => h) (Or.inl ⟨by rfl, ?_⟩) (by assumption) ?_
  rotate_left
  · intro wx hSw
    (try dsimp only at hSw)
    go_simp
    (try with_reducible rfl)
  (try simp only [List.getElem_toArray, List.getElem_cons_zero, List.getElem_cons_succ, Act.put, List.setIfInBounds_toArray, List.set_cons_zero, List.set_cons_succ, Array.toArray_toList])
  refine wpAnyH_ready (rs := [4, 13]) (by kernel_rfl) (by simp) ?_
  refine AllReadyH.cons (o := _) rfl (fun K hK => ?_) ?_
  · (try simp only [List.getElem_toArray, List.getElem_cons_zero, List.getElem_cons_succ])
    go_simp
    refine (fwd (by assumption) n cap (by have := HL.out; omega) HM.out).mono ?_; rintro e w4 ⟨rfl, hb4⟩
    (try dsimp only)
    refine hK.out _ _ (St.below (by assumption) (by assumption)) (fun hHeld4 => ?_)
    clear hK K
    (try simp only [List.getElem_toArray, List.getElem_cons_zero, List.getElem_cons_succ, Act.put, List.setIfInBounds_toArray, List.set_cons_zero, List.set_cons_succ, Array.toArray_toList])
    refine wpAnyH_ready (rs := [10, 13]) (by kernel_rfl) (by simp) ?_
    refine AllReadyH.cons (o := _) rfl (fun K hK => ?_) ?_
    · (try simp only [List.getElem_toArray, List.getElem_cons_zero, List.getElem_cons_succ])
      go_simp
      refine (bwd (by assumption) c n (s.size - n) (cap - n) (by have := HL.out; omega) HM.out).mono ?_; rintro e w10 ⟨rfl, hb10⟩
      (try dsimp only)
      refine hK.out _ _ (St.below (by assumption) (by assumption)) (fun hHeld10 => ?_)
      clear hK K
      (try simp only [List.getElem_toArray, List.getElem_cons_zero, List.getElem_cons_succ, Act.put, List.setIfInBounds_toArray, List.set_cons_zero, List.set_cons_succ, Array.toArray_toList])
      refine wpAnyH_take (i := 11) (oi := _) (v := ?_) rfl (by kernel_rfl) (by kernel_rfl) (by kernel_rfl) (fun _ _ _ h => h) (Or.inl ⟨by rfl, ?_⟩) (by assumption) ?_
      rotate_left
      · intro wx hSw
        (try dsimp only at hSw)
        go_simp
        (try with_reducible rfl)
      (try simp only [List.getElem_toArray, List.getElem_cons_zero, List.getElem_cons_succ, Act.put, List.setIfInBounds_toArray, List.set_cons_zero, List.set_cons_succ, Array.toArray_toList])
      refine wpAnyH_ready (rs := [12, 13]) (by kernel_rfl) (by simp) ?_
      refine AllReadyH.cons (o := _) rfl (fun K hK => ?_) ?_
      · (try simp only [List.getElem_toArray, List.getElem_cons_zero, List.getElem_cons_succ])
        go_simp
        refine (low_any (wordOf s.data.toList n c) _).mono ?_; rintro e w12 ⟨rfl, hb12⟩
        (try dsimp only)
        refine hK.out _ _ (St.below (by assumption) (by assumption)) (fun hHeld12 => ?_)
        clear hK K
        (try simp only [List.getElem_toArray, List.getElem_cons_zero, List.getElem_cons_succ, Act.put, List.setIfInBounds_toArray, List.set_cons_zero, List.set_cons_succ, Array.toArray_toList])
        refine wpAnyH_ready (rs := [13]) (by kernel_rfl) (by simp) ?_
        refine AllReadyH.cons (o := _) rfl (fun K hK => ?_) ?_
        · (try simp only [List.getElem_toArray, List.getElem_cons_zero, List.getElem_cons_succ])
          go_simp
          refine hK.out _ _ (St.alloc (by assumption) _) (fun hHeld13 => ?_)
          have hblk : Blk ((w12.alloc (.cells #[.int .u8 0, .int .u8 0, .int .u8 0, .int .u8 0] 49))) w12.heap.size := heap_alloc_new w12 _
          clear hK K
          (try simp only [List.getElem_toArray, List.getElem_cons_zero, List.getElem_cons_succ, Act.put, List.setIfInBounds_toArray, List.set_cons_zero, List.set_cons_succ, Array.toArray_toList])
          refine wpAnyH_ready (rs := [14]) (by kernel_rfl) (by simp) ?_
          refine AllReadyH.cons (o := _) rfl (fun K hK => ?_) ?_
          · (try simp only [List.getElem_toArray, List.getElem_cons_zero, List.getElem_cons_succ])
            rw [if_pos (by rfl)]
            refine wp_store_row 49 _ _ rfl w12.heap.size (cellsB (fourL (wordOf s.data.toList n c))) rfl rfl 49 _ hblk (info49 rfl) rfl (cellsB_one _) ?_
            (try dsimp only)
            refine hK.out _ _ (St.setRow (by assumption) _ _ hHeld12.buf.1 hHeld12.bel.size) (fun hHeld14 => ?_)
            have hwb := setRow_heap _ w12.heap.size _ (cellsB (fourL (wordOf s.data.toList n c))) _ (0, 0) hblk
            clear hK K
            (try simp only [List.getElem_toArray, List.getElem_cons_zero, List.getElem_cons_succ, Act.put, List.setIfInBounds_toArray, List.set_cons_zero, List.set_cons_succ, Array.toArray_toList])
            refine wpAnyH_done (by kernel_rfl) ?_ _
            generalize World.setRow _ _ _ = wr at *
            generalize w12.heap.size = b at *
            have hstR : St g L w wr := by assumption
            have hcp := copy4 wr.drew (g + 1) n (s.size - n) (cap - n) b L (fourL (wordOf s.data.toList n c)) hstR.drew.buf rfl (by have := HL.out; omega) (by omega) hwb
            have hb7 := Buf.stores (fourL (wordOf s.data.toList n c)) n hstR.drew.buf (by have := HL.out; show n + 4 ≤ _; omega)
            have hbel7 : Below w.heap.size w (wr.drew.setCells (g + 1) n (vals (fourL (wordOf s.data.toList n c)))) := below_setCells _ _ hstR.drew.bel (by have := hst.bel.size; have := hg1; omega)
            rw [HO.out] at hb7
            generalize World.setCells _ _ _ _ = W7 at *
            have hcv := conv_bytes W7 (g + 1) 0 s.size cap (over_ s.data.toList n (fourL (wordOf s.data.toList n c))) (by rw [over_length _ _ _ (by have := HLen.out; show n + 4 ≤ _; omega)]; exact HLen.out.symm) hb7.row.2
            clear hb7 hu hi hl256 h1c hxw hz49
            go_wp2_with fail
            go_region
            go_wp2_with fail
            go_ret2
            exact ⟨rfl, hbel7⟩
          exact AllReadyH.nil
        exact AllReadyH.nil
      refine AllReadyH.cons (o := _) rfl (fun K hK => ?_) ?_
      · (try simp only [List.getElem_toArray, List.getElem_cons_zero, List.getElem_cons_succ])
        go_simp
        refine hK.out _ _ (St.alloc (by assumption) _) (fun hHeld13 => ?_)
        have hblk : Blk ((w10.alloc (.cells #[.int .u8 0, .int .u8 0, .int .u8 0, .int .u8 0] 49))) w10.heap.size := heap_alloc_new w10 _
        clear hK K
        (try simp only [List.getElem_toArray, List.getElem_cons_zero, List.getElem_cons_succ, Act.put, List.setIfInBounds_toArray, List.set_cons_zero, List.set_cons_succ, Array.toArray_toList])
        refine wpAnyH_ready (rs := [12]) (by kernel_rfl) (by simp) ?_
        refine AllReadyH.cons (o := _) rfl (fun K hK => ?_) ?_
        · (try simp only [List.getElem_toArray, List.getElem_cons_zero, List.getElem_cons_succ])
          go_simp
          refine (low_any (wordOf s.data.toList n c) _).mono ?_; rintro e w12 ⟨rfl, hb12⟩
          (try dsimp only)
          refine hK.out _ _ (St.below (by assumption) (by assumption)) (fun hHeld12 => ?_)
          have hblk12 := hblk.below hb12; clear hblk; have hblk := hblk12; clear hblk12
          clear hK K
          (try simp only [List.getElem_toArray, List.getElem_cons_zero, List.getElem_cons_succ, Act.put, List.setIfInBounds_toArray, List.set_cons_zero, List.set_cons_succ, Array.toArray_toList])
          refine wpAnyH_ready (rs := [14]) (by kernel_rfl) (by simp) ?_
          refine AllReadyH.cons (o := _) rfl (fun K hK => ?_) ?_
          · (try simp only [List.getElem_toArray, List.getElem_cons_zero, List.getElem_cons_succ])
            rw [if_pos (by rfl)]
            refine wp_store_row 49 _ _ rfl w10.heap.size (cellsB (fourL (wordOf s.data.toList n c))) rfl rfl 49 _ hblk (info49 rfl) rfl (cellsB_one _) ?_
            (try dsimp only)
            refine hK.out _ _ (St.setRow (by assumption) _ _ hHeld10.buf.1 hHeld10.bel.size) (fun hHeld14 => ?_)
            have hwb := setRow_heap _ w10.heap.size _ (cellsB (fourL (wordOf s.data.toList n c))) _ (0, 0) hblk
            clear hK K
            (try simp only [List.getElem_toArray, List.getElem_cons_zero, List.getElem_cons_succ, Act.put, List.setIfInBounds_toArray, List.set_cons_zero, List.set_cons_succ, Array.toArray_toList])
            refine wpAnyH_done (by kernel_rfl) ?_ _
            generalize World.setRow _ _ _ = wr at *
            generalize w10.heap.size = b at *
            have hstR : St g L w wr := by assumption
            have hcp := copy4 wr.drew (g + 1) n (s.size - n) (cap - n) b L (fourL (wordOf s.data.toList n c)) hstR.drew.buf rfl (by have := HL.out; omega) (by omega) hwb
            have hb7 := Buf.stores (fourL (wordOf s.data.toList n c)) n hstR.drew.buf (by have := HL.out; show n + 4 ≤ _; omega)
            have hbel7 : Below w.heap.size w (wr.drew.setCells (g + 1) n (vals (fourL (wordOf s.data.toList n c)))) := below_setCells _ _ hstR.drew.bel (by have := hst.bel.size; have := hg1; omega)
            rw [HO.out] at hb7
            generalize World.setCells _ _ _ _ = W7 at *
            have hcv := conv_bytes W7 (g + 1) 0 s.size cap (over_ s.data.toList n (fourL (wordOf s.data.toList n c))) (by rw [over_length _ _ _ (by have := HLen.out; show n + 4 ≤ _; omega)]; exact HLen.out.symm) hb7.row.2
            clear hb7 hu hi hl256 h1c hxw hz49
            go_wp2_with fail
            go_region
            go_wp2_with fail
            go_ret2
            exact ⟨rfl, hbel7⟩
          exact AllReadyH.nil
        exact AllReadyH.nil
      exact AllReadyH.nil
    refine AllReadyH.cons (o := _) rfl (fun K hK => ?_) ?_
    · (try simp only [List.getElem_toArray, List.getElem_cons_zero, List.getElem_cons_succ])
      go_simp
      refine hK.out _ _ (St.alloc (by assumption) _) (fun hHeld13 => ?_)
      have hblk : Blk ((w4.alloc (.cells #[.int .u8 0, .int .u8 0, .int .u8 0, .int .u8 0] 49))) w4.heap.size := heap_alloc_new w4 _
      clear hK K
      (try simp only [List.getElem_toArray, List.getElem_cons_zero, List.getElem_cons_succ, Act.put, List.setIfInBounds_toArray, List.set_cons_zero, List.set_cons_succ, Array.toArray_toList])
      refine wpAnyH_ready (rs := [10]) (by kernel_rfl) (by simp) ?_
      refine AllReadyH.cons (o := _) rfl (fun K hK => ?_) ?_
      · (try simp only [List.getElem_toArray, List.getElem_cons_zero, List.getElem_cons_succ])
        go_simp
        refine (bwd (by assumption) c n (s.size - n) (cap - n) (by have := HL.out; omega) HM.out).mono ?_; rintro e w10 ⟨rfl, hb10⟩
        (try dsimp only)
        refine hK.out _ _ (St.below (by assumption) (by assumption)) (fun hHeld10 => ?_)
        have hblk10 := hblk.below hb10; clear hblk; have hblk := hblk10; clear hblk10
        clear hK K
        (try simp only [List.getElem_toArray, List.getElem_cons_zero, List.getElem_cons_succ, Act.put, List.setIfInBounds_toArray, List.set_cons_zero, List.set_cons_succ, Array.toArray_toList])
        refine wpAnyH_take (i := 11) (oi := _) (v := ?_) rfl (by kernel_rfl) (by kernel_rfl) (by kernel_rfl) (fun _ _ _ h => h) (Or.inl ⟨by rfl, ?_⟩) (by assumption) ?_
        rotate_left
        · intro wx hSw
          (try dsimp only at hSw)
          go_simp
          (try with_reducible rfl)
        (try simp only [List.getElem_toArray, List.getElem_cons_zero, List.getElem_cons_succ, Act.put, List.setIfInBounds_toArray, List.set_cons_zero, List.set_cons_succ, Array.toArray_toList])
        refine wpAnyH_ready (rs := [12]) (by kernel_rfl) (by simp) ?_
        refine AllReadyH.cons (o := _) rfl (fun K hK => ?_) ?_
        · (try simp only [List.getElem_toArray, List.getElem_cons_zero, List.getElem_cons_succ])
          go_simp
          refine (low_any (wordOf s.data.toList n c) _).mono ?_; rintro e w12 ⟨rfl, hb12⟩
          (try dsimp only)
          refine hK.out _ _ (St.below (by assumption) (by assumption)) (fun hHeld12 => ?_)
          have hblk12 := hblk.below hb12; clear hblk; have hblk := hblk12; clear hblk12
          clear hK K
          (try simp only [List.getElem_toArray, List.getElem_cons_zero, List.getElem_cons_succ, Act.put, List.setIfInBounds_toArray, List.set_cons_zero, List.set_cons_succ, Array.toArray_toList])
          refine wpAnyH_ready (rs := [14]) (by kernel_rfl) (by simp) ?_
          refine AllReadyH.cons (o := _) rfl (fun K hK => ?_) ?_
          · (try simp only [List.getElem_toArray, List.getElem_cons_zero, List.getElem_cons_succ])
            rw [if_pos (by rfl)]
            refine wp_store_row 49 _ _ rfl w4.heap.size (cellsB (fourL (wordOf s.data.toList n c))) rfl rfl 49 _ hblk (info49 rfl) rfl (cellsB_one _) ?_
            (try dsimp only)
            refine hK.out _ _ (St.setRow (by assumption) _ _ hHeld4.buf.1 hHeld4.bel.size) (fun hHeld14 => ?_)
            have hwb := setRow_heap _ w4.heap.size _ (cellsB (fourL (wordOf s.data.toList n c))) _ (0, 0) hblk
            clear hK K
            (try simp only [List.getElem_toArray, List.getElem_cons_zero, List.getElem_cons_succ, Act.put, List.setIfInBounds_toArray, List.set_cons_zero, List.set_cons_succ, Array.toArray_toList])
            refine wpAnyH_done (by kernel_rfl) ?_ _
            generalize World.setRow _ _ _ = wr at *
            generalize w4.heap.size = b at *
            have hstR : St g L w wr := by assumption
            have hcp := copy4 wr.drew (g + 1) n (s.size - n) (cap - n) b L (fourL (wordOf s.data.toList n c)) hstR.drew.buf rfl (by have := HL.out; omega) (by omega) hwb
            have hb7 := Buf.stores (fourL (wordOf s.data.toList n c)) n hstR.drew.buf (by have := HL.out; show n + 4 ≤ _; omega)
            have hbel7 : Below w.heap.size w (wr.drew.setCells (g + 1) n (vals (fourL (wordOf s.data.toList n c)))) := below_setCells _ _ hstR.drew.bel (by have := hst.bel.size; have := hg1; omega)
            rw [HO.out] at hb7
            generalize World.setCells _ _ _ _ = W7 at *
            have hcv := conv_bytes W7 (g + 1) 0 s.size cap (over_ s.data.toList n (fourL (wordOf s.data.toList n c))) (by rw [over_length _ _ _ (by have := HLen.out; show n + 4 ≤ _; omega)]; exact HLen.out.symm) hb7.row.2
            clear hb7 hu hi hl256 h1c hxw hz49
            go_wp2_with fail
            go_region
            go_wp2_with fail
            go_ret2
            exact ⟨rfl, hbel7⟩
          exact AllReadyH.nil
        exact AllReadyH.nil
      exact AllReadyH.nil
    exact AllReadyH.nil
  refine AllReadyH.cons (o := _) rfl (fun K hK => ?_) ?_
  · (try simp only [List.getElem_toArray, List.getElem_cons_zero, List.getElem_cons_succ])
    go_simp
    refine hK.out _ _ (St.alloc (by assumption) _) (fun hHeld13 => ?_)
    have hblk : Blk ((W5.alloc (.cells #[.int .u8 0, .int .u8 0, .int .u8 0, .int .u8 0] 49)).drew) W5.heap.size := heap_alloc_new W5 _
    clear hK K
    (try simp only [List.getElem_toArray, List.getElem_cons_zero, List.getElem_cons_succ, Act.put, List.setIfInBounds_toArray, List.set_cons_zero, List.set_cons_succ, Array.toArray_toList])
    refine wpAnyH_ready (rs := [4]) (by kernel_rfl) (by simp) ?_
    refine AllReadyH.cons (o := _) rfl (fun K hK => ?_) ?_
    · (try simp only [List.getElem_toArray, List.getElem_cons_zero, List.getElem_cons_succ])
      go_simp
      refine (fwd (by assumption) n cap (by have := HL.out; omega) HM.out).mono ?_; rintro e w4 ⟨rfl, hb4⟩
      (try dsimp only)
      refine hK.out _ _ (St.below (by assumption) (by assumption)) (fun hHeld4 => ?_)
      have hblk4 := hblk.below hb4; clear hblk; have hblk := hblk4; clear hblk4
      clear hK K
      (try simp only [List.getElem_toArray, List.getElem_cons_zero, List.getElem_cons_succ, Act.put, List.setIfInBounds_toArray, List.set_cons_zero, List.set_cons_succ, Array.toArray_toList])
      refine wpAnyH_ready (rs := [10]) (by kernel_rfl) (by simp) ?_
      refine AllReadyH.cons (o := _) rfl (fun K hK => ?_) ?_
      · (try simp only [List.getElem_toArray, List.getElem_cons_zero, List.getElem_cons_succ])
        go_simp
        refine (bwd (by assumption) c n (s.size - n) (cap - n) (by have := HL.out; omega) HM.out).mono ?_; rintro e w10 ⟨rfl, hb10⟩
        (try dsimp only)
        refine hK.out _ _ (St.below (by assumption) (by assumption)) (fun hHeld10 => ?_)
        have hblk10 := hblk.below hb10; clear hblk; have hblk := hblk10; clear hblk10
        clear hK K
        (try simp only [List.getElem_toArray, List.getElem_cons_zero, List.getElem_cons_succ, Act.put, List.setIfInBounds_toArray, List.set_cons_zero, List.set_cons_succ, Array.toArray_toList])
        refine wpAnyH_take (i := 11) (oi := _) (v := ?_) rfl (by kernel_rfl) (by kernel_rfl) (by kernel_rfl) (fun _ _ _ h => h) (Or.inl ⟨by rfl, ?_⟩) (by assumption) ?_
        rotate_left
        · intro wx hSw
          (try dsimp only at hSw)
          go_simp
          (try with_reducible rfl)
        (try simp only [List.getElem_toArray, List.getElem_cons_zero, List.getElem_cons_succ, Act.put, List.setIfInBounds_toArray, List.set_cons_zero, List.set_cons_succ, Array.toArray_toList])
        refine wpAnyH_ready (rs := [12]) (by kernel_rfl) (by simp) ?_
        refine AllReadyH.cons (o := _) rfl (fun K hK => ?_) ?_
        · (try simp only [List.getElem_toArray, List.getElem_cons_zero, List.getElem_cons_succ])
          go_simp
          refine (low_any (wordOf s.data.toList n c) _).mono ?_; rintro e w12 ⟨rfl, hb12⟩
          (try dsimp only)
          refine hK.out _ _ (St.below (by assumption) (by assumption)) (fun hHeld12 => ?_)
          have hblk12 := hblk.below hb12; clear hblk; have hblk := hblk12; clear hblk12
          clear hK K
          (try simp only [List.getElem_toArray, List.getElem_cons_zero, List.getElem_cons_succ, Act.put, List.setIfInBounds_toArray, List.set_cons_zero, List.set_cons_succ, Array.toArray_toList])
          refine wpAnyH_ready (rs := [14]) (by kernel_rfl) (by simp) ?_
          refine AllReadyH.cons (o := _) rfl (fun K hK => ?_) ?_
          · (try simp only [List.getElem_toArray, List.getElem_cons_zero, List.getElem_cons_succ])
            rw [if_pos (by rfl)]
            refine wp_store_row 49 _ _ rfl W5.heap.size (cellsB (fourL (wordOf s.data.toList n c))) rfl rfl 49 _ hblk (info49 rfl) rfl (cellsB_one _) ?_
            (try dsimp only)
            refine hK.out _ _ (St.setRow (by assumption) _ _ hst.buf.1 hst.bel.size) (fun hHeld14 => ?_)
            have hwb := setRow_heap _ W5.heap.size _ (cellsB (fourL (wordOf s.data.toList n c))) _ (0, 0) hblk
            clear hK K
            (try simp only [List.getElem_toArray, List.getElem_cons_zero, List.getElem_cons_succ, Act.put, List.setIfInBounds_toArray, List.set_cons_zero, List.set_cons_succ, Array.toArray_toList])
            refine wpAnyH_done (by kernel_rfl) ?_ _
            generalize World.setRow _ _ _ = wr at *
            generalize W5.heap.size = b at *
            have hstR : St g L w wr := by assumption
            have hcp := copy4 wr.drew (g + 1) n (s.size - n) (cap - n) b L (fourL (wordOf s.data.toList n c)) hstR.drew.buf rfl (by have := HL.out; omega) (by omega) hwb
            have hb7 := Buf.stores (fourL (wordOf s.data.toList n c)) n hstR.drew.buf (by have := HL.out; show n + 4 ≤ _; omega)
            have hbel7 : Below w.heap.size w (wr.drew.setCells (g + 1) n (vals (fourL (wordOf s.data.toList n c)))) := below_setCells _ _ hstR.drew.bel (by have := hst.bel.size; have := hg1; omega)
            rw [HO.out] at hb7
            generalize World.setCells _ _ _ _ = W7 at *
            have hcv := conv_bytes W7 (g + 1) 0 s.size cap (over_ s.data.toList n (fourL (wordOf s.data.toList n c))) (by rw [over_length _ _ _ (by have := HLen.out; show n + 4 ≤ _; omega)]; exact HLen.out.symm) hb7.row.2
            clear hb7 hu hi hl256 h1c hxw hz49
            go_wp2_with fail
            go_region
            go_wp2_with fail
            go_ret2
            exact ⟨rfl, hbel7⟩
          exact AllReadyH.nil
        exact AllReadyH.nil
      exact AllReadyH.nil
    exact AllReadyH.nil
  exact AllReadyH.nil

end Go.Proofs.Ytmmggkjfhiflaaa.Crc
