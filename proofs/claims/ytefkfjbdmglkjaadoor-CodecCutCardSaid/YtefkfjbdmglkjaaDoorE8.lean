/-
  The walk of classes.
-/
import Derived.Test.YtefkfjbdmglkjaaDoorE7
import Derived.BigCall
namespace Go.Proofs.YtefkfjbdmglkjaaDoor.Schema
open Go Go.RowKit

theorem vat_new (W : World) (u : Value) (E : TypeId) : VAt (W.alloc (.cells #[u] E)) (some ⟨W.heap.size, 0, none⟩) [u] := fun k v h => by
  have hk : k = 0 := by have := (List.getElem?_eq_some_iff.1 h).1; simp at this; omega
  subst hk
  refine ⟨_, _, rfl, ?_⟩
  simp only [List.getElem?_cons_zero, Option.some.injEq] at h
  subst h
  unfold World.cell?
  rw [show (W.alloc _).heap[(⟨W.heap.size, 0, none⟩ : Addr).block]? = _ from (MapKept.heap_alloc W _).1]
  rfl
def ascii (s : ByteArray) : Prop := ∀ b ∈ s.data.toList, b.toNat < 128
/-- letters as classes -/
def clsV (s : ByteArray) : List Value := s.data.toList.map fun b => .int .u8 b.toNat
theorem clsV_len (s : ByteArray) : (clsV s).length = s.size := by unfold clsV; rw [List.length_map]; rfl
theorem clsV_snoc (s : ByteArray) (k : Nat) (h : k < s.size) : (clsV s).take (k + 1) = (clsV s).take k ++ [.int .u8 ((s[k]'h).toNat : Int)] := by
  rw [List.take_succ_eq_append_getElem (by rw [clsV_len]; exact h)]
  congr 1
  unfold clsV
  rw [List.getElem_map]; rfl
theorem Own.iterAt {w : World} {k : Nat} {E : TypeId} {v : Value} {vs : List Value} (h : Own w (k + 1) E v vs) (s : ByteArray) (p : Nat) : Own (w.iterAt k s p) (k + 1) E v vs :=
  World.ownsRow.kept (row := some k) h ⟨rfl, rfl, rfl, by rw [Lib.iterAt_size]; exact Nat.le_refl _, fun j _ hj => Lib.iterAt_other w k j s p (fun e => hj (by rw [e]))⟩ (Or.inr fun e => by have := World.ownsRow.lt h k e; omega)
theorem iter_kept {w w' : World} {k : Nat} {E : TypeId} {v : Value} {vs : List Value} (h : Own w (k + 1) E v vs) {o : Obj} (hk : w.heap[k]? = some o) (hg : w.grownBy w' v.ownBlock) : w'.heap[k]? = some o := by
  rw [hg.block k (Array.getElem?_eq_some_iff.1 hk).1 (fun e => by have := World.ownsRow.lt h k e.symm; omega)]; exact hk
/-- a slice of the call's own is handed back -/
def OwnRes (w : World) (E : TypeId) (vs : List Value) (e : Ending) (w' : World) : Prop := ∃ v, e = .returned v ∧ Own w' w.heap.size E v vs ∧ Below w.heap.size w w'

set_option maxRecDepth 100000 in
set_option maxHeartbeats 400000 in
theorem classes_any (s : ByteArray) (hs : s.size ≤ 100) (ha : ascii s) (w : World) : Calls Tryd.prog 66 #[.string s] w (OwnRes w 81 (clsV s)) := by
  have HA := Lib.hid ha
  clear ha
  go_enter Tryd.func66, Tryd.ntmps66
  go_wp2
  go_loopw [3] (fun v wr => ∃ pos : Nat, pos ≤ s.size ∧ Own wr (w.heap.size + 1) 81 v ((clsV s).take pos) ∧ wr.heap[w.heap.size]? = some (.stringIter s pos) ∧ Below w.heap.size w wr) (fun _ wr => s.size - wr.iterPos w.heap.size)
  case atStart => exact ⟨0, Nat.zero_le _, Own.nil _ _ _, World.iter_heap w s 0, (Below.refl _ _).alloc (Nat.le_refl _) _⟩
  case round =>
    obtain ⟨pos, hpos, hO, hit, hB⟩ := hrel
    have hsz : w.heap.size < wr.heap.size := (Array.getElem?_eq_some_iff.1 hit).1
    by_cases hp : pos < s.size
    · have hb : (s[pos]'hp).toNat < 128 := HA.out _ (by rw [ByteArray.getElem_eq_getElem_data]; exact Array.getElem_mem_toList _)
      have hnx : ∀ ty, (Instr.next (.pointer (some ⟨w.heap.size, 0, none⟩)) true ty).run Tryd.prog wr = _ := fun ty => Lib.run_next_ascii_at wr w.heap.size s pos ty hit hp hb
      have HS := Lib.hid (clsV_snoc s pos hp)
      have HO := Lib.hid hO
      have HB := Lib.hid hB
      have HI := Lib.hid hit
      have hsz2 : w.heap.size + 1 ≤ (wr.iterAt w.heap.size s (pos + 1)).heap.size := by rw [Lib.iterAt_size]; omega
      have HZ := Lib.hid hsz2
      have HL := Lib.hid (show ((clsV s).take pos).length = pos from by rw [List.length_take, clsV_len]; omega)
      generalize (s[pos]'hp).toNat = c at hb hnx HS
      have HI2 := Lib.hid (Lib.iterAt_heap wr w.heap.size s pos (pos + 1) hit)
      have HO2 := Lib.hid (World.ownsRow.alloc (hO.iterAt s (pos + 1)) (Obj.cells #[Value.int IntKind.u8 (c : Int)] 81))
      have HB2 := Lib.hid ((Lib.below_iterAt hB (k := w.heap.size) (Nat.le_refl _) s (pos + 1)).alloc (by rw [Lib.iterAt_size]; omega) (Obj.cells #[Value.int IntKind.u8 (c : Int)] 81))
      clear hO hB hit hsz hsz2
      generalize (clsV s).take pos = xs at HS HL HO2 HO
      generalize hW : wr.iterAt w.heap.size s (pos + 1) = W at *
      have HW := Lib.hid hW
      clear hW
      go_wp2_with (at_builtin; refine wpList_append_vals 78 81 (.int .u8 0) 1 Tryd.underlying78 infoC rfl (by decide) rfl _ _ rfl (w.heap.size + 1) _ _ rfl HO2.out (some ⟨W.heap.size, 0, none⟩) 1 1 [.int .u8 (c : Int)] rfl rfl (vat_new W _ _) (by simp; rfl) (by simp) (by have := HL.out; simp; omega) (by have := HZ.out; simp; omega) ?_)
      intro v' w1 hO1 hg
      have hsW : W.heap.size < (W.alloc (Obj.cells #[Value.int IntKind.u8 (c : Int)] 81)).heap.size := by simp
      have hi3 := iter_kept HO2.out (show (W.alloc (Obj.cells #[Value.int IntKind.u8 (c : Int)] 81)).heap[w.heap.size]? = some (.stringIter s (pos + 1)) from (((Below.refl W.heap.size W).alloc (Nat.le_refl _) (Obj.cells #[Value.int IntKind.u8 (c : Int)] 81)).block _ (by have := HZ.out; omega)).trans HI2.out) hg
      have hB3 := HB2.out.trans (below_grown HO2.out (Nat.le_succ _) (by have := HZ.out; simp; omega) hg)
      have HO3 := Lib.hid hO1
      have HI3 := Lib.hid hi3
      have HB3 := Lib.hid hB3
      clear hO1 hg hsW hi3 hB3
      go_wp2
      go_roundw
      case rel => exact ⟨pos + 1, by omega, by rw [HS.out]; exact HO3.out, HI3.out, HB3.out⟩
      case measure =>
        simp only [World.iterPos, HI3.out, HI.out]
        omega
    · have hnx : ∀ ty, (Instr.next (.pointer (some ⟨w.heap.size, 0, none⟩)) true ty).run Tryd.prog wr = _ := fun ty => Lib.run_next_end_at wr w.heap.size s pos ty hit hp
      have HO := Lib.hid hO
      have HB := Lib.hid hB
      have HE : Hid ((clsV s).take pos = clsV s) := List.take_of_length_le (by rw [clsV_len]; omega)
      clear hO hB hit hsz
      go_wp2
      go_ret
      exact ⟨_, rfl, by have := HO.out.less (Nat.le_succ w.heap.size); rw [HE.out] at this; exact this, HB.out⟩

end Go.Proofs.YtefkfjbdmglkjaaDoor.Schema
