/-
  The walks of fit and MayName.
-/
import Derived.Test.YtefkfjbdmglkjaaDoorE9
namespace Go.Proofs.YtefkfjbdmglkjaaDoor.Schema
open Go Go.RowKit

def byteAt (s : ByteArray) (j : Nat) : Nat := (s.data.toList.getD j 0).toNat
theorem byteAt_eq (s : ByteArray) (j : Nat) (h : j < s.size) : (s[j]'h).toNat = byteAt s j := by
  unfold byteAt
  rw [List.getD_eq_getElem?_getD, List.getElem?_eq_getElem (show j < s.data.toList.length from h)]; rfl
theorem byteAt_lt (s : ByteArray) (j : Nat) : byteAt s j < 256 := UInt8.toNat_lt _
theorem ascii_at {s : ByteArray} (h : ascii s) (j : Nat) (hj : j < s.size) : byteAt s j < 128 := by
  rw [← byteAt_eq s j hj]
  exact h _ (by rw [ByteArray.getElem_eq_getElem_data]; exact Array.getElem_mem_toList _)
def nums (xs : List Int) : List Value := xs.map (Value.int .i64)
theorem nums_at (xs : List Int) (j : Nat) (h : j < xs.length) : (nums xs)[j]? = some (.int .i64 (xs.getD j 0)) := by
  unfold nums
  rw [List.getElem?_map, List.getElem?_eq_getElem h, List.getD_eq_getElem?_getD, List.getElem?_eq_getElem h]; rfl
/-- numbers of 64 bits -/
def Fits64 (xs : List Int) : Prop := ∀ x ∈ xs, -9223372036854775808 ≤ x ∧ x ≤ 9223372036854775807
theorem Fits64.at {xs : List Int} (h : Fits64 xs) (j : Nat) : -9223372036854775808 ≤ xs.getD j 0 ∧ xs.getD j 0 ≤ 9223372036854775807 := by
  rw [List.getD_eq_getElem?_getD]
  cases e : xs[j]? with
  | none => decide
  | some x => exact h x (List.mem_of_getElem? e)
/-- whether numbers are of these classes -/
def fitB (v : Int) (s : ByteArray) (xs : List Int) : Bool := decide (xs.length = s.size) && (List.range s.size).all fun j => fits v (byteAt s j) (xs.getD j 0)
theorem fitB_yes {v : Int} {s : ByteArray} {xs : List Int} (hl : xs.length = s.size) (h : ∀ j, j < s.size → fits v (byteAt s j) (xs.getD j 0) = true) : fitB v s xs = true := by
  unfold fitB
  rw [decide_eq_true hl, Bool.true_and, List.all_eq_true]
  exact fun j hj => h j (List.mem_range.1 hj)
theorem fitB_no {v : Int} {s : ByteArray} {xs : List Int} {j : Nat} (hj : j < s.size) (h : fits v (byteAt s j) (xs.getD j 0) = false) : fitB v s xs = false := by
  unfold fitB
  rw [show ((List.range s.size).all fun j => fits v (byteAt s j) (xs.getD j 0)) = false from List.all_eq_false.2 ⟨j, List.mem_range.2 hj, by rw [h]; simp⟩, Bool.and_false]
theorem fitB_len {v : Int} {s : ByteArray} {xs : List Int} (hl : ¬ xs.length = s.size) : fitB v s xs = false := by
  unfold fitB
  rw [decide_eq_false hl, Bool.false_and]
theorem yes_step {p : Nat → Bool} {k : Nat} (h : Hid (∀ j, j < k → p j = true)) (hk : p k = true) : Hid (∀ j, j < k + 1 → p j = true) := fun j hj => by
  by_cases e : j = k
  · exact e ▸ hk
  · exact h j (by omega)

set_option maxRecDepth 100000 in
set_option maxHeartbeats 400000 in
theorem fit_any (v : Nat) (hv : v < 256) (s : ByteArray) (hs : okL s) (A : Option Addr) (cap : Nat) (xs : List Int) (hx : Fits64 xs) (hl : xs.length ≤ 1000000) (w : World) (E : Env w) (hA : VAt w A (nums xs)) :
    Calls Tryd.prog 61 #[.int .u8 v, .string s, .slice A xs.length cap] w fun e w' => e = .returned (.bool (fitB v s xs)) ∧ Below w.heap.size w w' := by
  have HE := Lib.hid E
  have HA := Lib.hid hA
  have HX := Lib.hid hx
  have HS := Lib.hid hs.2
  have hs1 := hs.1
  clear E hA hx hs
  by_cases hn : xs.length = s.size
  · have e1 : ((xs.length : Int) != (s.size : Int)) = false := by rw [hn]; simp
    have e2 : (xs.length != s.size) = false := by rw [hn]; simp
    have HN := Lib.hid hn
    have hn' : s.size ≤ xs.length := by omega
    clear hn
    go_enter Tryd.func61, Tryd.ntmps61
    go_wp2
    go_loopw [] (fun wr => ∃ pos : Nat, pos ≤ s.size ∧ Hid (∀ j, j < pos → fits v (byteAt s j) (xs.getD j 0) = true) ∧ wr.heap[w.heap.size]? = some (.stringIter s pos) ∧ Below w.heap.size w wr) (fun wr => s.size - wr.iterPos w.heap.size)
    case atStart => exact ⟨0, Nat.zero_le _, fun j hj => absurd hj (by omega), World.iter_heap w s 0, (Below.refl _ _).alloc (Nat.le_refl _) _⟩
    case round =>
      obtain ⟨pos, hpos, HY, hit, hB⟩ := hrel
      have hsz : w.heap.size < wr.heap.size := (Array.getElem?_eq_some_iff.1 hit).1
      by_cases hp : pos < s.size
      · have hb : (s[pos]'hp).toNat < 128 := by rw [byteAt_eq]; exact ascii_at HS.out pos hp
        have hnx : ∀ ty, (Instr.next (.pointer (some ⟨w.heap.size, 0, none⟩)) true ty).run Tryd.prog wr = _ := fun ty => Lib.run_next_ascii_at wr w.heap.size s pos ty hit hp hb
        have HBE := Lib.hid (byteAt_eq s pos hp)
        obtain ⟨b, o, rfl, c0⟩ := HA.out pos _ (nums_at xs pos (by omega))
        have hbw := cell_lt c0
        have HXP := Lib.hid (HX.out.at pos)
        have HI := Lib.hid hit
        have hB2 := Lib.below_iterAt hB (k := w.heap.size) (Nat.le_refl _) s (pos + 1)
        have HI2 := Lib.hid (Lib.iterAt_heap wr w.heap.size s pos (pos + 1) hit)
        have hsz2 : w.heap.size < (wr.iterAt w.heap.size s (pos + 1)).heap.size := by rw [Lib.iterAt_size]; omega
        generalize hc : (s[pos]'hp).toNat = c at hb hnx HBE
        clear hc
        generalize hW : wr.iterAt w.heap.size s (pos + 1) = W at *
        have HW := Lib.hid hW
        have c1 := (hB2.cell (p := ⟨b, o + pos, none⟩) hbw).trans c0
        have HB2 := Lib.hid hB2
        have z0 : (0 : Int) ≤ (pos : Int) := by omega
        have z1 : (pos : Int) < (xs.length : Int) := by omega
        clear hB hit hsz hW hB2 c0
        cases hf : fits v (byteAt s pos) (xs.getD pos 0) with
        | true =>
          have HF := Lib.hid hf
          clear hf
          generalize hx0 : xs.getD pos 0 = x at c1 HXP
          have HX0 := Lib.hid hx0
          clear hx0
          go_wp2_with (go_at_call 83; refine (fits_any v c x (by omega) (by omega) HXP.out _ (HE.out.below HB2.out)).mono ?_; rintro e w3 ⟨rfl, hb3⟩; rw [HBE.out, ← HX0.out, HF.out]; have HB3 := Lib.hid hb3; clear hb3)
          have HI3 := Lib.hid ((HB3.out.block _ hsz2).trans HI2.out)
          go_roundw
          case rel => exact ⟨pos + 1, by omega, yes_step HY HF.out, HI3.out, below_step HB2.out HB3.out⟩
          case measure =>
            simp only [World.iterPos, HI3.out, HI.out]
            omega
        | false =>
          have HF := Lib.hid hf
          have HR := Lib.hid (fitB_no hp hf)
          clear hf
          generalize hx0 : xs.getD pos 0 = x at c1 HXP
          have HX0 := Lib.hid hx0
          clear hx0
          go_wp2_with (go_at_call 83; refine (fits_any v c x (by omega) (by omega) HXP.out _ (HE.out.below HB2.out)).mono ?_; rintro e w3 ⟨rfl, hb3⟩; rw [HBE.out, ← HX0.out, HF.out]; have HB3 := Lib.hid hb3; clear hb3)
          go_ret
          exact ⟨by rw [HR.out]; rfl, below_step HB2.out HB3.out⟩
      · have hnx : ∀ ty, (Instr.next (.pointer (some ⟨w.heap.size, 0, none⟩)) true ty).run Tryd.prog wr = _ := fun ty => Lib.run_next_end_at wr w.heap.size s pos ty hit hp
        have HB := Lib.hid hB
        have HR := Lib.hid (fitB_yes HN.out (fun j hj => HY.out j (by omega)))
        clear hB hit hsz
        go_wp2
        go_ret
        exact ⟨by rw [HR.out]; rfl, HB.out⟩
  · have e1 : ((xs.length : Int) != (s.size : Int)) = true := by simp; omega
    have e2 : (xs.length != s.size) = true := by simpa using hn
    have HR := Lib.hid (fitB_len (v := v) hn)
    clear hn
    go_enter Tryd.func61, Tryd.ntmps61
    go_wp2
    go_ret
    exact ⟨by rw [HR.out]; rfl, Below.refl _ _⟩

end Go.Proofs.YtefkfjbdmglkjaaDoor.Schema
