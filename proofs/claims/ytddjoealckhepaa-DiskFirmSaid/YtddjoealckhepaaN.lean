/-
  Whether a text is a file's name: the walks of disk.MayName and of the document's.
-/
import Derived.Test.YtddjoealckhepaaB
import Derived.Lib.Walk
import Derived.Lib.Strings
import Derived.Laws.RangeAny
namespace Go.Proofs.Ytddjoealckhepaa.Disk
open Go Go.RowKit

def byteAt (s : ByteArray) (j : Nat) : Nat := (s.data.toList.getD j 0).toNat
theorem byteAt_eq (s : ByteArray) (j : Nat) (h : j < s.size) : (s[j]'h).toNat = byteAt s j := by
  unfold byteAt
  rw [List.getD_eq_getElem?_getD, List.getElem?_eq_getElem (show j < s.data.toList.length from h)]; rfl
theorem byteAt_lt (s : ByteArray) (j : Nat) : byteAt s j < 256 := UInt8.toNat_lt _
theorem yes_step {p : Nat → Bool} {k : Nat} (h : Hid (∀ j, j < k → p j = true)) (hk : p k = true) : Hid (∀ j, j < k + 1 → p j = true) := fun j hj => by
  by_cases e : j = k
  · exact e ▸ hk
  · exact h j (by omega)
theorem size_pos_iff (s : ByteArray) : s.toList.isEmpty = !decide (0 < s.size) := by
  rw [ByteArray.toList_eq]
  rw [show s.size = s.data.toList.length from rfl]
  cases s.data.toList <;> simp


/-- whether a text is a name -/
def mayName (s : ByteArray) : Bool := decide (1 ≤ s.size) && decide (s.size ≤ 24) && (List.range s.size).all fun j => okC (byteAt s j)
theorem mayName_eq (n : Nm) : mayName (S n) = mayN n := by
  unfold mayName mayN
  rw [S_size]
  congr 1
  rw [Bool.eq_iff_iff, List.all_eq_true, List.all_eq_true]
  constructor
  · intro h c hc
    obtain ⟨i, hi, rfl⟩ := List.getElem_of_mem hc
    have := h i (List.mem_range.2 hi)
    simpa [byteAt, S, List.getD_eq_getElem?_getD, List.getElem?_eq_getElem hi] using this
  · intro h j hj
    have hj := List.mem_range.1 hj
    have := h _ (List.getElem_mem hj)
    simpa [byteAt, S, List.getD_eq_getElem?_getD, List.getElem?_eq_getElem hj] using this
theorem mayName_yes {s : ByteArray} (h1 : 1 ≤ s.size) (h2 : s.size ≤ 24) (h : ∀ j, j < s.size → okC (byteAt s j) = true) : mayName s = true := by
  unfold mayName
  rw [decide_eq_true h1, decide_eq_true h2, Bool.true_and, Bool.true_and, List.all_eq_true]
  exact fun j hj => h j (List.mem_range.1 hj)
theorem mayName_no {s : ByteArray} {j : Nat} (hj : j < s.size) (h : okC (byteAt s j) = false) : mayName s = false := by
  unfold mayName
  rw [show ((List.range s.size).all fun j => okC (byteAt s j)) = false from List.all_eq_false.2 ⟨j, List.mem_range.2 hj, by rw [h]; simp⟩, Bool.and_false]
theorem mayName_len {s : ByteArray} (h : ¬ (1 ≤ s.size ∧ s.size ≤ 24)) : mayName s = false := by
  unfold mayName
  by_cases h1 : 1 ≤ s.size
  · rw [decide_eq_false (show ¬ s.size ≤ 24 from fun h2 => h ⟨h1, h2⟩)]; simp
  · rw [decide_eq_false h1]; simp
theorem okC_iff {c : Nat} : okC c = true ↔ (97 ≤ c ∧ c ≤ 122) ∨ (65 ≤ c ∧ c ≤ 90) ∨ (48 ≤ c ∧ c ≤ 57) ∨ c = 45 ∨ c = 95 ∨ c = 46 := by unfold okC; simp [or_assoc]
theorem okC_yes {c : Nat} (h : okC c = true) : (97 ≤ c ∧ c ≤ 122) ∨ (65 ≤ c ∧ c ≤ 90) ∨ (48 ≤ c ∧ c ≤ 57) ∨ c = 45 ∨ c = 95 ∨ c = 46 := okC_iff.1 h
theorem okC_no {c : Nat} (h : okC c = false) : (123 ≤ c) ∨ c = 96 ∨ (91 ≤ c ∧ c ≤ 94) ∨ (58 ≤ c ∧ c ≤ 64) ∨ c = 47 ∨ c ≤ 44 := by
  have : ¬ ((97 ≤ c ∧ c ≤ 122) ∨ (65 ≤ c ∧ c ≤ 90) ∨ (48 ≤ c ∧ c ≤ 57) ∨ c = 45 ∨ c = 95 ∨ c = 46) := fun h1 => by rw [okC_iff.2 h1] at h; cases h
  omega
set_option maxRecDepth 100000 in
set_option maxHeartbeats 1000000 in
theorem mayName_any (s : ByteArray) (hsz0 : s.size ≤ maxLen) (w : World) :
    Calls Try.prog 12 #[.string s] w fun e w' => e = .returned (.bool (mayName s)) ∧ Below w.heap.size w w' := by
  unfold maxLen at hsz0
  by_cases hz : s.size = 0
  · have hE : s.toList = [] := by rw [ByteArray.toList_eq]; exact List.eq_nil_of_length_eq_zero hz
    have HR := Lib.hid (mayName_len (s := s) (by omega))
    clear hz
    go_enter Try.func12, Try.ntmps12
    go_wp2
    go_ret
    exact ⟨by rw [HR.out]; rfl, Below.refl _ _⟩
  · have hE0 : s.toList.isEmpty = false := by rw [size_pos_iff]; simp; omega
    have hE : ¬ s.toList = [] := by intro h; rw [h] at hE0; cases hE0
    by_cases hl : 24 < s.size
    · have HR := Lib.hid (mayName_len (s := s) (by omega))
      clear hz
      go_enter Try.func12, Try.ntmps12
      go_wp2
      go_ret
      exact ⟨by rw [HR.out]; rfl, Below.refl _ _⟩
    · have hl' : s.size ≤ 24 := by omega
      clear hl
      go_enter Try.func12, Try.ntmps12
      go_wp2
      go_loopw [] (fun wr => ∃ pos : Nat, pos ≤ s.size ∧ Hid (∀ j, j < pos → okC (byteAt s j) = true) ∧ wr.heap[w.heap.size]? = some (.stringIter s pos) ∧ Below w.heap.size w wr) (fun wr => s.size - wr.iterPos w.heap.size)
      case atStart => exact ⟨0, Nat.zero_le _, fun j hj => absurd hj (by omega), World.iter_heap w s 0, (Below.refl _ _).alloc (Nat.le_refl _) _⟩
      case round =>
        obtain ⟨pos, hpos, HY, hit, hB⟩ := hrel
        have hsz : w.heap.size < wr.heap.size := (Array.getElem?_eq_some_iff.1 hit).1
        by_cases hp : pos < s.size
        · by_cases hb : (s[pos]'hp).toNat < 128
          · have hnx : ∀ ty, (Instr.next (.pointer (some ⟨w.heap.size, 0, none⟩)) true ty).run Try.prog wr = _ := fun ty => Lib.run_next_ascii_at wr w.heap.size s pos ty hit hp hb
            have HBE := Lib.hid (byteAt_eq s pos hp)
            have HI := Lib.hid hit
            have HI2 := Lib.hid (Lib.iterAt_heap wr w.heap.size s pos (pos + 1) hit)
            have HB2 := Lib.hid (Lib.below_iterAt hB (k := w.heap.size) (Nat.le_refl _) s (pos + 1))
            generalize hc : (s[pos]'hp).toNat = c at hb hnx HBE
            generalize hW : wr.iterAt w.heap.size s (pos + 1) = W at *
            clear hc hW hB hit hsz
            cases hk : okC c with
            | true =>
              have hk2 := okC_yes hk
              have HK : Hid (okC (byteAt s pos) = true) := by rw [← HBE.out]; exact hk
              clear hk
              obtain ⟨a1, a2⟩ | ⟨a1, a2⟩ | ⟨a1, a2⟩ | a | a | a := hk2
              · have f1 : ((c : Int) == 45) = false := by simp; omega
                have f2 : ((c : Int) == 95) = false := by simp; omega
                have f3 : ((c : Int) == 46) = false := by simp; omega
                go_wp2
                go_roundw
                case rel => exact ⟨pos + 1, by omega, yes_step HY HK.out, HI2.out, HB2.out⟩
                case measure =>
                  simp only [World.iterPos, HI2.out, HI.out]
                  omega
              · have f1 : ((c : Int) == 45) = false := by simp; omega
                have f2 : ((c : Int) == 95) = false := by simp; omega
                have f3 : ((c : Int) == 46) = false := by simp; omega
                go_wp2
                go_roundw
                case rel => exact ⟨pos + 1, by omega, yes_step HY HK.out, HI2.out, HB2.out⟩
                case measure =>
                  simp only [World.iterPos, HI2.out, HI.out]
                  omega
              · have f1 : ((c : Int) == 45) = false := by simp; omega
                have f2 : ((c : Int) == 95) = false := by simp; omega
                have f3 : ((c : Int) == 46) = false := by simp; omega
                go_wp2
                go_roundw
                case rel => exact ⟨pos + 1, by omega, yes_step HY HK.out, HI2.out, HB2.out⟩
                case measure =>
                  simp only [World.iterPos, HI2.out, HI.out]
                  omega
              · obtain rfl : c = 45 := a
                go_wp2
                go_roundw
                case rel => exact ⟨pos + 1, by omega, yes_step HY HK.out, HI2.out, HB2.out⟩
                case measure =>
                  simp only [World.iterPos, HI2.out, HI.out]
                  omega
              · obtain rfl : c = 95 := a
                go_wp2
                go_roundw
                case rel => exact ⟨pos + 1, by omega, yes_step HY HK.out, HI2.out, HB2.out⟩
                case measure =>
                  simp only [World.iterPos, HI2.out, HI.out]
                  omega
              · obtain rfl : c = 46 := a
                go_wp2
                go_roundw
                case rel => exact ⟨pos + 1, by omega, yes_step HY HK.out, HI2.out, HB2.out⟩
                case measure =>
                  simp only [World.iterPos, HI2.out, HI.out]
                  omega
            | false =>
              have HR := Lib.hid (mayName_no hp (by rw [← HBE.out]; exact hk))
              have hk2 := okC_no hk
              clear hk
              obtain a1 | a | ⟨a1, a2⟩ | ⟨a1, a2⟩ | a | a2 := hk2
              · have f1 : ((c : Int) == 45) = false := by simp; omega
                have f2 : ((c : Int) == 95) = false := by simp; omega
                have f3 : ((c : Int) == 46) = false := by simp; omega
                go_wp2
                go_ret
                exact ⟨by rw [HR.out]; rfl, HB2.out⟩
              · obtain rfl : c = 96 := a
                go_wp2
                go_ret
                exact ⟨by rw [HR.out]; rfl, HB2.out⟩
              · have f1 : ((c : Int) == 45) = false := by simp; omega
                have f2 : ((c : Int) == 95) = false := by simp; omega
                have f3 : ((c : Int) == 46) = false := by simp; omega
                go_wp2
                go_ret
                exact ⟨by rw [HR.out]; rfl, HB2.out⟩
              · have f1 : ((c : Int) == 45) = false := by simp; omega
                have f2 : ((c : Int) == 95) = false := by simp; omega
                have f3 : ((c : Int) == 46) = false := by simp; omega
                go_wp2
                go_ret
                exact ⟨by rw [HR.out]; rfl, HB2.out⟩
              · obtain rfl : c = 47 := a
                go_wp2
                go_ret
                exact ⟨by rw [HR.out]; rfl, HB2.out⟩
              · have f1 : ((c : Int) == 45) = false := by simp; omega
                have f2 : ((c : Int) == 95) = false := by simp; omega
                have f3 : ((c : Int) == 46) = false := by simp; omega
                go_wp2
                go_ret
                exact ⟨by rw [HR.out]; rfl, HB2.out⟩
          · have hd := (decode_high s pos hp (by omega)).1
            have hnx : ∀ ty, (Instr.next (.pointer (some ⟨w.heap.size, 0, none⟩)) true ty).run Try.prog wr = _ := fun ty => Lib.run_next_any_at wr w.heap.size s pos ty hit hp
            have HR := Lib.hid (mayName_no hp (by
              have h1 : 123 ≤ byteAt s pos := by rw [← byteAt_eq s pos hp]; omega
              cases hk : okC (byteAt s pos) with
              | false => rfl
              | true => have := okC_yes hk; omega))
            have HB2 := Lib.hid (Lib.below_iterAt hB (k := w.heap.size) (Nat.le_refl _) s (pos + (Utf8.decode s pos).2))
            generalize (Utf8.decode s pos).1 = c at hd hnx
            generalize (Utf8.decode s pos).2 = n at hnx HB2
            generalize hW : wr.iterAt w.heap.size s (pos + n) = W at *
            clear hW hB hit hsz hb
            have f1 : ((c : Int) == 45) = false := by simp; omega
            have f2 : ((c : Int) == 95) = false := by simp; omega
            have f3 : ((c : Int) == 46) = false := by simp; omega
            go_wp2
            go_ret
            exact ⟨by rw [HR.out]; rfl, HB2.out⟩
        · have hnx : ∀ ty, (Instr.next (.pointer (some ⟨w.heap.size, 0, none⟩)) true ty).run Try.prog wr = _ := fun ty => Lib.run_next_end_at wr w.heap.size s pos ty hit hp
          have HB := Lib.hid hB
          have HR := Lib.hid (mayName_yes (s := s) (by omega) hl' (fun j hj => HY.out j (by omega)))
          clear hB hit hsz
          go_wp2
          go_ret
          exact ⟨by rw [HR.out]; rfl, HB.out⟩

theorem mayN_any (n : Nm) (hn : n.length ≤ maxLen) (w : World) :
    Calls Try.prog 12 #[.string (S n)] w fun e w' => e = .returned (.bool (mayN n)) ∧ Below w.heap.size w w' := by
  have h := mayName_any (S n) hn w
  rwa [mayName_eq] at h
end Go.Proofs.Ytddjoealckhepaa.Disk
