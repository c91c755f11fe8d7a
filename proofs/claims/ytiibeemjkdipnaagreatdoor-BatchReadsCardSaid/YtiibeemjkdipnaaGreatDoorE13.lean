import Derived.Test.YtiibeemjkdipnaaGreatDoorE9
import Derived.StillTailTactics
/-
  The walks of fit and MayName.
-/
namespace Go.Proofs.YtiibeemjkdipnaaGreatDoor.Schema
open Go Go.RowKit

def byteAt (s : ByteArray) (j : Nat) : Nat := (s.data.toList.getD j 0).toNat
theorem byteAt_eq (s : ByteArray) (j : Nat) (h : j < s.size) : (s[j]'h).toNat = byteAt s j := by
  unfold byteAt
  rw [List.getD_eq_getElem?_getD, List.getElem?_eq_getElem (show j < s.data.toList.length from h)]; rfl
theorem byteAt_lt (s : ByteArray) (j : Nat) : byteAt s j < 256 := UInt8.toNat_lt _
theorem ascii_at {s : ByteArray} (h : ascii s) (j : Nat) (hj : j < s.size) : byteAt s j < 128 := by
  rw [← byteAt_eq s j hj]
  exact h _ (by rw [ByteArray.getElem_eq_getElem_data]; exact Array.getElem_mem_toList _)
def nums (xs : List Int) : List Value := xs.map (Value.int .i64)
theorem nums_at (xs : List Int) (j : Nat) (h : j < xs.length) : (nums xs)[j]? = some (.int .i64 (xs.getD j 0)) := by
  unfold nums
  rw [List.getElem?_map, List.getElem?_eq_getElem h, List.getD_eq_getElem?_getD, List.getElem?_eq_getElem h]; rfl
/-- numbers of 64 bits -/
def Fits64 (xs : List Int) : Prop := ∀ x ∈ xs, -9223372036854775808 ≤ x ∧ x ≤ 9223372036854775807
theorem Fits64.at {xs : List Int} (h : Fits64 xs) (j : Nat) : -9223372036854775808 ≤ xs.getD j 0 ∧ xs.getD j 0 ≤ 9223372036854775807 := by
  rw [List.getD_eq_getElem?_getD]
  cases e : xs[j]? with
  | none => decide
  | some x => exact h x (List.mem_of_getElem? e)
/-- whether numbers are of these classes -/
def fitB (v : Int) (s : ByteArray) (xs : List Int) : Bool := decide (xs.length = s.size) && (List.range s.size).all fun j => fits v (byteAt s j) (xs.getD j 0)
theorem fitB_yes {v : Int} {s : ByteArray} {xs : List Int} (hl : xs.length = s.size) (h : ∀ j, j < s.size → fits v (byteAt s j) (xs.getD j 0) = true) : fitB v s xs = true := by
  unfold fitB
  rw [decide_eq_true hl, Bool.true_and, List.all_eq_true]
  exact fun j hj => h j (List.mem_range.1 hj)
theorem fitB_no {v : Int} {s : ByteArray} {xs : List Int} {j : Nat} (hj : j < s.size) (h : fits v (byteAt s j) (xs.getD j 0) = false) : fitB v s xs = false := by
  unfold fitB
  rw [show ((List.range s.size).all fun j => fits v (byteAt s j) (xs.getD j 0)) = false from List.all_eq_false.2 ⟨j, List.mem_range.2 hj, by rw [h]; simp⟩, Bool.and_false]
theorem fitB_len {v : Int} {s : ByteArray} {xs : List Int} (hl : ¬ xs.length = s.size) : fitB v s xs = false := by
  unfold fitB
  rw [decide_eq_false hl, Bool.false_and]
theorem yes_step {p : Nat → Bool} {k : Nat} (h : Hid (∀ j, j < k → p j = true)) (hk : p k = true) : Hid (∀ j, j < k + 1 → p j = true) := fun j hj => by
  by_cases e : j = k
  · exact e ▸ hk
  · exact h j (by omega)

set_option maxRecDepth 100000 in
set_option maxHeartbeats 400000 in
theorem fit_any (v : Nat) (hv : v < 256) (s : ByteArray) (hs : okL s) (A : Option Addr) (cap : Nat) (xs : List Int) (hx : Fits64 xs) (hl : xs.length ≤ 140737488355328) (w : World) (E : Env w) (hA : VAt w A (nums xs)) :
    Calls Tryz.prog 69 #[.int .u8 v, .string s, .slice A xs.length cap] w fun e w' => e = .returned (.bool (fitB v s xs)) ∧ Below w.heap.size w w' := by
  have HE := Lib.hid E
  have HA := Lib.hid hA
  have HX := Lib.hid hx
  have HS := Lib.hid hs.2
  have hs1 := hs.1
  clear E hA hx hs
  by_cases hn : xs.length = s.size
  · have e1 : ((xs.length : Int) != (s.size : Int)) = false := by rw [hn]; simp
    have e2 : (xs.length != s.size) = false := by rw [hn]; simp
    have HN := Lib.hid hn
    have hn' : s.size ≤ xs.length := by omega
    clear hn
    go_enter Tryz.func69, Tryz.ntmps69
    go_wp2
    go_loopw [] (fun wr => ∃ pos : Nat, pos ≤ s.size ∧ Hid (∀ j, j < pos → fits v (byteAt s j) (xs.getD j 0) = true) ∧ wr.heap[w.heap.size]? = some (.stringIter s pos) ∧ Below w.heap.size w wr) (fun wr => s.size - wr.iterPos w.heap.size)
    case atStart => exact ⟨0, Nat.zero_le _, fun j hj => absurd hj (by omega), World.iter_heap w s 0, (Below.refl _ _).alloc (Nat.le_refl _) _⟩
    case round =>
      obtain ⟨pos, hpos, HY, hit, hB⟩ := hrel
      have hsz : w.heap.size < wr.heap.size := (Array.getElem?_eq_some_iff.1 hit).1
      by_cases hp : pos < s.size
      · have hb : (s[pos]'hp).toNat < 128 := by rw [byteAt_eq]; exact ascii_at HS.out pos hp
        have hnx : ∀ ty, (Instr.next (.pointer (some ⟨w.heap.size, 0, none⟩)) true ty).run Tryz.prog wr = _ := fun ty => Lib.run_next_ascii_at wr w.heap.size s pos ty hit hp hb
        have HBE := Lib.hid (byteAt_eq s pos hp)
        obtain ⟨b, o, rfl, c0⟩ := HA.out pos _ (nums_at xs pos (by omega))
        have hbw := cell_lt c0
        have HXP := Lib.hid (HX.out.at pos)
        have HI := Lib.hid hit
        have hB2 := Lib.below_iterAt hB (k := w.heap.size) (Nat.le_refl _) s (pos + 1)
        have HI2 := Lib.hid (Lib.iterAt_heap wr w.heap.size s pos (pos + 1) hit)
        have hsz2 : w.heap.size < (wr.iterAt w.heap.size s (pos + 1)).heap.size := by rw [Lib.iterAt_size]; omega
        generalize hc : (s[pos]'hp).toNat = c at hb hnx HBE
        clear hc
        generalize hW : wr.iterAt w.heap.size s (pos + 1) = W at *
        have HW := Lib.hid hW
        have c1 := (hB2.cell (p := ⟨b, o + pos, none⟩) hbw).trans c0
        have HB2 := Lib.hid hB2
        have z0 : (0 : Int) ≤ (pos : Int) := by omega
        have z1 : (pos : Int) < (xs.length : Int) := by omega
        clear hB hit hsz hW hB2 c0
        cases hf : fits v (byteAt s pos) (xs.getD pos 0) with
        | true =>
          have HF := Lib.hid hf
          clear hf
          generalize hx0 : xs.getD pos 0 = x at c1 HXP
          have HX0 := Lib.hid hx0
          clear hx0
          go_wp2_with (go_at_call 92; refine (fits_any v c x (by omega) (by omega) HXP.out _ (HE.out.below HB2.out)).mono ?_; rintro e w3 ⟨rfl, hb3⟩; rw [HBE.out, ← HX0.out, HF.out]; have HB3 := Lib.hid hb3; clear hb3)
          have HI3 := Lib.hid ((HB3.out.block _ hsz2).trans HI2.out)
          go_roundw
          case rel => exact ⟨pos + 1, by omega, yes_step HY HF.out, HI3.out, below_step HB2.out HB3.out⟩
          case measure =>
            simp only [World.iterPos, HI3.out, HI.out]
            omega
        | false =>
          have HF := Lib.hid hf
          have HR := Lib.hid (fitB_no hp hf)
          clear hf
          generalize hx0 : xs.getD pos 0 = x at c1 HXP
          have HX0 := Lib.hid hx0
          clear hx0
          go_wp2_with (go_at_call 92; refine (fits_any v c x (by omega) (by omega) HXP.out _ (HE.out.below HB2.out)).mono ?_; rintro e w3 ⟨rfl, hb3⟩; rw [HBE.out, ← HX0.out, HF.out]; have HB3 := Lib.hid hb3; clear hb3)
          go_ret
          exact ⟨by rw [HR.out]; rfl, below_step HB2.out HB3.out⟩
      · have hnx : ∀ ty, (Instr.next (.pointer (some ⟨w.heap.size, 0, none⟩)) true ty).run Tryz.prog wr = _ := fun ty => Lib.run_next_end_at wr w.heap.size s pos ty hit hp
        have HB := Lib.hid hB
        have HR := Lib.hid (fitB_yes HN.out (fun j hj => HY.out j (by omega)))
        clear hB hit hsz
        go_wp2
        go_ret
        exact ⟨by rw [HR.out]; rfl, HB.out⟩
  · have e1 : ((xs.length : Int) != (s.size : Int)) = true := by simp; omega
    have e2 : (xs.length != s.size) = true := by simpa using hn
    have HR := Lib.hid (fitB_len (v := v) hn)
    clear hn
    go_enter Tryz.func69, Tryz.ntmps69
    go_wp2
    go_ret
    exact ⟨by rw [HR.out]; rfl, Below.refl _ _⟩

end Go.Proofs.YtiibeemjkdipnaaGreatDoor.Schema

/-
  The walk of MayName.
-/
namespace Go.Proofs.YtiibeemjkdipnaaGreatDoor.Schema
open Go Go.RowKit

/-- a letter of a name -/
def okC (c : Nat) : Bool := decide (97 ≤ c ∧ c ≤ 122) || decide (48 ≤ c ∧ c ≤ 57) || decide (c = 45) || decide (c = 95)
/-- whether a text is a name -/
def mayName (s : ByteArray) : Bool := decide (1 ≤ s.size) && decide (s.size ≤ 24) && (List.range s.size).all fun j => okC (byteAt s j)
theorem mayName_yes {s : ByteArray} (h1 : 1 ≤ s.size) (h2 : s.size ≤ 24) (h : ∀ j, j < s.size → okC (byteAt s j) = true) : mayName s = true := by
  unfold mayName
  rw [decide_eq_true h1, decide_eq_true h2, Bool.true_and, Bool.true_and, List.all_eq_true]
  exact fun j hj => h j (List.mem_range.1 hj)
theorem mayName_no {s : ByteArray} {j : Nat} (hj : j < s.size) (h : okC (byteAt s j) = false) : mayName s = false := by
  unfold mayName
  rw [show ((List.range s.size).all fun j => okC (byteAt s j)) = false from List.all_eq_false.2 ⟨j, List.mem_range.2 hj, by rw [h]; simp⟩, Bool.and_false]
theorem mayName_len {s : ByteArray} (h : ¬ (1 ≤ s.size ∧ s.size ≤ 24)) : mayName s = false := by
  unfold mayName
  by_cases h1 : 1 ≤ s.size
  · rw [decide_eq_false (show ¬ s.size ≤ 24 from fun h2 => h ⟨h1, h2⟩)]; simp
  · rw [decide_eq_false h1]; simp
theorem okC_iff {c : Nat} : okC c = true ↔ (97 ≤ c ∧ c ≤ 122) ∨ (48 ≤ c ∧ c ≤ 57) ∨ c = 45 ∨ c = 95 := by unfold okC; simp [or_assoc]
theorem okC_yes {c : Nat} (h : okC c = true) : (97 ≤ c ∧ c ≤ 122) ∨ (48 ≤ c ∧ c ≤ 57) ∨ c = 45 ∨ c = 95 := okC_iff.1 h
theorem okC_no {c : Nat} (h : okC c = false) : (123 ≤ c) ∨ c = 96 ∨ (58 ≤ c ∧ c ≤ 94) ∨ (46 ≤ c ∧ c ≤ 47) ∨ c ≤ 44 := by
  have : ¬ ((97 ≤ c ∧ c ≤ 122) ∨ (48 ≤ c ∧ c ≤ 57) ∨ c = 45 ∨ c = 95) := fun h1 => by rw [okC_iff.2 h1] at h; cases h
  omega

set_option maxRecDepth 100000 in
set_option maxHeartbeats 1000000 in
theorem mayName_any (s : ByteArray) (hsz0 : s.size ≤ maxLen) (w : World) :
    Calls Tryz.prog 70 #[.string s] w fun e w' => e = .returned (.bool (mayName s)) ∧ Below w.heap.size w w' := by
  unfold maxLen at hsz0
  by_cases hz : s.size = 0
  · have hE : s.toList = [] := by rw [ByteArray.toList_eq]; exact List.eq_nil_of_length_eq_zero hz
    have HR := Lib.hid (mayName_len (s := s) (by omega))
    clear hz
    go_enter Tryz.func70, Tryz.ntmps70
    go_wp2
    go_ret
    exact ⟨by rw [HR.out]; rfl, Below.refl _ _⟩
  · have hE0 : s.toList.isEmpty = false := by rw [size_pos_iff]; simp; omega
    have hE : ¬ s.toList = [] := by intro h; rw [h] at hE0; cases hE0
    by_cases hl : 24 < s.size
    · have HR := Lib.hid (mayName_len (s := s) (by omega))
      clear hz
      go_enter Tryz.func70, Tryz.ntmps70
      go_wp2
      go_ret
      exact ⟨by rw [HR.out]; rfl, Below.refl _ _⟩
    · have hl' : s.size ≤ 24 := by omega
      clear hl
      go_enter Tryz.func70, Tryz.ntmps70
      go_wp2
      go_loopw [] (fun wr => ∃ pos : Nat, pos ≤ s.size ∧ Hid (∀ j, j < pos → okC (byteAt s j) = true) ∧ wr.heap[w.heap.size]? = some (.stringIter s pos) ∧ Below w.heap.size w wr) (fun wr => s.size - wr.iterPos w.heap.size)
      case atStart => exact ⟨0, Nat.zero_le _, fun j hj => absurd hj (by omega), World.iter_heap w s 0, (Below.refl _ _).alloc (Nat.le_refl _) _⟩
      case round =>
        obtain ⟨pos, hpos, HY, hit, hB⟩ := hrel
        have hsz : w.heap.size < wr.heap.size := (Array.getElem?_eq_some_iff.1 hit).1
        by_cases hp : pos < s.size
        · by_cases hb : (s[pos]'hp).toNat < 128
          · have hnx : ∀ ty, (Instr.next (.pointer (some ⟨w.heap.size, 0, none⟩)) true ty).run Tryz.prog wr = _ := fun ty => Lib.run_next_ascii_at wr w.heap.size s pos ty hit hp hb
            have HBE := Lib.hid (byteAt_eq s pos hp)
            have HI := Lib.hid hit
            have HI2 := Lib.hid (Lib.iterAt_heap wr w.heap.size s pos (pos + 1) hit)
            have HB2 := Lib.hid (Lib.below_iterAt hB (k := w.heap.size) (Nat.le_refl _) s (pos + 1))
            generalize hc : (s[pos]'hp).toNat = c at hb hnx HBE
            generalize hW : wr.iterAt w.heap.size s (pos + 1) = W at *
            clear hc hW hB hit hsz
            cases hk : okC c with
            | true =>
              have hk2 := okC_yes hk
              have HK : Hid (okC (byteAt s pos) = true) := by rw [← HBE.out]; exact hk
              clear hk
              obtain ⟨a1, a2⟩ | ⟨a1, a2⟩ | a | a := hk2
              · have f1 : ((c : Int) == 45) = false := by simp; omega
                have f2 : ((c : Int) == 95) = false := by simp; omega
                go_wp2
                go_roundw
                case rel => exact ⟨pos + 1, by omega, yes_step HY HK.out, HI2.out, HB2.out⟩
                case measure =>
                  simp only [World.iterPos, HI2.out, HI.out]
                  omega
              · have f1 : ((c : Int) == 45) = false := by simp; omega
                have f2 : ((c : Int) == 95) = false := by simp; omega
                go_wp2
                go_roundw
                case rel => exact ⟨pos + 1, by omega, yes_step HY HK.out, HI2.out, HB2.out⟩
                case measure =>
                  simp only [World.iterPos, HI2.out, HI.out]
                  omega
              · obtain rfl : c = 45 := a
                go_wp2
                go_roundw
                case rel => exact ⟨pos + 1, by omega, yes_step HY HK.out, HI2.out, HB2.out⟩
                case measure =>
                  simp only [World.iterPos, HI2.out, HI.out]
                  omega
              · obtain rfl : c = 95 := a
                go_wp2
                go_roundw
                case rel => exact ⟨pos + 1, by omega, yes_step HY HK.out, HI2.out, HB2.out⟩
                case measure =>
                  simp only [World.iterPos, HI2.out, HI.out]
                  omega
            | false =>
              have HR := Lib.hid (mayName_no hp (by rw [← HBE.out]; exact hk))
              have hk2 := okC_no hk
              clear hk
              obtain a1 | a | ⟨a1, a2⟩ | ⟨a1, a2⟩ | a2 := hk2
              · have f1 : ((c : Int) == 45) = false := by simp; omega
                have f2 : ((c : Int) == 95) = false := by simp; omega
                go_wp2
                go_ret
                exact ⟨by rw [HR.out]; rfl, HB2.out⟩
              · obtain rfl : c = 96 := a
                go_wp2
                go_ret
                exact ⟨by rw [HR.out]; rfl, HB2.out⟩
              · have f1 : ((c : Int) == 45) = false := by simp; omega
                have f2 : ((c : Int) == 95) = false := by simp; omega
                go_wp2
                go_ret
                exact ⟨by rw [HR.out]; rfl, HB2.out⟩
              · have f1 : ((c : Int) == 45) = false := by simp; omega
                have f2 : ((c : Int) == 95) = false := by simp; omega
                go_wp2
                go_ret
                exact ⟨by rw [HR.out]; rfl, HB2.out⟩
              · have f1 : ((c : Int) == 45) = false := by simp; omega
                have f2 : ((c : Int) == 95) = false := by simp; omega
                go_wp2
                go_ret
                exact ⟨by rw [HR.out]; rfl, HB2.out⟩
          · have hd := (decode_high s pos hp (by omega)).1
            have hnx : ∀ ty, (Instr.next (.pointer (some ⟨w.heap.size, 0, none⟩)) true ty).run Tryz.prog wr = _ := fun ty => Lib.run_next_any_at wr w.heap.size s pos ty hit hp
            have HR := Lib.hid (mayName_no hp (by
              have h1 : 123 ≤ byteAt s pos := by rw [← byteAt_eq s pos hp]; omega
              cases hk : okC (byteAt s pos) with
              | false => rfl
              | true => have := okC_yes hk; omega))
            have HB2 := Lib.hid (Lib.below_iterAt hB (k := w.heap.size) (Nat.le_refl _) s (pos + (Utf8.decode s pos).2))
            generalize (Utf8.decode s pos).1 = c at hd hnx
            generalize (Utf8.decode s pos).2 = n at hnx HB2
            generalize hW : wr.iterAt w.heap.size s (pos + n) = W at *
            clear hW hB hit hsz hb
            have f1 : ((c : Int) == 45) = false := by simp; omega
            have f2 : ((c : Int) == 95) = false := by simp; omega
            go_wp2
            go_ret
            exact ⟨by rw [HR.out]; rfl, HB2.out⟩
        · have hnx : ∀ ty, (Instr.next (.pointer (some ⟨w.heap.size, 0, none⟩)) true ty).run Tryz.prog wr = _ := fun ty => Lib.run_next_end_at wr w.heap.size s pos ty hit hp
          have HB := Lib.hid hB
          have HR := Lib.hid (mayName_yes (s := s) (by omega) hl' (fun j hj => HY.out j (by omega)))
          clear hB hit hsz
          go_wp2
          go_ret
          exact ⟨by rw [HR.out]; rfl, HB.out⟩

end Go.Proofs.YtiibeemjkdipnaaGreatDoor.Schema

/-
  The walks of slices.Equal, at numbers and at texts, and of Same.
-/
namespace Go.Proofs.YtiibeemjkdipnaaGreatDoor.Schema
open Go Go.RowKit

def texts (xs : List ByteArray) : List Value := xs.map Value.string
theorem texts_at (xs : List ByteArray) (j : Nat) (h : j < xs.length) : (texts xs)[j]? = some (.string (xs.getD j ByteArray.empty)) := by
  unfold texts
  rw [List.getElem?_map, List.getElem?_eq_getElem h, List.getD_eq_getElem?_getD, List.getElem?_eq_getElem h]; rfl
theorem eq_of_getD {α : Type} (d : α) {xs ys : List α} (hl : xs.length = ys.length) (h : ∀ j, j < xs.length → xs.getD j d = ys.getD j d) : xs = ys := by
  apply List.ext_getElem hl
  intro j h1 h2
  have := h j h1
  rw [List.getD_eq_getElem?_getD, List.getD_eq_getElem?_getD, List.getElem?_eq_getElem h1, List.getElem?_eq_getElem h2] at this
  exact this
theorem ne_of_getD {α : Type} (d : α) {xs ys : List α} (j : Nat) (h : ¬ xs.getD j d = ys.getD j d) : ¬ xs = ys := fun e => h (by rw [e])
theorem all_step {p : Nat → Prop} {k : Nat} (h : Hid (∀ j, j < k → p j)) (hk : p k) : Hid (∀ j, j < k + 1 → p j) := fun j hj => by
  by_cases e : j = k
  · exact e ▸ hk
  · exact h j (by omega)

end Go.Proofs.YtiibeemjkdipnaaGreatDoor.Schema

/-
  The walks of May, Same and MayCommand.
-/
namespace Go.Proofs.YtiibeemjkdipnaaGreatDoor.Schema
open Go Go.RowKit

/-- an event -/
structure Ev where
  v : Nat
  k : Nat
  ns : List Int
  ts : List ByteArray
/-- an event as it is handed over -/
def evV (A : Option Addr) (ca : Nat) (B : Option Addr) (cb : Nat) (e : Ev) : Value := .agg #[.int .u8 e.v, .int .u8 e.k, .slice A e.ns.length ca, .slice B e.ts.length cb]
/-- what lies in its slices -/
structure EvAt (w : World) (A : Option Addr) (ca : Nat) (B : Option Addr) (cb : Nat) (e : Ev) : Prop where
  v : e.v < 256
  k : e.k < 256
  fit : Fits64 e.ns
  txt : ∀ t ∈ e.ts, t.size ≤ maxLen
  ns : VAt w A (nums e.ns)
  ts : VAt w B (texts e.ts)
  nA : A = none → ca = 0
  nB : B = none → cb = 0
  lA : e.ns.length ≤ ca
  lB : e.ts.length ≤ cb
theorem EvAt.below {w w' : World} {A B : Option Addr} {ca cb : Nat} {e : Ev} (h : EvAt w A ca B cb e) (hb : Below w.heap.size w w') : EvAt w' A ca B cb e := { h with ns := h.ns.below hb, ts := h.ts.below hb }
/-- whether an event has its texts -/
def mayT (k : Nat) (ts : List ByteArray) : Bool := if tru k then decide (ts.length = 1) && mayName (ts.getD 0 ByteArray.empty) else decide (ts.length = 0)
/-- whether an event may be -/
def may (e : Ev) : Bool := tall e.v e.k && fitB e.v (lets e.v e.k) e.ns && mayT e.k e.ts
theorem ret_bool {a b : Bool} (h : a = b) : Ending.returned (.bool a) = .returned (.bool b) := by rw [h]
theorem int_beq (n m : Nat) : ((n : Int) == (m : Int)) = decide (n = m) := by
  rw [Bool.eq_iff_iff, beq_iff_eq, decide_eq_true_iff]; omega
/-- four cells of a new block -/
theorem box4 (w : World) (a b c d : Value) (T : TypeId) : (w.alloc (.cells #[a, b, c, d] T)).cell? ⟨w.heap.size, 0, none⟩ = some a ∧ (w.alloc (.cells #[a, b, c, d] T)).cell? ⟨w.heap.size, 1, none⟩ = some b ∧ (w.alloc (.cells #[a, b, c, d] T)).cell? ⟨w.heap.size, 2, none⟩ = some c ∧ (w.alloc (.cells #[a, b, c, d] T)).cell? ⟨w.heap.size, 3, none⟩ = some d := by
  have h : ∀ j, (w.alloc (.cells #[a, b, c, d] T)).cell? ⟨w.heap.size, j, none⟩ = #[a, b, c, d][j]? := fun j => by
    unfold World.cell?
    rw [show (w.alloc _).heap[(⟨w.heap.size, j, none⟩ : Addr).block]? = _ from (MapKept.heap_alloc w _).1]
    rfl
  exact ⟨h 0, h 1, h 2, h 3⟩
theorem mem_getD {ts : List ByteArray} (h : ∀ t ∈ ts, t.size ≤ maxLen) (j : Nat) : (ts.getD j ByteArray.empty).size ≤ maxLen := by
  rw [List.getD_eq_getElem?_getD]
  cases e : ts[j]? with
  | none => exact Nat.zero_le _
  | some x => exact h x (List.mem_of_getElem? e)

set_option maxRecDepth 100000 in
set_option maxHeartbeats 1000000 in
theorem may_big (A : Option Addr) (ca : Nat) (B : Option Addr) (cb : Nat) (e : Ev) (hl : e.ns.length ≤ 140737488355328) (w : World) (E : Env w) (hA : EvAt w A ca B cb e) :
    Calls Tryz.prog 42 #[evV A ca B cb e] w fun z w' => z = .returned (.bool (may e)) ∧ Below w.heap.size w w' := by
  have HM := Lib.hid (show may e = (tall e.v e.k && fitB e.v (lets e.v e.k) e.ns && mayT e.k e.ts) from rfl)
  have HO := Lib.hid (lets_ok e.v e.k)
  have HT := Lib.hid (show tall e.v e.k = decide (0 < (lets e.v e.k).size) from rfl)
  have hv := hA.v
  have hk := hA.k
  have HX := Lib.hid hA.fit
  have HTx := Lib.hid hA.txt
  have HNs := Lib.hid hA.ns
  have HTs := Lib.hid hA.ts
  have HE := Lib.hid E
  have HLt := Lib.hid (fun h : tall e.v e.k = true => tall_lt h)
  have HF := Lib.hid (fun W (EW : Env W) => fields_any e.v e.k hv hk W EW)
  obtain ⟨v, k, ns, ts⟩ := e
  simp only [evV] at *
  have HA0 := Lib.hid ((Below.refl w.heap.size w).alloc (Nat.le_refl _) (.cells #[.int .u8 v, .int .u8 k, .slice A ns.length ca, .slice B ts.length cb] 39))
  have HB4 := Lib.hid (box4 w (.int .u8 v) (.int .u8 k) (.slice A ns.length ca) (.slice B ts.length cb) 39)
  clear E hA
  generalize hs : lets v k = s at HM HO HT HF
  clear hs
  cases ht : tall v k with
  | false =>
    have e0 : s.toList.isEmpty = true := by rw [size_pos_iff, ← HT.out, ht]; rfl
    have e1 : s.toList = [] := List.isEmpty_iff.1 e0
    have HR : Hid (may ⟨v, k, ns, ts⟩ = false) := by rw [HM.out, ht]; simp [Hid]
    clear ht HM HT
    go_enter Tryz.func42, Tryz.ntmps42
    go_wp2_with (go_at_call 68; refine (HF.out _ (HE.out.below HA0.out)).mono ?_; rintro z w' ⟨rfl, rfl⟩)
    go_ret
    exact ⟨by rw [HR.out]; rfl, HA0.out⟩
  | true =>
    have e0 : s.toList.isEmpty = false := by rw [size_pos_iff, ← HT.out, ht]; rfl
    have e1 : ¬ s.toList = [] := by intro h; rw [h] at e0; cases e0
    have hlt := HLt.out ht
    have HM2 : Hid (may ⟨v, k, ns, ts⟩ = (fitB v s ns && mayT k ts)) := by rw [HM.out, ht]; simp [Hid]
    have HG := Lib.hid (fun W (EW : Env W) (hW : VAt W A (nums ns)) => fit_any v hv s HO.out A ca ns HX.out hl W EW hW)
    clear ht HM HT HLt
    cases hf : fitB v s ns with
    | false =>
      have HR : Hid (may ⟨v, k, ns, ts⟩ = false) := by rw [HM2.out, hf]; simp [Hid]
      have HFF := Lib.hid hf
      clear hf HM2
      go_enter Tryz.func42, Tryz.ntmps42
      go_wp2_with (first
        | (go_at_call 68; refine (HF.out _ (HE.out.below HA0.out)).mono ?_; rintro z w' ⟨rfl, rfl⟩)
        | (go_at_call 69; refine (HG.out _ (HE.out.below HA0.out) (HNs.out.below HA0.out)).mono ?_; rintro z w' ⟨rfl, hb⟩; rw [HFF.out]; have HB := Lib.hid (below_step HA0.out hb); clear hb))
      go_ret
      exact ⟨by rw [HR.out]; rfl, HB.out⟩
    | true =>
      have HFF := Lib.hid hf
      have HM3 : Hid (may ⟨v, k, ns, ts⟩ = mayT k ts) := by rw [HM2.out, hf]; simp [Hid]
      clear hf HM2
      have z0 : (0 : Int) ≤ (k : Int) := by omega
      have z1 : (k : Int) < 24 := by omega
      cases ht : tru k with
      | false =>
        have HTT := Lib.hid (show (evAt k).text = false from ht)
        have HR : Hid (may ⟨v, k, ns, ts⟩ = decide (ts.length = 0)) := by rw [HM3.out]; unfold mayT; rw [ht]; rfl
        clear ht HM3
        go_enter Tryz.func42, Tryz.ntmps42
        go_wp2_with (first
          | (go_at_call 68; refine (HF.out _ (HE.out.below HA0.out)).mono ?_; rintro z w' ⟨rfl, rfl⟩)
          | (go_at_call 69; refine (HG.out _ (HE.out.below HA0.out) (HNs.out.below HA0.out)).mono ?_; rintro z w' ⟨rfl, hb⟩; rw [HFF.out]; have HB := Lib.hid (below_step HA0.out hb); have b1 := cell_kept HB4.out.2.1 hb; have b3 := cell_kept HB4.out.2.2.2 hb; have c4 := ((HE.out.below HB.out).f k hlt).2.2.2.2; rw [HTT.out] at c4; clear hb))
        go_ret
        exact ⟨ret_bool (by rw [HR.out]; exact int_beq _ 0), HB.out⟩
      | true =>
        have HTT := Lib.hid (show (evAt k).text = true from ht)
        have HR : Hid (may ⟨v, k, ns, ts⟩ = (decide (ts.length = 1) && mayName (ts.getD 0 ByteArray.empty))) := by rw [HM3.out]; unfold mayT; rw [ht]; rfl
        clear ht HM3
        by_cases h1 : ts.length = 1
        · obtain ⟨b', o', rfl, c0⟩ := HTs.out 0 _ (texts_at ts 0 (by omega))
          have HNm := Lib.hid (fun W => mayName_any (ts.getD 0 ByteArray.empty) (mem_getD HTx.out 0) W)
          have HR2 : Hid (may ⟨v, k, ns, ts⟩ = mayName (ts.getD 0 ByteArray.empty)) := by rw [HR.out, decide_eq_true h1]; rfl
          have c0' : w.cell? ⟨b', o', none⟩ = some (.string (ts.getD 0 ByteArray.empty)) := c0
          generalize ts.getD 0 ByteArray.empty = t at c0' HNm HR2
          have C0 := Lib.hid c0'
          have e5 : ((ts.length : Int) == 1) = true := by rw [h1]; rfl
          have z2 : (0 : Int) < (ts.length : Int) := by omega
          clear c0 c0' h1
          go_enter Tryz.func42, Tryz.ntmps42
          go_wp2_with (first
            | (go_at_call 68; refine (HF.out _ (HE.out.below HA0.out)).mono ?_; rintro z w' ⟨rfl, rfl⟩)
            | (go_at_call 69; refine (HG.out _ (HE.out.below HA0.out) (HNs.out.below HA0.out)).mono ?_; rintro z w' ⟨rfl, hb⟩; rw [HFF.out]; have HB := Lib.hid (below_step HA0.out hb); have b1 := cell_kept HB4.out.2.1 hb; have b3 := cell_kept HB4.out.2.2.2 hb; have c4 := ((HE.out.below HB.out).f k hlt).2.2.2.2; rw [HTT.out] at c4; have c5 := cell_kept C0.out HB.out; clear hb)
            | (go_at_call 70; refine (HNm.out _).mono ?_; rintro z w4 ⟨rfl, hb⟩; have HB2 := Lib.hid (below_step HB.out hb); clear hb))
          go_ret
          exact ⟨ret_bool (by rw [HR2.out]), HB2.out⟩
        · have HR2 : Hid (may ⟨v, k, ns, ts⟩ = false) := by rw [HR.out, decide_eq_false h1]; rfl
          have e5 : ((ts.length : Int) == 1) = false := by simp; omega
          clear h1
          go_enter Tryz.func42, Tryz.ntmps42
          go_wp2_with (first
            | (go_at_call 68; refine (HF.out _ (HE.out.below HA0.out)).mono ?_; rintro z w' ⟨rfl, rfl⟩)
            | (go_at_call 69; refine (HG.out _ (HE.out.below HA0.out) (HNs.out.below HA0.out)).mono ?_; rintro z w' ⟨rfl, hb⟩; rw [HFF.out]; have HB := Lib.hid (below_step HA0.out hb); have b1 := cell_kept HB4.out.2.1 hb; have b3 := cell_kept HB4.out.2.2.2 hb; have c4 := ((HE.out.below HB.out).f k hlt).2.2.2.2; rw [HTT.out] at c4; clear hb))
          go_ret
          exact ⟨ret_bool (by rw [HR2.out]), HB.out⟩

theorem may_any (A : Option Addr) (ca : Nat) (B : Option Addr) (cb : Nat) (e : Ev) (hl : e.ns.length ≤ 1000000) (w : World) (E : Env w) (hA : EvAt w A ca B cb e) :
    Calls Tryz.prog 42 #[evV A ca B cb e] w fun z w' => z = .returned (.bool (may e)) ∧ Below w.heap.size w w' := may_big A ca B cb e (by omega) w E hA
/-- whether events are the same -/
def same (a b : Ev) : Bool := decide (a.v = b.v) && decide (a.k = b.k) && decide (a.ns = b.ns) && decide (a.ts = b.ts)
end Go.Proofs.YtiibeemjkdipnaaGreatDoor.Schema
