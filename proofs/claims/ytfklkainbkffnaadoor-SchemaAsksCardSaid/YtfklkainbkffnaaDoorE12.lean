/-
  The walks of slices.Equal, at numbers and at texts, and of Same.
-/
import Derived.Test.YtfklkainbkffnaaDoorE11
import Derived.StillTailTactics
namespace Go.Proofs.YtfklkainbkffnaaDoor.Schema
open Go Go.RowKit

def texts (xs : List ByteArray) : List Value := xs.map Value.string
theorem texts_at (xs : List ByteArray) (j : Nat) (h : j < xs.length) : (texts xs)[j]? = some (.string (xs.getD j ByteArray.empty)) := by
  unfold texts
  rw [List.getElem?_map, List.getElem?_eq_getElem h, List.getD_eq_getElem?_getD, List.getElem?_eq_getElem h]; rfl
theorem eq_of_getD {α : Type} (d : α) {xs ys : List α} (hl : xs.length = ys.length) (h : ∀ j, j < xs.length → xs.getD j d = ys.getD j d) : xs = ys := by
  apply List.ext_getElem hl
  intro j h1 h2
  have := h j h1
  rw [List.getD_eq_getElem?_getD, List.getD_eq_getElem?_getD, List.getElem?_eq_getElem h1, List.getElem?_eq_getElem h2] at this
  exact this
theorem ne_of_getD {α : Type} (d : α) {xs ys : List α} (j : Nat) (h : ¬ xs.getD j d = ys.getD j d) : ¬ xs = ys := fun e => h (by rw [e])
theorem all_step {p : Nat → Prop} {k : Nat} (h : Hid (∀ j, j < k → p j)) (hk : p k) : Hid (∀ j, j < k + 1 → p j) := fun j hj => by
  by_cases e : j = k
  · exact e ▸ hk
  · exact h j (by omega)

set_option maxRecDepth 100000 in
set_option maxHeartbeats 400000 in
theorem equal_nums (A B : Option Addr) (ca cb : Nat) (xs ys : List Int) (hl : xs.length ≤ 1000000) (hm : ys.length ≤ 1000000) (w : World) (hA : VAt w A (nums xs)) (hB : VAt w B (nums ys)) :
    Calls Tryd.prog 44 #[.slice A xs.length ca, .slice B ys.length cb] w fun e w' => e = .returned (.bool (decide (xs = ys))) ∧ Below w.heap.size w w' := by
  have HA := Lib.hid hA
  have HB := Lib.hid hB
  clear hA hB
  by_cases hn : xs.length = ys.length
  · have e1 : ((xs.length : Int) != (ys.length : Int)) = false := by rw [hn]; simp
    have e2 : (xs.length != ys.length) = false := by rw [hn]; simp
    have HN := Lib.hid hn
    have hn1 : xs.length ≤ ys.length := by omega
    have hn2 : ys.length ≤ xs.length := by omega
    clear hn
    go_enter Tryd.func44, Tryd.ntmps44
    go_wp2
    go_loopw [13] (fun i wr => ∃ k z : Nat, k ≤ xs.length ∧ i = .int .i64 k ∧ Hid (∀ j, j < k → xs.getD j 0 = ys.getD j 0) ∧ wr = w.drewN z) (fun i _ => xs.length - (intOf i).toNat)
    case atStart => exact ⟨0, 0, Nat.zero_le _, rfl, fun j hj => absurd hj (by omega), rfl⟩
    case round =>
      obtain ⟨k, z, hk, rfl, HY, rfl⟩ := hrel
      by_cases hp : k < xs.length
      · obtain ⟨b, o, rfl, c0⟩ := HA.out k _ (nums_at xs k hp)
        obtain ⟨b', o', rfl, c1⟩ := HB.out k _ (nums_at ys k (by omega))
        have HQ := Lib.hid (all_step (p := fun j => xs.getD j 0 = ys.getD j 0) HY)
        have HR := Lib.hid (ne_of_getD 0 (xs := xs) (ys := ys) k)
        generalize xs.getD k 0 = x at c0 HQ HR
        generalize ys.getD k 0 = y at c1 HQ HR
        have z0 : (0 : Int) ≤ (k : Int) := by omega
        have z1 : (k : Int) < (xs.length : Int) := by omega
        have z2 : (k : Int) < (ys.length : Int) := by omega
        clear HY
        by_cases hq : x = y
        · have HQ2 := Lib.hid (HQ.out hq)
          have e3 : (x != y) = false := by rw [hq]; simp
          clear hq HQ HR
          go_wp2_with fail
          go_quiet (fail)
          go_wp2_with fail
          go_roundw
          case rel => exact ⟨k + 1, _, by omega, by go_num, HQ2.out, rfl⟩
          case measure => simp [intOf] <;> omega
        · have HR2 := Lib.hid (decide_eq_false (HR.out hq))
          have e3 : (x != y) = true := by simpa using hq
          clear hq HQ HR
          go_wp2_with fail
          go_quiet (fail)
          go_wp2_with fail
          go_ret
          exact ⟨by rw [HR2.out]; rfl, (below_dn _ w _).trans (below_dn _ _ _)⟩
      · have HR := Lib.hid (decide_eq_true (eq_of_getD 0 HN.out (fun j hj => HY.out j (by omega))))
        go_wp2
        go_ret
        exact ⟨by rw [HR.out]; rfl, below_dn _ _ _⟩
  · have e1 : ((xs.length : Int) != (ys.length : Int)) = true := by simp; omega
    have e2 : (xs.length != ys.length) = true := by simpa using hn
    have HR := Lib.hid (decide_eq_false (show ¬ xs = ys from fun e => hn (by rw [e])))
    clear hn
    go_enter Tryd.func44, Tryd.ntmps44
    go_wp2
    go_ret
    exact ⟨by rw [HR.out]; rfl, Below.refl _ _⟩

set_option maxRecDepth 100000 in
set_option maxHeartbeats 400000 in
theorem equal_texts (A B : Option Addr) (ca cb : Nat) (xs ys : List ByteArray) (hl : xs.length ≤ 1000000) (hm : ys.length ≤ 1000000) (w : World) (hA : VAt w A (texts xs)) (hB : VAt w B (texts ys)) :
    Calls Tryd.prog 45 #[.slice A xs.length ca, .slice B ys.length cb] w fun e w' => e = .returned (.bool (decide (xs = ys))) ∧ Below w.heap.size w w' := by
  have HA := Lib.hid hA
  have HB := Lib.hid hB
  clear hA hB
  by_cases hn : xs.length = ys.length
  · have e1 : ((xs.length : Int) != (ys.length : Int)) = false := by rw [hn]; simp
    have e2 : (xs.length != ys.length) = false := by rw [hn]; simp
    have HN := Lib.hid hn
    have hn1 : xs.length ≤ ys.length := by omega
    have hn2 : ys.length ≤ xs.length := by omega
    clear hn
    go_enter Tryd.func45, Tryd.ntmps45
    go_wp2
    go_loopw [13] (fun i wr => ∃ k z : Nat, k ≤ xs.length ∧ i = .int .i64 k ∧ Hid (∀ j, j < k → xs.getD j ByteArray.empty = ys.getD j ByteArray.empty) ∧ wr = w.drewN z) (fun i _ => xs.length - (intOf i).toNat)
    case atStart => exact ⟨0, 0, Nat.zero_le _, rfl, fun j hj => absurd hj (by omega), rfl⟩
    case round =>
      obtain ⟨k, z, hk, rfl, HY, rfl⟩ := hrel
      by_cases hp : k < xs.length
      · obtain ⟨b, o, rfl, c0⟩ := HA.out k _ (texts_at xs k hp)
        obtain ⟨b', o', rfl, c1⟩ := HB.out k _ (texts_at ys k (by omega))
        have HQ := Lib.hid (all_step (p := fun j => xs.getD j ByteArray.empty = ys.getD j ByteArray.empty) HY)
        have HR := Lib.hid (ne_of_getD ByteArray.empty (xs := xs) (ys := ys) k)
        generalize xs.getD k ByteArray.empty = x at c0 HQ HR
        generalize ys.getD k ByteArray.empty = y at c1 HQ HR
        have z0 : (0 : Int) ≤ (k : Int) := by omega
        have z1 : (k : Int) < (xs.length : Int) := by omega
        have z2 : (k : Int) < (ys.length : Int) := by omega
        clear HY
        by_cases hq : x = y
        · have HQ2 := Lib.hid (HQ.out hq)
          have e3 : (x.toList != y.toList) = false := by rw [hq]; simp
          have e4 : (x.toList == y.toList) = true := by rw [hq]; simp
          clear hq HQ HR
          go_wp2_with fail
          go_quiet (fail)
          go_wp2_with fail
          go_roundw
          case rel => exact ⟨k + 1, _, by omega, by go_num, HQ2.out, rfl⟩
          case measure => simp [intOf] <;> omega
        · have HR2 := Lib.hid (decide_eq_false (HR.out hq))
          have e4 : (x.toList == y.toList) = false := by rw [str_eq]; exact decide_eq_false hq
          have e3 : (x.toList != y.toList) = true := by unfold bne; rw [e4]; rfl
          clear hq HQ HR
          go_wp2_with fail
          go_quiet (fail)
          go_wp2_with fail
          go_ret
          exact ⟨by rw [HR2.out]; rfl, (below_dn _ w _).trans (below_dn _ _ _)⟩
      · have HR := Lib.hid (decide_eq_true (eq_of_getD ByteArray.empty HN.out (fun j hj => HY.out j (by omega))))
        go_wp2
        go_ret
        exact ⟨by rw [HR.out]; rfl, below_dn _ _ _⟩
  · have e1 : ((xs.length : Int) != (ys.length : Int)) = true := by simp; omega
    have e2 : (xs.length != ys.length) = true := by simpa using hn
    have HR := Lib.hid (decide_eq_false (show ¬ xs = ys from fun e => hn (by rw [e])))
    clear hn
    go_enter Tryd.func45, Tryd.ntmps45
    go_wp2
    go_ret
    exact ⟨by rw [HR.out]; rfl, Below.refl _ _⟩

end Go.Proofs.YtfklkainbkffnaaDoor.Schema
