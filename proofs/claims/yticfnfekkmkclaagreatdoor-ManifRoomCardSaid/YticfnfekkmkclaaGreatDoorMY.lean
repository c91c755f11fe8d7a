import Derived.Test.YticfnfekkmkclaaGreatDoorOP
import Derived.BigRegion
import Derived.BigQuiet
/-
  Are files more than a statement goes over?
-/
namespace Go.Proofs.YticfnfekkmkclaaGreatDoor.Manif
open Go Go.RowKit
open Go.Proofs.YticfnfekkmkclaaGreatDoor.Disk (Fi RowF S S_size)

/-- how much one file counts -/
def cntF (x : Fi) : Nat := 1 + min x.n.length 20001 + min x.d.length 20001 + min x.p.length 20001
/-- how much so many files count -/
def cntN (l : List Fi) : Nat := (l.map cntF).sum
def Fit (l : List Fi) : Prop := ∀ x ∈ l, x.n.length ≤ maxLen ∧ x.d.length ≤ maxLen ∧ x.p.length ≤ maxLen
theorem cntN_take (l : List Fi) (j : Nat) (h : j < l.length) : cntN (l.take (j + 1)) = cntN (l.take j) + cntF (l[j]'h) := by
  rw [List.take_succ_eq_append_getElem h]; unfold cntN; rw [List.map_append, List.sum_append, List.map_cons, List.map_nil, List.sum_cons, List.sum_nil]; omega
def manyB (l : List Fi) : Bool := decide (20000 < cntN l)
theorem cntN_mono (l : List Fi) (j : Nat) : cntN (l.take j) ≤ cntN l := by
  have h : cntN (l.take j) + cntN (l.drop j) = cntN l := by
    conv => rhs; rw [← List.take_append_drop j l]
    unfold cntN; rw [List.map_append, List.sum_append]
  omega
theorem minS (s : List UInt8) : min ((S s).size : Int) 20001 = ((min s.length 20001 : Nat) : Int) := by rw [S_size]; omega
set_option maxRecDepth 100000 in
set_option maxHeartbeats 2000000 in
theorem many_any (w : World) (A : Option Addr) (cap : Nat) (l : List Fi) (hl : l.length ≤ maxLen) (hx : RowF w A l) :
    Calls Tryz.prog 20 #[.slice A l.length cap] w fun e w' => e = .returned (.bool (manyB l)) ∧ Below w.heap.size w w' := by
  have HX := Lib.hid hx
  have HL := Lib.hid hl
  clear hx hl
  go_enter Tryz.func20, Tryz.ntmps20
  go_wp2_with fail
  go_loopw [3, 4] (fun x y wr => ∃ (j n : Nat), j ≤ l.length ∧ x = .int .i64 (n : Int) ∧ y = .int .i64 (j : Int) ∧ Hid (n = cntN (l.take j) ∧ n ≤ 100000) ∧ Hid (Below w.heap.size w wr)) (fun _ y _ => l.length - (intOf y).toNat)
  case atStart => exact ⟨0, 0, Nat.zero_le _, rfl, rfl, Lib.hid ⟨rfl, by omega⟩, Lib.hid (Below.refl _ _)⟩
  case round =>
    obtain ⟨j, n, hj, rfl, rfl, HN, HB⟩ := hrel
    by_cases hlt : j < l.length
    · have e1 : decide ((j : Int) < (l.length : Int)) = true := decide_eq_true (by omega)
      by_cases hn : n ≤ 20000
      · have e2 : decide ((n : Int) ≤ 20000) = true := decide_eq_true (by omega)
        obtain ⟨B, off, rfl, hbb, d0, d1, d2⟩ := HX.out.below HB.out j hlt
        have HLT := Lib.hid hlt
        have HT := Lib.hid (cntN_take l j hlt)
        have HI1 := Lib.hid (show wrap64 ((j : Int) + 1) = (j : Int) + 1 from IntWalk.wrap64_in _ ⟨by omega, by have := HL.out; unfold maxLen at this; omega⟩)
        have g1 : (0 : Int) ≤ (j : Int) := by omega
        have g2 : (j : Int) < (l.length : Int) := by omega
        have m0 := minS (l[j]'hlt).n
        have m1 := minS (l[j]'hlt).d
        have m2 := minS (l[j]'hlt).p
        have HC := Lib.hid (show cntF (l[j]'hlt) = 1 + min (l[j]'hlt).n.length 20001 + min (l[j]'hlt).d.length 20001 + min (l[j]'hlt).p.length 20001 from rfl)
        have b0 : min (l[j]'hlt).n.length 20001 ≤ 20001 := Nat.min_le_right _ _
        have b1 : min (l[j]'hlt).d.length 20001 ≤ 20001 := Nat.min_le_right _ _
        have b2 : min (l[j]'hlt).p.length 20001 ≤ 20001 := Nat.min_le_right _ _
        generalize min (l[j]'hlt).n.length 20001 = q0 at *
        generalize min (l[j]'hlt).d.length 20001 = q1 at *
        generalize min (l[j]'hlt).p.length 20001 = q2 at *
        generalize cntF (l[j]'hlt) = cc at *
        generalize S (l[j]'hlt).n = T0 at *
        generalize S (l[j]'hlt).d = T1 at *
        generalize S (l[j]'hlt).p = T2 at *
        have s1 : IntKind.i64.wrap ((n : Int) + 1) = (n : Int) + 1 := by rw [IntKind.wrap_i64]; omega
        have s2 : IntKind.i64.wrap ((n : Int) + 1 + (q0 : Int)) = (n : Int) + 1 + (q0 : Int) := by rw [IntKind.wrap_i64]; omega
        have s3 : IntKind.i64.wrap ((n : Int) + 1 + (q0 : Int) + (q1 : Int)) = (n : Int) + 1 + (q0 : Int) + (q1 : Int) := by rw [IntKind.wrap_i64]; omega
        have s4 : IntKind.i64.wrap ((n : Int) + 1 + (q0 : Int) + (q1 : Int) + (q2 : Int)) = (n : Int) + 1 + (q0 : Int) + (q1 : Int) + (q2 : Int) := by rw [IntKind.wrap_i64]; omega
        go_wp2_with fail
        go_region
        all_goals
          go_wp2_with fail
          go_roundw
          case rel => exact ⟨j + 1, n + cc, HLT.out, by have := HC.out; rw [show ((n + cc : Nat) : Int) = (n : Int) + 1 + (q0 : Int) + (q1 : Int) + (q2 : Int) by omega], by rw [HI1.out]; rfl, Lib.hid ⟨by rw [HT.out, ← HN.out.1], by have := HC.out; omega⟩, Lib.hid (by first | exact HB.out.drew | exact HB.out | exact HB.out.trans ⟨rfl, rfl, rfl, Nat.le_refl _, fun _ _ => rfl⟩)⟩
          case measure =>
            rw [HI1.out]
            show l.length - ((j : Int) + 1).toNat < l.length - (j : Int).toNat
            have := HLT.out; omega
      · have e2 : decide ((n : Int) ≤ 20000) = false := decide_eq_false (by omega)
        have e3 : decide (20000 < (n : Int)) = true := decide_eq_true (by omega)
        have HV := Lib.hid (show manyB l = true from decide_eq_true (by have := HN.out.1; have := cntN_mono l j; omega))
        clear hj hn
        go_wp2_with fail
        go_ret
        exact ⟨by rw [HV.out]; rfl, HB.out⟩
    · have e1 : decide ((j : Int) < (l.length : Int)) = false := decide_eq_false (by omega)
      obtain rfl : j = l.length := by omega
      have e3 : decide (20000 < (n : Int)) = manyB l := by
        unfold manyB
        have := HN.out.1
        rw [List.take_length] at this
        rw [← this]
        exact decide_eq_decide.2 (by omega)
      clear hj hlt
      go_wp2_with fail
      go_ret
      exact ⟨by first | rfl | simp [e3], HB.out⟩
theorem few_len {l : List Fi} (h : manyB l = false) : l.length ≤ 20000 ∧ ∀ x ∈ l, x.n.length ≤ 20000 ∧ x.d.length ≤ 20000 ∧ x.p.length ≤ 20000 := by
  have h1 : cntN l ≤ 20000 := by have := of_decide_eq_false h; omega
  clear h
  induction l with
  | nil => exact ⟨Nat.zero_le _, fun x hx => by cases hx⟩
  | cons x r ih =>
    have h2 : cntN (x :: r) = cntF x + cntN r := by unfold cntN; rw [List.map_cons, List.sum_cons]
    have h3 : cntF x = 1 + min x.n.length 20001 + min x.d.length 20001 + min x.p.length 20001 := rfl
    have h4 : r.length ≤ cntN r := by
      clear ih h1 h2 h3
      induction r with
      | nil => exact Nat.zero_le _
      | cons y s ih2 =>
        have : cntN (y :: s) = cntF y + cntN s := by unfold cntN; rw [List.map_cons, List.sum_cons]
        have : 1 ≤ cntF y := by unfold cntF; omega
        rw [List.length_cons]; omega
    have hr := (ih (by omega)).2
    refine ⟨by rw [List.length_cons]; omega, fun y hy => ?_⟩
    rcases List.mem_cons.1 hy with rfl | hy
    · omega
    · exact hr y hy
end Go.Proofs.YticfnfekkmkclaaGreatDoor.Manif
