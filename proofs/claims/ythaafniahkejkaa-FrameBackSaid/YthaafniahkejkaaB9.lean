/-
  The Reader: what it has in memory; what looks at it; 'take'.
-/
import Derived.Test.YthaafniahkejkaaB8
namespace Go.Proofs.Ythaafniahkejkaa.Wire
open Go.RowKit

def rdS (s : ByteArray) (i e : Nat) : Array Value := #[.string s, .int .i64 (i : Int), .int .i64 (e : Int)]
/-- the Reader at r: of s the first i bytes were taken, the error is e -/
def Rd (w : World) (r : Nat) (s : ByteArray) (i e : Nat) : Prop := w.heap[r]? = some (.cells (rdS s i e) 80 (0, 0))
/-- only the Reader at r has changed -/
def Step (w w' : World) (r : Nat) (s : ByteArray) (i e : Nat) : Prop := Rd w' r s i e ∧ w.grownBy w' (some r)
theorem grown_refl (w : World) (r : Nat) : w.grownBy w (some r) := ⟨rfl, rfl, rfl, Nat.le_refl _, fun _ _ _ => rfl⟩
theorem grown_drewN {w w' : World} {r : Nat} (h : w.grownBy w' (some r)) (n : Nat) : w.grownBy (w'.drewN n) (some r) := ⟨h.os, h.tape, h.output, h.size, h.block⟩
theorem grown_trans {a b c : World} {r : Nat} (h : a.grownBy b (some r)) (k : b.grownBy c (some r)) : a.grownBy c (some r) :=
  ⟨k.os.trans h.os, k.tape.trans h.tape, k.output.trans h.output, Nat.le_trans h.size k.size, fun i hi hn => (k.block i (Nat.lt_of_lt_of_le hi h.size) hn).trans (h.block i hi hn)⟩
theorem grown_below {w w' : World} {r : Nat} (h : Below w.heap.size w w') : w.grownBy w' (some r) := ⟨h.os, h.tape, h.output, h.size, fun i hi _ => h.block i hi⟩
theorem Step.refl {w : World} {r : Nat} {s : ByteArray} {i e : Nat} (h : Rd w r s i e) : Step w w r s i e := ⟨h, grown_refl _ _⟩
theorem Step.drewN {w w' : World} {r : Nat} {s : ByteArray} {i e : Nat} (h : Step w w' r s i e) (n : Nat) : Step w (w'.drewN n) r s i e := ⟨h.1, grown_drewN h.2 n⟩
theorem Step.trans {a b c : World} {r : Nat} {s t : ByteArray} {i e j f : Nat} (h : Step a b r s i e) (k : Step b c r t j f) : Step a c r t j f := ⟨k.1, grown_trans h.2 k.2⟩
theorem Step.below {a b c : World} {r : Nat} {s : ByteArray} {i e : Nat} (h : Step a b r s i e) (k : Below b.heap.size b c) : Step a c r s i e := ⟨(k.block r (row_lt h.1)).trans h.1, grown_trans h.2 (grown_below k)⟩
theorem step_set {w : World} {r : Nat} {s : ByteArray} {i e : Nat} (h : Rd w r s i e) (j : Nat) (v : Value) {i' e' : Nat} (hv : (rdS s i e).setIfInBounds j v = rdS s i' e') : Step w (w.setCell ⟨r, j, none⟩ v) r s i' e' :=
  ⟨by have := heap_set h j v; rw [hv] at this; exact this, ⟨rfl, rfl, rfl, by simp [World.setCell], fun k _ hn => Below.heap_setCell w _ v k (fun e => hn (by rw [e]))⟩⟩

theorem new_any (s : ByteArray) (w : World) :
    Calls Try.prog 21 #[.string s] w fun e w' => e = .returned (.pointer (some ⟨w.heap.size, 0, none⟩)) ∧ w' = w.alloc (.cells (rdS s 0 0) 80) := by
  go_enter Try.func21, Try.ntmps21
  go_wp2_with fail
  go_ret
  exact ⟨rfl, rfl⟩
theorem Rd.new (s : ByteArray) (w : World) : Rd (w.alloc (.cells (rdS s 0 0) 80)) w.heap.size s 0 0 := heap_alloc_new w _

theorem at_any (r : Nat) (s : ByteArray) (i e : Nat) (w : World) (h : Rd w r s i e) :
    Calls Try.prog 29 #[.pointer (some ⟨r, 0, none⟩)] w fun x w' => x = .returned (.int .i64 (i : Int)) ∧ w = w' := by
  have c1 : w.cell? ⟨r, 1, none⟩ = some (.int .i64 (i : Int)) := cell_row h 1
  clear h
  go_enter Try.func29, Try.ntmps29
  go_wp2_with fail
  go_ret
  exact ⟨rfl, rfl⟩
theorem at_nil (w : World) : Calls Try.prog 29 #[.pointer none] w fun x w' => x = .returned (.int .i64 0) ∧ w = w' := by
  go_enter Try.func29, Try.ntmps29
  go_wp2_with fail
  go_ret
  exact ⟨rfl, rfl⟩
set_option maxHeartbeats 400000 in
theorem left_any (r : Nat) (s : ByteArray) (i e : Nat) (w : World) (h : Rd w r s i e) (hi : i ≤ s.size) (hs : s.size ≤ 1000000000000) :
    Calls Try.prog 55 #[.pointer (some ⟨r, 0, none⟩)] w fun x w' => x = .returned (.int .i64 ((s.size : Int) - (i : Int))) ∧ ∃ n, w' = w.drewN n := by
  have c0 : w.cell? ⟨r, 0, none⟩ = some (.string s) := cell_row h 0
  have c1 : w.cell? ⟨r, 1, none⟩ = some (.int .i64 (i : Int)) := cell_row h 1
  have hw : IntKind.i64.wrap ((s.size : Int) - (i : Int)) = (s.size : Int) - (i : Int) := IntWalk.i64_in _ (by omega)
  clear h
  go_enter Try.func55, Try.ntmps55
  go_wp2_with fail
  go_quiet (fail)
  go_wp2_with fail
  go_ret
  exact ⟨rfl, _, rfl⟩
theorem left_nil (w : World) : Calls Try.prog 55 #[.pointer none] w fun x w' => x = .returned (.int .i64 0) ∧ w = w' := by
  go_enter Try.func55, Try.ntmps55
  go_wp2_with fail
  go_ret
  exact ⟨rfl, rfl⟩
theorem open_yes (r : Nat) (s : ByteArray) (i : Nat) (w : World) (h : Rd w r s i 0) :
    Calls Try.prog 54 #[.pointer (some ⟨r, 0, none⟩)] w fun x w' => x = .returned (.bool true) ∧ w = w' := by
  have c2 : w.cell? ⟨r, 2, none⟩ = some (.int .i64 0) := cell_row h 2
  clear h
  go_enter Try.func54, Try.ntmps54
  go_wp2_with fail
  go_ret
  exact ⟨rfl, rfl⟩
theorem open_no (r : Nat) (s : ByteArray) (i e : Nat) (w : World) (h : Rd w r s i e) (he : e ≠ 0) :
    Calls Try.prog 54 #[.pointer (some ⟨r, 0, none⟩)] w fun x w' => x = .returned (.bool false) ∧ w = w' := by
  have c2 : w.cell? ⟨r, 2, none⟩ = some (.int .i64 (e : Int)) := cell_row h 2
  have hb : ((e : Int) == 0) = false := by rw [beq_eq_false_iff_ne]; omega
  clear h he
  go_enter Try.func54, Try.ntmps54
  go_wp2_with fail
  go_ret
  exact ⟨rfl, rfl⟩
theorem open_nil (w : World) : Calls Try.prog 54 #[.pointer none] w fun x w' => x = .returned (.bool false) ∧ w = w' := by
  go_enter Try.func54, Try.ntmps54
  go_wp2_with fail
  go_ret
  exact ⟨rfl, rfl⟩
def errAt (i e : Nat) : Nat := if e = 0 then 0 else i
set_option maxHeartbeats 400000 in
theorem err_any (r : Nat) (s : ByteArray) (i e : Nat) (w : World) (h : Rd w r s i e) :
    Calls Try.prog 25 #[.pointer (some ⟨r, 0, none⟩)] w fun x w' => x = .returned (.tuple #[.int .i64 (e : Int), .int .i64 (errAt i e : Int)]) ∧ ∃ n, w' = w.drewN n := by
  have c1 : w.cell? ⟨r, 1, none⟩ = some (.int .i64 (i : Int)) := cell_row h 1
  have c2 : w.cell? ⟨r, 2, none⟩ = some (.int .i64 (e : Int)) := cell_row h 2
  by_cases he : e = 0
  · subst he
    clear h
    go_enter Try.func25, Try.ntmps25
    go_wp2_with fail
    go_ret2
    exact ⟨rfl, 0, rfl⟩
  · have hb : ((e : Int) == 0) = false := by rw [beq_eq_false_iff_ne]; omega
    have hE : Hid (errAt i e = i) := if_neg he
    clear h he
    go_enter Try.func25, Try.ntmps25
    go_wp2_with fail
    go_quiet (fail)
    go_wp2_with fail
    go_ret2
    exact ⟨by rw [hE.out]; rfl, _, rfl⟩
theorem err_nil (w : World) : Calls Try.prog 25 #[.pointer none] w fun x w' => x = .returned (.tuple #[.int .i64 2, .int .i64 0]) ∧ w = w' := by
  go_enter Try.func25, Try.ntmps25
  go_wp2_with fail
  go_ret2
  exact ⟨rfl, rfl⟩
def endE (s : ByteArray) (i e : Nat) : Nat := if e = 0 ∧ i < s.size then 4 else e
/-! ### take -/
theorem take_nil (n : Int) (w : World) : Calls Try.prog 44 #[.pointer none, .int .i64 n] w fun x w' => x = .returned (.string ⟨#[]⟩) ∧ w = w' := by
  go_enter Try.func44, Try.ntmps44
  go_wp2_with fail
  refine (open_nil w).mono ?_; rintro e w1 ⟨rfl, rfl⟩
  go_wp2_with fail
  go_ret
  exact ⟨rfl, rfl⟩
theorem take_wrong (r : Nat) (s : ByteArray) (i e : Nat) (n : Int) (w : World) (h : Rd w r s i e) (he : e ≠ 0) :
    Calls Try.prog 44 #[.pointer (some ⟨r, 0, none⟩), .int .i64 n] w fun x w' => x = .returned (.string ⟨#[]⟩) ∧ w = w' := by
  go_enter Try.func44, Try.ntmps44
  go_wp2_with fail
  refine (open_no r s i e w h he).mono ?_; rintro e w1 ⟨rfl, rfl⟩
  go_wp2_with fail
  go_ret
  exact ⟨rfl, rfl⟩
set_option maxHeartbeats 400000 in
theorem take_short (r : Nat) (s : ByteArray) (i : Nat) (n : Int) (w : World) (h : Rd w r s i 0) (hi : i ≤ s.size) (hs : s.size ≤ 1000000000000) (hn : (s.size : Int) - (i : Int) < n) :
    Calls Try.prog 44 #[.pointer (some ⟨r, 0, none⟩), .int .i64 n] w fun x w' => x = .returned (.string ⟨#[]⟩) ∧ Step w w' r s i 8 := by
  have c2 : w.cell? ⟨r, 2, none⟩ = some (.int .i64 0) := cell_row h 2
  have f2 := frozen_row h 2
  go_enter Try.func44, Try.ntmps44
  go_wp2_with fail
  refine (open_yes r s i w h).mono ?_; rintro e w1 ⟨rfl, rfl⟩
  go_wp2_with fail
  refine (left_any r s i 0 w h hi hs).mono ?_; rintro e w1 ⟨rfl, n1, rfl⟩
  go_wp2_with fail
  go_ret
  exact ⟨rfl, ((Step.refl h).drewN n1).trans (step_set (w := w.drewN n1) h 2 _ rfl)⟩
set_option maxHeartbeats 400000 in
theorem take_ok (r : Nat) (s : ByteArray) (i : Nat) (n : Nat) (w : World) (h : Rd w r s i 0) (hi : i + n ≤ s.size) (hs : s.size ≤ 1000000000000) :
    Calls Try.prog 44 #[.pointer (some ⟨r, 0, none⟩), .int .i64 (n : Int)] w fun x w' => x = .returned (.string (s.extract i (i + n))) ∧ Step w w' r s (i + n) 0 := by
  have c0 : w.cell? ⟨r, 0, none⟩ = some (.string s) := cell_row h 0
  have c1 : w.cell? ⟨r, 1, none⟩ = some (.int .i64 (i : Int)) := cell_row h 1
  have f1 := frozen_row h 1
  have hg : (n : Int) ≤ (s.size : Int) - (i : Int) := by omega
  go_enter Try.func44, Try.ntmps44
  go_wp2_with fail
  refine (open_yes r s i w h).mono ?_; rintro e w1 ⟨rfl, rfl⟩
  go_wp2_with fail
  refine (left_any r s i 0 w h (by omega) hs).mono ?_; rintro e w1 ⟨rfl, n1, rfl⟩
  go_wp2_with fail
  have HS : Hid (Step w ((w.drewN n1).setCell ⟨r, 1, none⟩ (.int .i64 ((i : Int) + (n : Int)))) r s (i + n) 0) := ((Step.refl h).drewN n1).trans (step_set (w := w.drewN n1) h 1 _ rfl)
  generalize (w.drewN n1).setCell ⟨r, 1, none⟩ (.int .i64 ((i : Int) + (n : Int))) = W at *
  have k0 : W.cell? ⟨r, 0, none⟩ = some (.string s) := cell_row HS.out.1 0
  have k1 : W.cell? ⟨r, 1, none⟩ = some (.int .i64 ((i : Int) + (n : Int))) := cell_row HS.out.1 1
  clear c0 c1 f1 h
  have hsub : IntKind.i64.wrap ((i : Int) + (n : Int) - (n : Int)) = (i : Int) := by rw [IntWalk.i64_in _ (by omega)]; omega
  have b0 : (0 : Int) ≤ (i : Int) := by omega
  have b1 : (i : Int) ≤ (i : Int) + (n : Int) := by omega
  have b2 : (i : Int) + (n : Int) ≤ (s.size : Int) := by omega
  have b3 : ((i : Int) + (n : Int)).toNat = i + n := by omega
  go_quiet (fail)
  go_wp2_with fail
  go_ret
  exact ⟨rfl, HS.out.drewN _⟩

end Go.Proofs.Ythaafniahkejkaa.Wire
