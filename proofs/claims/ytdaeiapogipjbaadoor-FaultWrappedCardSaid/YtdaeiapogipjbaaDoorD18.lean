/-
  What is handed in: a slice of Wraps; how heavy it is; the error that it makes.
-/
import Derived.Test.YtdaeiapogipjbaaDoorD17
import Derived.StillTailTactics
namespace Go.Proofs.YtdaeiapogipjbaaDoor.Fault
open Go Go.RowKit

/-- a slice of Wraps, that reads as xs, below block B -/
def Wraps (w : World) (A : Option Addr) (xs : List Wr) (B : Nat) : Prop :=
  ∀ i (h : i < xs.length), ∃ b off, A = some ⟨b, off, none⟩ ∧ b < B ∧ w.cell? ⟨b, off + i * 3, none⟩ = some (.string xs[i].op) ∧ w.cell? ⟨b, off + i * 3 + 1, none⟩ = some (.string xs[i].nm) ∧
    w.cell? ⟨b, off + i * 3 + 2, none⟩ = some (.int .i64 xs[i].pl) ∧ (xs[i].op.size ≤ maxLen ∧ xs[i].nm.size ≤ maxLen ∧ -9223372036854775808 ≤ xs[i].pl ∧ xs[i].pl ≤ 9223372036854775807)
theorem Wraps.below {w w' : World} {A : Option Addr} {xs : List Wr} {B : Nat} (h : Wraps w A xs B) (hb : Below B w w') : Wraps w' A xs B := by
  intro i hi
  obtain ⟨b, off, hA, hB, c0, c1, c2, hok⟩ := h i hi
  exact ⟨b, off, hA, hB, (hb.cell (p := ⟨b, _, none⟩) hB).trans c0, (hb.cell (p := ⟨b, _, none⟩) hB).trans c1, (hb.cell (p := ⟨b, _, none⟩) hB).trans c2, hok⟩

/-- how heavy they are -/
def one (x : Wr) : Nat := 20 + min 5000 x.op.size + min 5000 x.nm.size
def tot (xs : List Wr) : Nat := (xs.map one).sum
theorem tot_take (xs : List Wr) (k : Nat) (h : k < xs.length) : tot (xs.take (k + 1)) = tot (xs.take k) + one xs[k] := by
  unfold tot
  rw [List.take_succ_eq_append_getElem h, List.map_append, List.sum_append]; simp
theorem tot_le (xs : List Wr) (k : Nat) : tot (xs.take k) ≤ tot xs := by
  unfold tot
  conv => rhs; rw [← List.take_append_drop k xs]
  rw [List.map_append, List.sum_append]; omega
theorem tot_len (xs : List Wr) : 20 * xs.length ≤ tot xs := by
  unfold tot
  induction xs with
  | nil => simp
  | cons x xs ih => simp [one]; omega
theorem tot_mem {xs : List Wr} {x : Wr} (h : x ∈ xs) : one x ≤ tot xs := by
  unfold tot
  induction xs with
  | nil => cases h
  | cons y xs ih =>
    rcases List.mem_cons.1 h with rfl | h
    · simp
    · have := ih h; simp; omega

theorem below_dn (n : Nat) (w : World) (z : Nat) : Below n w (w.drewN z) := ⟨rfl, rfl, rfl, Nat.le_refl _, fun _ _ => rfl⟩
theorem ret_bool {a b : Bool} (h : a = b) : Ending.returned (.bool a) = .returned (.bool b) := by rw [h]
set_option maxRecDepth 100000 in
set_option maxHeartbeats 1000000 in
theorem heavy_any (A : Option Addr) (cap : Nat) (xs : List Wr) (w : World) (hx : Wraps w A xs w.heap.size) (hl : xs.length ≤ cap) (hcap : cap ≤ maxLen) :
    Calls Tryd.prog 17 #[.slice A xs.length cap] w fun e w' => e = .returned (.bool (decide (5000 ≤ tot xs))) ∧ Below w.heap.size w w' := by
  unfold maxLen at hcap
  go_enter Tryd.func17, Tryd.ntmps17
  go_wp2_with fail
  go_loopw [3, 4] (fun n i wr => ∃ k z : Nat, k ≤ xs.length ∧ i = .int .i64 k ∧ n = .int .i64 ((tot (xs.take k) : Nat) : Int) ∧ wr = w.drewN z ∧ tot (xs.take k) ≤ 20000) (fun _ i _ => xs.length - (intOf i).toNat)
  case atStart => exact ⟨0, 0, Nat.zero_le _, rfl, rfl, rfl, by simp [tot]⟩
  case round =>
    obtain ⟨k, z, hk, rfl, rfl, rfl, hT2⟩ := hrel
    by_cases hlt : k < xs.length
    · obtain ⟨b, off, rfl, hB, c0, c1, c2, hok1, hok2, hok3⟩ := hx k hlt
      have HT := Lib.hid (tot_take xs k hlt)
      have HL := Lib.hid (tot_le xs k)
      generalize tot (xs.take k) = T at *
      generalize xs[k] = x at *
      unfold maxLen at hok1 hok2
      by_cases h20 : T < 5000
      · go_wp2_with fail
        go_region
        go_wp2_with fail
        go_roundw
        case rel =>
          have e1 : min 5000 (x.op.size : Int) = ((min 5000 x.op.size : Nat) : Int) := by omega
          have e2 : min 5000 (x.nm.size : Int) = ((min 5000 x.nm.size : Nat) : Int) := by omega
          have ht := HT.out
          unfold one at ht
          exact ⟨k + 1, z + 1, by omega, by go_num, congrArg (Value.int .i64) (by rw [ht, e1, e2]; omega), rfl, by rw [ht]; omega⟩
        case measure => simp [intOf] <;> omega
      · have hge : (5000 : Int) ≤ ((T : Nat) : Int) := by omega
        have HD : Hid (decide (5000 ≤ tot xs) = true) := by have := HL.out; exact decide_eq_true (by omega)
        go_wp2_with fail
        go_ret
        exact ⟨ret_bool (by first | (rw [HD.out]; done) | (rw [HD.out]; rfl) | (rw [HD.out]; exact decide_eq_true (by omega)) | (rw [HD.out]; exact decide_eq_false (by omega))), below_dn _ _ _⟩
    · obtain rfl : k = xs.length := by omega
      rw [List.take_length] at *
      by_cases h20 : 5000 ≤ tot xs
      · have HD : Hid (decide (5000 ≤ tot xs) = true) := decide_eq_true h20
        have hge : (5000 : Int) ≤ ((tot xs : Nat) : Int) := by omega
        go_wp2_with fail
        go_ret
        exact ⟨ret_bool (by first | (rw [HD.out]; done) | (rw [HD.out]; rfl) | (rw [HD.out]; exact decide_eq_true (by omega)) | (rw [HD.out]; exact decide_eq_false (by omega))), below_dn _ _ _⟩
      · have HD : Hid (decide (5000 ≤ tot xs) = false) := decide_eq_false h20
        have hge : ((tot xs : Nat) : Int) < (5000 : Int) := by omega
        go_wp2_with fail
        go_ret
        exact ⟨ret_bool (by first | (rw [HD.out]; done) | (rw [HD.out]; rfl) | (rw [HD.out]; exact decide_eq_true (by omega)) | (rw [HD.out]; exact decide_eq_false (by omega))), below_dn _ _ _⟩

/-! ### the error that it makes -/
set_option maxRecDepth 100000 in
set_option maxHeartbeats 1000000 in
theorem made_any (A : Option Addr) (cap : Nat) (xs : List Wr) (e : Int) (w : World) (hx : Wraps w A xs w.heap.size) (hl : xs.length ≤ cap) (hcap : cap ≤ maxLen) :
    Calls Tryd.prog 20 #[.slice A xs.length cap, .int .i64 e] w fun ev w' => ∃ v, ev = .returned v ∧ At w' v xs (numV e) ∧ v ≠ .nilIface ∧ Below w.heap.size w w' := by
  unfold maxLen at hcap
  have hmx : Tryd.prog.follows .mixedOrders = true := by kernel_rfl
  go_enter Tryd.func20, Tryd.ntmps20
  go_wp2_with fail
  go_loopw [5, 6] (fun v i wr => ∃ k : Nat, k ≤ xs.length ∧ i = .int .i64 ((k : Int) - 1) ∧ At wr v (xs.drop k) (numV e) ∧ v ≠ .nilIface ∧ Below w.heap.size w wr) (fun _ i _ => (intOf i + 1).toNat)
  case atStart => exact ⟨xs.length, Nat.le_refl _, by go_num, by rw [List.drop_length]; exact At.nil _ _, by simp, Below.refl _ _⟩
  case round =>
    obtain ⟨k, hk, rfl, hA, hv0, hB⟩ := hrel
    cases k with
    | zero =>
      rw [List.drop_zero] at hA
      have HA := Lib.hid hA
      have HB := Lib.hid hB
      have HV := Lib.hid hv0
      clear hA hB hv0
      go_wp2_with fail
      go_ret
      exact ⟨_, rfl, HA.out, HV.out, HB.out⟩
    | succ q =>
      have hq : q < xs.length := by omega
      obtain ⟨b, off, rfl, hbl, c0, c1, c2, hok⟩ := hx.below hB q hq
      have hdrop : xs.drop q = xs[q] :: xs.drop (q + 1) := List.drop_eq_getElem_cons hq
      have e1 : ((q + 1 : Nat) : Int) - 1 = (q : Int) := by omega
      have HD := Lib.hid hdrop
      have HA := Lib.hid hA
      have HB := Lib.hid hB
      have HV := Lib.hid hv0
      generalize xs[q] = x at c0 c1 c2 HD
      clear hA hB hdrop hok hx hv0
      simp only [e1]
      go_wp2_with fail
      go_still_tail 16, (by kernel_rfl)
      go_wp2_with (go_at_call 10; refine (wrap_any x (HA.out.below (below_drew _ _)) (ifc_num e) HV.out).mono ?_; rintro ev w2 ⟨rfl, hA2, hb2⟩; have HA2 := Lib.hid hA2; have HB2 := Lib.hid (HB.out.trans ((below_drew w.heap.size wr).trans (hb2.mono HB.out.size))); clear hA2 hb2)
      go_roundw
      case rel => exact ⟨q, by omega, by go_num, by rw [HD.out]; exact HA2.out, by simp, HB2.out⟩
      case measure => simp [intOf] <;> omega

end Go.Proofs.YtdaeiapogipjbaaDoor.Fault
