import Derived.Test.YtkccdffccjgajaaGreatDoorNQ
/-
  The laws' own helpers: many, texts.
-/
namespace Go.Proofs.YtkccdffccjgajaaGreatDoor.Seg
open Go Go.RowKit
open Go.Proofs.YtkccdffccjgajaaGreatDoor.Wire (S S_list S_size S_append cell_row frozen_row row_lt heap_set U)
open Go.Proofs.YtkccdffccjgajaaGreatDoor.Frame Go.Proofs.YtkccdffccjgajaaGreatDoor.Ranges

/-! ### many -/
def sumM : List ByteArray → Nat
  | [] => 0
  | x :: r => 1 + min x.size 20001 + sumM r
theorem sumM_take (xs : List ByteArray) (j : Nat) (h : j < xs.length) : sumM (xs.take (j + 1)) = sumM (xs.take j) + (1 + min (xs[j]'h).size 20001) := by
  induction xs generalizing j with
  | nil => simp at h
  | cons x r ih =>
    cases j with
    | zero => simp [sumM]
    | succ j =>
      have := ih j (by simpa using h)
      simp only [List.take_succ_cons, sumM, List.getElem_cons_succ]
      omega
theorem sumM_small (xs : List ByteArray) (h : sumM xs ≤ 20000) : xs.length ≤ 20000 ∧ ∀ j (hj : j < xs.length), xs[j].size ≤ 20000 := by
  have key : xs.length ≤ sumM xs ∧ ∀ j (hj : j < xs.length), min xs[j].size 20001 ≤ sumM xs := by
    clear h
    induction xs with
    | nil => exact ⟨Nat.zero_le _, fun j hj => absurd hj (Nat.not_lt_zero _)⟩
    | cons x r ih =>
      obtain ⟨h1, h2⟩ := ih
      refine ⟨by rw [List.length_cons, sumM]; omega, fun j hj => ?_⟩
      cases j with
      | zero => rw [sumM, List.getElem_cons_zero]; omega
      | succ j => have := h2 j (by simpa using hj); rw [sumM, List.getElem_cons_succ]; omega
  refine ⟨Nat.le_trans key.1 h, fun j hj => ?_⟩
  have := key.2 j hj
  omega
set_option maxRecDepth 100000 in
set_option maxHeartbeats 2000000 in
theorem many_any (A : Option Addr) (cap : Nat) (xs : List ByteArray) (hl : xs.length ≤ maxLen) (w : World) (hx : Strs w A xs) :
    Calls Tryz.prog 30 #[.slice A xs.length cap] w fun e w' => e = .returned (.bool (decide (20000 < sumM xs))) ∧ w = w' := by
  have HX := Lib.hid hx
  have HL := Lib.hid hl
  clear hx hl
  go_enter Tryz.func30, Tryz.ntmps30
  go_wp2_with fail
  go_loopw [3, 4] (fun z y wr => ∃ j n : Nat, j ≤ xs.length ∧ z = .int .i64 (n : Int) ∧ y = .int .i64 (j : Int) ∧ Hid (n = sumM (xs.take j)) ∧ Hid (n ≤ 50000) ∧ wr = w) (fun _ y _ => xs.length - (intOf y).toNat)
  case atStart => exact ⟨0, 0, Nat.zero_le _, rfl, rfl, Lib.hid rfl, Lib.hid (by decide), rfl⟩
  case round =>
    obtain ⟨j, n, hj, rfl, rfl, HN, HN5, rfl⟩ := hrel
    by_cases hgo : j < xs.length ∧ n ≤ 20000
    · as_aux_lemma =>
        obtain ⟨hlt, hn⟩ := hgo
        obtain ⟨b, o, rfl, hb, hsz, c0⟩ := HX.out j hlt
        have HST := Lib.hid (sumM_take xs j hlt)
        have HLT := Lib.hid hlt
        have HI1 := Lib.hid (show wrap64 ((j : Int) + 1) = (j : Int) + 1 from IntWalk.wrap64_in _ ⟨by omega, by have := HL.out; unfold maxLen at this; omega⟩)
        have e1 : decide ((j : Int) < (xs.length : Int)) = true := decide_eq_true (by omega)
        have e2 : decide ((n : Int) ≤ 20000) = true := decide_eq_true (by omega)
        have e3 : decide (n ≤ 20000) = true := decide_eq_true hn
        have HH1 := Lib.hid (show wrap64 ((n : Int) + 1) = (n : Int) + 1 from IntWalk.wrap64_in _ ⟨by omega, by omega⟩)
        obtain ⟨m, hm⟩ : ∃ m, min (xs[j]'hlt).size 20001 = m := ⟨_, rfl⟩
        have hm2 : m ≤ 20001 := by omega
        rw [hm] at HST
        have HS2 := Lib.hid (show wrap64 ((n : Int) + 1 + (m : Int)) = ((n + (1 + m) : Nat) : Int) by
          rw [show (n : Int) + 1 + (m : Int) = ((n + (1 + m) : Nat) : Int) by omega]
          exact IntWalk.wrap64_in _ ⟨by omega, by omega⟩)
        have HN2 := Lib.hid (show n + (1 + m) = sumM (xs.take (j + 1)) by rw [HST.out, HN.out])
        have HN3 := Lib.hid (show n + (1 + m) ≤ 50000 by omega)
        have hmn : ∀ W, (Builtin.min_ #[3, 3] 3 #[.int .i64 ((xs[j]'hlt).size : Int), .int .i64 20001]).run Tryz.prog W = .ok (.int .i64 (m : Int)) W := fun W => by
          rw [run_min_int2]
          congr 2
          split <;> omega
        have hmin : min ((xs[j]'hlt).size : Int) 20001 = (m : Int) := by omega
        have hif : (if (20001 : Int) < ((xs[j]'hlt).size : Int) then (20001 : Int) else ((xs[j]'hlt).size : Int)) = (m : Int) := by split <;> omega
        clear hm hm2 hn
        generalize xs[j]'hlt = p at *
        have hs1 := HH1.out
        go_wp2_with fail
        go_roundw
        case rel => exact ⟨j + 1, n + (1 + m), HLT.out, by rw [HS2.out], by rw [HI1.out]; rfl, HN2, HN3, by first | trivial | rfl⟩
        case measure =>
          rw [HI1.out]
          show xs.length - ((j : Int) + 1).toNat < xs.length - (j : Int).toNat
          have := HLT.out; omega
    · have hle : n ≤ sumM xs := by
        have : ∀ (l : List ByteArray) (k : Nat), sumM (l.take k) ≤ sumM l := by
          intro l
          induction l with
          | nil => intro k; simp
          | cons x r ih =>
            intro k
            cases k with
            | zero => simp [sumM]
            | succ k => have := ih k; simp only [List.take_succ_cons, sumM]; omega
        rw [HN.out]; exact this xs j
      have hfin : decide (20000 < n) = decide (20000 < sumM xs) := by
        by_cases h : j < xs.length
        · rw [decide_eq_true (show 20000 < n by omega), decide_eq_true (show 20000 < sumM xs by omega)]
        · have : j = xs.length := by omega
          have h2 := HN.out
          rw [this, List.take_length] at h2
          rw [h2]
      have HF := Lib.hid hfin
      have HCAST := Lib.hid (show decide ((20000 : Int) < (n : Int)) = decide (20000 < n) from decide_eq_decide.2 (by omega))
      clear hfin hle
      by_cases h : j < xs.length
      · as_aux_lemma =>
          have e1 : decide ((j : Int) < (xs.length : Int)) = true := decide_eq_true (by omega)
          have e2 : ¬ ((n : Int) ≤ 20000) := by omega
          have e3 : decide ((n : Int) ≤ 20000) = false := decide_eq_false e2
          have e4 : decide (n ≤ 20000) = false := decide_eq_false (by omega)
          clear hgo
          go_wp2_with fail
          go_ret
          exact ⟨by rw [← HF.out, decide_eq_true (show 20000 < n by omega)]; rfl, rfl⟩
      · as_aux_lemma =>
          have e1 : decide ((j : Int) < (xs.length : Int)) = false := decide_eq_false (by omega)
          clear hgo
          go_wp2_with fail
          go_ret
          exact ⟨by rw [← HF.out]; first | rfl | (rw [← HCAST.out]; rfl), rfl⟩


/-! ### texts -/
def spoilt : ByteArray := ⟨#[115, 112, 111, 105, 108, 116]⟩
def spo (xs : List ByteArray) (i : Nat) : List ByteArray := List.replicate i spoilt ++ xs.drop i
theorem spo_len (xs : List ByteArray) (i : Nat) (h : i ≤ xs.length) : (spo xs i).length = xs.length := by unfold spo; rw [List.length_append, List.length_replicate, List.length_drop]; omega
theorem spo_at (xs : List ByteArray) (i : Nat) (h : i < xs.length) : (spo xs i)[i]? = some xs[i] := by
  unfold spo; rw [List.getElem?_append_right (by rw [List.length_replicate]; exact Nat.le_refl _), List.length_replicate, Nat.sub_self, List.getElem?_drop, Nat.add_zero, List.getElem?_eq_getElem h]
theorem spo_set (xs : List ByteArray) (i : Nat) (h : i < xs.length) : (spo xs i).set i spoilt = spo xs (i + 1) := by
  unfold spo
  rw [List.set_append_right _ _ (by rw [List.length_replicate]; exact Nat.le_refl _), List.length_replicate, Nat.sub_self, List.drop_eq_getElem_cons h, List.set_cons_zero, List.replicate_succ', List.append_assoc]
  rfl
/-- a text of one's own, written over -/
theorem OwnS.set {w : World} {base g cap : Nat} {ys : List ByteArray} (h : OwnS w base (.slice (some ⟨g, 0, none⟩) ys.length cap) ys) (j : Nat) (hj : j < ys.length) (y : ByteArray) : OwnS (w.setCell ⟨g, j, none⟩ (.string y)) base (.slice (some ⟨g, 0, none⟩) (ys.set j y).length cap) (ys.set j y) := by
  rcases h.2 with ⟨e, _⟩ | ⟨g', cap', cur, e, hb, hg, h1, h2, h3, h4⟩
  · cases e
  · cases e
    refine ⟨by rw [strV_len, Nat.mul_one], Or.inr ⟨g, cap, cur.setIfInBounds j (.string y), rfl, hb, heap_set hg j _, by rw [List.length_set]; exact h1, h2, by rw [Array.size_setIfInBounds]; exact h3, ?_⟩⟩
    have e2 : strV (ys.set j y) = (strV ys).set j (.string y) := by unfold strV; rw [List.map_set]
    rw [e2, Array.toList_setIfInBounds, List.length_set, List.take_set, h4]
set_option maxRecDepth 100000 in
set_option maxHeartbeats 2000000 in
theorem texts_any (base : Nat) (A B : Option Addr) (ca cb : Nat) (xs : List ByteArray) (hl : xs.length ≤ 1000000) (w : World) (hA : OwnS w base (.slice A xs.length ca) xs) (hB : Strs w B xs) (hne : ∀ a b, A = some a → B = some b → 0 < xs.length → a.block ≠ b.block) :
    Calls Tryz.prog 33 #[.slice A xs.length ca, .slice B xs.length cb] w fun e w' => e = .returned (.bool true) ∧ Grw (fun r => (Value.slice A xs.length ca).ownBlock = some r) w w' := by
  have HA := Lib.hid (show OwnS w base (.slice A xs.length ca) (spo xs 0) by rw [show spo xs 0 = xs by simp [spo]]; exact hA)
  have HB := Lib.hid hB
  have HN := Lib.hid hne
  have HL := Lib.hid hl
  have HG := Lib.hid (Grw.refl (fun r => (Value.slice A xs.length ca).ownBlock = some r) w)
  clear hA hB hne hl
  go_enter Tryz.func33, Tryz.ntmps33
  go_wp2_with fail
  go_loopw [5] (fun y wr => ∃ j : Nat, j ≤ xs.length ∧ y = .int .i64 (j : Int) ∧ Hid (OwnS wr base (.slice A xs.length ca) (spo xs j)) ∧ Hid (Strs wr B xs) ∧ Hid (Grw (fun r => (Value.slice A xs.length ca).ownBlock = some r) w wr)) (fun y _ => xs.length - (intOf y).toNat)
  case atStart => exact ⟨0, Nat.zero_le _, rfl, HA, HB, HG⟩
  case round =>
    clear HA HB HG
    obtain ⟨j, hj, rfl, HA, HB, HG⟩ := hrel
    by_cases hlt : j < xs.length
    · obtain ⟨A2, cap2, e2, -, -, hrow⟩ := HA.out.row
      rw [spo_len xs j hj] at e2
      cases e2
      obtain ⟨g, rfl, hg, hgb, c1, f1⟩ := hrow j (by rw [spo_len xs j hj]; exact hlt)
      obtain ⟨b, o, rfl, hb, hsz, c0⟩ := HB.out j hlt
      have hat : (spo xs j)[j]'(by rw [spo_len xs j hj]; exact hlt) = xs[j] := by
        have := spo_at xs j hlt
        rw [List.getElem?_eq_getElem (by rw [spo_len xs j hj]; exact hlt)] at this
        injection this
      rw [hat] at c1
      have HLT := Lib.hid hlt
      have HW1 := Lib.hid (small64 j (by have := HL.out; omega))
      have e1 : (j : Int) < (xs.length : Int) := by omega
      have e2 : decide ((j : Int) < (xs.length : Int)) = true := decide_eq_true e1
      have e3 : (0 : Int) ≤ (j : Int) := by omega
      have hgb2 : g ≠ b := HN.out _ _ rfl rfl (by omega)
      have HO2 := Lib.hid (by
        have h1 := HA.out
        have h2 := spo_len xs j hj
        have h3 : OwnS wr base (.slice (some ⟨g, 0, none⟩) (spo xs j).length ca) (spo xs j) := by rw [h2]; exact h1
        have h4 := h3.set j (by rw [h2]; exact hlt) spoilt
        rw [spo_set xs j hlt, spo_len xs (j + 1) hlt] at h4
        exact h4)
      have HB2 : Hid (Strs (wr.setCell ⟨g, j, none⟩ (.string spoilt)) (some ⟨b, o, none⟩) xs) := Lib.hid (strs_over HB.out (by simp [World.setCell]) (fun a ha _ => by injection ha with ha; subst ha; exact Wire.heap_far j _ (fun e => hgb2 e.symm)))
      have HG2 := Lib.hid (HG.out.trans (grw_grown (T := fun r => (Value.slice (some ⟨g, 0, none⟩) xs.length ca).ownBlock = some r) (grownBy_any wr g j (.string spoilt)) (fun r h => by rw [← h]; rfl)))
      generalize xs[j]'hlt = p at *
      have hmx : Tryz.prog.follows .mixedOrders = true := by kernel_rfl
      clear hrow hat
      go_wp2_with fail
      go_big_quiet (fail)
      have c1' : (wr.drewN nq).cell? ⟨g, j, none⟩ = some (.string p) := c1
      have f1' : (wr.drewN nq).frozen? ⟨g, j, none⟩ = false := f1
      go_wp2_with fail
      go_roundw
      case rel => exact ⟨j + 1, HLT.out, by rw [HW1.out]; rfl, HO2.out, HB2.out, ⟨HG2.out.os, HG2.out.tape, HG2.out.output, HG2.out.size, HG2.out.block⟩⟩
      case measure =>
        rw [HW1.out]
        show xs.length - ((j : Int) + 1).toNat < xs.length - (j : Int).toNat
        have := HLT.out; omega
    · obtain rfl : j = xs.length := by omega
      go_wp2_with fail
      go_ret
      exact ⟨rfl, HG.out⟩
end Go.Proofs.YtkccdffccjgajaaGreatDoor.Seg
