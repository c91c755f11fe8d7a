import Derived.Test.YtkjnddgjnlbopaaIR
/-
  The laws' own helper: heavy.
-/
namespace Go.Proofs.Ytkjnddgjnlbopaa.Index
open Go Go.RowKit
open Go.Proofs.Ytkjnddgjnlbopaa.Wire (S S_list S_size)
open Go.Proofs.Ytkjnddgjnlbopaa.Frame Go.Proofs.Ytkjnddgjnlbopaa.Seg

def hvM : List ByteArray → Nat
  | [] => 0
  | x :: r => 20 + x.size + hvM r
theorem hvM_take (xs : List ByteArray) (j : Nat) (h : j < xs.length) : hvM (xs.take (j + 1)) = hvM (xs.take j) + (20 + (xs[j]'h).size) := by
  induction xs generalizing j with
  | nil => simp at h
  | cons x r ih =>
    cases j with
    | zero => simp [hvM]
    | succ j =>
      have := ih j (by simpa using h)
      simp only [List.take_succ_cons, hvM, List.getElem_cons_succ]
      omega
theorem hvM_le : ∀ (l : List ByteArray) (k : Nat), hvM (l.take k) ≤ hvM l := by
  intro l
  induction l with
  | nil => intro k; simp
  | cons x r ih =>
    intro k
    cases k with
    | zero => simp [hvM]
    | succ k => have := ih k; simp only [List.take_succ_cons, hvM]; omega
theorem hvM_seg (xs : List ByteArray) : segN (bytesP xs) + 4 * xs.length = 16 + hvM xs ∧ 20 * xs.length ≤ hvM xs := by
  induction xs with
  | nil => exact ⟨rfl, Nat.zero_le _⟩
  | cons x r ih =>
    obtain ⟨h1, h2⟩ := ih
    have e : segN (bytesP (x :: r)) = 16 + x.size + segN (bytesP r) := by
      have h3 := rowB_length (bytesP r) 0 1
      unfold segN bytesP at *
      rw [List.map_cons, rowB, List.length_append, frB_length, ← h3]
      simp; omega
    rw [e, List.length_cons, hvM]
    exact ⟨by omega, by omega⟩
/-- what heavy tells -/
def HvR (xs : List ByteArray) (w : World) (e : Ending) (w' : World) : Prop := ∃ b, e = .returned (.bool b) ∧ w = w' ∧ (b = decide (12000 ≤ hvM xs) ∨ ∃ j, ∃ h : j < xs.length, 4096 < (xs[j]'h).size)
def Bad (xs : List ByteArray) : Prop := ∃ j, ∃ h : j < xs.length, 4096 < (xs[j]'h).size
set_option maxRecDepth 100000 in
set_option maxHeartbeats 2000000 in
/-- **heavy**: where a text is longer than a payload may be, it may be told either way (the sum may go round) -/
theorem heavy_any (A : Option Addr) (cap : Nat) (xs : List ByteArray) (hl : xs.length ≤ maxLen) (w : World) (hx : Strs w A xs) :
    Calls Try.prog 26 #[.slice A xs.length cap] w (HvR xs w) := by
  have HX := Lib.hid hx
  have HL := Lib.hid hl
  clear hx hl
  go_enter Try.func26, Try.ntmps26
  go_wp2_with fail
  go_loopw [3, 4] (fun z y wr => ∃ (j : Nat) (n : Int), j ≤ xs.length ∧ z = .int .i64 n ∧ y = .int .i64 (j : Int) ∧ Hid (n = ((hvM (xs.take j) : Nat) : Int) ∨ Bad xs) ∧ wr = w) (fun _ y _ => xs.length - (intOf y).toNat)
  case atStart => exact ⟨0, 0, Nat.zero_le _, rfl, rfl, Lib.hid (Or.inl rfl), rfl⟩
  case round =>
    obtain ⟨j, n, hj, rfl, rfl, HN, rfl⟩ := hrel
    by_cases hlt : j < xs.length
    · have e1 : decide ((j : Int) < (xs.length : Int)) = true := decide_eq_true (by omega)
      by_cases hn : n < 12000
      · as_aux_lemma =>
          obtain ⟨b, o, rfl, hb, hsz, c0⟩ := HX.out j hlt
          have HST := Lib.hid (hvM_take xs j hlt)
          have HLT := Lib.hid hlt
          have HI1 := Lib.hid (show wrap64 ((j : Int) + 1) = (j : Int) + 1 from IntWalk.wrap64_in _ ⟨by omega, by have := HL.out; unfold maxLen at this; omega⟩)
          have e2 : decide (n < 12000) = true := decide_eq_true hn
          obtain ⟨m, hm⟩ : ∃ m, (xs[j]'hlt).size = m := ⟨_, rfl⟩
          rw [hm] at HST
          have HN2 : Hid (wrap64 (wrap64 (n + 20) + (m : Int)) = ((hvM (xs.take (j + 1)) : Nat) : Int) ∨ Bad xs) := Lib.hid (by
            rcases HN.out with h | h
            · by_cases h4 : 4096 < m
              · exact Or.inr ⟨j, HLT.out, by rw [hm]; exact h4⟩
              · left
                have := HST.out
                rw [IntWalk.wrap64_in (n + 20) ⟨by omega, by omega⟩, IntWalk.wrap64_in _ ⟨by omega, by omega⟩, this]
                omega
            · exact Or.inr h)
          have HM := Lib.hid hm
          generalize xs[j]'hlt = p at *
          clear hm hn hsz hj hlt
          have hs0 := HM.out
          go_wp2_with fail
          clear hs0
          go_roundw
          case rel => exact ⟨j + 1, _, HLT.out, rfl, by rw [HI1.out]; rfl, by first | exact HN2 | (rw [HM.out]; exact HN2), by first | trivial | rfl⟩
          case measure =>
            rw [HI1.out]
            show xs.length - ((j : Int) + 1).toNat < xs.length - (j : Int).toNat
            have := HLT.out; omega
      · as_aux_lemma =>
          have e3 : decide (n < 12000) = false := decide_eq_false hn
          have HF : Hid (true = decide (12000 ≤ hvM xs) ∨ Bad xs) := Lib.hid (by
            rcases HN.out with h | h
            · have := hvM_le xs j
              exact Or.inl (decide_eq_true (by omega)).symm
            · exact Or.inr h)
          have e4 : decide ((12000 : Int) ≤ n) = true := decide_eq_true (by omega)
          clear hj
          go_wp2_with fail
          go_ret
          exact ⟨_, rfl, rfl, by first | exact HF.out | (rw [e4]; exact HF.out)⟩
    · as_aux_lemma =>
        have e1 : decide ((j : Int) < (xs.length : Int)) = false := decide_eq_false (by omega)
        have HF : Hid (decide ((12000 : Int) ≤ n) = decide (12000 ≤ hvM xs) ∨ Bad xs) := Lib.hid (by
          rcases HN.out with h | h
          · rw [show j = xs.length by omega, List.take_length] at h
            exact Or.inl (decide_eq_decide.2 (by omega))
          · exact Or.inr h)
        clear hj
        go_wp2_with fail
        go_ret
        exact ⟨_, rfl, rfl, HF.out⟩
set_option maxRecDepth 100000 in
set_option maxHeartbeats 2000000 in
/-- **wrong**, of a row of any length -/
theorem wrong_long (q : Int) (A : Option Addr) (cap : Nat) (xs : List ByteArray) (hl : xs.length ≤ maxLen) (w : World) (hx : Strs w A xs) :
    Calls Try.prog 29 #[.int .i64 q, .slice A xs.length cap] w fun e w' => e = .returned (.int .i64 (wrE q (bytesP xs) : Int)) ∧ w = w' := by
  have HMF := Lib.hid (fun W => mayBegin_any q W)
  have HX := Lib.hid hx
  have HL := Lib.hid hl
  clear hx hl
  by_cases hm : mayF q
  · rw [decide_eq_true hm] at HMF
    have HM := Lib.hid hm
    clear hm
    go_enter Try.func29, Try.ntmps29
    go_wp2_with (go_at_call 60; refine (HMF.out _).mono ?_; rintro e w1 ⟨rfl, rfl⟩)
    go_loopw [12] (fun y wr => ∃ j : Nat, j ≤ xs.length ∧ y = .int .i64 (j : Int) ∧ Hid (∀ k (h : k < xs.length), k < j → 1 ≤ xs[k].size ∧ xs[k].size ≤ 4096) ∧ wr = w) (fun y _ => xs.length - (intOf y).toNat)
    case atStart => exact ⟨0, Nat.zero_le _, rfl, Lib.hid (fun k _ h => absurd h (Nat.not_lt_zero _)), rfl⟩
    case round =>
      obtain ⟨j, hj, rfl, HG, rfl⟩ := hrel
      by_cases hlt : j < xs.length
      · obtain ⟨b, o, rfl, hb, hsz, c0⟩ := HX.out j hlt
        have HLT := Lib.hid hlt
        have HW1 := Lib.hid (show wrap64 ((j : Int) + 1) = (j : Int) + 1 from IntWalk.wrap64_in _ ⟨by omega, by have := HL.out; unfold maxLen at this; omega⟩)
        have HSI := Lib.hid (fun W => Size_any ((xs[j]'hlt).size : Int) W)
        by_cases hs : 1 ≤ (xs[j]'hlt).size ∧ (xs[j]'hlt).size ≤ 4096
        · rw [szI_yes hs] at HSI
          have e0 : ((16 + ((xs[j]'hlt).size : Int)) == 0) = false := beq_eq_false_iff_ne.2 (by omega)
          have HS := Lib.hid hs
          have hgn := HG.out
          have HG2 : Hid (∀ k (h : k < xs.length), k < j + 1 → 1 ≤ xs[k].size ∧ xs[k].size ≤ 4096) := Lib.hid (fun k h hk => by
            rcases Nat.lt_or_ge k j with h1 | h1
            · exact hgn k h h1
            · obtain rfl : k = j := by omega
              exact HS.out)
          clear hs hgn
          generalize xs[j]'hlt = p at *
          go_wp2_with (go_at_call 36; refine (HSI.out _).mono ?_; rintro e w2 ⟨rfl, rfl⟩)
          go_roundw
          case rel => exact ⟨j + 1, HLT.out, by rw [HW1.out]; rfl, HG2, by first | trivial | rfl⟩
          case measure =>
            rw [HW1.out]
            show xs.length - ((j : Int) + 1).toNat < xs.length - (j : Int).toNat
            have := HLT.out; omega
        · rw [szI_no hs] at HSI
          have HE := Lib.hid (show wrE q (bytesP xs) = 4 by unfold wrE; rw [if_neg (fun k => k HM.out), if_pos (okL_bad hlt hs)])
          clear hs
          generalize xs[j]'hlt = p at *
          go_wp2_with (go_at_call 36; refine (HSI.out _).mono ?_; rintro e w2 ⟨rfl, rfl⟩)
          go_ret
          exact ⟨by rw [HE.out]; rfl, rfl⟩
      · obtain rfl : j = xs.length := by omega
        have hok : okL (bytesP xs) = true := bytesP_ok.2 (fun k h => HG.out k h h)
        have hlm := HL.out
        unfold maxLen at hlm
        have hqm := HM.out
        obtain ⟨hq0, hq1⟩ := hqm
        have y1 : wrap64 (1048576 - q) = 1048576 - q := IntWalk.wrap64_in _ ⟨by omega, by omega⟩
        by_cases h40 : 1048576 < q + (xs.length : Int)
        · have HE := Lib.hid (show wrE q (bytesP xs) = 40 by unfold wrE; rw [if_neg (fun k => k HM.out), hok, if_neg (by decide), bytesP_len, if_pos h40])
          have y2 : 1048576 - q < (xs.length : Int) := by omega
          clear h40 hok hq0 hq1
          go_wp2_with fail
          go_ret
          exact ⟨by rw [HE.out]; rfl, rfl⟩
        · have HE := Lib.hid (show wrE q (bytesP xs) = 0 by unfold wrE; rw [if_neg (fun k => k HM.out), hok, if_neg (by decide), bytesP_len, if_neg h40])
          have y2 : ¬ 1048576 - q < (xs.length : Int) := by omega
          clear h40 hok hq0 hq1
          go_wp2_with fail
          go_ret
          exact ⟨by rw [HE.out]; rfl, rfl⟩
  · rw [decide_eq_false hm] at HMF
    have HE := Lib.hid (show wrE q (bytesP xs) = 1 from if_pos hm)
    clear hm
    go_enter Try.func29, Try.ntmps29
    go_wp2_with (go_at_call 60; refine (HMF.out _).mono ?_; rintro e w1 ⟨rfl, rfl⟩)
    go_ret
    exact ⟨by rw [HE.out]; rfl, rfl⟩
theorem Bad.wrong {xs : List ByteArray} (h : Bad xs) (q : Int) : ¬ wrE q (bytesP xs) = 0 := by
  obtain ⟨j, hj, h4⟩ := h
  intro h0
  have := bytesP_ok.1 (okL_all.2 (wrE_zero h0).2.2) j hj
  omega
set_option maxRecDepth 100000 in
/-- **Join** of what is wrong, of any length -/
theorem Join_long (q : Int) (A : Option Addr) (cap : Nat) (xs : List ByteArray) (hl : xs.length ≤ maxLen) (h0 : ¬ wrE q (bytesP xs) = 0) (w : World) (hx : Strs w A xs) :
    Calls Try.prog 10 #[.int .i64 q, .slice A xs.length cap] w fun e w' => e = joV q xs ∧ Below w.heap.size w w' := by
  have HWR := Lib.hid (wrong_long q A cap xs hl w hx)
  have hV : joV q xs = .returned (.tuple #[.string ⟨#[]⟩, .int .i64 (wrE q (bytesP xs) : Int)]) := by
    have he : joE q (bytesP xs) = wrE q (bytesP xs) := by unfold joE; rw [if_neg h0]
    unfold joV joB; rw [he, if_neg h0]; rfl
  have HV := Lib.hid hV
  obtain ⟨q1, q2, q3, q4, q5⟩ := nat_ne h0
  clear hV h0 hx hl
  generalize wrE q (bytesP xs) = x at *
  go_enter Try.func10, Try.ntmps10
  go_wp2_with fail
  refine HWR.out.mono ?_
  rintro e w1 ⟨rfl, rfl⟩
  go_wp2_with fail
  go_ret2
  exact ⟨HV.out.symm, Below.refl _ _⟩
/-- **Join**, where heavy has told that it is none -/
theorem Join_light (q : Int) (A : Option Addr) (cap : Nat) (xs : List ByteArray) (hl : xs.length ≤ maxLen) (h : hvM xs < 12000 ∨ Bad xs) (w : World) (hx : Strs w A xs) :
    Calls Try.prog 10 #[.int .i64 q, .slice A xs.length cap] w fun e w' => e = joV q xs ∧ Below w.heap.size w w' := by
  rcases h with h | h
  · exact Join_any q A cap xs (by have := (hvM_seg xs).2; omega) w hx
  · exact Join_long q A cap xs hl (h.wrong q) w hx
end Go.Proofs.Ytkjnddgjnlbopaa.Index
