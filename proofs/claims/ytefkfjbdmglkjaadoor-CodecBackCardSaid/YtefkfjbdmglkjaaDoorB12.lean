/-
  The Reader's calls: U8 to U64, Low, Short, Raw, Text.
-/
import Derived.Test.YtefkfjbdmglkjaaDoorB11
namespace Go.Proofs.YtefkfjbdmglkjaaDoor.Wire
open Go.RowKit

def fxV (s : ByteArray) (i e k : Nat) : Nat := be (tkT s i e k).data.toList
theorem fxV_lt (s : ByteArray) (i e k : Nat) : fxV s i e k < 256 ^ k := by
  have h := beT_lt (tkT s i e k) (tkT s i e k).size
  rw [beT_all _ _ (Nat.le_refl _)] at h
  have h2 := Nat.pow_le_pow_right (n := 256) (by decide) (tkT_size s i e k)
  unfold fxV; omega

theorem ru8_any (r : Nat) (s : ByteArray) (i e : Nat) (w : World) (hrd : Rd w r s i e) (hi : i ≤ s.size) (hs : s.size ≤ 1000000000000) :
    Calls Tryd.prog 47 #[.pointer (some ⟨r, 0, none⟩)] w fun x w' => x = .returned (.int .u8 (U (fxV s i e 1))) ∧ Step w w' r s (tkI s i e 1) (tkE s i e 1) := by
  go_enter Tryd.func47, Tryd.ntmps47
  go_wp2_with fail
  refine (rfix8 r s i e w hrd hi hs).mono ?_; rintro x w1 ⟨rfl, hst⟩
  have HST := Lib.hid hst; clear hst
  go_wp2_with fail
  go_ret
  exact ⟨rfl, HST.out⟩
/-! ### Raw -/
theorem take_zero (r : Nat) (s : ByteArray) (i e : Nat) (w : World) (h : Rd w r s i e) (hi : i ≤ s.size) (hs : s.size ≤ 1000000000000) :
    Calls Tryd.prog 58 #[.pointer (some ⟨r, 0, none⟩), .int .i64 0] w fun x w' => x = .returned (.string (tkT s i e 0)) ∧ Step w w' r s (tkI s i e 0) (tkE s i e 0) :=
  take_any r s i e 0 w h hi hs
set_option maxHeartbeats 400000 in
theorem rraw_any (r : Nat) (s : ByteArray) (i e : Nat) (n : Int) (w : World) (hrd : Rd w r s i e) (hi : i ≤ s.size) (hs : s.size ≤ 1000000000000) :
    Calls Tryd.prog 32 #[.pointer (some ⟨r, 0, none⟩), .int .i64 n] w fun x w' => x = .returned (.string (tkT s i e n.toNat)) ∧ Step w w' r s (tkI s i e n.toNat) (tkE s i e n.toNat) := by
  have hT : (tkT s i e n.toNat).size ≤ 281474976710656 := by
    unfold tkT; split
    · rw [ByteArray.size_extract]; omega
    · exact Nat.zero_le _
  have HT := Lib.hid hT; clear hT
  by_cases hn : 0 ≤ n
  · obtain ⟨k, rfl⟩ : ∃ k : Nat, n = (k : Int) := ⟨n.toNat, by omega⟩
    rw [Int.toNat_natCast] at *
    go_enter Tryd.func32, Tryd.ntmps32
    go_wp2_with fail
    refine (take_any r s i e k w hrd hi hs).mono ?_; rintro x w1 ⟨rfl, hst⟩
    have HST := Lib.hid hst; clear hst
    go_wp2_with fail
    refine (clone_any _ w1 HT.out).mono ?_; rintro x w2 ⟨rfl, hb⟩
    have HB := Lib.hid hb; clear hb
    go_wp2_with fail
    go_ret
    exact ⟨rfl, HST.out.below HB.out⟩
  · have e0 : n.toNat = 0 := by omega
    have HT0 : Hid ((tkT s i e 0).size ≤ 281474976710656) := by have := HT.out; rw [e0] at this; exact this
    rw [e0]
    clear e0 HT
    have hn2 : max n 0 = 0 := by omega
    clear hn
    go_enter Tryd.func32, Tryd.ntmps32
    go_wp2_with fail
    refine (take_zero r s i e w hrd hi hs).mono ?_; rintro x w1 ⟨rfl, hst⟩
    have HST := Lib.hid hst; clear hst
    go_wp2_with fail
    refine (clone_any _ w1 HT0.out).mono ?_; rintro x w2 ⟨rfl, hb⟩
    have HB := Lib.hid hb; clear hb
    go_wp2_with fail
    go_ret
    exact ⟨rfl, HST.out.below HB.out⟩

/-! ### Short -/
/-- (number, where it stands then, the error) -/
def shR (s : ByteArray) (i e m : Nat) : Nat × Nat × Nat :=
  if e = 0 then (if m < (scan (s.data.toList.drop i) 0 0).1 then (0, i, 40) else ((scan (s.data.toList.drop i) 0 0).1, i + (scan (s.data.toList.drop i) 0 0).2.1, (scan (s.data.toList.drop i) 0 0).2.2)) else (0, i, e)
theorem scan_size : ∀ (l : List UInt8) (i acc : Nat), (scan l i acc).2.1 ≤ i + l.length
  | [], _, _ => by rw [scan]; exact Nat.zero_le _
  | b :: l, i, acc => by
    rw [scan, List.length_cons]
    split
    · exact Nat.zero_le _
    · split
      · show i + 1 ≤ _; omega
      · have := scan_size l (i + 1) (acc + 128 ^ i * (b.toNat % 128)); omega
theorem rshort_q (s : ByteArray) (w : World) (hs : s.size ≤ 1000000000000) (l : List UInt8) (hl : s.data.toList = l) :
    Calls Tryd.prog 84 #[.string s] w fun x w' => x = .returned (.tuple #[.int .u64 (U (scan l 0 0).1), .int .i64 ((scan l 0 0).2.1 : Int), .int .i64 ((scan l 0 0).2.2 : Int)]) ∧ w' = w := by
  subst hl
  exact (rshort_walk s w hs).mono fun x w' ⟨hx, hw⟩ => ⟨hx, hw.symm⟩
set_option maxRecDepth 100000 in
set_option maxHeartbeats 400000 in
theorem rShort_any (r : Nat) (s : ByteArray) (i e m : Nat) (w : World) (hrd : Rd w r s i e) (hi : i ≤ s.size) (hs : s.size ≤ 1000000000000) :
    Calls Tryd.prog 69 #[.pointer (some ⟨r, 0, none⟩), .int .u64 (U m)] w fun x w' => x = .returned (.int .u64 (U (shR s i e m).1)) ∧ Step w w' r s (shR s i e m).2.1 (shR s i e m).2.2 := by
  by_cases he : e = 0
  · subst he
    have hsc := scan_size (s.data.toList.drop i) 0 0
    have hl : (s.data.toList.drop i).length = s.size - i := by rw [List.length_drop]; rfl
    have hx : (s.extract i s.size).data.toList = s.data.toList.drop i := by
      rw [Lib.extract_data, List.take_of_length_le]
      rw [List.length_drop]; exact Nat.le_refl _
    have hq := fun w => rshort_q (s.extract i s.size) w (by rw [ByteArray.size_extract]; omega) _ hx
    rw [hl] at hsc
    have HM : Hid (shR s i 0 m = if m < (scan (s.data.toList.drop i) 0 0).1 then (0, i, 40) else ((scan (s.data.toList.drop i) 0 0).1, i + (scan (s.data.toList.drop i) 0 0).2.1, (scan (s.data.toList.drop i) 0 0).2.2)) := by unfold shR; rw [if_pos rfl]; rfl
    clear hx hl
    generalize scan (s.data.toList.drop i) 0 0 = R at *
    obtain ⟨n, z, f⟩ := R
    have c0 : w.cell? ⟨r, 0, none⟩ = some (.string s) := cell_row hrd 0
    have c1 : w.cell? ⟨r, 1, none⟩ = some (.int .i64 (i : Int)) := cell_row hrd 1
    have c2 : w.cell? ⟨r, 2, none⟩ = some (.int .i64 0) := cell_row hrd 2
    have f1 := frozen_row hrd 1
    have f2 := frozen_row hrd 2
    have b0 : (0 : Int) ≤ (i : Int) := by omega
    have b1 : (i : Int) ≤ (s.size : Int) := by omega
    have hz : (z : Int) ≤ 1000000000000 := by simp at hsc; omega
    have hi2 : (i : Int) ≤ 1000000000000 := by omega
    have HQ := Lib.hid hq
    clear hq hsc
    by_cases hm : m < n
    · have hg : U m < U n := by unfold U; omega
      have HM2 : Hid (shR s i 0 m = (0, i, 40)) := HM.out.trans (if_pos hm)
      clear hm
      go_enter Tryd.func69, Tryd.ntmps69
      go_wp2_with fail
      refine (open_yes r s i w hrd).mono ?_; rintro x w1 ⟨rfl, rfl⟩
      go_wp2_with fail
      go_quiet ((go_at_call 84; exact Calls.quiet_of_same (HQ.out _)))
      go_wp2_with fail
      go_ret
      refine ⟨by rw [HM2.out]; rfl, ?_⟩
      rw [HM2.out]
      exact ((Step.refl hrd).drewN nq).trans ((step_set (w := w.drewN nq) hrd 1 (.int .i64 (i : Int)) rfl).trans (step_set (step_set (w := w.drewN nq) hrd 1 (.int .i64 (i : Int)) rfl).1 2 _ rfl))
    · have hg : U n ≤ U m := by unfold U; omega
      have HM2 : Hid (shR s i 0 m = (n, i + z, f)) := HM.out.trans (if_neg hm)
      clear hm
      go_enter Tryd.func69, Tryd.ntmps69
      go_wp2_with fail
      refine (open_yes r s i w hrd).mono ?_; rintro x w1 ⟨rfl, rfl⟩
      go_wp2_with fail
      go_quiet ((go_at_call 84; exact Calls.quiet_of_same (HQ.out _)))
      go_wp2_with fail
      go_ret
      refine ⟨by rw [HM2.out]; rfl, ?_⟩
      rw [HM2.out]
      exact ((Step.refl hrd).drewN nq).trans ((step_set (w := w.drewN nq) (i' := i + z) hrd 1 (.int .i64 ((i : Int) + (z : Int))) rfl).trans (step_set (step_set (w := w.drewN nq) (i' := i + z) hrd 1 (.int .i64 ((i : Int) + (z : Int))) rfl).1 2 _ rfl))
  · have HM : Hid (shR s i e m = (0, i, e)) := if_neg he
    go_enter Tryd.func69, Tryd.ntmps69
    go_wp2_with fail
    refine (open_no r s i e w hrd he).mono ?_; rintro x w1 ⟨rfl, rfl⟩
    go_wp2_with fail
    go_ret
    refine ⟨by rw [HM.out]; rfl, ?_⟩
    rw [HM.out]; exact Step.refl hrd

/-! ### Text -/
/-- (text, where it stands then, the error) -/
def txR (s : ByteArray) (i e m : Nat) : ByteArray × Nat × Nat :=
  (tkT s (shR s i e m).2.1 (shR s i e m).2.2 (shR s i e m).1, if tkE s (shR s i e m).2.1 (shR s i e m).2.2 (shR s i e m).1 = 0 then tkI s (shR s i e m).2.1 (shR s i e m).2.2 (shR s i e m).1 else i, tkE s (shR s i e m).2.1 (shR s i e m).2.2 (shR s i e m).1)
theorem shR_le (s : ByteArray) (i e m : Nat) (hi : i ≤ s.size) : (shR s i e m).2.1 ≤ s.size := by
  unfold shR
  split
  · split
    · exact hi
    · have := scan_size (s.data.toList.drop i) 0 0
      rw [List.length_drop] at this
      have e : s.data.toList.length = s.size := rfl
      show i + _ ≤ _
      omega
  · exact hi
theorem shR_most (s : ByteArray) (i e m : Nat) : (shR s i e m).1 ≤ m := by
  unfold shR
  split
  · split
    · exact Nat.zero_le _
    · show (scan _ 0 0).1 ≤ m; omega
  · exact Nat.zero_le _
theorem wrapM (m : Int) (h0 : 0 ≤ m) (h : m ≤ 9223372036854775807) : IntKind.u64.wrap m = U m.toNat := by rw [IntKind.wrap_u64]; unfold U; omega
theorem wrapI (n : Nat) (h : n ≤ 9223372036854775807) : IntKind.i64.wrap (U n) = (n : Int) := by unfold U; exact IntWalk.i64_in _ (by omega)
set_option maxRecDepth 100000 in
set_option maxHeartbeats 400000 in
theorem rtext_walk (r : Nat) (s : ByteArray) (i e : Nat) (most : Int) (m : Nat) (w : World) (hrd : Rd w r s i e) (hi : i ≤ s.size) (hs : s.size ≤ 1000000000000)
    (hmax : max most 0 = (m : Int)) (hm : m ≤ 9223372036854775807) :
    Calls Tryd.prog 72 #[.pointer (some ⟨r, 0, none⟩), .int .i64 most] w fun x w' => x = .returned (.string (txR s i e m).1) ∧ Step w w' r s (txR s i e m).2.1 (txR s i e m).2.2 := by
  have hw1 : IntKind.u64.wrap (m : Int) = U m := wrapM (m : Int) (by omega) (by omega)
  have hw2 : IntKind.i64.wrap (U (shR s i e m).1) = ((shR s i e m).1 : Int) := wrapI _ (by have := shR_most s i e m; omega)
  have hle := shR_le s i e m hi
  have HX : Hid (txR s i e m = (tkT s (shR s i e m).2.1 (shR s i e m).2.2 (shR s i e m).1, if tkE s (shR s i e m).2.1 (shR s i e m).2.2 (shR s i e m).1 = 0 then tkI s (shR s i e m).2.1 (shR s i e m).2.2 (shR s i e m).1 else i, tkE s (shR s i e m).2.1 (shR s i e m).2.2 (shR s i e m).1)) := rfl
  have hS := rShort_any r s i e m w hrd hi hs
  have HM := Lib.hid hm
  clear hm
  generalize shR s i e m = R at *
  obtain ⟨n, j, f⟩ := R
  have hS2 := Lib.hid hS
  clear hS
  simp only [] at hw2 hle
  by_cases hE : tkE s j f n = 0
  · have HX2 : Hid (txR s i e m = (tkT s j f n, tkI s j f n, 0)) := by
      have := HX.out; rw [if_pos hE, hE] at this; exact this
    have HE := Lib.hid hE; clear hE
    go_enter Tryd.func72, Tryd.ntmps72
    go_wp2_with fail
    refine (at_any r s i e w hrd).mono ?_; rintro x w1 ⟨rfl, rfl⟩
    go_wp2_with fail
    refine hS2.out.mono ?_; rintro x w1 ⟨rfl, hst⟩
    have HST := Lib.hid hst; clear hst
    go_wp2_with fail
    refine (rraw_any r s j f (n : Int) w1 HST.out.1 hle hs).mono ?_; rintro x w2 ⟨rfl, hst⟩
    have HST2 := Lib.hid hst; clear hst
    have c2 : w2.cell? ⟨r, 2, none⟩ = some (.int .i64 0) := by
      have := cell_row HST2.out.1 2
      rw [Int.toNat_natCast, HE.out] at this; exact this
    go_wp2_with fail
    go_ret
    refine ⟨by rw [HX2.out]; rfl, ?_⟩
    rw [HX2.out]
    have h := HST.out.trans HST2.out
    rw [Int.toNat_natCast, HE.out] at h
    exact h
  · have HX2 : Hid (txR s i e m = (tkT s j f n, i, tkE s j f n)) := by
      have := HX.out; rw [if_neg hE] at this; exact this
    have hb : ((tkE s j f n : Int) == 0) = false := by rw [beq_eq_false_iff_ne]; omega
    clear hE HX
    go_enter Tryd.func72, Tryd.ntmps72
    go_wp2_with fail
    refine (at_any r s i e w hrd).mono ?_; rintro x w1 ⟨rfl, rfl⟩
    go_wp2_with fail
    refine hS2.out.mono ?_; rintro x w1 ⟨rfl, hst⟩
    have HST := Lib.hid hst; clear hst
    go_wp2_with fail
    refine (rraw_any r s j f (n : Int) w1 HST.out.1 hle hs).mono ?_; rintro x w2 ⟨rfl, hst⟩
    rw [Int.toNat_natCast] at hst
    have HST2 := Lib.hid hst; clear hst
    have c2 : w2.cell? ⟨r, 2, none⟩ = some (.int .i64 (tkE s j f n : Int)) := cell_row HST2.out.1 2
    have c1 : w2.cell? ⟨r, 1, none⟩ = some (.int .i64 (tkI s j f n : Int)) := cell_row HST2.out.1 1
    have f1 := frozen_row HST2.out.1 1
    go_wp2_with fail
    go_ret
    refine ⟨by rw [HX2.out]; rfl, ?_⟩
    rw [HX2.out]
    exact (HST.out.trans HST2.out).trans (step_set HST2.out.1 1 (.int .i64 (i : Int)) rfl)
theorem rtext_any (r : Nat) (s : ByteArray) (i e : Nat) (most : Int) (w : World) (hrd : Rd w r s i e) (hi : i ≤ s.size) (hs : s.size ≤ 1000000000000) (hm : most ≤ 9223372036854775807) :
    Calls Tryd.prog 72 #[.pointer (some ⟨r, 0, none⟩), .int .i64 most] w fun x w' => x = .returned (.string (txR s i e most.toNat).1) ∧ Step w w' r s (txR s i e most.toNat).2.1 (txR s i e most.toNat).2.2 :=
  rtext_walk r s i e most most.toNat w hrd hi hs (by omega) (by omega)

/-! ### nobody's Reader -/
theorem below_refl' (w : World) : Below w.heap.size w w := Below.refl _ _
theorem rraw_nil (n : Int) (w : World) : Calls Tryd.prog 32 #[.pointer none, .int .i64 n] w fun x w' => x = .returned (.string ⟨#[]⟩) ∧ Below w.heap.size w w' := by
  go_enter Tryd.func32, Tryd.ntmps32
  go_wp2_with fail
  refine (take_nil _ w).mono ?_; rintro x w1 ⟨rfl, rfl⟩
  go_wp2_with fail
  refine (clone_any _ w (by decide)).mono ?_; rintro x w2 ⟨rfl, hb⟩
  go_wp2_with fail
  go_ret
  exact ⟨rfl, hb⟩
theorem rshort_nil (m : Nat) (w : World) : Calls Tryd.prog 69 #[.pointer none, .int .u64 (U m)] w fun x w' => x = .returned (.int .u64 0) ∧ w = w' := by
  go_enter Tryd.func69, Tryd.ntmps69
  go_wp2_with fail
  refine (open_nil w).mono ?_; rintro x w1 ⟨rfl, rfl⟩
  go_wp2_with fail
  go_ret
  exact ⟨rfl, rfl⟩
theorem rtext_nil (w : World) : Calls Tryd.prog 72 #[.pointer none, .int .i64 9] w fun x w' => x = .returned (.string ⟨#[]⟩) ∧ Below w.heap.size w w' := by
  go_enter Tryd.func72, Tryd.ntmps72
  go_wp2_with fail
  refine (at_nil w).mono ?_; rintro x w1 ⟨rfl, rfl⟩
  go_wp2_with fail
  refine (rshort_nil 9 w).mono ?_; rintro x w1 ⟨rfl, rfl⟩
  go_wp2_with fail
  refine (rraw_nil 0 w).mono ?_; rintro x w1 ⟨rfl, hb⟩
  go_wp2_with fail
  go_ret
  exact ⟨rfl, hb⟩

end Go.Proofs.YtefkfjbdmglkjaaDoor.Wire
