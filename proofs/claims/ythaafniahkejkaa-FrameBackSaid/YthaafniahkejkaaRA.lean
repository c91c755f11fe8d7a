import Derived.Test.YthaafniahkejkaaFI
/-
  The document's own Make; the walk of the statement FrameMakes.
-/
namespace Go.Proofs.Ythaafniahkejkaa.Frame
open Go Go.RowKit
open Go.Proofs.Ythaafniahkejkaa.Crc (V ofW fourL refOf_any)
open Go.Proofs.Ythaafniahkejkaa.Wire (S S_list S_size S_append U fixB fixB_length lowB lowB_length reffix refLow_any cell_row frozen_row)

theorem S_app (l m : List UInt8) : S l ++ S m = S (l ++ m) := S_append l m
set_option maxRecDepth 100000 in
set_option maxHeartbeats 1000000 in
theorem refMake_any (q : Int) (s : ByteArray) (hs : s.size ≤ 1000000000000) (w : World) :
    Calls Try.prog 17 #[.int .i64 q, .string s] w fun e w' => e = mkV q s ∧ Below w.heap.size w w' := by
  have HB0 := Lib.hid (Below.refl w.heap.size w)
  by_cases hq : 0 ≤ q ∧ q < 1048576
  · have g0 : decide (q < 0) = false := decide_eq_false (by omega)
    have g1 : decide (1048576 ≤ q) = false := decide_eq_false (by omega)
    have g2 : ¬ q < 0 := by omega
    have g3 : ¬ 1048576 ≤ q := by omega
    by_cases h0 : s.size = 0
    · have hV : mkV q s = .returned (.tuple #[.string ByteArray.empty, .int .i64 4]) := by
        unfold mkV mkB mkE; rw [if_pos hq, s_len, if_pos h0]; rfl
      have HV := Lib.hid hV
      have he : s = ⟨#[]⟩ := by
        have := s_len s; rw [h0] at this
        have := List.eq_nil_of_length_eq_zero this
        cases s with | mk d => cases d with | mk l => simp at this; subst this; rfl
      subst he
      clear hV
      go_enter Try.func17, Try.ntmps17
      go_wp2_with fail
      go_ret2
      exact ⟨HV.out.symm, HB0.out⟩
    · have hne : ¬ s.toList = [] := fun h => h0 (by rw [ByteArray.toList_eq] at h; rw [← s_len, h]; rfl)
      have hne2 : (s.toList == []) = false := beq_eq_false_iff_ne.2 hne
      by_cases h1 : 4096 < s.size
      · have hV : mkV q s = .returned (.tuple #[.string ByteArray.empty, .int .i64 40]) := by
          unfold mkV mkB mkE; rw [if_pos hq, s_len, if_neg h0, if_pos h1]; rfl
        have HV := Lib.hid hV
        clear hV
        go_enter Try.func17, Try.ntmps17
        go_wp2_with fail
        go_ret2
        exact ⟨HV.out.symm, HB0.out⟩
      · have hE : mkE q s.data.toList = 0 := mkE_ok hq.1 hq.2 (by rw [s_len]; omega) (by rw [s_len]; omega)
        have hV : mkV q s = .returned (.tuple #[.string (S (frB q.toNat s.data.toList)), .int .i64 0]) := by
          unfold mkV mkB; rw [if_pos hE, hE]; rfl
        have HV := Lib.hid hV
        have w2 : IntKind.u64.wrap q = U q.toNat := by rw [IntKind.wrap_u64]; unfold U; omega
        have w4 : q % 18446744073709551616 = U q.toNat := by unfold U; omega
        have w1 : IntKind.u64.wrap (s.size : Int) = U s.size := by rw [IntKind.wrap_u64]; unfold U; omega
        have w3 : (s.size : Int) % 18446744073709551616 = U s.size := by unfold U; omega
        have HN1 : Hid (s.size < 18446744073709551616) := Lib.hid (by omega)
        have HN2 : Hid (q.toNat < 18446744073709551616) := Lib.hid (by omega)
        have HS := Lib.hid (show s.size ≤ 4096 by omega)
        have hh : S (fixB 4 s.size) ++ S (fixB 8 q.toNat) = S (headB s.size q.toNat) := S_app _ _
        have z1 : (S (fixB 4 s.size)).size = 4 := by rw [S_size, fixB_length]
        have z2 : (S (fixB 8 q.toNat)).size = 8 := by rw [S_size, fixB_length]
        have hhl : (S (headB s.size q.toNat)).size = 12 := by rw [S_size, headB_length]
        have hcat : S (headB s.size q.toNat) ++ s = S (headB s.size q.toNat ++ s.data.toList) := S_app _ s.data.toList
        have hcz : (S (headB s.size q.toNat ++ s.data.toList)).size ≤ 5000 := by rw [S_size, List.length_append, headB_length, s_len]; omega
        generalize hc : sumW (headB s.size q.toNat) s.data.toList = c
        have HC := Lib.hid hc
        have HCL : Hid (c.toNat < 4294967296) := Lib.hid c.isLt
        have hl4 : (S (lowB c.toNat)).size = 4 := by rw [S_size, lowB_length]
        have hF : S (headB s.size q.toNat) ++ S (lowB c.toNat) ++ s = S (frB q.toNat s.data.toList) := by
          unfold frB
          rw [s_len, hc, fourL_low]
          rw [S_app]
          exact (S_app _ s.data.toList).trans (by rw [List.append_assoc])
        have hg : S (headB s.size q.toNat) ++ S (lowB c.toNat) = S (headB s.size q.toNat ++ lowB c.toNat) := S_app _ _
        have hgz : (S (headB s.size q.toNat ++ lowB c.toNat)).size = 16 := by rw [S_size, List.length_append, headB_length, lowB_length]
        have hF2 : S (headB s.size q.toNat ++ lowB c.toNat) ++ s = S (frB q.toNat s.data.toList) := by rw [← hg]; exact hF
        clear hV hE hF
        go_enter Try.func17, Try.ntmps17
        go_wp2_with fail
        refine (reffix 4 s.size _ rfl HN1 _ (by decide)).mono ?_
        rintro e W1 ⟨rfl, hb⟩
        have HB := Lib.hid hb; clear hb
        go_wp2_with fail
        refine (reffix 8 q.toNat _ rfl HN2 _ (by decide)).mono ?_
        rintro e W2 ⟨rfl, hb⟩
        replace HB := Lib.hid (HB.out.trans (hb.mono HB.out.size)); clear hb
        go_wp2_with fail
        refine (refOf_any _ _ (Nat.le_trans hcz (by decide))).mono ?_
        rintro e W3 ⟨rfl, rfl⟩
        rw [S_list]
        rw [show V (ofW (headB s.size q.toNat ++ s.data.toList)) = U c.toNat by rw [← HC.out]; rfl]
        go_wp2_with fail
        refine (refLow_any c.toNat _ HCL).mono ?_
        rintro e W4 ⟨rfl, hb⟩
        replace HB := Lib.hid (HB.out.trans (hb.mono HB.out.size)); clear hb
        go_wp2_with fail
        go_ret2
        exact ⟨HV.out.symm, HB.out⟩
  · have hV : mkV q s = .returned (.tuple #[.string ByteArray.empty, .int .i64 1]) := by
      unfold mkV mkB mkE; rw [if_neg hq]; rfl
    have HV := Lib.hid hV
    clear hV
    by_cases h0 : q < 0
    · have g0 : decide (q < 0) = true := decide_eq_true h0
      go_enter Try.func17, Try.ntmps17
      go_wp2_with fail
      go_ret2
      exact ⟨HV.out.symm, HB0.out⟩
    · have g1 : 1048576 ≤ q := by omega
      go_enter Try.func17, Try.ntmps17
      go_wp2_with fail
      go_ret2
      exact ⟨HV.out.symm, HB0.out⟩
end Go.Proofs.Ythaafniahkejkaa.Frame
