import Derived.Test.YthaafniahkejkaaFI
/-
  The walk of the statement FrameOne.
-/
namespace Go.Proofs.Ythaafniahkejkaa.Frame
open Go Go.RowKit
open Go.Proofs.Ythaafniahkejkaa.Wire (S S_list S_size cell_row frozen_row)

theorem S_data (s : ByteArray) : S s.data.toList = s := rfl
theorem i64_of {a : Int} (h : (Lit.int .i64 a).wf = true) : -9223372036854775808 ≤ a ∧ a ≤ 9223372036854775807 := by
  simp [Lit.wf, IntKind.min, IntKind.max, IntKind.bits, IntKind.signed] at h; omega
set_option maxRecDepth 100000 in
set_option maxHeartbeats 4000000 in
theorem one_law (s : ByteArray) (a : Int) (w0 : s.size ≤ maxLen) (w1 : (Lit.int .i64 a).wf = true) (w : World) :
    Calls Try.prog 7 #[.string s, .int .i64 a] w fun e w' => e = .returned (.bool true) ∧ Below w.heap.size w w' := by
  have HW := Lib.hid (fun W => works_any W)
  clear w1
  by_cases hs : s.size ≤ 12000
  · have z0 : decide ((12000 : Int) < (s.size : Int)) = false := decide_eq_false (by omega)
    have z1 : decide (12000 < s.size) = false := decide_eq_false (by omega)
    have HS := Lib.hid hs
    have hrd := fun W => Read_any s a (by omega) W
    clear hs w0
    by_cases hp : 0 ≤ a ∧ a ≤ s.size
    · obtain ⟨k, rfl⟩ : ∃ k : Nat, a = (k : Int) := ⟨a.toNat, by omega⟩
      have HP := Lib.hid (show k ≤ s.size by omega)
      unfold rdV at hrd
      rw [if_pos hp, Int.toNat_natCast] at hrd
      clear hp
      obtain ⟨T, hT⟩ : ∃ T, s.data.toList.drop k = T := ⟨_, rfl⟩
      rw [hT] at hrd
      have HT := Lib.hid hT
      clear hT
      by_cases h0 : rdE T = 0
      · rw [if_pos h0] at hrd
        obtain ⟨hbk, hmk⟩ := rd_back h0
        have hkl := rdK_le h0
        obtain ⟨hz1, hz2, hz3, hz4, _⟩ := rd_zero h0
        have hpl := rdP_length hz1
        have HRD := Lib.hid hrd
        have hmm := fun W => Make_any (rdQ T : Int) (S (rdP T)) (by rw [S_size, hpl]; omega) W
        unfold mkV mkB at hmm
        rw [S_list, if_pos hmk, hmk, Int.toNat_natCast, hbk] at hmm
        have HMM := Lib.hid hmm
        have hTl : T.length = s.size - k := by rw [← HT.out, List.length_drop]; simp
        have hlen : (T.take (rdK T)).length = rdK T := by rw [List.length_take]; omega
        have hsz : (S (T.take (rdK T))).size = rdK T := by rw [S_size, hlen]
        have hsl : s.extract k (k + rdK T) = S (T.take (rdK T)) := by
          have := S_mid s.data.toList k (k + rdK T)
          rw [HT.out, Nat.add_sub_cancel_left] at this
          exact this
        have hsm := slice_mid s k (k + rdK T) (by omega) (by have := HP.out; omega)
        rw [HT.out, Nat.add_sub_cancel_left] at hsm
        rw [show ((k + rdK T : Nat) : Int) = (k : Int) + (rdK T : Int) by omega] at hsm
        have hkc : (k : Int) + (rdK T : Int) ≤ (s.size : Int) := by have := HP.out; omega
        have hkb : k + rdK T ≤ 12000 := by have := HP.out; have := HS.out; omega
        have hps : (S (rdP T)).size = rdN T := by rw [S_size, hpl]
        have HSI := Lib.hid (fun W => Size_any (rdN T : Int) W)
        rw [szI_yes ⟨hz2, hz3⟩] at HSI
        have hk16 : 16 + (rdN T : Int) = (rdK T : Int) := by unfold rdK; omega
        rw [hk16] at HSI
        clear hpl hbk hmk hkl hz1 hz2 hz3 hz4 hrd hmm hlen hTl hk16
        generalize rdK T = n at *
        have hki : wrap64 ((k : Int) + (n : Int)) = (k : Int) + (n : Int) := IntWalk.wrap64_in _ ⟨by omega, by omega⟩
        have hkj : IntKind.i64.wrap ((k : Int) + (n : Int)) = (k : Int) + (n : Int) := IntWalk.i64_in _ ⟨by omega, by omega⟩
        generalize S (T.take n) = F at *
        go_enter Try.func7, Try.ntmps7
        go_wp2_with fail
        refine (HW.out _).mono ?_
        rintro e w1 ⟨rfl, hb⟩
        have HB := Lib.hid hb; clear hb
        go_wp2_with fail
        refine (HRD.out _).mono ?_
        rintro e w2 ⟨rfl, hb⟩
        replace HB := Lib.hid (HB.out.trans (hb.mono HB.out.size)); clear hb
        unfold frV
        go_wp2_with fail
        refine (HMM.out _).mono ?_
        rintro e w3 ⟨rfl, hb⟩
        have hba := HB.out.alloc HB.out.size (.cells #[.int .i64 (rdQ T : Int), .string (S (rdP T)), .int .i64 (k : Int)] 26)
        have hbx := heap_alloc_new w2 (.cells #[.int .i64 (rdQ T : Int), .string (S (rdP T)), .int .i64 (k : Int)] 26)
        have hbx3 := (hb.block w2.heap.size (by simp)).trans hbx
        have c1 : w3.cell? ⟨w2.heap.size, 1, none⟩ = some (.string (S (rdP T))) := cell_row hbx3 1
        have c2 : w3.cell? ⟨w2.heap.size, 2, none⟩ = some (.int .i64 (k : Int)) := cell_row hbx3 2
        replace HB := Lib.hid (hba.trans (hb.mono hba.size))
        clear hb hba hbx hbx3
        go_wp2_with (go_at_call 13; refine (HSI.out _).mono ?_; rintro e w4 ⟨rfl, rfl⟩)
        go_ret
        exact ⟨rfl, HB.out⟩
      · rw [if_neg h0] at hrd
        have HRD := Lib.hid hrd
        obtain ⟨q1, q2, q3, q4, q5⟩ := nat_ne h0
        generalize rdE T = x at HRD q1 q2 q3 q4 q5
        clear h0 hrd
        go_enter Try.func7, Try.ntmps7
        go_wp2_with fail
        refine (HW.out _).mono ?_
        rintro e w1 ⟨rfl, hb⟩
        have HB := Lib.hid hb; clear hb
        go_wp2_with fail
        refine (HRD.out _).mono ?_
        rintro e w2 ⟨rfl, hb⟩
        replace HB := Lib.hid (HB.out.trans (hb.mono HB.out.size)); clear hb
        rw [zero_fr]
        go_wp2_with fail
        go_ret
        exact ⟨rfl, HB.out.alloc HB.out.size _⟩
    · unfold rdV at hrd
      rw [if_neg hp] at hrd
      have HRD := Lib.hid hrd
      clear hrd hp
      go_enter Try.func7, Try.ntmps7
      go_wp2_with fail
      refine (HW.out _).mono ?_
      rintro e w1 ⟨rfl, hb⟩
      have HB := Lib.hid hb; clear hb
      go_wp2_with fail
      refine (HRD.out _).mono ?_
      rintro e w2 ⟨rfl, hb⟩
      replace HB := Lib.hid (HB.out.trans (hb.mono HB.out.size)); clear hb
      rw [zero_fr]
      go_wp2_with fail
      go_ret
      exact ⟨rfl, HB.out.alloc HB.out.size _⟩
  · have z0 : (12000 : Int) < (s.size : Int) := by omega
    have z1 : 12000 < s.size := by omega
    clear hs
    go_enter Try.func7, Try.ntmps7
    go_wp2_with fail
    refine (HW.out _).mono ?_
    rintro e w1 ⟨rfl, hb⟩
    have HB := Lib.hid hb; clear hb
    go_wp2_with fail
    refine (HW.out _).mono ?_
    rintro e w2 ⟨rfl, hb⟩
    replace HB := Lib.hid (HB.out.trans (hb.mono HB.out.size)); clear hb
    go_wp2_with fail
    go_ret
    exact ⟨rfl, HB.out⟩
end Go.Proofs.Ythaafniahkejkaa.Frame
