/-
  The document's Reader: Short.
-/
import Derived.Test.YtdllncbacbpedaaB22
namespace Go.Proofs.Ytdllncbacbpedaa.Wire
open Go.RowKit

theorem scan_i (s : ByteArray) (i k acc : Nat) (h : i + k < s.size) : scan (s.data.toList.drop (i + k)) k acc =
    if (k = 9 ∧ 1 < s[i + k].toNat) ∨ (0 < k ∧ s[i + k].toNat = 0) then (0, 0, 4) else if s[i + k].toNat < 128 then (acc + 128 ^ k * (s[i + k].toNat % 128), k + 1, 0) else scan (s.data.toList.drop (i + (k + 1))) (k + 1) (acc + 128 ^ k * (s[i + k].toNat % 128)) := by
  rw [List.drop_eq_getElem_cons (by simpa using h), scan]; rfl
theorem scan_e (s : ByteArray) (i k acc : Nat) (h : s.size ≤ i + k) : scan (s.data.toList.drop (i + k)) k acc = (0, 0, 8) := by
  rw [List.drop_of_length_le (by simpa using h), scan]
/-- one byte of a short number, in words -/
theorem mul_step (acc k c : Nat) (hacc : acc < 128 ^ k) (hk : k ≤ 9) (hc : c < 256) (h9 : k = 9 → c ≤ 1) :
    IntKind.u64.wrap (U (128 ^ k) * ((c % 128 : Nat) : Int)) = U (128 ^ k * (c % 128)) ∧ IntKind.u64.wrap (U acc + U (128 ^ k * (c % 128))) = U (acc + 128 ^ k * (c % 128)) := by
  have hb : 128 ^ k * (c % 128) + acc < 18446744073709551616 := by
    by_cases h : k = 9
    · have := h9 h; subst h
      have : c % 128 ≤ 1 := by omega
      have : 128 ^ 9 * (c % 128) ≤ 128 ^ 9 * 1 := Nat.mul_le_mul_left _ this
      omega
    · have h2 : (128 : Nat) ^ k ≤ 128 ^ 8 := Nat.pow_le_pow_right (by decide) (by omega)
      have : 128 ^ k * (c % 128) ≤ 128 ^ 8 * 127 := Nat.mul_le_mul h2 (by omega)
      omega
  unfold U
  refine ⟨?_, ?_⟩
  · rw [IntKind.wrap_u64, ← Int.natCast_mul]; omega
  · rw [IntKind.wrap_u64]; omega
theorem pow_128 (k : Nat) (hk : k ≤ 8) : IntKind.u64.wrap (U (128 ^ k) * 128) = U (128 ^ (k + 1)) := by
  have h2 : (128 : Nat) ^ k ≤ 128 ^ 8 := Nat.pow_le_pow_right (by decide) (by omega)
  have : (128 : Nat) ^ (k + 1) = 128 ^ k * 128 := Nat.pow_succ _ _
  unfold U
  rw [IntKind.wrap_u64, this]; omega

theorem mul_forms (acc k c : Nat) (hacc : acc < 128 ^ k) (hk : k ≤ 9) (hc : c < 2 ^ 8) (h9 : k = 9 → c ≤ 1) :
    IntKind.u64.wrap (U (128 ^ k) * ((c : Int) % 128)) = U (128 ^ k * (c % 128)) ∧ IntKind.u64.wrap (U acc + U (128 ^ k * (c % 128))) = U (acc + 128 ^ k * (c % 128)) ∧
      U (128 ^ k) * ((c : Int) % 128) % 18446744073709551616 = U (128 ^ k * (c % 128)) ∧ (U acc + U (128 ^ k * (c % 128))) % 18446744073709551616 = U (acc + 128 ^ k * (c % 128)) := by
  obtain ⟨h1, h2⟩ := mul_step acc k c hacc hk (by omega) h9
  rw [Int.natCast_emod] at h1
  exact ⟨h1, h2, by rw [← IntKind.wrap_u64]; exact h1, by rw [← IntKind.wrap_u64]; exact h2⟩

set_option maxRecDepth 100000 in
set_option maxHeartbeats 2000000 in
theorem dshort_any (d : Nat) (s : ByteArray) (i e m : Nat) (w : World) (h : Dr w d s i e) (hi : i ≤ s.size) (hs : s.size ≤ 1000000000000) :
    Calls Try.prog 61 #[.pointer (some ⟨d, 0, none⟩), .int .u64 (U m)] w fun x w' => x = .returned (.int .u64 (U (shR s i e m).1)) ∧ DStep w w' d s (shR s i e m).2.1 (shR s i e m).2.2 := by
  obtain ⟨c0, c1, c2, c3⟩ := h.cells
  have u0 : U 0 = 0 := rfl
  by_cases he : e = 0
  · subst he
    have HM : Hid (shR s i 0 m = if m < (scan (s.data.toList.drop i) 0 0).1 then (0, i, 40) else ((scan (s.data.toList.drop i) 0 0).1, i + (scan (s.data.toList.drop i) 0 0).2.1, (scan (s.data.toList.drop i) 0 0).2.2)) := by unfold shR; rw [if_pos rfl]; rfl
    obtain ⟨R, hR0⟩ : ∃ R, R = scan (s.data.toList.drop i) 0 0 := ⟨_, rfl⟩
    rw [← hR0] at HM
    have HR0 := Lib.hid hR0; clear hR0
    have f1 := frozen_row h 1
    have H := Lib.hid h
    clear h c3
    have HER : Hid (∀ f, f ≠ 0 → R = (0, 0, f) → shR s i 0 m = (0, i, f)) := by
      intro f hf hR
      have := HM.out; rw [hR, if_neg (by simp)] at this; exact this
    have HW : Hid (∀ n, DStep w (w.drewN n) d s i 0) := fun n => (DStep.refl H.out).drewN n
    go_enter Try.func61, Try.ntmps61
    go_wp2_with fail
    go_loopw [5, 6, 7] (fun n t j wr => ∃ k acc z : Nat, k ≤ 9 ∧ i + k ≤ s.size ∧ j = .int .i64 k ∧ n = .int .u64 (U acc) ∧ t = .int .u64 (U (128 ^ k)) ∧ wr = w.drewN z ∧ Hid (acc < 128 ^ k ∧ scan (s.data.toList.drop (i + k)) k acc = R)) (fun _ _ j _ => 10 - (intOf j).toNat)
    case atStart => exact ⟨0, 0, 0, by omega, by omega, rfl, rfl, rfl, rfl, by decide, HR0.out.symm⟩
    case round =>
      obtain ⟨k, acc, z, hk9, hik, rfl, rfl, rfl, rfl, hR⟩ := hrel
      obtain ⟨p, hp⟩ : ∃ p, p = i + k := ⟨_, rfl⟩
      have hadd : IntKind.i64.wrap ((i : Int) + (k : Int)) = (p : Int) := by rw [hp, IntWalk.i64_in _ (by omega)]; omega
      have hadd2 : IntKind.i64.wrap ((p : Int) + 1) = (p : Int) + 1 := IntWalk.i64_in _ (by omega)
      have HP := Lib.hid hp
      have hp0 : (0 : Int) ≤ (p : Int) := by omega
      by_cases hlt : p < s.size
      · have hS := hR.out.2
        rw [scan_i s i k acc (by omega)] at hS
        have HA := Lib.hid hR.out.1
        have hcl := s[p].toNat_lt
        have hcp : s[i + k]'(by omega) = s[p] := by subst hp; rfl
        rw [hcp] at hS
        have HS := Lib.hid hS
        clear hR hS hcp hp
        have hp1 : (p : Int) < (s.size : Int) := by omega
        have hu : IntKind.u64.wrap (s[p].toNat : Int) = (s[p].toNat : Int) := by rw [IntKind.wrap_u64]; omega
        have hcases : ((k = 9 ∧ 1 < s[p].toNat) ∨ (k = 9 ∧ s[p].toNat = 0) ∨ (k ≠ 9 ∧ 0 < k ∧ s[p].toNat = 0)) ∨ (k = 9 ∧ s[p].toNat = 1) ∨ (k ≠ 9 ∧ 0 < k ∧ s[p].toNat ≠ 0 ∧ s[p].toNat < 128) ∨ (k ≠ 9 ∧ 0 < k ∧ s[p].toNat ≠ 0 ∧ 128 ≤ s[p].toNat) ∨ (k = 0 ∧ s[p].toNat < 128) ∨ (k = 0 ∧ 128 ≤ s[p].toNat) := by omega
        rcases hcases with hq | hq | hq | hq | hq | hq
        · have HB : Hid (R = (0, 0, 4)) := by
            have := HS.out; rw [if_pos (by omega)] at this; exact this.symm
          have HE := Lib.hid (HER.out 4 (by decide) HB.out)
          clear HS HM HER
          rcases hq with hq | hq | hq
          · have i9 : ((k : Int) == 9) = true := by rw [beq_iff_eq]; omega
            have ic1 : (1 : Int) < (s[p].toNat : Int) := by omega
            have HQ := Lib.hid hq; clear hq
            go_wp2_with fail
            go_quiet (fail)
            go_wp2_with fail
            go_quiet (fail)
            go_wp2_with fail
            refine (dwrong d s i 4 _ (HW.out _).1 (by decide) 4 rfl).mono ?_; rintro x w1 ⟨rfl, hst⟩
            have HST := Lib.hid ((HW.out _).trans hst); clear hst
            go_wp2_with fail
            go_ret
            refine ⟨by rw [HE.out]; rfl, ?_⟩
            rw [HE.out]; exact HST.out
          · have i9 : ((k : Int) == 9) = true := by rw [beq_iff_eq]; omega
            have ic1 : (s[p].toNat : Int) ≤ 1 := by omega
            have ip : (0 : Int) < (k : Int) := by omega
            have ic0 : ((s[p].toNat : Int) == 0) = true := by rw [beq_iff_eq]; omega
            have HQ := Lib.hid hq; clear hq
            go_wp2_with fail
            go_quiet (fail)
            go_wp2_with fail
            go_quiet (fail)
            go_wp2_with fail
            refine (dwrong d s i 4 _ (HW.out _).1 (by decide) 4 rfl).mono ?_; rintro x w1 ⟨rfl, hst⟩
            have HST := Lib.hid ((HW.out _).trans hst); clear hst
            go_wp2_with fail
            go_ret
            refine ⟨by rw [HE.out]; rfl, ?_⟩
            rw [HE.out]; exact HST.out
          · have i9 : ((k : Int) == 9) = false := by rw [beq_eq_false_iff_ne]; omega
            have ip : (0 : Int) < (k : Int) := by omega
            have ic0 : ((s[p].toNat : Int) == 0) = true := by rw [beq_iff_eq]; omega
            have HQ := Lib.hid hq; clear hq
            go_wp2_with fail
            go_quiet (fail)
            go_wp2_with fail
            go_quiet (fail)
            go_wp2_with fail
            refine (dwrong d s i 4 _ (HW.out _).1 (by decide) 4 rfl).mono ?_; rintro x w1 ⟨rfl, hst⟩
            have HST := Lib.hid ((HW.out _).trans hst); clear hst
            go_wp2_with fail
            go_ret
            refine ⟨by rw [HE.out]; rfl, ?_⟩
            rw [HE.out]; exact HST.out
        · have HB : Hid ((acc + 128 ^ k * (s[p].toNat % 128), k + 1, 0) = R) := by
            have := HS.out; rw [if_neg (by omega), if_pos (by omega)] at this; exact this
          have i9 : ((k : Int) == 9) = true := by rw [beq_iff_eq]; omega
          have ic1 : (s[p].toNat : Int) ≤ 1 := by omega
          have ip : (0 : Int) < (k : Int) := by omega
          have ic0 : ((s[p].toNat : Int) == 0) = false := by rw [beq_eq_false_iff_ne]; omega
          have il : (s[p].toNat : Int) < 128 := by omega
          obtain ⟨hm1, hm2, hm3, hm4⟩ := mul_forms acc k s[p].toNat HA.out hk9 hcl (by omega)
          have hM := HM.out
          rw [← HB.out] at hM
          clear HS HM HER HB
          generalize hV : acc + 128 ^ k * (s[p].toNat % 128) = V at *
          clear hV
          simp only [] at hM
          have HQ := Lib.hid hq; clear hq
          by_cases hm : m < V
          · have hg : U m < U V := by unfold U; omega
            have HE : Hid (shR s i 0 m = (0, i, 40)) := hM.trans (if_pos hm)
            clear hM hm
            go_wp2_with fail
            go_quiet (fail)
            go_wp2_with fail
            go_quiet (fail)
            go_wp2_with fail
            refine (dwrong d s i 40 _ (HW.out _).1 (by decide) 40 rfl).mono ?_; rintro x w1 ⟨rfl, hst⟩
            have HST := Lib.hid ((HW.out _).trans hst); clear hst
            go_wp2_with fail
            go_ret
            refine ⟨by rw [HE.out]; rfl, ?_⟩
            rw [HE.out]; exact HST.out
          · have hg : U V ≤ U m := by unfold U; omega
            have HE : Hid (shR s i 0 m = (V, i + (k + 1), 0)) := hM.trans (if_neg hm)
            clear hM hm
            go_wp2_with fail
            go_quiet (fail)
            go_wp2_with fail
            go_quiet (fail)
            go_wp2_with fail
            go_ret
            refine ⟨by rw [HE.out]; rfl, ?_⟩
            rw [HE.out]
            have he : (p : Int) + 1 = ((i + (k + 1) : Nat) : Int) := by have := HP.out; omega
            rw [he]
            exact (HW.out _).trans ⟨heap_set (w := w.drewN _) (HW.out _).1 1 (.int .i64 ((i + (k + 1) : Nat) : Int)), grown_set _ _ _ _⟩
        · have HB : Hid ((acc + 128 ^ k * (s[p].toNat % 128), k + 1, 0) = R) := by
            have := HS.out; rw [if_neg (by omega), if_pos (by omega)] at this; exact this
          have i9 : ((k : Int) == 9) = false := by rw [beq_eq_false_iff_ne]; omega
          have ip : (0 : Int) < (k : Int) := by omega
          have ic0 : ((s[p].toNat : Int) == 0) = false := by rw [beq_eq_false_iff_ne]; omega
          have il : (s[p].toNat : Int) < 128 := by omega
          obtain ⟨hm1, hm2, hm3, hm4⟩ := mul_forms acc k s[p].toNat HA.out hk9 hcl (by omega)
          have hM := HM.out
          rw [← HB.out] at hM
          clear HS HM HER HB
          generalize hV : acc + 128 ^ k * (s[p].toNat % 128) = V at *
          clear hV
          simp only [] at hM
          have HQ := Lib.hid hq; clear hq
          by_cases hm : m < V
          · have hg : U m < U V := by unfold U; omega
            have HE : Hid (shR s i 0 m = (0, i, 40)) := hM.trans (if_pos hm)
            clear hM hm
            go_wp2_with fail
            go_quiet (fail)
            go_wp2_with fail
            go_quiet (fail)
            go_wp2_with fail
            refine (dwrong d s i 40 _ (HW.out _).1 (by decide) 40 rfl).mono ?_; rintro x w1 ⟨rfl, hst⟩
            have HST := Lib.hid ((HW.out _).trans hst); clear hst
            go_wp2_with fail
            go_ret
            refine ⟨by rw [HE.out]; rfl, ?_⟩
            rw [HE.out]; exact HST.out
          · have hg : U V ≤ U m := by unfold U; omega
            have HE : Hid (shR s i 0 m = (V, i + (k + 1), 0)) := hM.trans (if_neg hm)
            clear hM hm
            go_wp2_with fail
            go_quiet (fail)
            go_wp2_with fail
            go_quiet (fail)
            go_wp2_with fail
            go_ret
            refine ⟨by rw [HE.out]; rfl, ?_⟩
            rw [HE.out]
            have he : (p : Int) + 1 = ((i + (k + 1) : Nat) : Int) := by have := HP.out; omega
            rw [he]
            exact (HW.out _).trans ⟨heap_set (w := w.drewN _) (HW.out _).1 1 (.int .i64 ((i + (k + 1) : Nat) : Int)), grown_set _ _ _ _⟩
        · have HB : Hid (scan (s.data.toList.drop (i + (k + 1))) (k + 1) (acc + 128 ^ k * (s[p].toNat % 128)) = R) := by
            have := HS.out; rw [if_neg (by omega), if_neg (by omega)] at this; exact this
          have i9 : ((k : Int) == 9) = false := by rw [beq_eq_false_iff_ne]; omega
          have ip : (0 : Int) < (k : Int) := by omega
          have ic0 : ((s[p].toNat : Int) == 0) = false := by rw [beq_eq_false_iff_ne]; omega
          have il : (128 : Int) ≤ (s[p].toNat : Int) := by omega
          obtain ⟨hm1, hm2, hm3, hm4⟩ := mul_forms acc k s[p].toNat HA.out hk9 hcl (by omega)
          have ht1 := pow_128 k (by omega)
          have ht2 : U (128 ^ k) * 128 % 18446744073709551616 = U (128 ^ (k + 1)) := by rw [← IntKind.wrap_u64]; exact ht1
          have HV := Lib.hid (pow_step HA.out (Nat.mod_lt s[p].toNat (by decide)))
          clear HS HM HER
          generalize hV : acc + 128 ^ k * (s[p].toNat % 128) = V at *
          clear hV
          have HQ := Lib.hid hq; clear hq
          go_wp2_with fail
          go_quiet (fail)
          go_wp2_with fail
          go_quiet (fail)
          go_wp2_with fail
          go_roundw
          case rel => exact ⟨k + 1, V, _, by have := HQ.out; omega, by have := HP.out; omega, by go_num, rfl, rfl, rfl, HV.out, HB.out⟩
          case measure => simp [intOf] <;> omega
        · have HB : Hid ((acc + 128 ^ k * (s[p].toNat % 128), k + 1, 0) = R) := by
            have := HS.out; rw [if_neg (by omega), if_pos (by omega)] at this; exact this
          have i9 : ((k : Int) == 9) = false := by rw [beq_eq_false_iff_ne]; omega
          have ip : (k : Int) ≤ 0 := by omega
          have il : (s[p].toNat : Int) < 128 := by omega
          obtain ⟨hm1, hm2, hm3, hm4⟩ := mul_forms acc k s[p].toNat HA.out hk9 hcl (by omega)
          have hM := HM.out
          rw [← HB.out] at hM
          clear HS HM HER HB
          generalize hV : acc + 128 ^ k * (s[p].toNat % 128) = V at *
          clear hV
          simp only [] at hM
          have HQ := Lib.hid hq; clear hq
          by_cases hm : m < V
          · have hg : U m < U V := by unfold U; omega
            have HE : Hid (shR s i 0 m = (0, i, 40)) := hM.trans (if_pos hm)
            clear hM hm
            go_wp2_with fail
            go_quiet (fail)
            go_wp2_with fail
            go_quiet (fail)
            go_wp2_with fail
            refine (dwrong d s i 40 _ (HW.out _).1 (by decide) 40 rfl).mono ?_; rintro x w1 ⟨rfl, hst⟩
            have HST := Lib.hid ((HW.out _).trans hst); clear hst
            go_wp2_with fail
            go_ret
            refine ⟨by rw [HE.out]; rfl, ?_⟩
            rw [HE.out]; exact HST.out
          · have hg : U V ≤ U m := by unfold U; omega
            have HE : Hid (shR s i 0 m = (V, i + (k + 1), 0)) := hM.trans (if_neg hm)
            clear hM hm
            go_wp2_with fail
            go_quiet (fail)
            go_wp2_with fail
            go_quiet (fail)
            go_wp2_with fail
            go_ret
            refine ⟨by rw [HE.out]; rfl, ?_⟩
            rw [HE.out]
            have he : (p : Int) + 1 = ((i + (k + 1) : Nat) : Int) := by have := HP.out; omega
            rw [he]
            exact (HW.out _).trans ⟨heap_set (w := w.drewN _) (HW.out _).1 1 (.int .i64 ((i + (k + 1) : Nat) : Int)), grown_set _ _ _ _⟩
        · have HB : Hid (scan (s.data.toList.drop (i + (k + 1))) (k + 1) (acc + 128 ^ k * (s[p].toNat % 128)) = R) := by
            have := HS.out; rw [if_neg (by omega), if_neg (by omega)] at this; exact this
          have i9 : ((k : Int) == 9) = false := by rw [beq_eq_false_iff_ne]; omega
          have ip : (k : Int) ≤ 0 := by omega
          have il : (128 : Int) ≤ (s[p].toNat : Int) := by omega
          obtain ⟨hm1, hm2, hm3, hm4⟩ := mul_forms acc k s[p].toNat HA.out hk9 hcl (by omega)
          have ht1 := pow_128 k (by omega)
          have ht2 : U (128 ^ k) * 128 % 18446744073709551616 = U (128 ^ (k + 1)) := by rw [← IntKind.wrap_u64]; exact ht1
          have HV := Lib.hid (pow_step HA.out (Nat.mod_lt s[p].toNat (by decide)))
          clear HS HM HER
          generalize hV : acc + 128 ^ k * (s[p].toNat % 128) = V at *
          clear hV
          have HQ := Lib.hid hq; clear hq
          go_wp2_with fail
          go_quiet (fail)
          go_wp2_with fail
          go_quiet (fail)
          go_wp2_with fail
          go_roundw
          case rel => exact ⟨k + 1, V, _, by have := HQ.out; omega, by have := HP.out; omega, by go_num, rfl, rfl, rfl, HV.out, HB.out⟩
          case measure => simp [intOf] <;> omega
      · have HB : Hid (R = (0, 0, 8)) := by
          have := hR.out.2; rw [scan_e s i k acc (by omega)] at this; exact this.symm
        have HE := Lib.hid (HER.out 8 (by decide) HB.out)
        have hp1 : (s.size : Int) ≤ (p : Int) := by omega
        clear hR hp HM HER
        go_wp2_with fail
        go_quiet (fail)
        go_wp2_with fail
        refine (dwrong d s i 8 _ (HW.out _).1 (by decide) 8 rfl).mono ?_; rintro x w1 ⟨rfl, hst⟩
        have HST := Lib.hid ((HW.out _).trans hst); clear hst
        go_wp2_with fail
        go_ret
        refine ⟨by rw [HE.out]; rfl, ?_⟩
        rw [HE.out]; exact HST.out
  · have HM : Hid (shR s i e m = (0, i, e)) := if_neg he
    have hb : ((e : Int) != 0) = true := by rw [bne_iff_ne]; omega
    have H := Lib.hid h
    clear he h c3
    go_enter Try.func61, Try.ntmps61
    go_wp2_with fail
    go_ret
    refine ⟨by rw [HM.out]; rfl, ?_⟩
    rw [HM.out]; exact DStep.refl H.out

end Go.Proofs.Ytdllncbacbpedaa.Wire
