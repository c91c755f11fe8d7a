import Derived.Test.YtkjnddgjnlbopaaJA
import Derived.Test.YtkjnddgjnlbopaaIP
import Derived.BigQuiet
/-
  The document's Index: Steps, Get.
-/
namespace Go.Proofs.Ytkjnddgjnlbopaa.Index
open Go Go.RowKit
open Go.Proofs.Ytkjnddgjnlbopaa.Wire (S S_list S_size cell_row frozen_row row_lt heap_set heap_far)
open Go.Proofs.Ytkjnddgjnlbopaa.Frame Go.Proofs.Ytkjnddgjnlbopaa.Seg

set_option maxRecDepth 100000 in
set_option maxHeartbeats 2000000 in
/-- **Steps** -/
theorem steps_r (w : World) (b a ev : Nat) (A : Option Addr) (n cap g : Nat) (q : Int) (h : RB4 w b a ev (.slice A n cap) g) (hev : 1 ≤ ev) (hsm : a + n ≤ 100000000) :
    Calls Try.prog 25 #[.pointer (some ⟨b, 0, none⟩), .int .i64 q] w fun e w' => e = .returned (.int .i64 (if (a : Int) ≤ q ∧ q < (a : Int) + n then (((q.toNat - a) % ev + 1 : Nat) : Int) else 0)) ∧ Below w.heap.size w w' := by
  have HN := Lib.hid (next_r w b a ev A n cap g h hsm)
  have HRB := Lib.hid h
  obtain ⟨⟨c0, c1, c2, c3⟩, -⟩ := h.facts
  obtain ⟨m, hm⟩ : ∃ m, a + n = m := ⟨_, rfl⟩
  rw [hm] at HN
  by_cases hq : (a : Int) ≤ q ∧ q < (a : Int) + n
  · rw [if_pos hq]
    obtain ⟨k, rfl⟩ : ∃ k : Nat, q = (k : Int) := ⟨q.toNat, by omega⟩
    rw [Int.toNat_natCast]
    have k1 : decide ((k : Int) < (a : Int)) = false := decide_eq_false (by omega)
    have k2 : decide ((m : Int) ≤ (k : Int)) = false := decide_eq_false (by omega)
    have k3 : ¬ k < a := by omega
    have k4 : ¬ m ≤ k := by omega
    obtain ⟨D, hD⟩ : ∃ D, k - a = D := ⟨_, rfl⟩
    rw [hD]
    obtain ⟨R, hR⟩ : ∃ R, D % ev = R := ⟨_, rfl⟩
    rw [hR]
    have hRl : R < ev := by rw [← hR]; exact Nat.mod_lt _ (by omega)
    have hDl : D ≤ 100000000 := by omega
    have hRD : R ≤ D := by rw [← hR]; exact Nat.mod_le _ _
    have Z1 := Lib.hid (show wrap64 ((k : Int) - (a : Int)) = (D : Int) by rw [IntWalk.wrap64_in _ ⟨by omega, by omega⟩]; omega)
    have z2 : (D : Int).tmod (ev : Int) = (R : Int) := by rw [Int.tmod_eq_emod_of_nonneg (by omega), ← hR]; rfl
    have Z3 := Lib.hid (show wrap64 (R : Int) = (R : Int) from IntWalk.wrap64_in _ ⟨by omega, by omega⟩)
    have Z4 := Lib.hid (show wrap64 ((R : Int) + 1) = (R : Int) + 1 from IntWalk.wrap64_in _ ⟨by omega, by omega⟩)
    have z5 : ¬ (ev : Int) = 0 := by omega
    have z6 : ((ev : Int) == 0) = false := beq_eq_false_iff_ne.2 z5
    have z7 : ¬ ev = 0 := by omega
    clear hq hm hD hR hRl hDl hRD hev hsm h
    go_enter Try.func25, Try.ntmps25
    go_wp2_with fail
    refine HN.out.mono ?_
    rintro e w1 ⟨rfl, hb⟩
    have HB1 := Lib.hid hb
    have h1 : RB4 w1 b a ev (.slice A n cap) g := (hb.block _ (row_lt HRB.out)).trans HRB.out
    clear c0 c1 c2 c3
    obtain ⟨⟨c0, c1, c2, c3⟩, -⟩ := h1.facts
    clear hb h1
    have z1 := Z1.out
    have z3 := Z3.out
    have z4 := Z4.out
    go_wp2_with fail
    go_quiet (fail)
    go_wp2_with fail
    go_ret
    exact ⟨by simp [Z4.out], HB1.out.trans (below_dn _ _ _)⟩
  · rw [if_neg hq]
    by_cases h1 : q < (a : Int)
    · have k1 : decide (q < (a : Int)) = true := decide_eq_true h1
      clear hq h hm
      go_enter Try.func25, Try.ntmps25
      go_wp2_with fail
      go_ret
      exact ⟨rfl, Below.refl _ _⟩
    · have k1 : decide (q < (a : Int)) = false := decide_eq_false h1
      have k2 : decide ((m : Int) ≤ q) = true := decide_eq_true (by omega)
      have k3 : (m : Int) ≤ q := by omega
      clear hq h hm
      go_enter Try.func25, Try.ntmps25
      go_wp2_with fail
      refine HN.out.mono ?_
      rintro e w1 ⟨rfl, hb⟩
      have HB1 := Lib.hid hb
      clear hb
      go_wp2_with fail
      go_ret
      exact ⟨rfl, HB1.out⟩
set_option maxRecDepth 100000 in
/-- **Get**, of a number that is none of its -/
theorem get_r_none (w : World) (b a ev : Nat) (A : Option Addr) (n cap g : Nat) (s : ByteArray) (q : Int) (h : RB4 w b a ev (.slice A n cap) g) (hev : 1 ≤ ev) (hsm : a + n ≤ 100000000) (hq : ¬ ((a : Int) ≤ q ∧ q < (a : Int) + n)) :
    Calls Try.prog 24 #[.pointer (some ⟨b, 0, none⟩), .string s, .int .i64 q] w fun e w' => e = .returned (.tuple #[.string ⟨#[]⟩, .int .i64 5]) ∧ Below w.heap.size w w' := by
  have HS := Lib.hid (steps_r w b a ev A n cap g q h hev hsm)
  rw [if_neg hq] at HS
  clear hq h hev hsm
  go_enter Try.func24, Try.ntmps24
  go_wp2_with fail
  refine HS.out.mono ?_
  rintro e w1 ⟨rfl, hb⟩
  have HB1 := Lib.hid hb
  clear hb
  go_wp2_with fail
  go_ret2
  exact ⟨rfl, HB1.out⟩
theorem short_at (s : ByteArray) (p q : Nat) (h : s.size < p + 16) : isX s p q = 8 := by
  have h1 : rdE (s.data.toList.drop p) = 8 := by
    unfold rdE; rw [if_pos (by rw [List.length_drop]; simp; omega)]
  unfold isX; rw [h1, if_neg (by decide)]
theorem isX_read (s : ByteArray) (p q : Nat) : isX s p q = if rdE (s.data.toList.drop p) = 0 then (if rdQ (s.data.toList.drop p) = q then 0 else 4) else rdE (s.data.toList.drop p) := rfl
set_option maxRecDepth 100000 in
set_option maxHeartbeats 4000000 in
/-- **Get** -/
theorem get_r (w : World) (base b a ev : Nat) (ats : List Nat) (v : Value) (g : Nat) (s : ByteArray) (q : Nat) (h : RB4 w b a ev v g) (ho : OwnN w base v ats) (hev : 1 ≤ ev) (hq : a ≤ q ∧ q < a + ats.length) (hl : ats.length ≤ 900000) (hsm : a + ats.length ≤ 1048576) (hs : s.size ≤ 1000000000000) (hpl : ∀ x ∈ ats, x ≤ 1000000000000) :
    Calls Try.prog 24 #[.pointer (some ⟨b, 0, none⟩), .string s, .int .i64 (q : Int)] w fun e w' => e = .returned (.tuple #[.string (S (gtP s (frA ev a q ats) (frS ev a q) (q - frS ev a q))), .int .i64 (gtE s (frA ev a q ats) (frS ev a q) (q - frS ev a q) : Int)]) ∧ Below w.heap.size w w' := by
  obtain ⟨A, cap, rfl, hcl, hrow⟩ := ho.row
  have HS := Lib.hid (steps_r w b a ev A ats.length cap g q h hev (by omega))
  rw [if_pos (by omega), Int.toNat_natCast] at HS
  have HRB := Lib.hid h
  obtain ⟨J, hJ⟩ : ∃ J, (q - a) / ev * ev = J := ⟨_, rfl⟩
  have hmod : (q - a) % ev + J = q - a := by rw [← hJ, Nat.mul_comm]; exact Nat.mod_add_div _ _
  obtain ⟨R, hR⟩ : ∃ R, (q - a) % ev = R := ⟨_, rfl⟩
  rw [hR] at HS hmod
  have hJl : J < ats.length := by omega
  have hFS : frS ev a q = a + J := by unfold frS; rw [hJ]
  have hFA : frA ev a q ats = ats[J] := by unfold frA; rw [hJ, List.getD_eq_getElem?_getD, List.getElem?_eq_getElem hJl]; rfl
  obtain ⟨G, hA, hG, -, d0⟩ := hrow J hJl
  have hp0 := hpl ats[J] (List.getElem_mem hJl)
  rw [hFS, hFA, show q - (a + J) = R by omega]
  subst hA
  have HD0 := Lib.hid d0
  have HGL := Lib.hid hG
  generalize ats[J] = p0 at *
  obtain ⟨q0, hq0⟩ : ∃ q0, a + J = q0 := ⟨_, rfl⟩
  rw [hq0]
  have Z1 := Lib.hid (show wrap64 (wrap64 ((q : Int) - ((R + 1 : Nat) : Int)) + 1) = (q0 : Int) by
    rw [IntWalk.wrap64_in ((q : Int) - ((R + 1 : Nat) : Int)) ⟨by omega, by omega⟩, IntWalk.wrap64_in _ ⟨by omega, by omega⟩]; omega)
  have Z2 := Lib.hid (show wrap64 ((q0 : Int) - (a : Int)) = (J : Int) by rw [IntWalk.wrap64_in _ ⟨by omega, by omega⟩]; omega)
  have j1 : (0 : Int) ≤ (J : Int) := by omega
  have j2 : (J : Int) < (ats.length : Int) := by omega
  have HQ := Lib.hid (show q0 + R = q ∧ q ≤ 1048576 by omega)
  have HP0 := Lib.hid hp0
  have k0 : ¬ ((R + 1 : Nat) : Int) = 0 := by omega
  have k00 : (((R + 1 : Nat) : Int) == 0) = false := beq_eq_false_iff_ne.2 k0
  have HSS := Lib.hid hs
  clear hJ hmod hR hFS hFA hp0 hq0 hl hsm hev hq hs hpl hrow ho h hG d0 hcl hJl
  generalize (R + 1 : Nat) = R1 at *
  go_enter Try.func24, Try.ntmps24
  go_wp2_with fail
  refine HS.out.mono ?_
  rintro e w1 ⟨rfl, hb⟩
  have HB1 := Lib.hid hb
  have h1 : RB4 w1 b a ev (.slice (some ⟨G, 0, none⟩) ats.length cap) g := (hb.block _ (row_lt HRB.out)).trans HRB.out
  have d1 : w1.cell? ⟨G, J, none⟩ = some (.int .i64 (p0 : Int)) := (hb.cell (p := ⟨G, J, none⟩) HGL.out).trans HD0.out
  obtain ⟨⟨c0, c1, c2, c3⟩, -⟩ := h1.facts
  clear hb h1
  have z1 := Z1.out
  have z2 := Z2.out
  go_wp2_with fail
  go_quiet (fail)
  have HB2 := Lib.hid (HB1.out.trans (below_dn w.heap.size nq w1))
  clear z1 z2 c0 c1 c2 c3 d1 k0 k00 j1 j2
  generalize w1.drewN nq = w2 at *
  go_wp2_with fail
  go_loopw [9, 10] (fun x y wr => ∃ i p : Nat, i ≤ R ∧ x = .int .i64 ((q0 + i : Nat) : Int) ∧ y = .int .i64 (p : Int) ∧ Hid (i ≤ (isL s p0 q0).length ∧ isL s p (q0 + i) = (isL s p0 q0).drop i ∧ p = p0 + bytesOf ((isL s p0 q0).take i) ∧ p ≤ 2000000000000) ∧ Hid (Below w.heap.size w wr)) (fun x _ _ => q0 + R - (intOf x).toNat)
  case atStart => exact ⟨0, p0, Nat.zero_le _, by rw [Z1.out, Nat.add_zero], rfl, Lib.hid ⟨Nat.zero_le _, by rw [List.drop_zero, Nat.add_zero], by simp [bytesOf], by have := HP0.out; omega⟩, HB2⟩
  case round =>
    clear HB2
    obtain ⟨i, p, hiR, rfl, rfl, HI, HB⟩ := hrel
    obtain ⟨hi, hd, hp, hpm⟩ := HI.out
    by_cases hps : s.size < p
    · as_aux_lemma =>
        have hx := short_at s p (q0 + i) (by omega)
        obtain ⟨n1, n2⟩ := at_no hi hd hp (by rw [hx]; decide)
        have HV := Lib.hid (show gtP s p0 q0 R = [] ∧ gtE s p0 q0 R = 8 by
          unfold gtP gtE
          rw [if_neg (by omega), if_neg (by omega)]
          exact ⟨rfl, by rw [← n2, hx]⟩)
        have k1 : decide ((s.size : Int) < (p : Int)) = true := decide_eq_true (by omega)
        clear hi hd hp hpm hx n1 n2 hiR
        go_wp2_with fail
        go_ret2
        exact ⟨by rw [HV.out.1, HV.out.2]; rfl, HB.out⟩
    · have k1 : decide ((s.size : Int) < (p : Int)) = false := decide_eq_false (by omega)
      have hRA := Lib.hid (fun W => refRead_any s (p : Int) HSS.out W)
      unfold rdV at hRA
      rw [if_pos (by omega), Int.toNat_natCast] at hRA
      by_cases hx : isX s p (q0 + i) = 0
      · obtain ⟨l1, l2, l3, l4, l5, l6, l7⟩ := at_yes hi hd hp hx
        obtain ⟨h0, h1, -, -⟩ := isL_yes hx
        rw [if_pos h0, h1] at hRA
        unfold frV at hRA
        by_cases hr : i = R
        · have hdummy := True.intro
          clear hdummy
          subst hr
          have HV := Lib.hid (show gtP s p0 q0 i = rdP (s.data.toList.drop p) ∧ gtE s p0 q0 i = 0 by
            unfold gtP gtE
            rw [if_pos l1, if_pos l1, l2]
            exact ⟨rfl, rfl⟩)
          have hqi := HQ.out.1
          clear hi hd hp hpm hx h0 h1 l1 l2 l3 l4 l5 l6 l7 hiR
          generalize rdP (s.data.toList.drop p) = PL at *
          generalize rdK (s.data.toList.drop p) = KK at *
          rw [hqi] at *
          clear hqi
          go_wp2_with fail
          refine (hRA.out wr).mono ?_
          rintro e w5 ⟨rfl, hb⟩
          have HB5 := Lib.hid ((HB.out.trans (hb.mono HB.out.size)).alloc (Nat.le_trans HB.out.size hb.size) (.cells #[.int .i64 (q : Int), .string (S PL), .int .i64 (p : Int)] 91))
          clear hb
          go_wp2_with fail
          go_ret2
          exact ⟨by rw [HV.out.1, HV.out.2]; rfl, HB5.out⟩
        · as_aux_lemma =>
            have hqi := HQ.out
            have HI2 := Lib.hid (show i + 1 ≤ (isL s p0 q0).length ∧ isL s (p + rdK (s.data.toList.drop p)) (q0 + (i + 1)) = (isL s p0 q0).drop (i + 1) ∧ p + rdK (s.data.toList.drop p) = p0 + bytesOf ((isL s p0 q0).take (i + 1)) ∧ p + rdK (s.data.toList.drop p) ≤ 2000000000000 from ⟨l1, l3, l4, by have := HSS.out; omega⟩)
            have HIR := Lib.hid (show i + 1 ≤ R by omega)
            obtain ⟨F, hF⟩ : ∃ F, q0 + i = F := ⟨_, rfl⟩
            have HF := Lib.hid hF
            have HW := Lib.hid (show wrap64 ((F : Int) + 1) = ((q0 + (i + 1) : Nat) : Int) by rw [IntWalk.wrap64_in _ ⟨by omega, by omega⟩]; omega)
            have k5 : ((F : Int) == (q : Int)) = false := beq_eq_false_iff_ne.2 (by omega)
            have k6 : ¬ (F : Int) = (q : Int) := by omega
            have k7 : ¬ F = q := by omega
            rw [hF] at hRA
            clear hi hd hp hpm hx h0 h1 l1 l2 l3 l4 l5 l6 l7 hiR hr hqi
            rw [hF]
            clear hF
            generalize rdP (s.data.toList.drop p) = PL at *
            generalize rdK (s.data.toList.drop p) = KK at *
            go_wp2_with fail
            refine (hRA.out wr).mono ?_
            rintro e w5 ⟨rfl, hb⟩
            have HB5 := Lib.hid ((HB.out.trans (hb.mono HB.out.size)).alloc (Nat.le_trans HB.out.size hb.size) (.cells #[.int .i64 (F : Int), .string (S PL), .int .i64 (p : Int)] 91))
            clear hb
            go_wp2_with fail
            clear k5 k6 k7
            go_roundw
            case rel => exact ⟨i + 1, p + KK, HIR.out, by rw [HW.out], by first | rfl | simp, HI2, HB5⟩
            case measure =>
              rw [HW.out]
              show q0 + R - ((q0 + (i + 1) : Nat) : Int).toNat < q0 + R - (F : Int).toNat
              have := HIR.out
              have := HF.out
              omega
      · obtain ⟨n1, n2⟩ := at_no hi hd hp hx
        have HV := Lib.hid (show gtP s p0 q0 R = [] ∧ gtE s p0 q0 R = isX s p (q0 + i) by
          unfold gtP gtE
          rw [if_neg (by omega), if_neg (by omega)]
          exact ⟨rfl, n2.symm⟩)
        by_cases h0 : rdE (s.data.toList.drop p) = 0
        · as_aux_lemma =>
            rw [if_pos h0] at hRA
            have hqq : ¬ rdQ (s.data.toList.drop p) = q0 + i := fun e => hx (by rw [isX_read, if_pos h0, if_pos e])
            have HX4 := Lib.hid (show isX s p (q0 + i) = 4 by rw [isX_read, if_pos h0, if_neg hqq])
            generalize rdQ (s.data.toList.drop p) = Q at *
            generalize rdP (s.data.toList.drop p) = PL at *
            have k5 : ¬ (Q : Int) = ((q0 + i : Nat) : Int) := by omega
            have k6 : ((Q : Int) == ((q0 + i : Nat) : Int)) = false := beq_eq_false_iff_ne.2 k5
            obtain ⟨F, hF⟩ : ∃ F, q0 + i = F := ⟨_, rfl⟩
            rw [hF] at k5 k6 hqq
            have HF := Lib.hid hF
            clear hi hd hp hpm n1 n2 hx h0 hiR
            rw [hF]
            clear hF
            unfold frV at hRA
            go_wp2_with fail
            refine (hRA.out wr).mono ?_
            rintro e w5 ⟨rfl, hb⟩
            have HB5 := Lib.hid ((HB.out.trans (hb.mono HB.out.size)).alloc (Nat.le_trans HB.out.size hb.size) (.cells #[.int .i64 (Q : Int), .string (S PL), .int .i64 (p : Int)] 91))
            clear hb
            go_wp2_with fail
            go_ret2
            exact ⟨by rw [HV.out.1, HV.out.2, HX4.out]; rfl, HB5.out⟩
        · as_aux_lemma =>
            rw [if_neg h0] at hRA
            have HX4 := Lib.hid (show isX s p (q0 + i) = rdE (s.data.toList.drop p) by rw [isX_read, if_neg h0])
            obtain ⟨q1, q2, q3, q4, q5⟩ := nat_ne h0
            generalize rdE (s.data.toList.drop p) = X at *
            obtain ⟨F, hF⟩ : ∃ F, q0 + i = F := ⟨_, rfl⟩
            clear hi hd hp hpm n1 n2 hx h0 hiR
            rw [hF] at *
            clear hF
            unfold frV at hRA
            go_wp2_with fail
            refine (hRA.out wr).mono ?_
            rintro e w5 ⟨rfl, hb⟩
            have HB5 := Lib.hid ((HB.out.trans (hb.mono HB.out.size)).alloc (Nat.le_trans HB.out.size hb.size) (.cells #[.int .i64 0, .string (S []), .int .i64 0] 91))
            clear hb
            go_wp2_with fail
            go_ret2
            exact ⟨by rw [HV.out.1, HV.out.2, HX4.out]; rfl, HB5.out⟩
end Go.Proofs.Ytkjnddgjnlbopaa.Index
