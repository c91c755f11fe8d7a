import Derived.Test.YtkjnddgjnlbopaaIQ
/-
  The walk of the statement IndexOther.
-/
namespace Go.Proofs.Ytkjnddgjnlbopaa.Index
open Go Go.RowKit
open Go.Proofs.Ytkjnddgjnlbopaa.Wire (S S_list S_size)
open Go.Proofs.Ytkjnddgjnlbopaa.Frame Go.Proofs.Ytkjnddgjnlbopaa.Seg

theorem str_eq (a b : ByteArray) : (a.toList == b.toList) = decide (a = b) := by
  rw [Bool.eq_iff_iff, beq_iff_eq, decide_eq_true_iff, ByteArray.toList_eq, ByteArray.toList_eq]
  exact ⟨fun h => ByteArray.ext (Array.ext' h), fun h => by rw [h]⟩
theorem gt_no {s : ByteArray} {p q D : Nat} (h : ¬ gtE s p q D = 0) : gtP s p q D = [] := by
  unfold gtE at h
  unfold gtP
  by_cases hd : D < (isL s p q).length
  · rw [if_pos hd] at h; exact absurd rfl h
  · rw [if_neg hd]
set_option maxRecDepth 100000 in
set_option maxHeartbeats 2000000 in
theorem other_law (s : ByteArray) (every q : Int) (o : ByteArray) (w : World) :
    Calls Try.prog 8 #[.string s, .int .i64 every, .int .i64 q, .string o] w fun e w' => e = .returned (.bool true) ∧ Below w.heap.size w w' := by
  have HWK := Lib.hid (fun W => works_any W)
  by_cases hs : s.size ≤ 12000
  case neg =>
    have k1 : decide ((12000 : Int) < (s.size : Int)) = true := decide_eq_true (by omega)
    have k2 : (12000 : Int) < (s.size : Int) := by omega
    clear hs
    go_enter Try.func8, Try.ntmps8
    go_wp2_with fail
    refine (HWK.out w).mono ?_
    rintro e w1 ⟨rfl, hb⟩
    have HB1 := Lib.hid hb
    clear hb
    go_wp2_with fail
    refine (HWK.out w1).mono ?_
    rintro e w2 ⟨rfl, hb⟩
    have HB2 := Lib.hid (HB1.out.trans (hb.mono HB1.out.size))
    clear hb
    go_wp2_with fail
    go_ret
    exact ⟨rfl, HB2.out⟩
  have k1 : decide ((12000 : Int) < (s.size : Int)) = false := decide_eq_false (by omega)
  have k2 : ¬ (12000 : Int) < (s.size : Int) := by omega
  have k3 : ¬ 12000 < s.size := by omega
  by_cases ho : o.size ≤ 12000
  case neg =>
    have k4 : decide ((12000 : Int) < (o.size : Int)) = true := decide_eq_true (by omega)
    have k5 : (12000 : Int) < (o.size : Int) := by omega
    clear hs ho
    go_enter Try.func8, Try.ntmps8
    go_wp2_with fail
    refine (HWK.out w).mono ?_
    rintro e w1 ⟨rfl, hb⟩
    have HB1 := Lib.hid hb
    clear hb
    go_wp2_with fail
    refine (HWK.out w1).mono ?_
    rintro e w2 ⟨rfl, hb⟩
    have HB2 := Lib.hid (HB1.out.trans (hb.mono HB1.out.size))
    clear hb
    go_wp2_with fail
    go_ret
    exact ⟨rfl, HB2.out⟩
  have k4 : decide ((12000 : Int) < (o.size : Int)) = false := decide_eq_false (by omega)
  have k5 : ¬ (12000 : Int) < (o.size : Int) := by omega
  have k6 : ¬ 12000 < o.size := by omega
  by_cases hev : 1 ≤ every ∧ every ≤ 64
  case neg =>
    have HBA := Lib.hid (fun W => build_arg s every hev W)
    clear hs ho hev
    go_enter Try.func8, Try.ntmps8
    go_wp2_with fail
    refine (HWK.out w).mono ?_
    rintro e w1 ⟨rfl, hb⟩
    have HB1 := Lib.hid hb
    clear hb
    go_wp2_with fail
    refine (HBA.out w1).mono ?_
    rintro e w2 ⟨rfl, rfl⟩
    go_wp2_with fail
    go_ret
    exact ⟨rfl, HB1.out⟩
  obtain ⟨ev, rfl⟩ : ∃ ev : Nat, every = (ev : Int) := ⟨every.toNat, by omega⟩
  have hev2 : 1 ≤ ev ∧ ev ≤ 64 := by omega
  by_cases h0 : fiE s.data.toList = 0
  case neg =>
    have HBN := Lib.hid (fun W => build_no s (by omega) ev hev2 h0 W)
    obtain ⟨q1, q2, q3, q4, q5⟩ := nat_ne h0
    clear hs ho hev hev2 h0
    generalize fiE s.data.toList = x at *
    go_enter Try.func8, Try.ntmps8
    go_wp2_with fail
    refine (HWK.out w).mono ?_
    rintro e w1 ⟨rfl, hb⟩
    have HB1 := Lib.hid hb
    clear hb
    go_wp2_with fail
    refine (HBN.out w1).mono ?_
    rintro e w2 ⟨rfl, hb⟩
    have HB2 := Lib.hid (HB1.out.trans (hb.mono HB1.out.size))
    clear hb
    go_wp2_with fail
    go_ret
    exact ⟨rfl, HB2.out⟩
  have HBY := Lib.hid (fun W => build_yes s (by omega) ev hev2 h0 W)
  obtain ⟨a1, -, -, -, -⟩ := sc_again s.data.toList h0
  obtain ⟨n, hn⟩ : ∃ n, (atsP (pays (scL s.data.toList))).length = n := ⟨_, rfl⟩
  have hna : fiN s.data.toList + n ≤ 1048576 := by rw [← hn, atsP_len]; exact a1.1
  have hnl : n ≤ 900000 := by
    obtain ⟨_, h2, _, h4, _⟩ := sc_again s.data.toList h0
    have h5 := congrArg List.length h2
    have h6 := segN_ge (pays (scL s.data.toList))
    have hz : s.data.toList.length = s.size := by simp
    rw [segB_length, List.length_take] at h5
    rw [← hn, atsP_len]; omega
  generalize atsP (pays (scL s.data.toList)) = ats at *
  generalize fiN s.data.toList = a at *
  generalize scG s.data.toList = g at *
  clear a1 h0 hev
  by_cases hq : (a : Int) ≤ q ∧ q < ((a + ats.length : Nat) : Int)
  case neg =>
    have HGN := Lib.hid (fun W b (h : Ix W b b ev a ats g) => get_none W b b ev a ats g o q h hq)
    clear hs ho hev2 hq hn hna hnl
    go_enter Try.func8, Try.ntmps8
    go_wp2_with fail
    refine (HWK.out w).mono ?_
    rintro e w1 ⟨rfl, hb⟩
    have HB1 := Lib.hid hb
    clear hb
    go_wp2_with fail
    refine (HBY.out w1).mono ?_
    rintro e w2 ⟨b, -, rfl, hi, hb⟩
    have HB2 := Lib.hid (HB1.out.trans (hb.mono HB1.out.size))
    have HI2 := Lib.hid hi
    clear hb hi
    go_wp2_with fail
    refine (HGN.out w2 b HI2.out).mono ?_
    rintro e w3 ⟨rfl, hb⟩
    have HB3 := Lib.hid (HB2.out.trans (hb.mono HB2.out.size))
    clear hb
    go_wp2_with fail
    go_ret
    exact ⟨rfl, HB3.out⟩
  obtain ⟨k, rfl⟩ : ∃ k : Nat, q = (k : Int) := ⟨q.toNat, by omega⟩
  have hk : a ≤ k ∧ k < a + ats.length := by omega
  have HGS := Lib.hid (fun W b (h : Ix W b b ev a ats g) => get_some W b b ev a ats g o k h hev2.1 hk (by omega) (by omega) (by omega))
  have hfk : frS ev a k + (k - frS ev a k) = k := by
    have h1 := Nat.div_add_mod (k - a) ev
    unfold frS; rw [Nat.mul_comm]; omega
  have hth := fun h => gt_there (s := o) (p := frA ev a k ats) (q := frS ev a k) (D := k - frS ev a k) h (exE_ne _ _ _)
  rw [hfk] at hth
  have hgn := gt_no (s := o) (p := frA ev a k ats) (q := frS ev a k) (D := k - frS ev a k)
  generalize gtP o (frA ev a k ats) (frS ev a k) (k - frS ev a k) = P at *
  generalize gtE o (frA ev a k ats) (frS ev a k) (k - frS ev a k) = X at *
  have HNX := Lib.hid (show a ≤ k ∧ k < a + ats.length from hk)
  clear hq hk hfk hn hna hnl hev2 hs
  by_cases hX : X = 0
  case neg =>
    obtain ⟨q1, q2, q3, q4, q5⟩ := nat_ne hX
    obtain rfl := hgn hX
    rw [show S [] = ⟨#[]⟩ from rfl] at HGS
    clear hX hgn hth ho HNX
    go_enter Try.func8, Try.ntmps8
    go_wp2_with fail
    refine (HWK.out w).mono ?_
    rintro e w1 ⟨rfl, hb⟩
    have HB1 := Lib.hid hb
    clear hb
    go_wp2_with fail
    refine (HBY.out w1).mono ?_
    rintro e w2 ⟨b, -, rfl, hi, hb⟩
    have HB2 := Lib.hid (HB1.out.trans (hb.mono HB1.out.size))
    have HI2 := Lib.hid hi
    clear hb hi
    go_wp2_with fail
    refine (HGS.out w2 b HI2.out).mono ?_
    rintro e w3 ⟨rfl, hb⟩
    have HB3 := Lib.hid (HB2.out.trans (hb.mono HB2.out.size))
    clear hb
    go_wp2_with fail
    go_ret
    exact ⟨rfl, HB3.out⟩
  subst hX
  obtain ⟨at_, h1, h2, h3, h4, h5⟩ := hth rfl
  have hmk : mkV (k : Int) (S P) = .returned (.tuple #[.string (S (frB k P)), .int .i64 0]) := by
    have he : mkE (k : Int) P = 0 := mkE_ok (by omega) (by omega) h1 h2
    unfold mkV mkB
    rw [S_list, he, if_pos rfl, Int.toNat_natCast]; rfl
  have HMK := Lib.hid (fun W => Make_all (k : Int) (S P) W)
  rw [hmk] at HMK
  have hTS : (S (frB k P)).size = 16 + P.length := by rw [S_size, frB_length]
  obtain ⟨m, hm⟩ : ∃ m, 16 + P.length = m := ⟨_, rfl⟩
  rw [hm] at hTS h4 h5
  have HSL := Lib.hid (fun (i : Nat) (h : i + m ≤ o.size) W => slice_mid o i (i + m) (by omega) h W)
  have HAT := Lib.hid (And.intro h4 (show S ((o.data.toList.drop at_).take m) = S (frB k P) by rw [h5]))
  have HOS := Lib.hid ho
  have HM := Lib.hid hm
  rw [show ((0 : Nat) : Int) = 0 from rfl] at HGS
  clear hgn hth hmk h1 h2 h3 h4 h5 hm ho
  generalize S P = PP at *
  generalize hT : S (frB k P) = T at *
  clear hT
  have m1 : decide ((k : Int) < (a : Int)) = false := decide_eq_false (by have := HNX.out; omega)
  have m2 : decide (((a + ats.length : Nat) : Int) ≤ (k : Int)) = false := decide_eq_false (by have := HNX.out; omega)
  have m3 : ¬ k < a := by have := HNX.out; omega
  obtain ⟨n, hn⟩ : ∃ n, a + ats.length = n := ⟨_, rfl⟩
  have m4 : ¬ n ≤ k := by have := HNX.out; omega
  have m5 : decide ((n : Int) ≤ (k : Int)) = false := decide_eq_false (by omega)
  have HN := Lib.hid hn
  clear m2 hn
  go_enter Try.func8, Try.ntmps8
  go_wp2_with fail
  refine (HWK.out w).mono ?_
  rintro e w1 ⟨rfl, hb⟩
  have HB1 := Lib.hid hb
  clear hb
  go_wp2_with fail
  refine (HBY.out w1).mono ?_
  rintro e w2 ⟨b, -, rfl, hi, hb⟩
  have HB2 := Lib.hid (HB1.out.trans (hb.mono HB1.out.size))
  have HI2 := Lib.hid hi
  clear hb hi
  go_wp2_with fail
  refine (HGS.out w2 b HI2.out).mono ?_
  rintro e w3 ⟨rfl, hb⟩
  have HB3 := Lib.hid (HB2.out.trans (hb.mono HB2.out.size))
  have HI3 := Lib.hid (HI2.out.below hb)
  clear hb
  go_wp2_with fail
  refine (HMK.out w3).mono ?_
  rintro e w4 ⟨rfl, hb⟩
  have HB4 := Lib.hid (HB3.out.trans (hb.mono HB3.out.size))
  obtain ⟨v, hx, -⟩ := HI3.out.below hb
  rw [HN.out] at hx
  have HX := Lib.hid hx
  clear hb hx
  go_wp2_with fail
  refine (first_x w4 b ev a n v g HX.out).mono ?_
  rintro e w5 ⟨rfl, rfl⟩
  go_wp2_with fail
  refine (next_x w4 b ev a n v g HX.out).mono ?_
  rintro e w5 ⟨rfl, rfl⟩
  go_wp2_with fail
  go_loopw [15] (fun y wr => ∃ i : Nat, i ≤ at_ ∧ y = .int .i64 (i : Int) ∧ wr = w4) (fun y _ => at_ + 1 - (intOf y).toNat)
  case atStart => exact ⟨0, Nat.zero_le _, rfl, rfl⟩
  case round =>
    obtain ⟨i, hi, rfl, rfl⟩ := hrel
    have hat := HAT.out
    have hos := HOS.out
    have him : i + m ≤ o.size := by omega
    have hsl := HSL.out i him
    rw [show i + m - i = m by omega] at hsl
    obtain ⟨j, hj⟩ : ∃ j, i + m = j := ⟨_, rfl⟩
    rw [hj] at hsl him
    have HZ := Lib.hid (show wrap64 ((i : Int) + (m : Int)) = (j : Int) ∧ wrap64 ((i : Int) + 1) = (i : Int) + 1 from ⟨by rw [IntWalk.wrap64_in _ ⟨by omega, by omega⟩]; omega, IntWalk.wrap64_in _ ⟨by omega, by omega⟩⟩)
    have l1 : decide ((j : Int) ≤ (o.size : Int)) = true := decide_eq_true (by omega)
    have l2 : (j : Int) ≤ (o.size : Int) := by omega
    have l3 : (i : Int) ≤ (j : Int) := by omega
    have l4 : (0 : Int) ≤ (i : Int) := by omega
    by_cases heq : S ((o.data.toList.drop i).take m) = T
    · rw [heq] at hsl
      have e1 : (T.toList == T.toList) = true := by rw [str_eq]; exact decide_eq_true rfl
      clear hat heq hj him
      obtain ⟨z1, z2⟩ := HZ.out
      go_wp2_with fail
      go_ret
      exact ⟨rfl, HB4.out⟩
    · have hne : i < at_ := by
        rcases Nat.lt_or_ge i at_ with h | h
        · exact h
        · exact absurd (by rw [show i = at_ by omega]; exact hat.2) heq
      have HNE := Lib.hid hne
      have e1 : ((S ((o.data.toList.drop i).take m)).toList == T.toList) = false := by rw [str_eq]; exact decide_eq_false heq
      clear hat hne hj him
      generalize S ((o.data.toList.drop i).take m) = U at *
      rw [← HZ.out.1] at hsl l1
      clear l2 l3 l4
      go_wp2_with fail
      clear hsl HSL l1 e1
      go_roundw
      case rel => exact ⟨i + 1, HNE.out, by first | rfl | (rw [HZ.out.2]; rfl), by first | trivial | rfl⟩
      case measure => first | (show at_ + 1 - ((i : Int) + 1).toNat < at_ + 1 - (i : Int).toNat; have := HNE.out; omega) | (rw [HZ.out.2]; show at_ + 1 - ((i : Int) + 1).toNat < at_ + 1 - (i : Int).toNat; have := HNE.out; omega)
end Go.Proofs.Ytkjnddgjnlbopaa.Index
