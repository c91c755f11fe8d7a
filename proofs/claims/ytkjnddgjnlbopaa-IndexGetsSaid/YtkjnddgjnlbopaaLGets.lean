import Derived.Test.YtkjnddgjnlbopaaJB
import Derived.BigQuiet
/-
  The walk of the statement IndexGets.
-/
namespace Go.Proofs.Ytkjnddgjnlbopaa.Index
open Go Go.RowKit
open Go.Proofs.Ytkjnddgjnlbopaa.Wire (S S_list S_size row_lt)
open Go.Proofs.Ytkjnddgjnlbopaa.Frame Go.Proofs.Ytkjnddgjnlbopaa.Seg

theorem beq_refl (a : ByteArray) : (a.toList == a.toList) = true := beq_self_eq_true _
/-- what is got of any bytes, by any number -/
def gotS (ev a : Nat) (ats : List Nat) (q : Int) (t : ByteArray) : ByteArray :=
  if (a : Int) ≤ q ∧ q < (a : Int) + ats.length then S (gtP t (frA ev a q.toNat ats) (frS ev a q.toNat) (q.toNat - frS ev a q.toNat)) else ⟨#[]⟩
def gotE (ev a : Nat) (ats : List Nat) (q : Int) (t : ByteArray) : Nat :=
  if (a : Int) ≤ q ∧ q < (a : Int) + ats.length then gtE t (frA ev a q.toNat ats) (frS ev a q.toNat) (q.toNat - frS ev a q.toNat) else 5
theorem got_x (ev a : Nat) (ats : List Nat) (q : Int) (t : ByteArray) (ht : t.size ≤ 12000) (hev : 1 ≤ ev) (hl : ats.length ≤ 900000) (hsm : a + ats.length ≤ 1048576) (W : World) (b g : Nat) (h : Ix W b b ev a ats g) :
    Calls Try.prog 15 #[.pointer (some ⟨b, 0, none⟩), .string t, .int .i64 q] W fun e w' => e = .returned (.tuple #[.string (gotS ev a ats q t), .int .i64 (gotE ev a ats q t : Int)]) ∧ Below W.heap.size W w' := by
  by_cases hq : (a : Int) ≤ q ∧ q < (a : Int) + ats.length
  · unfold gotS gotE
    rw [if_pos hq, if_pos hq]
    obtain ⟨k, rfl⟩ : ∃ k : Nat, q = (k : Int) := ⟨q.toNat, by omega⟩
    rw [Int.toNat_natCast]
    exact get_some W b b ev a ats g t k h hev (by omega) hl hsm (by omega)
  · unfold gotS gotE
    rw [if_neg hq, if_neg hq]
    exact get_none W b b ev a ats g t q h (by omega)
theorem got_r (ev a : Nat) (ats : List Nat) (q : Int) (t : ByteArray) (ht : t.size ≤ 12000) (hev : 1 ≤ ev) (hl : ats.length ≤ 900000) (hsm : a + ats.length ≤ 1048576) (hpl : ∀ x ∈ ats, x ≤ 1000000000000) (W : World) (b g : Nat) (h : ∃ v, RB4 W b a ev v g ∧ OwnN W b v ats) :
    Calls Try.prog 24 #[.pointer (some ⟨b, 0, none⟩), .string t, .int .i64 q] W fun e w' => e = .returned (.tuple #[.string (gotS ev a ats q t), .int .i64 (gotE ev a ats q t : Int)]) ∧ Below W.heap.size W w' := by
  obtain ⟨v, h1, h2⟩ := h
  by_cases hq : (a : Int) ≤ q ∧ q < (a : Int) + ats.length
  · unfold gotS gotE
    rw [if_pos hq, if_pos hq]
    obtain ⟨k, rfl⟩ : ∃ k : Nat, q = (k : Int) := ⟨q.toNat, by omega⟩
    rw [Int.toNat_natCast]
    exact get_r W b b a ev ats v g t k h1 h2 hev (by omega) hl hsm (by omega) hpl
  · unfold gotS gotE
    rw [if_neg hq, if_neg hq]
    obtain ⟨A, cap, rfl, -, -⟩ := h2.row
    exact get_r_none W b a ev A ats.length cap g t q h1 hev (by omega) hq
theorem steps_r2 (ev a : Nat) (ats : List Nat) (q : Int) (hev : 1 ≤ ev) (hsm : a + ats.length ≤ 1048576) (W : World) (b g : Nat) (h : ∃ v, RB4 W b a ev v g ∧ OwnN W b v ats) :
    Calls Try.prog 25 #[.pointer (some ⟨b, 0, none⟩), .int .i64 q] W fun e w' => e = .returned (.int .i64 (if (a : Int) ≤ q ∧ q < (a : Int) + ats.length then (((q.toNat - a) % ev + 1 : Nat) : Int) else 0)) ∧ Below W.heap.size W w' := by
  obtain ⟨v, h1, h2⟩ := h
  obtain ⟨A, cap, rfl, -, -⟩ := h2.row
  exact steps_r W b a ev A ats.length cap g q h1 hev (by omega)
theorem ry_below {w w' : World} {b a ev g : Nat} {ats : List Nat} (h : ∃ v, RB4 w b a ev v g ∧ OwnN w b v ats) (hb : Below w.heap.size w w') : ∃ v, RB4 w' b a ev v g ∧ OwnN w' b v ats := by
  obtain ⟨v, h1, h2⟩ := h
  exact ⟨v, (hb.block _ (row_lt h1)).trans h1, h2.below hb⟩
set_option maxRecDepth 100000 in
set_option maxHeartbeats 4000000 in
theorem gets_law (s : ByteArray) (every q : Int) (o : ByteArray) (w : World) :
    Calls Try.prog 5 #[.string s, .int .i64 every, .int .i64 q, .string o] w fun e w' => e = .returned (.bool true) ∧ Below w.heap.size w w' := by
  have HWK := Lib.hid (fun W => works_any W)
  by_cases hs : s.size ≤ 12000
  case neg =>
    have k1 : decide ((12000 : Int) < (s.size : Int)) = true := decide_eq_true (by omega)
    have k2 : (12000 : Int) < (s.size : Int) := by omega
    clear hs
    go_enter Try.func5, Try.ntmps5
    go_wp2_with fail
    refine (HWK.out w).mono ?_
    rintro e w1 ⟨rfl, hb⟩
    have HB1 := Lib.hid hb
    clear hb
    go_wp2_with fail
    go_ret
    exact ⟨rfl, HB1.out⟩
  have k1 : decide ((12000 : Int) < (s.size : Int)) = false := decide_eq_false (by omega)
  have k2 : ¬ (12000 : Int) < (s.size : Int) := by omega
  have k3 : ¬ 12000 < s.size := by omega
  by_cases ho : o.size ≤ 12000
  case neg =>
    have k4 : decide ((12000 : Int) < (o.size : Int)) = true := decide_eq_true (by omega)
    have k5 : (12000 : Int) < (o.size : Int) := by omega
    clear hs ho
    go_enter Try.func5, Try.ntmps5
    go_wp2_with fail
    refine (HWK.out w).mono ?_
    rintro e w1 ⟨rfl, hb⟩
    have HB1 := Lib.hid hb
    clear hb
    go_wp2_with fail
    go_ret
    exact ⟨rfl, HB1.out⟩
  have k4 : decide ((12000 : Int) < (o.size : Int)) = false := decide_eq_false (by omega)
  have k5 : ¬ (12000 : Int) < (o.size : Int) := by omega
  have k6 : ¬ 12000 < o.size := by omega
  by_cases hev : 1 ≤ every ∧ every ≤ 64
  case neg =>
    have HBA := Lib.hid (fun W => build_arg s every hev W)
    have HRA := Lib.hid (fun W => rbuild_arg s every hev W)
    clear hs ho hev
    go_enter Try.func5, Try.ntmps5
    go_wp2_with fail
    refine (HBA.out w).mono ?_
    rintro e w2 ⟨rfl, rfl⟩
    go_wp2_with fail
    refine (HRA.out w).mono ?_
    rintro e w2 ⟨rfl, rfl⟩
    go_wp2_with fail
    refine (HWK.out w).mono ?_
    rintro e w1 ⟨rfl, hb⟩
    have HB1 := Lib.hid hb
    clear hb
    go_wp2_with fail
    go_ret
    exact ⟨rfl, HB1.out⟩
  obtain ⟨ev, rfl⟩ : ∃ ev : Nat, every = (ev : Int) := ⟨every.toNat, by omega⟩
  have hev2 : 1 ≤ ev ∧ ev ≤ 64 := by omega
  by_cases h0 : fiE s.data.toList = 0
  case neg =>
    have HBN := Lib.hid (fun W => build_no s (by omega) ev hev2 h0 W)
    have HRN := Lib.hid (fun W => rbuild_no s (by omega) ev hev2 h0 W)
    obtain ⟨q1, q2, q3, q4, q5⟩ := nat_ne h0
    clear hs ho hev hev2 h0
    generalize fiE s.data.toList = x at *
    go_enter Try.func5, Try.ntmps5
    go_wp2_with fail
    refine (HBN.out w).mono ?_
    rintro e w1 ⟨rfl, hb⟩
    have HB1 := Lib.hid hb
    clear hb
    go_wp2_with fail
    refine (HRN.out w1).mono ?_
    rintro e w2 ⟨rfl, hb⟩
    have HB2 := Lib.hid (HB1.out.trans (hb.mono HB1.out.size))
    clear hb
    go_wp2_with fail
    refine (HWK.out w2).mono ?_
    rintro e w3 ⟨rfl, hb⟩
    have HB3 := Lib.hid (HB2.out.trans (hb.mono HB2.out.size))
    clear hb
    go_wp2_with fail
    go_ret
    exact ⟨rfl, HB3.out⟩
  have HBY := Lib.hid (fun W => build_yes s (by omega) ev hev2 h0 W)
  have HRY := Lib.hid (fun W => rbuild_yes s (by omega) ev hev2 h0 W)
  obtain ⟨a1, h2, _, h4, _⟩ := sc_again s.data.toList h0
  have hz : s.data.toList.length = s.size := by simp
  have h5 := congrArg List.length h2
  rw [segB_length, List.length_take] at h5
  have h6 := segN_ge (pays (scL s.data.toList))
  have hnl : (atsP (pays (scL s.data.toList))).length ≤ 900000 := by rw [atsP_len]; omega
  have hna : fiN s.data.toList + (atsP (pays (scL s.data.toList))).length ≤ 1048576 := by rw [atsP_len]; exact a1.1
  have hpl : ∀ x ∈ atsP (pays (scL s.data.toList)), x ≤ 1000000000000 := fun x hx => by
    unfold atsP at hx
    obtain ⟨i, hi, rfl⟩ := List.mem_map.1 hx
    have := segN_front (pays (scL s.data.toList)) i
    omega
  generalize atsP (pays (scL s.data.toList)) = ats at *
  generalize fiN s.data.toList = a at *
  generalize scG s.data.toList = g at *
  clear a1 h0 hev h2 h4 h5 h6 hz
  have HGX := Lib.hid (fun t ht W b (h : Ix W b b ev a ats g) => got_x ev a ats q t ht hev2.1 hnl hna W b g h)
  have HGR := Lib.hid (fun t ht W b (h : ∃ v, RB4 W b a ev v g ∧ OwnN W b v ats) => got_r ev a ats q t ht hev2.1 hnl hna hpl W b g h)
  have HSX := Lib.hid (fun W b (h : Ix W b b ev a ats g) => steps_any W b b ev a ats g q h hev2.1 hnl (by omega))
  have HSR := Lib.hid (fun W b (h : ∃ v, RB4 W b a ev v g ∧ OwnN W b v ats) => steps_r2 ev a ats q hev2.1 hna W b g h)
  generalize (if (a : Int) ≤ q ∧ q < (a : Int) + ats.length then (((q.toNat - a) % ev + 1 : Nat) : Int) else 0) = V at *
  have HOS := Lib.hid ho
  have HS0 := Lib.hid hs
  clear hev2 hnl hna hpl hs ho
  generalize gotS ev a ats q = GS at *
  generalize gotE ev a ats q = GE at *
  go_enter Try.func5, Try.ntmps5
  go_wp2_with fail
  refine (HBY.out w).mono ?_
  rintro e w1 ⟨b, -, rfl, hi, hb⟩
  have HB1 := Lib.hid hb
  have HI1 := Lib.hid hi
  clear hb hi
  go_wp2_with fail
  refine (HRY.out w1).mono ?_
  rintro e w2 ⟨b2, -, rfl, hi, hb⟩
  have HB2 := Lib.hid (HB1.out.trans (hb.mono HB1.out.size))
  have HI2 := Lib.hid (HI1.out.below hb)
  have HR2 := Lib.hid hi
  clear hb hi HI1 HB1 HBY HRY k1 k2 k3 k4 k5 k6
  go_wp2_with fail
  go_loopw [0, 13] (fun x y wr => ∃ (t : ByteArray) (k : Nat), k ≤ 2 ∧ x = .string t ∧ y = .int .i64 (k : Int) ∧ Hid (t.size ≤ 12000) ∧ Hid (Ix wr b b ev a ats g) ∧ Hid (∃ v, RB4 wr b2 a ev v g ∧ OwnN wr b2 v ats) ∧ Hid (Below w.heap.size w wr)) (fun _ y _ => 2 - (intOf y).toNat)
  case atStart => exact ⟨s, 0, by omega, rfl, rfl, HS0, HI2, HR2, HB2⟩
  case round =>
    clear HI2 HR2 HB2
    obtain ⟨t, k, hk, rfl, rfl, HT, HI, HR, HB⟩ := hrel
    by_cases hlt : k < 2
    · as_aux_lemma =>
        have e1 : decide ((k : Int) < 2) = true := decide_eq_true (by omega)
        have HLT := Lib.hid hlt
        have HI1 := Lib.hid (show wrap64 ((k : Int) + 1) = (k : Int) + 1 from IntWalk.wrap64_in _ ⟨by omega, by omega⟩)
        clear hk
        go_wp2_with fail
        refine (HGX.out t HT.out wr b HI.out).mono ?_
        rintro e w3 ⟨rfl, hb⟩
        have HB3 := Lib.hid (HB.out.trans (hb.mono HB.out.size))
        have HI3 := Lib.hid (HI.out.below hb)
        have HR3 := Lib.hid (ry_below HR.out hb)
        clear hb
        go_wp2_with fail
        refine (HGR.out t HT.out w3 b2 HR3.out).mono ?_
        rintro e w4 ⟨rfl, hb⟩
        have HB4 := Lib.hid (HB3.out.trans (hb.mono HB3.out.size))
        have HI4 := Lib.hid (HI3.out.below hb)
        have HR4 := Lib.hid (ry_below HR3.out hb)
        clear hb
        generalize GS t = P at *
        generalize GE t = X at *
        have r3 := beq_refl P
        go_wp2_with fail
        refine (HSX.out w4 b HI4.out).mono ?_
        rintro e w5 ⟨rfl, hb⟩
        have HB5 := Lib.hid (HB4.out.trans (hb.mono HB4.out.size))
        have HI5 := Lib.hid (HI4.out.below hb)
        have HR5 := Lib.hid (ry_below HR4.out hb)
        clear hb
        go_wp2_with fail
        refine (HSR.out w5 b2 HR5.out).mono ?_
        rintro e w6 ⟨rfl, hb⟩
        have HB6 := Lib.hid (HB5.out.trans (hb.mono HB5.out.size))
        have HI6 := Lib.hid (HI5.out.below hb)
        have HR6 := Lib.hid (ry_below HR5.out hb)
        clear hb
        go_wp2_with fail
        clear r3 e1
        go_roundw
        case rel => exact ⟨o, k + 1, by have := HLT.out; omega, rfl, by first | rfl | (rw [HI1.out]; rfl), HOS, HI6, HR6, HB6⟩
        case measure =>
          try rw [HI1.out]
          show 2 - ((k : Int) + 1).toNat < 2 - (k : Int).toNat
          have := HLT.out; omega
    · as_aux_lemma =>
        have e1 : decide ((k : Int) < 2) = false := decide_eq_false (by omega)
        clear hk
        go_wp2_with fail
        refine (HWK.out wr).mono ?_
        rintro e w3 ⟨rfl, hb⟩
        have HB3 := Lib.hid (HB.out.trans (hb.mono HB.out.size))
        clear hb
        go_wp2_with fail
        go_ret
        exact ⟨rfl, HB3.out⟩
end Go.Proofs.Ytkjnddgjnlbopaa.Index
