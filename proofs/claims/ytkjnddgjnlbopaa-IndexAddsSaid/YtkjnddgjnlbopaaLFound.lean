import Derived.Test.YtkjnddgjnlbopaaIS
import Derived.BigQuiet
/-
  The walk of the statement IndexFound.
-/
namespace Go.Proofs.Ytkjnddgjnlbopaa.Index
open Go Go.RowKit
open Go.Proofs.Ytkjnddgjnlbopaa.Wire (S S_list S_size)
open Go.Proofs.Ytkjnddgjnlbopaa.Frame Go.Proofs.Ytkjnddgjnlbopaa.Seg

theorem beq_self (a : ByteArray) : (a.toList == a.toList) = true := beq_self_eq_true _
set_option maxRecDepth 100000 in
set_option maxHeartbeats 4000000 in
theorem found_law (q : Int) (A : Option Addr) (cap : Nat) (xs : List ByteArray) (every : Int) (w : World) (hx : Strs w A xs) (hl : xs.length ≤ maxLen) :
    Calls Try.prog 6 #[.int .i64 q, .slice A xs.length cap, .int .i64 every] w fun e w' => e = .returned (.bool true) ∧ Below w.heap.size w w' := by
  have HWK := Lib.hid (fun W => works_any W)
  have HX := Lib.hid hx
  have HHV := Lib.hid (fun W (h : Strs W A xs) => heavy_any A cap xs hl W h)
  have HJ := Lib.hid (fun W (h : Strs W A xs) k => Join_light q A cap xs hl k W h)
  unfold joV at HJ
  by_cases hj : joE q (bytesP xs) = 0
  case neg =>
    have hB : joB q (bytesP xs) = [] := if_neg hj
    have HBD : Hid (∀ W, Calls Try.prog 11 #[.string (S []), .int .i64 every] W fun e w' => ∃ f : Int, e = .returned (.tuple #[.pointer none, .int .i64 f]) ∧ Below W.heap.size W w') := by
      refine Lib.hid fun W => ?_
      by_cases hev : 1 ≤ every ∧ every ≤ 64
      · obtain ⟨ev, rfl⟩ : ∃ ev : Nat, every = (ev : Int) := ⟨every.toNat, by omega⟩
        refine (build_no (S []) (by decide) ev (by omega) (by decide) W).mono ?_
        rintro e w' ⟨rfl, hb⟩
        exact ⟨_, rfl, hb⟩
      · refine (build_arg (S []) every hev W).mono ?_
        rintro e w' ⟨rfl, rfl⟩
        exact ⟨_, rfl, Below.refl _ _⟩
    rw [hB] at HJ
    obtain ⟨q1, q2, q3, q4, q5⟩ := nat_ne hj
    clear hj hB hx hl
    generalize S [] = T at *
    generalize joE q (bytesP xs) = x at *
    go_enter Try.func6, Try.ntmps6
    go_wp2_with fail
    refine (HWK.out w).mono ?_
    rintro e w1 ⟨rfl, hb⟩
    have HB1 := Lib.hid hb
    have HX1 := Lib.hid (HX.out.below hb)
    clear hb
    go_wp2_with fail
    refine (HHV.out w1 HX1.out).mono ?_
    rintro e w2 ⟨bb, rfl, rfl, hbb⟩
    cases bb with
    | true =>
      clear hbb
      go_wp2_with fail
      refine (HWK.out w1).mono ?_
      rintro e w2 ⟨rfl, hb⟩
      have HB2 := Lib.hid (HB1.out.trans (hb.mono HB1.out.size))
      clear hb
      go_wp2_with fail
      go_ret
      exact ⟨rfl, HB2.out⟩
    | false =>
      have HK : Hid (hvM xs < 12000 ∨ Bad xs) := Lib.hid (by
        rcases hbb with h | h
        · left
          have := of_decide_eq_false h.symm
          omega
        · exact Or.inr h)
      clear hbb
      go_wp2_with fail
      refine (HJ.out w1 HX1.out HK.out).mono ?_
      rintro e w2 ⟨rfl, hb⟩
      have HB2 := Lib.hid (HB1.out.trans (hb.mono HB1.out.size))
      clear hb
      go_wp2_with fail
      refine (HBD.out w2).mono ?_
      rintro e w3 ⟨f, rfl, hb⟩
      have HB3 := Lib.hid (HB2.out.trans (hb.mono HB2.out.size))
      clear hb
      go_wp2_with fail
      go_ret
      exact ⟨rfl, HB3.out⟩
  have hnb : ¬ Bad xs := fun h => h.wrong q (joE_zero hj).1
  replace HHV : Hid (∀ W (_ : Strs W A xs), Calls Try.prog 26 #[.slice A xs.length cap] W fun e w' => e = .returned (.bool (decide (12000 ≤ hvM xs))) ∧ W = w') := Lib.hid (fun W h => (HHV.out W h).mono (by
    rintro e w' ⟨bb, rfl, rfl, hbb | hbb⟩
    · exact ⟨by rw [hbb], rfl⟩
    · exact absurd hbb hnb))
  by_cases hv : 12000 ≤ hvM xs
  · rw [decide_eq_true hv] at HHV
    clear hv hl hx hnb hj HJ
    go_enter Try.func6, Try.ntmps6
    go_wp2_with fail
    refine (HWK.out w).mono ?_
    rintro e w1 ⟨rfl, hb⟩
    have HB1 := Lib.hid hb
    have HX1 := Lib.hid (HX.out.below hb)
    clear hb
    go_wp2_with fail
    refine (HHV.out w1 HX1.out).mono ?_
    rintro e w2 ⟨rfl, rfl⟩
    go_wp2_with fail
    refine (HWK.out w1).mono ?_
    rintro e w2 ⟨rfl, hb⟩
    have HB2 := Lib.hid (HB1.out.trans (hb.mono HB1.out.size))
    clear hb
    go_wp2_with fail
    go_ret
    exact ⟨rfl, HB2.out⟩
  rw [decide_eq_false hv] at HHV
  obtain ⟨hsz, hln⟩ := hvM_seg xs
  have hl6 : xs.length ≤ 600 := by omega
  have hsz2 : segN (bytesP xs) ≤ 12016 := by omega
  replace HJ := Lib.hid (fun W h => HJ.out W h (Or.inl (by omega)))
  clear hv hl hsz hln hnb
  obtain ⟨a, rfl, hok, -, hjB⟩ := okP_of hj
  rw [hj, hjB] at HJ
  clear hj hjB
  by_cases hev : 1 ≤ every ∧ every ≤ 64
  case neg =>
    have HBA := Lib.hid (fun T W => build_arg T every hev W)
    clear hev hx hl6 hsz2 hok
    generalize S (segB a (bytesP xs)) = T at *
    go_enter Try.func6, Try.ntmps6
    go_wp2_with fail
    refine (HWK.out w).mono ?_
    rintro e w1 ⟨rfl, hb⟩
    have HB1 := Lib.hid hb
    have HX1 := Lib.hid (HX.out.below hb)
    clear hb
    go_wp2_with fail
    refine (HHV.out w1 HX1.out).mono ?_
    rintro e w2 ⟨rfl, rfl⟩
    go_wp2_with fail
    refine (HJ.out w1 HX1.out).mono ?_
    rintro e w2 ⟨rfl, hb⟩
    have HB2 := Lib.hid (HB1.out.trans (hb.mono HB1.out.size))
    clear hb
    go_wp2_with fail
    refine (HBA.out _ w2).mono ?_
    rintro e w3 ⟨rfl, rfl⟩
    go_wp2_with fail
    go_ret
    exact ⟨rfl, HB2.out⟩
  obtain ⟨ev, rfl⟩ : ∃ ev : Nat, every = (ev : Int) := ⟨every.toNat, by omega⟩
  have hev2 : 1 ≤ ev ∧ ev ≤ 64 := by omega
  clear hev
  have hpl : (bytesP xs).length = xs.length := bytesP_len xs
  have hal : a + xs.length ≤ 1048576 := by have := hok.1; omega
  have hTs : (S (segB a (bytesP xs))).size = segN (bytesP xs) := by rw [S_size, segB_length]
  obtain ⟨b1, b2, b3, b4⟩ := sc_seg a (bytesP xs) hok
  have HBY := Lib.hid (fun W => build_yes (S (segB a (bytesP xs))) (by rw [hTs]; omega) ev hev2 (by rw [S_list]; exact b1) W)
  rw [S_list, b2, b3, b4, pays_row, segB_length] at HBY
  have hatl : (atsP (bytesP xs)).length = xs.length := by rw [atsP_len, hpl]
  have HGT : Hid (∀ W b (i : Nat) (hi : i < xs.length) (_ : Ix W b b ev a (atsP (bytesP xs)) (segN (bytesP xs))), Calls Try.prog 15 #[.pointer (some ⟨b, 0, none⟩), .string (S (segB a (bytesP xs))), .int .i64 ((a + i : Nat) : Int)] W fun e w' => e = .returned (.tuple #[.string (xs[i]'hi), .int .i64 0]) ∧ Below W.heap.size W w') := by
    refine Lib.hid fun W b i hi h => ?_
    have h1 := get_some W b b ev a _ _ (S (segB a (bytesP xs))) (a + i) h hev2.1 (by rw [hatl]; omega) (by rw [hatl]; omega) (by rw [hatl]; omega) (by rw [hTs]; omega)
    obtain ⟨g1, g2⟩ := get_row a ev i (bytesP xs) hok (by rw [hpl]; exact hi)
    rw [g1, g2, bytesP_at xs i hi] at h1
    exact h1
  have HGN : Hid (∀ W b (_ : Ix W b b ev a (atsP (bytesP xs)) (segN (bytesP xs))), Calls Try.prog 15 #[.pointer (some ⟨b, 0, none⟩), .string (S (segB a (bytesP xs))), .int .i64 ((a + xs.length : Nat) : Int)] W fun e w' => e = .returned (.tuple #[.string ⟨#[]⟩, .int .i64 5]) ∧ Below W.heap.size W w') :=
    Lib.hid fun W b h => get_none W b b ev a _ _ _ _ h (by rw [hatl]; omega)
  have HST : Hid (∀ W b (i : Nat) (hi : i < xs.length) (_ : Ix W b b ev a (atsP (bytesP xs)) (segN (bytesP xs))), Calls Try.prog 20 #[.pointer (some ⟨b, 0, none⟩), .int .i64 ((a + i : Nat) : Int)] W fun e w' => e = .returned (.int .i64 ((i % ev + 1 : Nat) : Int)) ∧ Below W.heap.size W w') := by
    refine Lib.hid fun W b i hi h => ?_
    have h1 := steps_any W b b ev a _ _ ((a + i : Nat) : Int) h hev2.1 (by rw [hatl]; omega) (by omega)
    rw [if_pos (by rw [hatl]; omega), Int.toNat_natCast, Nat.add_sub_cancel_left] at h1
    exact h1
  have HMK := Lib.hid (fun W b (h : Ix W b b ev a (atsP (bytesP xs)) (segN (bytesP xs))) => marks_any W b b ev a _ _ h hev2.1 (by rw [hatl]; omega))
  obtain ⟨nn, hnn⟩ : ∃ nn, nm ev xs.length = nn := ⟨_, rfl⟩
  have hml : (mks ev a (atsP (bytesP xs))).length = nn := by rw [mks_len, hatl, hnn]
  have HAT : Hid (∀ j (hj : j < (mks ev a (atsP (bytesP xs))).length), j * ev < xs.length ∧ (mks ev a (atsP (bytesP xs)))[j] = (a + j * ev, segN ((bytesP xs).take (j * ev)))) := by
    refine Lib.hid fun j hj => ?_
    have h1 : j * ev < xs.length := nm_lt hev2.1 (by rw [hnn, ← hml]; exact hj)
    refine ⟨h1, ?_⟩
    rw [mks_at, atsP_at _ _ (by rw [hpl]; exact h1)]
  have HRD : Hid (∀ (k : Nat) (hk : k < xs.length) W, Calls Try.prog 27 #[.string (S (segB a (bytesP xs))), .int .i64 (segN ((bytesP xs).take k) : Nat)] W fun e w' => (∃ (y : ByteArray) (z : Int), e = .returned (.tuple #[.agg #[.int .i64 ((a + k : Nat) : Int), .string y, .int .i64 ((segN ((bytesP xs).take k) : Nat) : Int)], .int .i64 z, .int .i64 0])) ∧ Below W.heap.size W w') := by
    refine Lib.hid fun k hk W => ?_
    refine (Read_any (S (segB a (bytesP xs))) (segN ((bytesP xs).take k) : Nat) (by rw [hTs]; omega) W).mono ?_
    rintro e w' ⟨rfl, hb⟩
    rw [read_row a k (bytesP xs) hok (by rw [hpl]; exact hk)]
    exact ⟨⟨_, _, rfl⟩, hb⟩
  have HNN := Lib.hid (show nm ev xs.length = nn from hnn)
  have HNL := Lib.hid (show nn ≤ 600 by rw [← hnn]; exact Nat.le_trans (nm_le hev2.1) hl6)
  have HAL := Lib.hid hal
  have HL6 := Lib.hid hl6
  have HEV := Lib.hid hev2
  have HML := Lib.hid hml
  have HATL := Lib.hid hatl
  have hTs2 : (S (segB a (bytesP xs))).size = segN (bytesP xs) := hTs
  clear hnn hal hl6 hev2 hml hatl hTs hpl b1 b2 b3 b4 hsz2 hok hx
  generalize S (segB a (bytesP xs)) = T at *
  generalize segN (bytesP xs) = g at *
  generalize atsP (bytesP xs) = ats at *
  generalize mks ev a ats = M at *
  go_enter Try.func6, Try.ntmps6
  go_wp2_with fail
  refine (HWK.out w).mono ?_
  rintro e w1 ⟨rfl, hb⟩
  have HB1 := Lib.hid hb
  have HX1 := Lib.hid (HX.out.below hb)
  clear hb
  go_wp2_with fail
  refine (HHV.out w1 HX1.out).mono ?_
  rintro e w2 ⟨rfl, rfl⟩
  go_wp2_with fail
  refine (HJ.out w1 HX1.out).mono ?_
  rintro e w2 ⟨rfl, hb⟩
  have HB2 := Lib.hid (HB1.out.trans (hb.mono HB1.out.size))
  clear hb HX1
  go_wp2_with fail
  refine (HBY.out w2).mono ?_
  rintro e w3 ⟨b, -, rfl, hi, hb⟩
  have HB3 := Lib.hid (HB2.out.trans (hb.mono HB2.out.size))
  have HI3 := Lib.hid hi
  clear hb hi HB1 HB2 HJ HBY HHV HWK
  go_wp2_with fail
  go_loopw [11] (fun y wr => ∃ i : Nat, i ≤ xs.length ∧ y = .int .i64 (i : Int) ∧ Hid (Ix wr b b ev a ats g) ∧ Hid (Below w.heap.size w wr)) (fun y _ => xs.length - (intOf y).toNat)
  case atStart => exact ⟨0, Nat.zero_le _, rfl, HI3, HB3⟩
  case round =>
    clear HI3 HB3
    obtain ⟨i, hi, rfl, HI, HB⟩ := hrel
    by_cases hlt : i < xs.length
    · as_aux_lemma =>
        have e1 : decide ((i : Int) < (xs.length : Int)) = true := decide_eq_true (by omega)
        have HLT := Lib.hid hlt
        have s1 : wrap64 ((a : Int) + (i : Int)) = ((a + i : Nat) : Int) := by rw [IntWalk.wrap64_in _ ⟨by omega, by have := HAL.out; omega⟩]; omega
        have HI1 := Lib.hid (show wrap64 ((i : Int) + 1) = (i : Int) + 1 from IntWalk.wrap64_in _ ⟨by omega, by have := HL6.out; omega⟩)
        clear hi
        go_wp2_with fail
        rw [s1]
        refine (HGT.out wr b i HLT.out HI.out).mono ?_
        rintro e w4 ⟨rfl, hb⟩
        have HB4 := Lib.hid (HB.out.trans (hb.mono HB.out.size))
        have HI4 := Lib.hid (HI.out.below hb)
        clear hb
        go_wp2_with fail
        rw [s1]
        refine (HST.out w4 b i HLT.out HI4.out).mono ?_
        rintro e w5 ⟨rfl, hb⟩
        have HB5 := Lib.hid (HB4.out.trans (hb.mono HB4.out.size))
        have HI5 := Lib.hid (HI4.out.below hb)
        obtain ⟨B, o, rfl, hb0, hsz, c0⟩ := HX.out.below HB5.out i hlt
        obtain ⟨r, hr⟩ : ∃ r, i % ev + 1 = r := ⟨_, rfl⟩
        rw [hr]
        have hrv : 1 ≤ r ∧ r ≤ ev := by
          have := Nat.mod_lt i (show 0 < ev by have := HEV.out; omega)
          omega
        have r1 : decide ((r : Int) < 1) = false := decide_eq_false (by omega)
        have r2 : decide ((ev : Int) < (r : Int)) = false := decide_eq_false (by omega)
        have r4 : ¬ r = 0 := by omega
        have r5 : ¬ r < 1 := by omega
        have r6 : ¬ ev < r := by omega
        have r7 : ¬ (r : Int) < 1 := by omega
        have r8 : ¬ (ev : Int) < (r : Int) := by omega
        generalize xs[i]'hlt = P at *
        have r3 := beq_self P
        clear hb hb0 hr hrv hlt hsz s1
        go_wp2_with fail
        clear r1 r2 r3 r4 r5 r6 r7 r8 c0 e1
        go_roundw
        case rel => exact ⟨i + 1, HLT.out, by rw [HI1.out]; rfl, HI5, HB5⟩
        case measure =>
          rw [HI1.out]
          show xs.length - ((i : Int) + 1).toNat < xs.length - (i : Int).toNat
          have := HLT.out; omega
    · as_aux_lemma =>
        have e1 : decide ((i : Int) < (xs.length : Int)) = false := decide_eq_false (by omega)
        clear hi
        go_wp2_with fail
        refine (HMK.out wr b HI.out).mono ?_
        rintro e w4 ⟨u, rfl, ho, hb⟩
        have HB4 := Lib.hid (HB.out.trans (hb.mono HB.out.size))
        have HI4 := Lib.hid (HI.out.below hb)
        obtain ⟨A2, c2, rfl, -, -, hrow, -⟩ := ho.row
        have HR4 := Lib.hid hrow
        clear hb ho hrow HB HI
        go_wp2_with fail
        go_loopw [16] (fun y wr => ∃ j : Nat, j ≤ M.length ∧ y = .int .i64 (j : Int) ∧ Hid (RowM wr A2 M) ∧ Hid (Ix wr b b ev a ats g) ∧ Hid (Below w.heap.size w wr)) (fun y _ => M.length - (intOf y).toNat)
        case atStart => exact ⟨0, Nat.zero_le _, rfl, HR4, HI4, HB4⟩
        case round =>
          clear HR4 HI4 HB4
          obtain ⟨j, hj, rfl, HR, HI, HB⟩ := hrel
          by_cases hlt : j < M.length
          · as_aux_lemma =>
              have e1 : decide ((j : Int) < (M.length : Int)) = true := decide_eq_true (by omega)
              have HLT := Lib.hid hlt
              obtain ⟨g2, rfl, -, d0, d1⟩ := HR.out j hlt
              obtain ⟨hjx, hat⟩ := HAT.out j hlt
              rw [hat] at d0 d1
              have HRDJ := Lib.hid (HRD.out (j * ev) hjx)
              have HJX := Lib.hid hjx
              have HI1 := Lib.hid (show wrap64 ((j : Int) + 1) = (j : Int) + 1 from IntWalk.wrap64_in _ ⟨by omega, by have := HML.out; have := HNL.out; omega⟩)
              obtain ⟨k, hk⟩ : ∃ k, j * ev = k := ⟨_, rfl⟩
              rw [hk] at d0 d1 HRDJ hjx
              have HK := Lib.hid hk
              generalize segN ((bytesP xs).take k) = at_ at *
              have HHb := HB.out
              clear hk hat hjx hlt hj
              go_wp2_with fail
              refine (HRDJ.out wr).mono ?_
              rintro e w5 ⟨⟨y, z, rfl⟩, hb⟩
              have HB5 := Lib.hid (HB.out.trans (hb.mono HB.out.size))
              have HI5 := Lib.hid (HI.out.below hb)
              have HR5 := Lib.hid (HR.out.below hb)
              clear hb d0 d1 HHb
              go_wp2_with fail
              have hb6 : Below w5.heap.size w5 (w5.alloc (.cells #[.int .i64 ((a : Int) + (k : Int)), .string y, .int .i64 (at_ : Int)] 51)) := (Below.refl _ _).alloc (Nat.le_refl _) _
              have HR6 := Lib.hid (HR5.out.below hb6)
              have HI6 := Lib.hid (HI5.out.below hb6)
              have HB6 := Lib.hid (HB5.out.trans (hb6.mono HB5.out.size))
              have c0 : (w5.alloc (.cells #[.int .i64 ((a : Int) + (k : Int)), .string y, .int .i64 (at_ : Int)] 51)).cell? ⟨w5.heap.size, 0, none⟩ = some (.int .i64 ((a : Int) + (k : Int))) := Go.Proofs.Ytkjnddgjnlbopaa.Wire.cell_row (heap_alloc_new w5 _) 0
              obtain ⟨g3, hA3, -, d0, -⟩ := HR6.out j HLT.out
              injection hA3 with hA3
              injection hA3 with hA3
              subst hA3
              rw [(HAT.out j HLT.out).2] at d0
              have d2 : (((a + j * ev : Nat)) : Int) = (a : Int) + (k : Int) := by rw [HK.out]; omega
              rw [show ((a + j * ev, segN ((bytesP xs).take (j * ev))) : Nat × Nat).1 = a + j * ev from rfl, d2] at d0
              have s3 : wrap64 ((j : Int) * (ev : Int)) = (k : Int) := by
                have h1 : (j : Int) * (ev : Int) = (k : Int) := by rw [← HK.out]; push_cast; rfl
                rw [h1]; exact IntWalk.wrap64_in _ ⟨by omega, by have := HJX.out; rw [HK.out] at this; have := HL6.out; omega⟩
              have s4 : wrap64 ((a : Int) + (k : Int)) = (a : Int) + (k : Int) := IntWalk.wrap64_in _ ⟨by omega, by have := HJX.out; rw [HK.out] at this; have := HAL.out; omega⟩
              clear d2 hb6
              generalize w5.alloc (.cells #[.int .i64 ((a : Int) + (k : Int)), .string y, .int .i64 (at_ : Int)] 51) = W6 at *
              go_quiet (fail)
              go_wp2_with fail
              clear c0 d0 s3 s4
              go_roundw
              case rel => exact ⟨j + 1, HLT.out, by rw [HI1.out]; rfl, HR6, HI6, Lib.hid (HB6.out.trans (below_dn _ _ _))⟩
              case measure =>
                rw [HI1.out]
                show M.length - ((j : Int) + 1).toNat < M.length - (j : Int).toNat
                have := HLT.out; omega
          · as_aux_lemma =>
              have e1 : decide ((j : Int) < (M.length : Int)) = false := decide_eq_false (by omega)
              clear hj
              have s2 : wrap64 ((a : Int) + (xs.length : Int)) = ((a + xs.length : Nat) : Int) := by rw [IntWalk.wrap64_in _ ⟨by omega, by have := HAL.out; omega⟩]; omega
              have HG2 := Lib.hid (HGN.out wr b HI.out)
              rw [show ((a + xs.length : Nat) : Int) = (a : Int) + (xs.length : Int) by omega] at HG2
              go_wp2_with fail
              refine HG2.out.mono ?_
              rintro e w5 ⟨rfl, hb⟩
              have HB5 := Lib.hid (HB.out.trans (hb.mono HB.out.size))
              obtain ⟨v, hx5, -⟩ := HI.out.below hb
              rw [HATL.out] at hx5
              have HX5 := Lib.hid hx5
              clear hb hx5
              have f2 := HML.out
              have S2 := Lib.hid s2
              clear s2
              obtain ⟨L, hL⟩ : ∃ L, xs.length + ev - 1 = L := ⟨_, rfl⟩
              have F3 : Hid (wrap64 (wrap64 ((xs.length : Int) + (ev : Int)) - 1) = (L : Int)) := Lib.hid (by
                have := HEV.out; have := HL6.out
                rw [IntWalk.wrap64_in ((xs.length : Int) + (ev : Int)) ⟨by omega, by omega⟩, IntWalk.wrap64_in _ ⟨by omega, by omega⟩]; omega)
              have f4 : (L : Int).tdiv (ev : Int) = (nn : Int) := by
                rw [Int.tdiv_eq_ediv_of_nonneg (by omega), ← Int.natCast_ediv, ← HNN.out, ← hL]; rfl
              have f6 : ¬ (ev : Int) = 0 := by have := HEV.out; omega
              have f7 : ((ev : Int) == 0) = false := beq_eq_false_iff_ne.2 f6
              rw [← f2] at f4
              have S5 : Hid (wrap64 (M.length : Int) = (M.length : Int)) := Lib.hid (by have := HNL.out; exact IntWalk.wrap64_in _ ⟨by omega, by omega⟩)
              clear f2 hL hlt
              have f3 := F3.out
              have s2 := S2.out
              have s5 := S5.out
              clear F3 S2 S5
              go_wp2_with fail
              refine (good_x w5 b ev a (a + xs.length) v g HX5.out).mono ?_
              rintro e w6 ⟨rfl, rfl⟩
              go_wp2_with fail
              refine (next_x w5 b ev a (a + xs.length) v g HX5.out).mono ?_
              rintro e w6 ⟨rfl, rfl⟩
              go_wp2_with fail
              go_ret
              exact ⟨rfl, HB5.out⟩
end Go.Proofs.Ytkjnddgjnlbopaa.Index
