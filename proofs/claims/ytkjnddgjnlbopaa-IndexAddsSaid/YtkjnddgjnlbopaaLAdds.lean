import Derived.Test.YtkjnddgjnlbopaaIU
import Derived.Test.YtkjnddgjnlbopaaLFound
import Derived.BigQuiet
/-
  The walk of the statement IndexAdds.
-/
namespace Go.Proofs.Ytkjnddgjnlbopaa.Index
open Go Go.RowKit
open Go.Proofs.Ytkjnddgjnlbopaa.Wire (S S_list S_size row_lt)
open Go.Proofs.Ytkjnddgjnlbopaa.Frame Go.Proofs.Ytkjnddgjnlbopaa.Seg

/-- an index all of whose blocks are some of these -/
def IyP (P : Nat → Prop) (w : World) (base b ev a : Nat) (ats : List Nat) (g : Nat) : Prop :=
  ∃ v, IBx w b ev a (a + ats.length) v g ∧ OwnM w base v (mks ev a ats) ∧ P b ∧ ∀ r, v.ownBlock = some r → P r
theorem IyP.ix {P : Nat → Prop} {w : World} {base b ev a : Nat} {ats : List Nat} {g : Nat} (h : IyP P w base b ev a ats g) : Ix w base b ev a ats g := by
  obtain ⟨v, h1, h2, _⟩ := h
  exact ⟨v, h1, h2⟩
theorem IyP.below {P : Nat → Prop} {w w' : World} {base b ev a : Nat} {ats : List Nat} {g : Nat} (h : IyP P w base b ev a ats g) (hb : Below w.heap.size w w') : IyP P w' base b ev a ats g := by
  obtain ⟨v, h1, h2, h3⟩ := h
  exact ⟨v, (hb.block _ (row_lt h1)).trans h1, h2.below hb, h3⟩
theorem IyP.same {P : Nat → Prop} {w w' : World} {base b ev a : Nat} {ats : List Nat} {g : Nat} (h : IyP P w base b ev a ats g) (hs : SameP P w w') : IyP P w' base b ev a ats g := by
  obtain ⟨v, h1, h2, h3, h4⟩ := h
  exact ⟨v, (hs _ h3).trans h1, h2.keep (fun r hr => hs r (h4 r hr)), h3, h4⟩
/-- two indexes, one behind the other -/
theorem ix_two {w4 w5 : World} {b b2 ev a : Nat} {l1 l2 : List Nat} {g1 g2 : Nat} (h1 : Ix w4 b b ev a l1 g1) (hb : Below w4.heap.size w4 w5) (hb2 : w4.heap.size ≤ b2) (h2 : Ix w5 b2 b2 ev a l2 g2) :
    IxP (fun r => w4.heap.size ≤ r ∧ r < w5.heap.size) w5 b b ev a l1 g1 ∧ IyP (fun r => w4.heap.size ≤ r ∧ r < w5.heap.size) w5 b2 b2 ev a l2 g2 := by
  obtain ⟨v, x1, x2⟩ := h1
  obtain ⟨u, y1, y2⟩ := h2
  refine ⟨⟨v, (hb.block _ (row_lt x1)).trans x1, x2.below hb, fun h => ?_, fun r hr h => ?_⟩, ⟨u, y1, y2, ⟨hb2, row_lt y1⟩, fun r hr => ⟨Nat.le_trans hb2 (y2.lt r hr).2, (y2.lt r hr).1⟩⟩⟩
  · have := row_lt x1; omega
  · have := (x2.lt r hr).1; omega
set_option maxRecDepth 100000 in
set_option maxHeartbeats 4000000 in
theorem adds_law (q : Int) (A : Option Addr) (cap : Nat) (xs : List ByteArray) (frm every : Int) (w : World) (hx : Strs w A xs) (hlc : xs.length ≤ cap) (hcm : cap ≤ maxLen) :
    Calls Try.prog 7 #[.int .i64 q, .slice A xs.length cap, .int .i64 frm, .int .i64 every] w fun e w' => e = .returned (.bool true) ∧ Below w.heap.size w w' := by
  have hl : xs.length ≤ maxLen := Nat.le_trans hlc hcm
  have HWK := Lib.hid (fun W => works_any W)
  have HX := Lib.hid hx
  have HHV := Lib.hid (fun W (h : Strs W A xs) => heavy_any A cap xs hl W h)
  obtain ⟨k, hk, hd0, hrem⟩ := rem_long frm xs.length hl
  obtain ⟨Y, hY⟩ : ∃ Y, wrap64 ((xs.length : Int) + 1) = Y := ⟨_, rfl⟩
  rw [hY] at hd0 hrem
  obtain ⟨D, hD⟩ : ∃ D, IntKind.u64.wrap Y = D := ⟨_, rfl⟩
  rw [hD] at hd0 hrem
  have kz : (D == 0) = false := beq_eq_false_iff_ne.2 hd0
  have HY := Lib.hid hY
  have HD := Lib.hid hD
  have HZ := Lib.hid hrem
  have HCUT := Lib.hid (fun W => cut_strs A xs.length cap k hk hlc W)
  have htl : (xs.take k).length = k := by rw [List.length_take]; omega
  have HJ1 : Hid (∀ W (_ : Strs W A xs), Calls Try.prog 10 #[.int .i64 q, .slice A k cap] W fun e w' => e = joV q (xs.take k) ∧ Below W.heap.size W w') := Lib.hid fun W h => by
    have h1 := Join_all q A cap (xs.take k) (by omega) W (strs_take h k)
    rw [htl] at h1
    exact h1
  have HJ2 := Lib.hid (fun W (h : Strs W A xs) => Join_all q A cap xs hl W h)
  have HBD := Lib.hid (fun (s : ByteArray) (hs : s.size ≤ 1048576) W => build_all s (by omega) every W)
  have HK := Lib.hid hk
  unfold joV at HJ1 HJ2
  clear hY hD hrem htl
  by_cases hj : joE q (bytesP xs) = 0
  case neg =>
    obtain ⟨q1, q2, q3, q4, q5⟩ := nat_ne hj
    have HS1 := Lib.hid (joB_size q (bytesP (xs.take k)))
    have HS2 := Lib.hid (joB_size q (bytesP xs))
    clear hj hl hlc hcm hx hk
    generalize S (joB q (bytesP xs)) = T2 at *
    generalize S (joB q (bytesP (xs.take k))) = T1 at *
    generalize joE q (bytesP xs) = x at *
    generalize joE q (bytesP (xs.take k)) = y at *
    by_cases hy0 : y = 0
    · subst hy0
      go_enter Try.func7, Try.ntmps7
      go_wp2_with fail
      refine (HWK.out w).mono ?_
      rintro e w1 ⟨rfl, hb⟩
      have HB1 := Lib.hid hb
      have HX1 := Lib.hid (HX.out.below hb)
      clear hb
      go_wp2_with fail
      refine (HHV.out w1 HX1.out).mono ?_
      rintro e w2 ⟨bb, rfl, rfl, -⟩
      cases bb with
      | true =>
        go_wp2_with fail
        refine (HWK.out w1).mono ?_
        rintro e w2 ⟨rfl, hb⟩
        have HB2 := Lib.hid (HB1.out.trans (hb.mono HB1.out.size))
        clear hb
        go_wp2_with fail
        go_ret
        exact ⟨rfl, HB2.out⟩
      | false =>
        have hcz := HCUT.out
        have hy := HY.out
        have hd := HD.out
        have hz := HZ.out
        go_wp2_with fail
        refine (HJ1.out w1 HX1.out).mono ?_
        rintro e w2 ⟨rfl, hb⟩
        have HB2 := Lib.hid (HB1.out.trans (hb.mono HB1.out.size))
        have HX2 := Lib.hid (HX1.out.below hb)
        clear hb hcz hy hd hz
        go_wp2_with fail
        refine (HJ2.out w2 HX2.out).mono ?_
        rintro e w3 ⟨rfl, hb⟩
        have HB3 := Lib.hid (HB2.out.trans (hb.mono HB2.out.size))
        clear hb
        go_wp2_with fail
        refine (HBD.out T1 HS1.out w3).mono ?_
        rintro e w4 ⟨v1, f1, rfl, hb⟩
        have HB4 := Lib.hid (HB3.out.trans (hb.mono HB3.out.size))
        clear hb
        go_wp2_with fail
        refine (HBD.out T2 HS2.out w4).mono ?_
        rintro e w5 ⟨v2, f2, rfl, hb⟩
        have HB5 := Lib.hid (HB4.out.trans (hb.mono HB4.out.size))
        clear hb
        go_wp2_with fail
        go_ret
        exact ⟨rfl, HB5.out⟩
    · obtain ⟨p1, p2, p3, p4, p5⟩ := nat_ne hy0
      clear hy0
      go_enter Try.func7, Try.ntmps7
      go_wp2_with fail
      refine (HWK.out w).mono ?_
      rintro e w1 ⟨rfl, hb⟩
      have HB1 := Lib.hid hb
      have HX1 := Lib.hid (HX.out.below hb)
      clear hb
      go_wp2_with fail
      refine (HHV.out w1 HX1.out).mono ?_
      rintro e w2 ⟨bb, rfl, rfl, -⟩
      cases bb with
      | true =>
        go_wp2_with fail
        refine (HWK.out w1).mono ?_
        rintro e w2 ⟨rfl, hb⟩
        have HB2 := Lib.hid (HB1.out.trans (hb.mono HB1.out.size))
        clear hb
        go_wp2_with fail
        go_ret
        exact ⟨rfl, HB2.out⟩
      | false =>
        have hcz := HCUT.out
        have hy := HY.out
        have hd := HD.out
        have hz := HZ.out
        go_wp2_with fail
        refine (HJ1.out w1 HX1.out).mono ?_
        rintro e w2 ⟨rfl, hb⟩
        have HB2 := Lib.hid (HB1.out.trans (hb.mono HB1.out.size))
        have HX2 := Lib.hid (HX1.out.below hb)
        clear hb hcz hy hd hz
        go_wp2_with fail
        refine (HJ2.out w2 HX2.out).mono ?_
        rintro e w3 ⟨rfl, hb⟩
        have HB3 := Lib.hid (HB2.out.trans (hb.mono HB2.out.size))
        clear hb
        go_wp2_with fail
        refine (HBD.out T1 HS1.out w3).mono ?_
        rintro e w4 ⟨v1, f1, rfl, hb⟩
        have HB4 := Lib.hid (HB3.out.trans (hb.mono HB3.out.size))
        clear hb
        go_wp2_with fail
        refine (HBD.out T2 HS2.out w4).mono ?_
        rintro e w5 ⟨v2, f2, rfl, hb⟩
        have HB5 := Lib.hid (HB4.out.trans (hb.mono HB4.out.size))
        clear hb
        go_wp2_with fail
        go_ret
        exact ⟨rfl, HB5.out⟩
  obtain ⟨a, rfl, hok, hs20, hjB⟩ := okP_of hj
  obtain ⟨hj1, hjB1⟩ := joE_take hok hs20 k
  rw [← bytesP_take] at hj1 hjB1
  rw [hj, hjB] at HJ2
  rw [hj1, hjB1, bytesP_take] at HJ1
  have hnb : ¬ Bad xs := fun h => h.wrong (a : Int) (joE_zero hj).1
  replace HHV : Hid (∀ W (_ : Strs W A xs), Calls Try.prog 26 #[.slice A xs.length cap] W fun e w' => e = .returned (.bool (decide (12000 ≤ hvM xs))) ∧ W = w') := Lib.hid (fun W h => (HHV.out W h).mono (by
    rintro e w' ⟨bb, rfl, rfl, hbb | hbb⟩
    · exact ⟨by rw [hbb], rfl⟩
    · exact absurd hbb hnb))
  by_cases hv : 12000 ≤ hvM xs
  · rw [decide_eq_true hv] at HHV
    clear hv hl hx hnb hj HJ1 HJ2 hlc hcm hk
    go_enter Try.func7, Try.ntmps7
    go_wp2_with fail
    refine (HWK.out w).mono ?_
    rintro e w1 ⟨rfl, hb⟩
    have HB1 := Lib.hid hb
    have HX1 := Lib.hid (HX.out.below hb)
    clear hb
    go_wp2_with fail
    refine (HHV.out w1 HX1.out).mono ?_
    rintro e w2 ⟨rfl, rfl⟩
    go_wp2_with fail
    refine (HWK.out w1).mono ?_
    rintro e w2 ⟨rfl, hb⟩
    have HB2 := Lib.hid (HB1.out.trans (hb.mono HB1.out.size))
    clear hb
    go_wp2_with fail
    go_ret
    exact ⟨rfl, HB2.out⟩
  rw [decide_eq_false hv] at HHV
  obtain ⟨hsz, hln⟩ := hvM_seg xs
  have hl6 : xs.length ≤ 600 := by omega
  have hsz2 : segN (bytesP xs) ≤ 12016 := by omega
  clear hv hsz hln hnb hj hjB hj1 hjB1 hl hs20
  by_cases hev : 1 ≤ every ∧ every ≤ 64
  case neg =>
    have HBA := Lib.hid (fun T W => build_arg T every hev W)
    clear hev hx hl6 hsz2 hok hlc hcm hk
    generalize S (segB a (bytesP xs)) = T2 at *
    generalize S (segB a ((bytesP xs).take k)) = T1 at *
    go_enter Try.func7, Try.ntmps7
    go_wp2_with fail
    refine (HWK.out w).mono ?_
    rintro e w1 ⟨rfl, hb⟩
    have HB1 := Lib.hid hb
    have HX1 := Lib.hid (HX.out.below hb)
    clear hb
    go_wp2_with fail
    refine (HHV.out w1 HX1.out).mono ?_
    rintro e w2 ⟨rfl, rfl⟩
    have hcz := HCUT.out
    have hy := HY.out
    have hd := HD.out
    have hz := HZ.out
    go_wp2_with fail
    refine (HJ1.out w1 HX1.out).mono ?_
    rintro e w2 ⟨rfl, hb⟩
    have HB2 := Lib.hid (HB1.out.trans (hb.mono HB1.out.size))
    have HX2 := Lib.hid (HX1.out.below hb)
    clear hb hcz hy hd hz
    go_wp2_with fail
    refine (HJ2.out w2 HX2.out).mono ?_
    rintro e w3 ⟨rfl, hb⟩
    have HB3 := Lib.hid (HB2.out.trans (hb.mono HB2.out.size))
    clear hb
    go_wp2_with fail
    refine (HBA.out T1 w3).mono ?_
    rintro e w4 ⟨rfl, rfl⟩
    go_wp2_with fail
    refine (HBA.out T2 w3).mono ?_
    rintro e w4 ⟨rfl, rfl⟩
    go_wp2_with fail
    go_ret
    exact ⟨rfl, HB3.out⟩
  obtain ⟨ev, rfl⟩ : ∃ ev : Nat, every = (ev : Int) := ⟨every.toNat, by omega⟩
  have hev2 : 1 ≤ ev ∧ ev ≤ 64 := by omega
  clear hev HBD
  have hpl : (bytesP xs).length = xs.length := bytesP_len xs
  have hal : a + xs.length ≤ 1048576 := by have := hok.1; omega
  have hTs : (S (segB a (bytesP xs))).size = segN (bytesP xs) := by rw [S_size, segB_length]
  obtain ⟨b1, b2, b3, b4⟩ := sc_seg a (bytesP xs) hok
  have HBY2 := Lib.hid (fun W => build_yes (S (segB a (bytesP xs))) (by rw [hTs]; omega) ev hev2 (by rw [S_list]; exact b1) W)
  rw [S_list, b2, b3, b4, pays_row, segB_length] at HBY2
  obtain ⟨d1, d2, d3, d4⟩ := sc_seg a ((bytesP xs).take k) (okP_take hok k)
  have HBY1 := Lib.hid (fun W => build_yes (S (segB a ((bytesP xs).take k))) (by rw [S_size, segB_length]; have := segN_take (bytesP xs) k; omega) ev hev2 (by rw [S_list]; exact d1) W)
  rw [S_list, d2, d3, d4, pays_row, segB_length] at HBY1
  have hatl : ∀ i, i ≤ xs.length → (atsP ((bytesP xs).take i)).length = i := fun i hi => by rw [atsP_len, List.length_take, hpl]; omega
  have hat0 : (atsP (bytesP xs)).length = xs.length := by rw [atsP_len, hpl]
  have hpay : ∀ j (h : j < xs.length), 1 ≤ xs[j].size ∧ xs[j].size ≤ 4096 := bytesP_ok.1 (okL_all.2 hok.2)
  have HAD : Hid (∀ (P : Nat → Prop) W b (i : Nat) (hi : i < xs.length) (_ : ∀ r, P r → r < W.heap.size) (_ : IxP P W b b ev a (atsP ((bytesP xs).take i)) (segN ((bytesP xs).take i))), Calls Try.prog 16 #[.pointer (some ⟨b, 0, none⟩), .int .i64 ((xs[i]'hi).size : Int)] W fun e w' => e = .returned (.tuple #[.int .i64 (segN ((bytesP xs).take i) : Nat), .int .i64 0]) ∧ IxP P w' b b ev a (atsP ((bytesP xs).take (i + 1))) (segN ((bytesP xs).take (i + 1))) ∧ Below b W w' ∧ SameP P W w') := by
    refine Lib.hid fun P W b i hi hP h => ?_
    have hp := hpay i hi
    have hs := segN_take (bytesP xs) i
    have h1 := add_p P W hP b b ev a _ _ ((xs[i]'hi).size : Int) h (Nat.le_refl _) hev2 (by rw [hatl i (by omega)]; omega) (by rw [hatl i (by omega)]; omega) (by omega)
    rw [hatl i (by omega)] at h1
    have he : adE ((xs[i]'hi).size : Int) (a + i) = 0 := by unfold adE; rw [if_pos ⟨by omega, by omega⟩, if_neg (by omega)]
    unfold adV at h1
    simp only [he, if_true, Int.toNat_natCast] at h1
    obtain ⟨t1, t2⟩ := atsP_take (bytesP xs) i (by rw [hpl]; exact hi)
    have t3 : ((bytesP xs)[i]'(by rw [hpl]; exact hi)).length = (xs[i]'hi).size := by rw [bytesP_at xs i hi]; simp
    rw [t1, t2, t3]
    exact h1
  have HRD : Hid (∀ (i : Nat) (hi : i < xs.length) W, Calls Try.prog 27 #[.string (S (segB a (bytesP xs))), .int .i64 (segN ((bytesP xs).take i) : Nat)] W fun e w' => (∃ z : Int, e = .returned (.tuple #[.agg #[.int .i64 ((a + i : Nat) : Int), .string (xs[i]'hi), .int .i64 ((segN ((bytesP xs).take i) : Nat) : Int)], .int .i64 z, .int .i64 0])) ∧ Below W.heap.size W w') := by
    refine Lib.hid fun i hi W => ?_
    refine (Read_any (S (segB a (bytesP xs))) (segN ((bytesP xs).take i) : Nat) (by rw [hTs]; omega) W).mono ?_
    rintro e w' ⟨rfl, hb⟩
    rw [read_row a i (bytesP xs) hok (by rw [hpl]; exact hi)]
    have e2 : S ((bytesP xs)[i]'(by rw [hpl]; exact hi)) = xs[i]'hi := by rw [bytesP_at xs i hi]; rfl
    unfold frV
    rw [e2]
    exact ⟨⟨_, rfl⟩, hb⟩
  have HFULL := Lib.hid (show (bytesP xs).take xs.length = bytesP xs by rw [← hpl, List.take_length])
  have HMK := Lib.hid (fun W b0 b (h : Ix W b0 b ev a (atsP (bytesP xs)) (segN (bytesP xs))) => marks_any W b0 b ev a _ _ h hev2.1 (by rw [hat0]; omega))
  have HML := Lib.hid (show (mks ev a (atsP (bytesP xs))).length ≤ 600 by rw [mks_len, hat0]; exact Nat.le_trans (nm_le hev2.1) hl6)
  have HL6 := Lib.hid hl6
  have HAT0 := Lib.hid hat0
  clear hl6 hev2 hatl hat0 hTs hpl b1 b2 b3 b4 d1 d2 d3 d4 hsz2 hok hx hpay hlc hcm hal
  generalize S (segB a (bytesP xs)) = T2 at *
  generalize S (segB a ((bytesP xs).take k)) = T1 at *
  go_enter Try.func7, Try.ntmps7
  go_wp2_with fail
  refine (HWK.out w).mono ?_
  rintro e w1 ⟨rfl, hb⟩
  have HB1 := Lib.hid hb
  have HX1 := Lib.hid (HX.out.below hb)
  clear hb
  go_wp2_with fail
  refine (HHV.out w1 HX1.out).mono ?_
  rintro e w2 ⟨rfl, rfl⟩
  have hcz := HCUT.out
  have hy := HY.out
  have hd := HD.out
  have hz := HZ.out
  clear hk
  go_wp2_with fail
  refine (HJ1.out w1 HX1.out).mono ?_
  rintro e w2 ⟨rfl, hb⟩
  have HB2 := Lib.hid (HB1.out.trans (hb.mono HB1.out.size))
  have HX2 := Lib.hid (HX1.out.below hb)
  clear hb hcz hy hd hz
  go_wp2_with fail
  refine (HJ2.out w2 HX2.out).mono ?_
  rintro e w3 ⟨rfl, hb⟩
  have HB3 := Lib.hid (HB2.out.trans (hb.mono HB2.out.size))
  clear hb
  go_wp2_with fail
  refine (HBY1.out w3).mono ?_
  rintro e w4 ⟨b, hbb, rfl, hi, hb⟩
  have HB4 := Lib.hid (HB3.out.trans (hb.mono HB3.out.size))
  have HI4 := Lib.hid hi
  have HWB := Lib.hid (show w.heap.size ≤ b from Nat.le_trans HB3.out.size hbb)
  clear hb hi hbb
  go_wp2_with fail
  refine (HBY2.out w4).mono ?_
  rintro e w5 ⟨b2, hbb, rfl, hi, hb⟩
  have HB5 := Lib.hid (HB4.out.trans (hb.mono HB4.out.size))
  obtain ⟨hxp, hyp⟩ := ix_two HI4.out hb hbb hi
  have HP5 : Hid (∀ r, (fun r => w4.heap.size ≤ r ∧ r < w5.heap.size) r → r < w5.heap.size) := Lib.hid (fun r h => h.2)
  clear hb hi hbb HI4
  generalize (fun r => w4.heap.size ≤ r ∧ r < w5.heap.size) = P at *
  have HXP := Lib.hid hxp
  have HYP := Lib.hid hyp
  clear hxp hyp HBY1 HBY2 HJ1 HJ2 HHV HWK HCUT HY HD HX1 HX2 kz hd0
  go_wp2_with fail
  go_loopw [18] (fun y wr => ∃ i : Nat, k ≤ i ∧ i ≤ xs.length ∧ y = .int .i64 (i : Int) ∧ Hid (IxP P wr b b ev a (atsP ((bytesP xs).take i)) (segN ((bytesP xs).take i))) ∧ Hid (IyP P wr b2 b2 ev a (atsP (bytesP xs)) (segN (bytesP xs))) ∧ Hid (∀ r, P r → r < wr.heap.size) ∧ Hid (Below w.heap.size w wr)) (fun y _ => xs.length - (intOf y).toNat)
  case atStart => exact ⟨k, Nat.le_refl _, HK.out, by rw [HZ.out], HXP, HYP, HP5, HB5⟩
  case round =>
    clear HXP HYP HP5 HB5
    obtain ⟨i, hki, hi, rfl, HI, HJ, HP, HB⟩ := hrel
    by_cases hlt : i < xs.length
    · as_aux_lemma =>
        have e1 : decide ((i : Int) < (xs.length : Int)) = true := decide_eq_true (by omega)
        have HLT := Lib.hid hlt
        have HKI := Lib.hid (show k ≤ i + 1 by omega)
        have HI1 := Lib.hid (show wrap64 ((i : Int) + 1) = (i : Int) + 1 from IntWalk.wrap64_in _ ⟨by omega, by have := HL6.out; omega⟩)
        obtain ⟨B, o, hA, hb0, hsz, c0⟩ := HX.out.below HB.out i hlt
        subst hA
        have HADI := Lib.hid (HAD.out P wr b i hlt HP.out HI.out)
        have HRDI := Lib.hid (HRD.out i hlt)
        have HCX := Lib.hid (fun W (h : Below w.heap.size w W) => (HX.out.below h) i hlt)
        generalize segN ((bytesP xs).take i) = at_ at *
        generalize xs[i]'hlt = p at *
        clear hi hki hb0 hsz
        go_wp2_with fail
        refine HADI.out.mono ?_
        rintro e w6 ⟨rfl, hix, hb, hsp⟩
        have HB6 := Lib.hid (HB.out.trans (hb.mono HWB.out))
        have HI6 := Lib.hid hix
        have HJ6 := Lib.hid (HJ.out.same hsp)
        have HP6 : Hid (∀ r, P r → r < w6.heap.size) := Lib.hid (fun r hr => Nat.lt_of_lt_of_le (HP.out r hr) hb.size)
        clear hix hb hsp c0
        go_wp2_with fail
        refine (HRDI.out w6).mono ?_
        rintro e w7 ⟨⟨z, rfl⟩, hb⟩
        have HB7 := Lib.hid (HB6.out.trans (hb.mono HB6.out.size))
        have HI7 := Lib.hid (HI6.out.below hb)
        have HJ7 := Lib.hid (HJ6.out.below hb)
        have HP7 : Hid (∀ r, P r → r < w7.heap.size) := Lib.hid (fun r hr => Nat.lt_of_lt_of_le (HP6.out r hr) hb.size)
        clear hb
        go_wp2_with fail
        have hb8 : Below w7.heap.size w7 (w7.alloc (.cells #[.int .i64 ((a : Int) + (i : Int)), .string p, .int .i64 (at_ : Int)] 51)) := (Below.refl _ _).alloc (Nat.le_refl _) _
        have HB8 := Lib.hid (HB7.out.trans (hb8.mono HB7.out.size))
        have HI8 := Lib.hid (HI7.out.below hb8)
        have HJ8 := Lib.hid (HJ7.out.below hb8)
        have HP8 : Hid (∀ r, P r → r < (w7.alloc (.cells #[.int .i64 ((a : Int) + (i : Int)), .string p, .int .i64 (at_ : Int)] 51)).heap.size) := Lib.hid (fun r hr => Nat.lt_of_lt_of_le (HP7.out r hr) hb8.size)
        have c1 : (w7.alloc (.cells #[.int .i64 ((a : Int) + (i : Int)), .string p, .int .i64 (at_ : Int)] 51)).cell? ⟨w7.heap.size, 1, none⟩ = some (.string p) := Go.Proofs.Ytkjnddgjnlbopaa.Wire.cell_row (heap_alloc_new w7 _) 1
        obtain ⟨B2, o2, hA, -, -, c2⟩ := HCX.out _ HB8.out
        injection hA with hA
        injection hA with hA1 hA2
        subst hA1 hA2
        have r3 := beq_self p
        clear hb8
        generalize w7.alloc (.cells #[.int .i64 ((a : Int) + (i : Int)), .string p, .int .i64 (at_ : Int)] 51) = W8 at *
        go_quiet (fail)
        go_wp2_with fail
        clear c1 c2 r3
        go_roundw
        case rel => exact ⟨i + 1, HKI.out, HLT.out, by rw [HI1.out]; rfl, HI8, HJ8, HP8, Lib.hid (HB8.out.trans (below_dn _ _ _))⟩
        case measure =>
          rw [HI1.out]
          show xs.length - ((i : Int) + 1).toNat < xs.length - (i : Int).toNat
          have := HLT.out; omega
    · as_aux_lemma =>
        have e1 : decide ((i : Int) < (xs.length : Int)) = false := decide_eq_false (by omega)
        obtain rfl : i = xs.length := by omega
        rw [HFULL.out] at HI
        clear hi hki
        go_wp2_with fail
        refine (HMK.out wr b b HI.out.ix).mono ?_
        rintro e w6 ⟨u, rfl, ho, hb⟩
        have HB6 := Lib.hid (HB.out.trans (hb.mono HB.out.size))
        have HI6 := Lib.hid (HI.out.below hb)
        have HJ6 := Lib.hid (HJ.out.below hb)
        obtain ⟨A2, c2, rfl, -, -, hrow, -⟩ := ho.row
        have HR6 := Lib.hid hrow
        clear hb ho hrow HB HI HJ
        go_wp2_with fail
        refine (HMK.out w6 b2 b2 HJ6.out.ix).mono ?_
        rintro e w7 ⟨u, rfl, ho, hb⟩
        have HB7 := Lib.hid (HB6.out.trans (hb.mono HB6.out.size))
        have HI7 := Lib.hid (HI6.out.below hb)
        have HJ7 := Lib.hid (HJ6.out.below hb)
        have HR7 := Lib.hid (HR6.out.below hb)
        obtain ⟨A3, c3, rfl, -, -, hrow, -⟩ := ho.row
        have HS7 := Lib.hid hrow
        clear hb ho hrow HB6 HI6 HJ6 HR6
        obtain ⟨v1, hx1, -⟩ := HI7.out.ix
        obtain ⟨v2, hx2, -⟩ := HJ7.out.ix
        have HX1 := Lib.hid hx1
        have HX2 := Lib.hid hx2
        clear hx1 hx2
        generalize mks ev a (atsP (bytesP xs)) = M at *
        generalize segN (bytesP xs) = g at *
        generalize a + (atsP (bytesP xs)).length = nn at *
        go_wp2_with fail
        refine (next_x w7 b ev a nn v1 g HX1.out).mono ?_
        rintro e w8 ⟨rfl, rfl⟩
        go_wp2_with fail
        refine (next_x w7 b2 ev a nn v2 g HX2.out).mono ?_
        rintro e w8 ⟨rfl, rfl⟩
        go_wp2_with fail
        refine (good_x w7 b ev a nn v1 g HX1.out).mono ?_
        rintro e w8 ⟨rfl, rfl⟩
        go_wp2_with fail
        refine (good_x w7 b2 ev a nn v2 g HX2.out).mono ?_
        rintro e w8 ⟨rfl, rfl⟩
        go_wp2_with fail
        refine (first_x w7 b ev a nn v1 g HX1.out).mono ?_
        rintro e w8 ⟨rfl, rfl⟩
        go_wp2_with fail
        refine (first_x w7 b2 ev a nn v2 g HX2.out).mono ?_
        rintro e w8 ⟨rfl, rfl⟩
        go_wp2_with fail
        go_loopw [26] (fun y wr => ∃ j : Nat, j ≤ M.length ∧ y = .int .i64 (j : Int) ∧ Hid (RowM wr A2 M) ∧ Hid (RowM wr A3 M) ∧ Hid (Below w.heap.size w wr)) (fun y _ => M.length - (intOf y).toNat)
        case atStart => exact ⟨0, Nat.zero_le _, rfl, HR7, HS7, HB7⟩
        case round =>
          clear HR7 HS7 HB7
          obtain ⟨j, hj, rfl, HR, HS, HB⟩ := hrel
          by_cases hlt : j < M.length
          · as_aux_lemma =>
              have e1 : decide ((j : Int) < (M.length : Int)) = true := decide_eq_true (by omega)
              have HLT := Lib.hid hlt
              obtain ⟨g2, rfl, -, d0, d1⟩ := HR.out j hlt
              obtain ⟨g3, rfl, -, d2, d3⟩ := HS.out j hlt
              have HI1 := Lib.hid (show wrap64 ((j : Int) + 1) = (j : Int) + 1 from IntWalk.wrap64_in _ ⟨by omega, by have := HML.out; omega⟩)
              generalize (M[j]'hlt).1 = m1 at *
              generalize (M[j]'hlt).2 = m2 at *
              clear hj
              go_wp2_with fail
              go_quiet (fail)
              go_wp2_with fail
              clear d0 d1 d2 d3
              go_roundw
              case rel => exact ⟨j + 1, HLT.out, by rw [HI1.out]; rfl, HR, HS, Lib.hid (HB.out.trans (below_dn _ _ _))⟩
              case measure =>
                rw [HI1.out]
                show M.length - ((j : Int) + 1).toNat < M.length - (j : Int).toNat
                have := HLT.out; omega
          · as_aux_lemma =>
              have e1 : decide ((j : Int) < (M.length : Int)) = false := decide_eq_false (by omega)
              clear hj
              go_wp2_with fail
              go_ret
              exact ⟨rfl, HB.out⟩
end Go.Proofs.Ytkjnddgjnlbopaa.Index
