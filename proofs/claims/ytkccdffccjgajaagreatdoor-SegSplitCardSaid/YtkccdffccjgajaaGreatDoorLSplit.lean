import Derived.Test.YtkccdffccjgajaaGreatDoorRM
import Derived.Test.YtkccdffccjgajaaGreatDoorRL
import Derived.Test.YtkccdffccjgajaaGreatDoorLB
import Derived.Test.YtkccdffccjgajaaGreatDoorRP
import Derived.Test.YtkccdffccjgajaaGreatDoorLJoins
/-
  The walk of the statement SegSplit.
-/
namespace Go.Proofs.YtkccdffccjgajaaGreatDoor.Seg
open Go Go.RowKit
open Go.Proofs.YtkccdffccjgajaaGreatDoor.Wire (S S_list S_size S_append cell_row frozen_row row_lt heap_set heap_far U)
open Go.Proofs.YtkccdffccjgajaaGreatDoor.Frame Go.Proofs.YtkccdffccjgajaaGreatDoor.Ranges

set_option maxRecDepth 100000 in
set_option maxHeartbeats 4000000 in
theorem split_law (q : Int) (A0 : Option Addr) (cap : Nat) (xs : List ByteArray) (most : Int) (w : World) (_w0 : (Lit.int .i64 q).wf = true) (hx : Strs w A0 xs) (hl : xs.length ≤ cap) (hc : cap ≤ maxLen) (_hnil : A0 = none → cap = 0) (w2 : (Lit.int .i64 most).wf = true) (E : Env w) :
    Calls Tryz.prog 9 #[.int .i64 q, .slice A0 xs.length cap, .int .i64 most] w fun e w' => e = .returned (.bool true) ∧ Below w.heap.size w w' := by
  have HAW := Lib.hid (fun W EW => awake_any W EW)
  have HE := Lib.hid E
  have HMY := Lib.hid (many_any A0 cap xs (by omega) w hx)
  by_cases hm : sumM xs ≤ 20000
  · rw [show decide (20000 < sumM xs) = false from decide_eq_false (by omega)] at HMY
    have hl2 := (sumM_small xs hm).1
    have HL := Lib.hid hl2
    have HX := Lib.hid hx
    have HSZ := Lib.hid (spS_size q most xs hl2)
    have HSP := Lib.hid (fun W (h : Strs W A0 xs) => Split_any q most w2 A0 cap xs (by omega) W h)
    by_cases h0 : spE q (bytesP xs) most = 0
    · have hmm : 64 ≤ most ∧ most ≤ 65536 := by
        unfold spE at h0
        by_cases h : 64 ≤ most ∧ most ≤ 65536
        · exact h
        · rw [if_neg h] at h0; cases h0
      have hw0 : wrE q (bytesP xs) = 0 := by unfold spE at h0; rw [if_pos hmm] at h0; exact h0
      obtain ⟨hq, hok⟩ := wrE_zero hw0
      obtain ⟨a, rfl⟩ : ∃ a : Nat, q = (a : Int) := ⟨q.toNat, by have := hq.1; omega⟩
      rw [Int.toNat_natCast] at hok
      have hS : spS (a : Int) xs most = outs most a xs := by unfold spS; rw [if_pos h0, Int.toNat_natCast]
      rw [h0, hS] at HSP
      rw [hS] at HSZ
      have HOK := Lib.hid hok
      have HM := Lib.hid hmm
      have HSF := Lib.hid (spw_first hmm.1 a xs)
      have hgl := outs_len most a xs
      have hpos : 0 < (outs most a xs).length := by
        rw [hgl]; unfold grp
        exact List.length_pos_iff.2 (spl_ne _ _ _ _)
      have z1 : (((outs most a xs).length : Int) == 0) = false := beq_eq_false_iff_ne.2 (by omega)
      have HP := Lib.hid hpos
      have HWF2 := Lib.hid w2
      clear hx hl hc w2 E hm hl2 hmm hw0 hq hok hS h0 hgl
      go_enter Tryz.func9, Tryz.ntmps9
      go_wp2_with fail
      refine HMY.out.mono ?_
      rintro e w1 ⟨rfl, rfl⟩
      go_wp2_with fail
      refine (HAW.out w HE.out).mono ?_
      rintro e w1 ⟨rfl, hb⟩
      have HB1 := Lib.hid hb
      clear hb
      go_wp2_with fail
      refine (HSP.out w1 (HX.out.below HB1.out)).mono ?_
      rintro e w2 ⟨v, rfl, ho, hb⟩
      obtain ⟨B, cb, rfl, -, -, hst⟩ := ho.strs HSZ.out.1
      have HO2 := Lib.hid (show Strs w2 B (outs most a xs) from hst)
      have HB2 := Lib.hid (HB1.out.trans (hb.mono HB1.out.size))
      clear ho hb hst
      go_wp2_with fail
      go_loopw [9, 10, 11] (fun al n y wr => ∃ (i a' : Nat) (prev : Option Nat) (done : List (List UInt8)), i ≤ (outs most a xs).length ∧ y = .int .i64 (i : Int) ∧ n = .int .i64 (a' : Int) ∧ Hid (SpW most a xs i prev a' done) ∧ Hid (∀ j, i = j + 1 → ∃ h : j < (outs most a xs).length, prev = some ((outs most a xs)[j]'h).size) ∧ Hid (OwnS wr w2.heap.size al (done.map S)) ∧ Hid (Strs wr B (outs most a xs)) ∧ Hid (Below w.heap.size w wr) ∧ Hid (w2.heap.size ≤ wr.heap.size)) (fun _ _ y _ => (outs most a xs).length - (intOf y).toNat)
      case atStart => exact ⟨0, a, none, [], Nat.zero_le _, rfl, rfl, HSF, Lib.hid (fun j h => by omega), Lib.hid (OwnS.nil _ _), HO2, HB2, Lib.hid (Nat.le_refl _)⟩
      case round =>
        have HBK := Lib.hid (show ∀ b o, B = some ⟨b, o, none⟩ → b < w2.heap.size from fun b o e => by
          obtain ⟨b2, o2, e2, h2, _⟩ := HO2.out 0 HP.out
          rw [e] at e2; injection e2 with e2; injection e2 with e2; omega)
        have HWB := Lib.hid HB2.out.size
        clear HO2 HB2 HSF
        obtain ⟨i, a', prev, done, hi, rfl, rfl, HSW, HPV, HO, HR, HB, HWS⟩ := hrel
        by_cases hlt : i < (outs most a xs).length
        · have hltg : i < (grp most a xs).length := by rw [← outs_len]; exact hlt
          obtain ⟨g1, g2, g3, g4⟩ := spw_next HSW.out hltg
          have gok := spw_ok HOK.out HSW.out hltg
          obtain ⟨b, o, hB, hb, hsz, c0⟩ := HR.out i hlt
          have eo : (outs most a xs)[i]'hlt = S (segB a' ((grp most a xs)[i]'hltg).2) := by
            simp only [outs, List.getElem_map]
            rw [g1]
          have HNX1 : Hid (∀ j, i + 1 = j + 1 → ∃ h : j < (outs most a xs).length, some (segN ((grp most a xs)[i]'hltg).2) = some ((outs most a xs)[j]'h).size) := Lib.hid (fun j hj => by
            have e : j = i := by omega
            subst e
            exact ⟨hlt, by rw [eo, S_size, segB_length]⟩)
          subst hB
          have HEO := Lib.hid eo
          rw [eo] at c0 hsz
          clear eo
          generalize ((grp most a xs)[i]'hltg).2 = gp at *
          obtain ⟨e1, e2, e3, e4⟩ := sc_seg a' gp gok
          have e5 : fiQ (segB a' gp) = a' := by unfold fiQ; rw [if_pos e1, e2]
          have e6 : scW (segB a' gp) = true := by unfold scW; rw [if_pos e1, e4]; exact decide_eq_true rfl
          have hSL : (segB a' gp).length = segN gp := segB_length _ _
          have hmm := HM.out
          have hN : segN gp ≤ 65536 := seg_small hmm.2 g2 gok
          have hgl : gp.length ≤ 65536 := by have := segN_ge gp; omega
          have HSC1 := Lib.hid (fun W => SScan_any (S (segB a' gp)) (by rw [S_size, hSL]; omega) W)
          rw [S_list, e1, e5, e3, e4, e6, show ((0 : Nat) : Int) = 0 from rfl] at HSC1
          have HRQ := Lib.hid (row_q gp a' 16 gok)
          have hlen : (rowF a' 16 gp).length = gp.length := by rw [rowF_length]
          have HRL := Lib.hid (show (rowF a' 16 gp).length ≤ 100000000 by rw [hlen]; omega)
          have HRL2 := Lib.hid (show (rowF a' 16 gp).length ≤ 1000000 by rw [hlen]; omega)
          have HNR : Hid (nxI (a' : Int) (rowF a' 16 gp) = ((a' + gp.length : Nat) : Int)) := Lib.hid (by rw [nx_row gp a' 16]; omega)
          have HPF : Hid (paysF (rowF a' 16 gp) = gp.map S) := Lib.hid (by
            have h : paysF (rowF a' 16 gp) = (pays (rowF a' 16 gp)).map S := by unfold paysF pays; rw [List.map_map]; rfl
            rw [h, pays_row])
          have HPS : Hid (∀ y ∈ gp.map S, y.size ≤ maxLen) := Lib.hid (fun y hy => by
            obtain ⟨p, hp, rfl⟩ := List.mem_map.1 hy
            rw [S_size]
            have := (gok.2 p hp).2
            unfold maxLen; omega)
          have HLN : Hid ((done.map S).length + (gp.map S).length ≤ 1000000) := Lib.hid (by
            have h := congrArg List.length g4.flat
            rw [List.length_append, List.length_append, bytesP_len] at h
            rw [List.length_map, List.length_map]
            have := HL.out; omega)
          have hTS : (S (segB a' gp)).size = (segB a' gp).length := S_size _
          have hTN : (S (segB a' gp)).size = segN gp := by rw [hTS, hSL]
          have HG4 := Lib.hid g4
          have HG3 := Lib.hid g3
          have HLT := Lib.hid hlt
          have HI1 : Hid (wrap64 ((i : Int) + 1) = (i : Int) + 1) := Lib.hid (IntWalk.wrap64_in _ ⟨by omega, by have := HSZ.out.2; omega⟩)
          have z2 : decide ((i : Int) < ((outs most a xs).length : Int)) = true := decide_eq_true (by omega)
          have z3 : (i : Int) < ((outs most a xs).length : Int) := by omega
          have z4 : (0 : Int) ≤ (i : Int) := by omega
          have hmost : (S (segB a' gp)).size ≤ 65536 := by omega
          have HCND : Hid (((segN gp : Int) ≤ most ∨ gp.length = 1)) := Lib.hid g2
          rw [← hTN] at HCND
          have HLEN := Lib.hid hlen
          have HF0 : Hid (∀ p0 t0, gp = p0 :: t0 → ∀ h : 0 < (rowF a' 16 gp).length, ((rowF a' 16 gp)[0]'h).p = p0) := Lib.hid (fun p0 t0 e h => by subst e; rfl)
          have HNS : Hid ((segN gp) = (S (segB a' gp)).size) := Lib.hid hTN.symm
          rw [← hTS] at HSC1
          clear e1 e2 e3 e4 e5 e6 hSL hN hgl g1 g2 g3 g4 gok hlen hTS hTN hmost hmm hltg
          generalize hT : S (segB a' gp) = T at *
          generalize hFR : rowF a' 16 gp = FR at *
          generalize (outs most a xs) = OU at *
          clear hT hFR
          by_cases h00 : i = 0
          · subst h00
            by_cases hms : (T.size : Int) ≤ most
            · as_aux_lemma =>
                have k0 : decide ((0 : Int) < (0 : Int)) = false := decide_eq_false (by omega)
                rw [Nat.add_zero] at c0
                have m1 : decide (most < (T.size : Int)) = false := decide_eq_false (by omega)
                have m2 : ¬ most < (T.size : Int) := by omega
                go_wp2_with fail
                refine (HSC1.out wr).mono ?_
                rintro e w3 ⟨A1, c1, rfl, ho, hb3⟩
                obtain ⟨A1', c1', he, -, -, hrow, -⟩ := ho.row
                cases he
                obtain ⟨w4, hw4⟩ : ∃ w4, w3.alloc (.cells #[.int .i64 (a' : Int), .slice A1 FR.length c1, .int .i64 (T.size : Int), .bool true] 46) = w4 := ⟨_, rfl⟩
                have hb4 : Below w3.heap.size w3 w4 := by rw [← hw4]; exact (Below.refl _ _).alloc (Nat.le_refl _) _
                have hb34 := hb3.trans (hb4.mono hb3.size)
                have HX4 := Lib.hid (show SBx w4 w3.heap.size (a' : Int) (.slice A1 FR.length c1) (T.size : Int) true by rw [← hw4]; exact heap_alloc_new w3 _)
                have HZ4 := Lib.hid (show w3.heap.size < w4.heap.size by rw [← hw4]; simp)
                have HF4 := Lib.hid (ho.grw (T := fun _ => False) (grw_below hb4) (fun _ _ h => h))
                have HRW4 := Lib.hid (hrow.below hb4)
                have HB4 := Lib.hid (HB.out.trans (hb34.mono HB.out.size))
                have HO4 := Lib.hid (HO.out.below hb34)
                have HR4 := Lib.hid (HR.out.below hb34)
                have HZ3 := Lib.hid hb3.size
                have HW4 := Lib.hid hw4
                have HAL := Lib.hid (show ∀ r, u9.ownBlock = some r → r < wr.heap.size from fun r hr => (HO.out.lt r hr).1)
                clear hb3 ho hrow hb4 hw4 hb34 c0 HO HR HB
                obtain ⟨⟨d0, dd1, dd2, dd3⟩, -⟩ := HX4.out.facts
                obtain ⟨b2, o2, he2, -, -, d0i⟩ := HR4.out _ HLT.out
                injection he2 with he2
                injection he2 with he2 he3
                subst he2 he3
                rw [HEO.out] at d0i
                rw [Nat.add_zero] at d0i
                have c0 := d0; have cc1 := dd1; have cc2 := dd2; have cc3 := dd3; have c0i := d0i
                have HDD := Lib.hid (And.intro d0 (And.intro dd1 (And.intro dd2 (And.intro dd3 d0i))))
                clear d0 dd1 dd2 dd3 d0i
                rw [← HW4.out] at c0 cc1 cc2 cc3 c0i
                go_wp2_with fail
                rw [HW4.out]
                clear c0 cc1 cc2 cc3 c0i
                obtain ⟨c0, cc1, cc2, cc3, c0i⟩ := HDD.out
                have hfm : Tryz.prog.follows .mixedOrders = true := by kernel_rfl
                go_big_quiet (fail)
                have hbq := below_dn w4.heap.size nq w4
                have HX5 := Lib.hid (show SBx (w4.drewN nq) w3.heap.size (a' : Int) (.slice A1 FR.length c1) (T.size : Int) true from (hbq.block _ HZ4.out).trans HX4.out)
                have HF5 := Lib.hid (HF4.out.grw (T := fun _ => False) (grw_below hbq) (fun _ _ h => h))
                have HRW5 := Lib.hid (HRW4.out.below hbq)
                have HB5 := Lib.hid (HB4.out.trans (hbq.mono HB4.out.size))
                have HO5 := Lib.hid (HO4.out.below hbq)
                have HR5 := Lib.hid (HR4.out.below hbq)
                have HWS5 := Lib.hid (show w2.heap.size ≤ (w4.drewN nq).heap.size by have h1 := HWS.out; have h2 := HZ3.out; have h3 := HZ4.out; have h4 := hbq.size; omega)
                have HZ5 := Lib.hid (show w3.heap.size < (w4.drewN nq).heap.size from Nat.lt_of_lt_of_le HZ4.out hbq.size)
                clear hbq HX4 HF4 HRW4 HB4 HO4 HR4 HZ4 HDD HW4
                try clear c0 
                try clear cc1 
                try clear cc2 
                try clear cc3 
                try clear c0i 
                try clear c0j
                try clear r0
                try clear r1
                try clear r2
                try clear k5
                try clear hgp
                try clear k6
                generalize w4.drewN nq = W5 at *
                obtain ⟨⟨c0, cc1, cc2, cc3⟩, -⟩ := HX5.out.facts
                go_wp2_with fail
                refine (payloads_any _ c1 FR HRL2.out W5 HRW5.out).mono ?_
                rintro e w6 ⟨v, rfl, ho, hb⟩
                rw [HPF.out] at ho
                obtain ⟨A4, c4, rfl, -, -, hst⟩ := ho.strs HPS.out
                have HST := Lib.hid hst
                have HN4 := Lib.hid (fun h : A4 = none => ho.none h)
                have HX6 := Lib.hid (show SBx w6 w3.heap.size (a' : Int) (.slice _ FR.length c1) (T.size : Int) true from (hb.block _ HZ5.out).trans HX5.out)
                have HF6 := Lib.hid (HF5.out.grw (T := fun _ => False) (grw_below hb) (fun _ _ h => h))
                have HB6 := Lib.hid (HB5.out.trans (hb.mono HB5.out.size))
                have HO6 := Lib.hid (HO5.out.below hb)
                have HR6 := Lib.hid (HR5.out.below hb)
                have HWS6 := Lib.hid (Nat.le_trans HWS5.out hb.size)
                clear ho hst hb HX5 HF5 HRW5 HB5 HO5 HR5 c0 cc1 cc2 cc3
                go_wp2_with (at_builtin; refine wpList_append_row rfl _ _ rfl w2.heap.size u9 (done.map S) rfl HO6.out A4 c4 (gp.map S) (by rw [List.length_map]; rfl) HST.out HN4.out HLN.out HWS6.out ?_)
                intro v' w7 hown hg
                have HO7 := Lib.hid (show OwnS w7 w2.heap.size v' ((done ++ gp).map S) by rw [List.map_append]; exact hown)
                have HB7 := Lib.hid (below_own HB6.out (HO6.out.less HWB.out) hg (Nat.le_refl _))
                have HX7 := Lib.hid (show SBx w7 w3.heap.size (a' : Int) (.slice _ FR.length c1) (T.size : Int) true from (hg.block _ (row_lt HX6.out) (fun e => by have h1 := HAL.out _ e.symm; have h2 := HZ3.out; omega)).trans HX6.out)
                have hf7 := HF6.out.grw (T := fun r => u9.ownBlock = some r) (grw_grown hg (fun r hr => hr)) (fun r hr e => by have h1 := HAL.out r e; omega)
                obtain ⟨A1', c1', he, -, -, hrow7, -⟩ := hf7.row
                cases he
                have HRW7 := Lib.hid hrow7
                have HR7 := Lib.hid (strs_over HR6.out hg.size (fun x hx hp => by
                  injection hx with hx
                  subst hx
                  refine hg.block _ ?_ (fun e => ?_)
                  · have h1 := HBK.out _ _ rfl; have h2 := HWS6.out
                    show b < w6.heap.size
                    omega
                  · have h1 := HBK.out _ _ rfl
                    have h2 : w2.heap.size ≤ b := (HO6.out.lt _ e.symm).2
                    omega))
                have HWS7 := Lib.hid (Nat.le_trans HWS6.out hg.size)
                have HNXT := Lib.hid (Next_any (a' : Int) _ c1 FR (T.size : Int) true w7 hrow7 HRQ.out HRL.out)
                rw [HNR.out] at HNXT
                clear hown hg hf7 hrow7 HO6 HB6 HX6 HF6 HR6 HWS6 HST HN4
                obtain ⟨⟨c0, cc1, cc2, cc3⟩, -⟩ := HX7.out.facts
                go_wp2_with fail
                refine HNXT.out.mono ?_
                rintro e w8 ⟨rfl, hb⟩
                have HB8 := Lib.hid (HB7.out.trans (hb.mono HB7.out.size))
                have HO8 := Lib.hid (HO7.out.below hb)
                have HR8 := Lib.hid (HR7.out.below hb)
                have HWS8 := Lib.hid (Nat.le_trans HWS7.out hb.size)
                clear hb HX7 HRW7 c0 cc1 cc2 cc3
                go_wp2_with fail
                go_roundw
                case rel => exact ⟨0 + 1, a' + gp.length, _, done ++ gp, HLT.out, rfl, rfl, HG4, HNX1, HO8, HR8, HB8, HWS8⟩
                case measure => show OU.length - ((1 : Int)).toNat < OU.length - ((0 : Int)).toNat; have := HLT.out; omega
            · as_aux_lemma =>
                have k0 : decide ((0 : Int) < (0 : Int)) = false := decide_eq_false (by omega)
                rw [Nat.add_zero] at c0
                have hone : FR.length = 1 := by rw [HLEN.out]; exact (HCND.out.resolve_left (by omega))
                have m1 : decide (most < (T.size : Int)) = true := decide_eq_true (by omega)
                have m2 : most < (T.size : Int) := by omega
                have m3 : ((FR.length : Int) != 1) = false := by rw [hone]; rfl
                have m4 : ((FR.length : Int) == 1) = true := by rw [hone]; rfl
                clear hone
                go_wp2_with fail
                refine (HSC1.out wr).mono ?_
                rintro e w3 ⟨A1, c1, rfl, ho, hb3⟩
                obtain ⟨A1', c1', he, -, -, hrow, -⟩ := ho.row
                cases he
                obtain ⟨w4, hw4⟩ : ∃ w4, w3.alloc (.cells #[.int .i64 (a' : Int), .slice A1 FR.length c1, .int .i64 (T.size : Int), .bool true] 46) = w4 := ⟨_, rfl⟩
                have hb4 : Below w3.heap.size w3 w4 := by rw [← hw4]; exact (Below.refl _ _).alloc (Nat.le_refl _) _
                have hb34 := hb3.trans (hb4.mono hb3.size)
                have HX4 := Lib.hid (show SBx w4 w3.heap.size (a' : Int) (.slice A1 FR.length c1) (T.size : Int) true by rw [← hw4]; exact heap_alloc_new w3 _)
                have HZ4 := Lib.hid (show w3.heap.size < w4.heap.size by rw [← hw4]; simp)
                have HF4 := Lib.hid (ho.grw (T := fun _ => False) (grw_below hb4) (fun _ _ h => h))
                have HRW4 := Lib.hid (hrow.below hb4)
                have HB4 := Lib.hid (HB.out.trans (hb34.mono HB.out.size))
                have HO4 := Lib.hid (HO.out.below hb34)
                have HR4 := Lib.hid (HR.out.below hb34)
                have HZ3 := Lib.hid hb3.size
                have HW4 := Lib.hid hw4
                have HAL := Lib.hid (show ∀ r, u9.ownBlock = some r → r < wr.heap.size from fun r hr => (HO.out.lt r hr).1)
                clear hb3 ho hrow hb4 hw4 hb34 c0 HO HR HB
                obtain ⟨⟨d0, dd1, dd2, dd3⟩, -⟩ := HX4.out.facts
                obtain ⟨b2, o2, he2, -, -, d0i⟩ := HR4.out _ HLT.out
                injection he2 with he2
                injection he2 with he2 he3
                subst he2 he3
                rw [HEO.out] at d0i
                rw [Nat.add_zero] at d0i
                have c0 := d0; have cc1 := dd1; have cc2 := dd2; have cc3 := dd3; have c0i := d0i
                have HDD := Lib.hid (And.intro d0 (And.intro dd1 (And.intro dd2 (And.intro dd3 d0i))))
                clear d0 dd1 dd2 dd3 d0i
                rw [← HW4.out] at c0 cc1 cc2 cc3 c0i
                go_wp2_with fail
                rw [HW4.out]
                clear c0 cc1 cc2 cc3 c0i
                obtain ⟨c0, cc1, cc2, cc3, c0i⟩ := HDD.out
                have hfm : Tryz.prog.follows .mixedOrders = true := by kernel_rfl
                go_big_quiet (fail)
                have hbq := below_dn w4.heap.size nq w4
                have HX5 := Lib.hid (show SBx (w4.drewN nq) w3.heap.size (a' : Int) (.slice A1 FR.length c1) (T.size : Int) true from (hbq.block _ HZ4.out).trans HX4.out)
                have HF5 := Lib.hid (HF4.out.grw (T := fun _ => False) (grw_below hbq) (fun _ _ h => h))
                have HRW5 := Lib.hid (HRW4.out.below hbq)
                have HB5 := Lib.hid (HB4.out.trans (hbq.mono HB4.out.size))
                have HO5 := Lib.hid (HO4.out.below hbq)
                have HR5 := Lib.hid (HR4.out.below hbq)
                have HWS5 := Lib.hid (show w2.heap.size ≤ (w4.drewN nq).heap.size by have h1 := HWS.out; have h2 := HZ3.out; have h3 := HZ4.out; have h4 := hbq.size; omega)
                have HZ5 := Lib.hid (show w3.heap.size < (w4.drewN nq).heap.size from Nat.lt_of_lt_of_le HZ4.out hbq.size)
                clear hbq HX4 HF4 HRW4 HB4 HO4 HR4 HZ4 HDD HW4
                try clear c0 
                try clear cc1 
                try clear cc2 
                try clear cc3 
                try clear c0i 
                try clear c0j
                try clear r0
                try clear r1
                try clear r2
                try clear k5
                try clear hgp
                try clear k6
                generalize w4.drewN nq = W5 at *
                obtain ⟨⟨c0, cc1, cc2, cc3⟩, -⟩ := HX5.out.facts
                go_wp2_with fail
                refine (payloads_any _ c1 FR HRL2.out W5 HRW5.out).mono ?_
                rintro e w6 ⟨v, rfl, ho, hb⟩
                rw [HPF.out] at ho
                obtain ⟨A4, c4, rfl, -, -, hst⟩ := ho.strs HPS.out
                have HST := Lib.hid hst
                have HN4 := Lib.hid (fun h : A4 = none => ho.none h)
                have HX6 := Lib.hid (show SBx w6 w3.heap.size (a' : Int) (.slice _ FR.length c1) (T.size : Int) true from (hb.block _ HZ5.out).trans HX5.out)
                have HF6 := Lib.hid (HF5.out.grw (T := fun _ => False) (grw_below hb) (fun _ _ h => h))
                have HB6 := Lib.hid (HB5.out.trans (hb.mono HB5.out.size))
                have HO6 := Lib.hid (HO5.out.below hb)
                have HR6 := Lib.hid (HR5.out.below hb)
                have HWS6 := Lib.hid (Nat.le_trans HWS5.out hb.size)
                clear ho hst hb HX5 HF5 HRW5 HB5 HO5 HR5 c0 cc1 cc2 cc3
                go_wp2_with (at_builtin; refine wpList_append_row rfl _ _ rfl w2.heap.size u9 (done.map S) rfl HO6.out A4 c4 (gp.map S) (by rw [List.length_map]; rfl) HST.out HN4.out HLN.out HWS6.out ?_)
                intro v' w7 hown hg
                have HO7 := Lib.hid (show OwnS w7 w2.heap.size v' ((done ++ gp).map S) by rw [List.map_append]; exact hown)
                have HB7 := Lib.hid (below_own HB6.out (HO6.out.less HWB.out) hg (Nat.le_refl _))
                have HX7 := Lib.hid (show SBx w7 w3.heap.size (a' : Int) (.slice _ FR.length c1) (T.size : Int) true from (hg.block _ (row_lt HX6.out) (fun e => by have h1 := HAL.out _ e.symm; have h2 := HZ3.out; omega)).trans HX6.out)
                have hf7 := HF6.out.grw (T := fun r => u9.ownBlock = some r) (grw_grown hg (fun r hr => hr)) (fun r hr e => by have h1 := HAL.out r e; omega)
                obtain ⟨A1', c1', he, -, -, hrow7, -⟩ := hf7.row
                cases he
                have HRW7 := Lib.hid hrow7
                have HR7 := Lib.hid (strs_over HR6.out hg.size (fun x hx hp => by
                  injection hx with hx
                  subst hx
                  refine hg.block _ ?_ (fun e => ?_)
                  · have h1 := HBK.out _ _ rfl; have h2 := HWS6.out
                    show b < w6.heap.size
                    omega
                  · have h1 := HBK.out _ _ rfl
                    have h2 : w2.heap.size ≤ b := (HO6.out.lt _ e.symm).2
                    omega))
                have HWS7 := Lib.hid (Nat.le_trans HWS6.out hg.size)
                have HNXT := Lib.hid (Next_any (a' : Int) _ c1 FR (T.size : Int) true w7 hrow7 HRQ.out HRL.out)
                rw [HNR.out] at HNXT
                clear hown hg hf7 hrow7 HO6 HB6 HX6 HF6 HR6 HWS6 HST HN4
                obtain ⟨⟨c0, cc1, cc2, cc3⟩, -⟩ := HX7.out.facts
                go_wp2_with fail
                refine HNXT.out.mono ?_
                rintro e w8 ⟨rfl, hb⟩
                have HB8 := Lib.hid (HB7.out.trans (hb.mono HB7.out.size))
                have HO8 := Lib.hid (HO7.out.below hb)
                have HR8 := Lib.hid (HR7.out.below hb)
                have HWS8 := Lib.hid (Nat.le_trans HWS7.out hb.size)
                clear hb HX7 HRW7 c0 cc1 cc2 cc3
                go_wp2_with fail
                go_roundw
                case rel => exact ⟨0 + 1, a' + gp.length, _, done ++ gp, HLT.out, rfl, rfl, HG4, HNX1, HO8, HR8, HB8, HWS8⟩
                case measure => show OU.length - ((1 : Int)).toNat < OU.length - ((0 : Int)).toNat; have := HLT.out; omega
          · by_cases hms : (T.size : Int) ≤ most
            · as_aux_lemma =>
                obtain ⟨j, rfl⟩ : ∃ j, i = j + 1 := ⟨i - 1, by omega⟩
                obtain ⟨hj, rfl⟩ := HPV.out j rfl
                obtain ⟨p0, t0, hgp, hfit⟩ := HG3.out _ rfl
                have k0 : decide ((0 : Int) < (j : Int) + 1) = true := decide_eq_true (by omega)
                have k1 : (0 : Int) < (j : Int) + 1 := by omega
                have k7 : (0 : Int) ≤ (j : Int) := by omega
                have k8 : (j : Int) < (OU.length : Int) := by omega
                have k9 : (0 : Int) ≤ (j : Int) + 1 := by omega
                have k10 : (j : Int) + 1 < (OU.length : Int) := by omega
                have hne : FR.length ≠ 0 := by rw [HLEN.out, hgp]; simp
                have k2 : ((FR.length : Int) == 0) = false := beq_eq_false_iff_ne.2 (by omega)
                have k3 : (0 : Int) < (FR.length : Int) := by omega
                have k4 : ¬ (FR.length : Int) = 0 := by omega
                have HI2 : Hid (wrap64 ((j : Int) + 1 + 1) = (j : Int) + 1 + 1) := Lib.hid (IntWalk.wrap64_in _ ⟨by omega, by have := HSZ.out.2; omega⟩)
                have HK5 : Hid (wrap64 ((j : Int) + 1 - 1) = (j : Int) ∧ wrap64 (j : Int) = (j : Int)) := Lib.hid ⟨by rw [IntWalk.wrap64_in _ ⟨by omega, by have := HSZ.out.2; omega⟩]; omega, IntWalk.wrap64_in _ ⟨by omega, by have := HSZ.out.2; omega⟩⟩
                have hwf : (Lit.int .i64 ((OU[j]'hj).size : Int)).wf = true := by
                  have := HSZ.out.1 _ (List.getElem_mem hj)
                  unfold maxLen at this
                  simp [Lit.wf, IntKind.min, IntKind.max, IntKind.bits, IntKind.signed]; omega
                have HFT : Hid (∀ W, Calls Tryz.prog 20 #[.int .i64 ((OU[j]'hj).size : Int), .int .i64 ((S p0).size : Int), .int .i64 most] W fun e w' => e = .returned (.bool false) ∧ w' = W) := Lib.hid (fun W => by
                  have h := Fits_any ((OU[j]'hj).size : Int) ((S p0).size : Int) most hwf HWF2.out W
                  have e : fitsB ((OU[j]'hj).size : Int) ((S p0).size : Int) most = false := by rw [S_size]; exact hfit
                  rw [e] at h; exact h.mono fun e w' ⟨h1, h2⟩ => ⟨h1, h2.symm⟩)
                clear hfit hwf
                have m1 : decide (most < (T.size : Int)) = false := decide_eq_false (by omega)
                have m2 : ¬ most < (T.size : Int) := by omega
                go_wp2_with fail
                refine (HSC1.out wr).mono ?_
                rintro e w3 ⟨A1, c1, rfl, ho, hb3⟩
                obtain ⟨A1', c1', he, -, -, hrow, -⟩ := ho.row
                cases he
                obtain ⟨w4, hw4⟩ : ∃ w4, w3.alloc (.cells #[.int .i64 (a' : Int), .slice A1 FR.length c1, .int .i64 (T.size : Int), .bool true] 46) = w4 := ⟨_, rfl⟩
                have hb4 : Below w3.heap.size w3 w4 := by rw [← hw4]; exact (Below.refl _ _).alloc (Nat.le_refl _) _
                have hb34 := hb3.trans (hb4.mono hb3.size)
                have HX4 := Lib.hid (show SBx w4 w3.heap.size (a' : Int) (.slice A1 FR.length c1) (T.size : Int) true by rw [← hw4]; exact heap_alloc_new w3 _)
                have HZ4 := Lib.hid (show w3.heap.size < w4.heap.size by rw [← hw4]; simp)
                have HF4 := Lib.hid (ho.grw (T := fun _ => False) (grw_below hb4) (fun _ _ h => h))
                have HRW4 := Lib.hid (hrow.below hb4)
                have HB4 := Lib.hid (HB.out.trans (hb34.mono HB.out.size))
                have HO4 := Lib.hid (HO.out.below hb34)
                have HR4 := Lib.hid (HR.out.below hb34)
                have HZ3 := Lib.hid hb3.size
                have HW4 := Lib.hid hw4
                have HAL := Lib.hid (show ∀ r, u9.ownBlock = some r → r < wr.heap.size from fun r hr => (HO.out.lt r hr).1)
                clear hb3 ho hrow hb4 hw4 hb34 c0 HO HR HB
                obtain ⟨⟨d0, dd1, dd2, dd3⟩, -⟩ := HX4.out.facts
                obtain ⟨b2, o2, he2, -, -, d0i⟩ := HR4.out _ HLT.out
                injection he2 with he2
                injection he2 with he2 he3
                subst he2 he3
                rw [HEO.out] at d0i
                have c0 := d0; have cc1 := dd1; have cc2 := dd2; have cc3 := dd3; have c0i := d0i
                have HDD := Lib.hid (And.intro d0 (And.intro dd1 (And.intro dd2 (And.intro dd3 d0i))))
                clear d0 dd1 dd2 dd3 d0i
                rw [← HW4.out] at c0 cc1 cc2 cc3 c0i
                go_wp2_with fail
                rw [HW4.out]
                clear c0 cc1 cc2 cc3 c0i
                obtain ⟨c0, cc1, cc2, cc3, c0i⟩ := HDD.out
                obtain ⟨b3, o3, he2, -, -, c0j⟩ := HR4.out j hj
                injection he2 with he2
                injection he2 with he2 he3
                subst he2 he3
                obtain ⟨b1, o1, rfl, -, r0, r1, r2⟩ := HRW4.out 0 (by omega)
                have hp1 : (FR[0]'(by omega)).p = p0 := HF0.out p0 t0 hgp (by omega)
                rw [hp1] at r1
                obtain ⟨k5, k6⟩ := HK5.out
                have hfm : Tryz.prog.follows .mixedOrders = true := by kernel_rfl
                go_big_quiet ((go_at_call 20; exact Calls.quiet_of_same (HFT.out _)))
                have hbq := below_dn w4.heap.size nq w4
                have HX5 := Lib.hid (show SBx (w4.drewN nq) w3.heap.size (a' : Int) (.slice (some ⟨b1, o1, none⟩) FR.length c1) (T.size : Int) true from (hbq.block _ HZ4.out).trans HX4.out)
                have HF5 := Lib.hid (HF4.out.grw (T := fun _ => False) (grw_below hbq) (fun _ _ h => h))
                have HRW5 := Lib.hid (HRW4.out.below hbq)
                have HB5 := Lib.hid (HB4.out.trans (hbq.mono HB4.out.size))
                have HO5 := Lib.hid (HO4.out.below hbq)
                have HR5 := Lib.hid (HR4.out.below hbq)
                have HWS5 := Lib.hid (show w2.heap.size ≤ (w4.drewN nq).heap.size by have h1 := HWS.out; have h2 := HZ3.out; have h3 := HZ4.out; have h4 := hbq.size; omega)
                have HZ5 := Lib.hid (show w3.heap.size < (w4.drewN nq).heap.size from Nat.lt_of_lt_of_le HZ4.out hbq.size)
                clear hbq HX4 HF4 HRW4 HB4 HO4 HR4 HZ4 HDD HW4
                try clear c0 
                try clear cc1 
                try clear cc2 
                try clear cc3 
                try clear c0i 
                try clear c0j
                try clear r0
                try clear r1
                try clear r2
                try clear k5
                try clear hgp
                try clear k6
                generalize w4.drewN nq = W5 at *
                obtain ⟨⟨c0, cc1, cc2, cc3⟩, -⟩ := HX5.out.facts
                go_wp2_with fail
                refine (payloads_any _ c1 FR HRL2.out W5 HRW5.out).mono ?_
                rintro e w6 ⟨v, rfl, ho, hb⟩
                rw [HPF.out] at ho
                obtain ⟨A4, c4, rfl, -, -, hst⟩ := ho.strs HPS.out
                have HST := Lib.hid hst
                have HN4 := Lib.hid (fun h : A4 = none => ho.none h)
                have HX6 := Lib.hid (show SBx w6 w3.heap.size (a' : Int) (.slice _ FR.length c1) (T.size : Int) true from (hb.block _ HZ5.out).trans HX5.out)
                have HF6 := Lib.hid (HF5.out.grw (T := fun _ => False) (grw_below hb) (fun _ _ h => h))
                have HB6 := Lib.hid (HB5.out.trans (hb.mono HB5.out.size))
                have HO6 := Lib.hid (HO5.out.below hb)
                have HR6 := Lib.hid (HR5.out.below hb)
                have HWS6 := Lib.hid (Nat.le_trans HWS5.out hb.size)
                clear ho hst hb HX5 HF5 HRW5 HB5 HO5 HR5 c0 cc1 cc2 cc3
                go_wp2_with (at_builtin; refine wpList_append_row rfl _ _ rfl w2.heap.size u9 (done.map S) rfl HO6.out A4 c4 (gp.map S) (by rw [List.length_map]; rfl) HST.out HN4.out HLN.out HWS6.out ?_)
                intro v' w7 hown hg
                have HO7 := Lib.hid (show OwnS w7 w2.heap.size v' ((done ++ gp).map S) by rw [List.map_append]; exact hown)
                have HB7 := Lib.hid (below_own HB6.out (HO6.out.less HWB.out) hg (Nat.le_refl _))
                have HX7 := Lib.hid (show SBx w7 w3.heap.size (a' : Int) (.slice _ FR.length c1) (T.size : Int) true from (hg.block _ (row_lt HX6.out) (fun e => by have h1 := HAL.out _ e.symm; have h2 := HZ3.out; omega)).trans HX6.out)
                have hf7 := HF6.out.grw (T := fun r => u9.ownBlock = some r) (grw_grown hg (fun r hr => hr)) (fun r hr e => by have h1 := HAL.out r e; omega)
                obtain ⟨A1', c1', he, -, -, hrow7, -⟩ := hf7.row
                cases he
                have HRW7 := Lib.hid hrow7
                have HR7 := Lib.hid (strs_over HR6.out hg.size (fun x hx hp => by
                  injection hx with hx
                  subst hx
                  refine hg.block _ ?_ (fun e => ?_)
                  · have h1 := HBK.out _ _ rfl; have h2 := HWS6.out
                    show b < w6.heap.size
                    omega
                  · have h1 := HBK.out _ _ rfl
                    have h2 : w2.heap.size ≤ b := (HO6.out.lt _ e.symm).2
                    omega))
                have HWS7 := Lib.hid (Nat.le_trans HWS6.out hg.size)
                have HNXT := Lib.hid (Next_any (a' : Int) _ c1 FR (T.size : Int) true w7 hrow7 HRQ.out HRL.out)
                rw [HNR.out] at HNXT
                clear hown hg hf7 hrow7 HO6 HB6 HX6 HF6 HR6 HWS6 HST HN4
                obtain ⟨⟨c0, cc1, cc2, cc3⟩, -⟩ := HX7.out.facts
                go_wp2_with fail
                refine HNXT.out.mono ?_
                rintro e w8 ⟨rfl, hb⟩
                have HB8 := Lib.hid (HB7.out.trans (hb.mono HB7.out.size))
                have HO8 := Lib.hid (HO7.out.below hb)
                have HR8 := Lib.hid (HR7.out.below hb)
                have HWS8 := Lib.hid (Nat.le_trans HWS7.out hb.size)
                clear hb HX7 HRW7 c0 cc1 cc2 cc3
                go_wp2_with fail
                go_roundw
                case rel => exact ⟨j + 1 + 1, a' + gp.length, _, done ++ gp, HLT.out, by rw [HI2.out]; rfl, rfl, HG4, HNX1, HO8, HR8, HB8, HWS8⟩
                case measure => rw [HI2.out]; show OU.length - ((j : Int) + 1 + 1).toNat < OU.length - ((j + 1 : Nat) : Int).toNat; have := HLT.out; omega
            · as_aux_lemma =>
                obtain ⟨j, rfl⟩ : ∃ j, i = j + 1 := ⟨i - 1, by omega⟩
                obtain ⟨hj, rfl⟩ := HPV.out j rfl
                obtain ⟨p0, t0, hgp, hfit⟩ := HG3.out _ rfl
                have k0 : decide ((0 : Int) < (j : Int) + 1) = true := decide_eq_true (by omega)
                have k1 : (0 : Int) < (j : Int) + 1 := by omega
                have k7 : (0 : Int) ≤ (j : Int) := by omega
                have k8 : (j : Int) < (OU.length : Int) := by omega
                have k9 : (0 : Int) ≤ (j : Int) + 1 := by omega
                have k10 : (j : Int) + 1 < (OU.length : Int) := by omega
                have hne : FR.length ≠ 0 := by rw [HLEN.out, hgp]; simp
                have k2 : ((FR.length : Int) == 0) = false := beq_eq_false_iff_ne.2 (by omega)
                have k3 : (0 : Int) < (FR.length : Int) := by omega
                have k4 : ¬ (FR.length : Int) = 0 := by omega
                have HI2 : Hid (wrap64 ((j : Int) + 1 + 1) = (j : Int) + 1 + 1) := Lib.hid (IntWalk.wrap64_in _ ⟨by omega, by have := HSZ.out.2; omega⟩)
                have HK5 : Hid (wrap64 ((j : Int) + 1 - 1) = (j : Int) ∧ wrap64 (j : Int) = (j : Int)) := Lib.hid ⟨by rw [IntWalk.wrap64_in _ ⟨by omega, by have := HSZ.out.2; omega⟩]; omega, IntWalk.wrap64_in _ ⟨by omega, by have := HSZ.out.2; omega⟩⟩
                have hwf : (Lit.int .i64 ((OU[j]'hj).size : Int)).wf = true := by
                  have := HSZ.out.1 _ (List.getElem_mem hj)
                  unfold maxLen at this
                  simp [Lit.wf, IntKind.min, IntKind.max, IntKind.bits, IntKind.signed]; omega
                have HFT : Hid (∀ W, Calls Tryz.prog 20 #[.int .i64 ((OU[j]'hj).size : Int), .int .i64 ((S p0).size : Int), .int .i64 most] W fun e w' => e = .returned (.bool false) ∧ w' = W) := Lib.hid (fun W => by
                  have h := Fits_any ((OU[j]'hj).size : Int) ((S p0).size : Int) most hwf HWF2.out W
                  have e : fitsB ((OU[j]'hj).size : Int) ((S p0).size : Int) most = false := by rw [S_size]; exact hfit
                  rw [e] at h; exact h.mono fun e w' ⟨h1, h2⟩ => ⟨h1, h2.symm⟩)
                clear hfit hwf
                have hone : FR.length = 1 := by rw [HLEN.out]; exact (HCND.out.resolve_left (by omega))
                have m1 : decide (most < (T.size : Int)) = true := decide_eq_true (by omega)
                have m2 : most < (T.size : Int) := by omega
                have m3 : ((FR.length : Int) != 1) = false := by rw [hone]; rfl
                have m4 : ((FR.length : Int) == 1) = true := by rw [hone]; rfl
                clear hone
                go_wp2_with fail
                refine (HSC1.out wr).mono ?_
                rintro e w3 ⟨A1, c1, rfl, ho, hb3⟩
                obtain ⟨A1', c1', he, -, -, hrow, -⟩ := ho.row
                cases he
                obtain ⟨w4, hw4⟩ : ∃ w4, w3.alloc (.cells #[.int .i64 (a' : Int), .slice A1 FR.length c1, .int .i64 (T.size : Int), .bool true] 46) = w4 := ⟨_, rfl⟩
                have hb4 : Below w3.heap.size w3 w4 := by rw [← hw4]; exact (Below.refl _ _).alloc (Nat.le_refl _) _
                have hb34 := hb3.trans (hb4.mono hb3.size)
                have HX4 := Lib.hid (show SBx w4 w3.heap.size (a' : Int) (.slice A1 FR.length c1) (T.size : Int) true by rw [← hw4]; exact heap_alloc_new w3 _)
                have HZ4 := Lib.hid (show w3.heap.size < w4.heap.size by rw [← hw4]; simp)
                have HF4 := Lib.hid (ho.grw (T := fun _ => False) (grw_below hb4) (fun _ _ h => h))
                have HRW4 := Lib.hid (hrow.below hb4)
                have HB4 := Lib.hid (HB.out.trans (hb34.mono HB.out.size))
                have HO4 := Lib.hid (HO.out.below hb34)
                have HR4 := Lib.hid (HR.out.below hb34)
                have HZ3 := Lib.hid hb3.size
                have HW4 := Lib.hid hw4
                have HAL := Lib.hid (show ∀ r, u9.ownBlock = some r → r < wr.heap.size from fun r hr => (HO.out.lt r hr).1)
                clear hb3 ho hrow hb4 hw4 hb34 c0 HO HR HB
                obtain ⟨⟨d0, dd1, dd2, dd3⟩, -⟩ := HX4.out.facts
                obtain ⟨b2, o2, he2, -, -, d0i⟩ := HR4.out _ HLT.out
                injection he2 with he2
                injection he2 with he2 he3
                subst he2 he3
                rw [HEO.out] at d0i
                have c0 := d0; have cc1 := dd1; have cc2 := dd2; have cc3 := dd3; have c0i := d0i
                have HDD := Lib.hid (And.intro d0 (And.intro dd1 (And.intro dd2 (And.intro dd3 d0i))))
                clear d0 dd1 dd2 dd3 d0i
                rw [← HW4.out] at c0 cc1 cc2 cc3 c0i
                go_wp2_with fail
                rw [HW4.out]
                clear c0 cc1 cc2 cc3 c0i
                obtain ⟨c0, cc1, cc2, cc3, c0i⟩ := HDD.out
                obtain ⟨b3, o3, he2, -, -, c0j⟩ := HR4.out j hj
                injection he2 with he2
                injection he2 with he2 he3
                subst he2 he3
                obtain ⟨b1, o1, rfl, -, r0, r1, r2⟩ := HRW4.out 0 (by omega)
                have hp1 : (FR[0]'(by omega)).p = p0 := HF0.out p0 t0 hgp (by omega)
                rw [hp1] at r1
                obtain ⟨k5, k6⟩ := HK5.out
                have hfm : Tryz.prog.follows .mixedOrders = true := by kernel_rfl
                go_big_quiet ((go_at_call 20; exact Calls.quiet_of_same (HFT.out _)))
                have hbq := below_dn w4.heap.size nq w4
                have HX5 := Lib.hid (show SBx (w4.drewN nq) w3.heap.size (a' : Int) (.slice (some ⟨b1, o1, none⟩) FR.length c1) (T.size : Int) true from (hbq.block _ HZ4.out).trans HX4.out)
                have HF5 := Lib.hid (HF4.out.grw (T := fun _ => False) (grw_below hbq) (fun _ _ h => h))
                have HRW5 := Lib.hid (HRW4.out.below hbq)
                have HB5 := Lib.hid (HB4.out.trans (hbq.mono HB4.out.size))
                have HO5 := Lib.hid (HO4.out.below hbq)
                have HR5 := Lib.hid (HR4.out.below hbq)
                have HWS5 := Lib.hid (show w2.heap.size ≤ (w4.drewN nq).heap.size by have h1 := HWS.out; have h2 := HZ3.out; have h3 := HZ4.out; have h4 := hbq.size; omega)
                have HZ5 := Lib.hid (show w3.heap.size < (w4.drewN nq).heap.size from Nat.lt_of_lt_of_le HZ4.out hbq.size)
                clear hbq HX4 HF4 HRW4 HB4 HO4 HR4 HZ4 HDD HW4
                try clear c0 
                try clear cc1 
                try clear cc2 
                try clear cc3 
                try clear c0i 
                try clear c0j
                try clear r0
                try clear r1
                try clear r2
                try clear k5
                try clear hgp
                try clear k6
                generalize w4.drewN nq = W5 at *
                obtain ⟨⟨c0, cc1, cc2, cc3⟩, -⟩ := HX5.out.facts
                go_wp2_with fail
                refine (payloads_any _ c1 FR HRL2.out W5 HRW5.out).mono ?_
                rintro e w6 ⟨v, rfl, ho, hb⟩
                rw [HPF.out] at ho
                obtain ⟨A4, c4, rfl, -, -, hst⟩ := ho.strs HPS.out
                have HST := Lib.hid hst
                have HN4 := Lib.hid (fun h : A4 = none => ho.none h)
                have HX6 := Lib.hid (show SBx w6 w3.heap.size (a' : Int) (.slice _ FR.length c1) (T.size : Int) true from (hb.block _ HZ5.out).trans HX5.out)
                have HF6 := Lib.hid (HF5.out.grw (T := fun _ => False) (grw_below hb) (fun _ _ h => h))
                have HB6 := Lib.hid (HB5.out.trans (hb.mono HB5.out.size))
                have HO6 := Lib.hid (HO5.out.below hb)
                have HR6 := Lib.hid (HR5.out.below hb)
                have HWS6 := Lib.hid (Nat.le_trans HWS5.out hb.size)
                clear ho hst hb HX5 HF5 HRW5 HB5 HO5 HR5 c0 cc1 cc2 cc3
                go_wp2_with (at_builtin; refine wpList_append_row rfl _ _ rfl w2.heap.size u9 (done.map S) rfl HO6.out A4 c4 (gp.map S) (by rw [List.length_map]; rfl) HST.out HN4.out HLN.out HWS6.out ?_)
                intro v' w7 hown hg
                have HO7 := Lib.hid (show OwnS w7 w2.heap.size v' ((done ++ gp).map S) by rw [List.map_append]; exact hown)
                have HB7 := Lib.hid (below_own HB6.out (HO6.out.less HWB.out) hg (Nat.le_refl _))
                have HX7 := Lib.hid (show SBx w7 w3.heap.size (a' : Int) (.slice _ FR.length c1) (T.size : Int) true from (hg.block _ (row_lt HX6.out) (fun e => by have h1 := HAL.out _ e.symm; have h2 := HZ3.out; omega)).trans HX6.out)
                have hf7 := HF6.out.grw (T := fun r => u9.ownBlock = some r) (grw_grown hg (fun r hr => hr)) (fun r hr e => by have h1 := HAL.out r e; omega)
                obtain ⟨A1', c1', he, -, -, hrow7, -⟩ := hf7.row
                cases he
                have HRW7 := Lib.hid hrow7
                have HR7 := Lib.hid (strs_over HR6.out hg.size (fun x hx hp => by
                  injection hx with hx
                  subst hx
                  refine hg.block _ ?_ (fun e => ?_)
                  · have h1 := HBK.out _ _ rfl; have h2 := HWS6.out
                    show b < w6.heap.size
                    omega
                  · have h1 := HBK.out _ _ rfl
                    have h2 : w2.heap.size ≤ b := (HO6.out.lt _ e.symm).2
                    omega))
                have HWS7 := Lib.hid (Nat.le_trans HWS6.out hg.size)
                have HNXT := Lib.hid (Next_any (a' : Int) _ c1 FR (T.size : Int) true w7 hrow7 HRQ.out HRL.out)
                rw [HNR.out] at HNXT
                clear hown hg hf7 hrow7 HO6 HB6 HX6 HF6 HR6 HWS6 HST HN4
                obtain ⟨⟨c0, cc1, cc2, cc3⟩, -⟩ := HX7.out.facts
                go_wp2_with fail
                refine HNXT.out.mono ?_
                rintro e w8 ⟨rfl, hb⟩
                have HB8 := Lib.hid (HB7.out.trans (hb.mono HB7.out.size))
                have HO8 := Lib.hid (HO7.out.below hb)
                have HR8 := Lib.hid (HR7.out.below hb)
                have HWS8 := Lib.hid (Nat.le_trans HWS7.out hb.size)
                clear hb HX7 HRW7 c0 cc1 cc2 cc3
                go_wp2_with fail
                go_roundw
                case rel => exact ⟨j + 1 + 1, a' + gp.length, _, done ++ gp, HLT.out, by rw [HI2.out]; rfl, rfl, HG4, HNX1, HO8, HR8, HB8, HWS8⟩
                case measure => rw [HI2.out]; show OU.length - ((j : Int) + 1 + 1).toNat < OU.length - ((j + 1 : Nat) : Int).toNat; have := HLT.out; omega
        · obtain rfl : i = (outs most a xs).length := by omega
          have hS := HSW.out
          rw [outs_len] at hS
          obtain ⟨d1, d2⟩ := spw_last hS
          have d3 : done.map S = xs := by
            rw [d1]; unfold bytesP; rw [List.map_map]
            conv => rhs; rw [← List.map_id xs]
            rfl
          rw [d3] at HO
          obtain ⟨A3, c3, rfl, -, -, -⟩ := HO.out.strs (fun y hy => by
            obtain ⟨j, hj, rfl⟩ := List.mem_iff_getElem.1 hy
            obtain ⟨_, _, _, _, hs, _⟩ := HX.out j hj
            exact hs)
          have z2 : decide (((outs most a xs).length : Int) < ((outs most a xs).length : Int)) = false := decide_eq_false (by omega)
          have hq1 : wrap64 ((a : Int) + (xs.length : Int)) = (a' : Int) := by
            have := HOK.out.1
            rw [bytesP_len] at this
            rw [IntWalk.wrap64_in _ ⟨by omega, by omega⟩]; omega
          have hq2 : IntKind.i64.wrap ((a : Int) + (xs.length : Int)) = (a' : Int) := by
            have := HOK.out.1
            rw [bytesP_len] at this
            rw [IntWalk.i64_in _ ⟨by omega, by omega⟩]; omega
          have HQ1 := Lib.hid hq1
          have HQ2 := Lib.hid hq2
          clear hq1 hq2
          have HTX := Lib.hid (texts_any w2.heap.size A3 A0 c3 cap xs (by have := HL.out; omega) wr HO.out (HX.out.below HB.out) (fun x y h1 h2 hp => by
            have q1 := (HO.out.lt x.block (by rw [h1]; rfl)).2
            obtain ⟨b2, o2, e3, h3, _⟩ := HX.out 0 hp
            have e4 : y = ⟨b2, o2, none⟩ := Option.some.inj (h2.symm.trans e3)
            rw [e4]
            show x.block ≠ b2
            have := HWB.out
            omega))
          have HAG := Lib.hid (show ∀ r, (Value.slice A3 xs.length c3).ownBlock = some r → w.heap.size ≤ r from fun r hr => by have := (HO.out.lt r hr).2; have := HWB.out; omega)
          clear hS d1 d2 d3 hi hlt HO HR HSW HPV
          have hq1 := HQ1.out
          have hq2 := HQ2.out
          go_wp2_with fail
          refine HTX.out.mono ?_
          rintro e w7 ⟨rfl, hg⟩
          have HB7 := Lib.hid (hg.below HB.out (Nat.le_refl _) HAG.out)
          clear hg
          go_wp2_with fail
          go_ret
          exact ⟨rfl, HB7.out⟩
    · have hS : spS q xs most = [] := if_neg h0
      obtain ⟨q1, q2, q3, q4, q5⟩ := nat_ne h0
      rw [hS] at HSP
      clear hx hl hc w2 E hm hl2 hS h0
      generalize spE q (bytesP xs) most = x at *
      go_enter Tryz.func9, Tryz.ntmps9
      go_wp2_with fail
      refine HMY.out.mono ?_
      rintro e w1 ⟨rfl, rfl⟩
      go_wp2_with fail
      refine (HAW.out w HE.out).mono ?_
      rintro e w1 ⟨rfl, hb⟩
      have HB1 := Lib.hid hb
      clear hb
      go_wp2_with fail
      refine (HSP.out w1 (HX.out.below HB1.out)).mono ?_
      rintro e w2 ⟨v, rfl, ho, hb⟩
      obtain ⟨B, cb, rfl, -, -, hst⟩ := ho.strs (fun y hy => by simp at hy)
      have HB2 := Lib.hid (HB1.out.trans (hb.mono HB1.out.size))
      clear ho hb hst
      go_wp2_with fail
      go_ret
      exact ⟨rfl, HB2.out⟩
  · rw [show decide (20000 < sumM xs) = true from decide_eq_true (by omega)] at HMY
    clear hm hx hl hc E
    go_enter Tryz.func9, Tryz.ntmps9
    go_wp2_with fail
    refine HMY.out.mono ?_
    rintro e w1 ⟨rfl, rfl⟩
    go_wp2_with fail
    refine (HAW.out w HE.out).mono ?_
    rintro e w1 ⟨rfl, hb⟩
    go_wp2_with fail
    go_ret
    exact ⟨rfl, hb⟩
end Go.Proofs.YtkccdffccjgajaaGreatDoor.Seg
