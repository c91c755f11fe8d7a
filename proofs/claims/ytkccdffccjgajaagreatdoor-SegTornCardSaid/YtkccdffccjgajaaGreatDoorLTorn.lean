import Derived.Test.YtkccdffccjgajaaGreatDoorTM
import Derived.BigQuiet
import Derived.Deep.QuietTactic
/-
  The walk of the statement SegTorn.
-/
namespace Go.Proofs.YtkccdffccjgajaaGreatDoor.Seg
open Go Go.RowKit
open Go.Proofs.YtkccdffccjgajaaGreatDoor.Wire (S S_list S_size S_append cell_row frozen_row row_lt heap_set heap_far U)
open Go.Proofs.YtkccdffccjgajaaGreatDoor.Frame Go.Proofs.YtkccdffccjgajaaGreatDoor.Ranges

set_option maxRecDepth 100000 in
set_option maxHeartbeats 4000000 in
theorem torn_law (q : Int) (A : Option Addr) (cap : Nat) (xs : List ByteArray) (cut : Int) (A2 : Option Addr) (cap2 : Nat) (ys : List ByteArray) (w : World) (_w0 : (Lit.int .i64 q).wf = true) (hx : Strs w A xs) (hl : xs.length ≤ cap) (hc : cap ≤ maxLen) (hnil : A = none → cap = 0) (_w2 : (Lit.int .i64 cut).wf = true) (hy : Strs w A2 ys) (hl2 : ys.length ≤ cap2) (hc2 : cap2 ≤ maxLen) (E : Env w) :
    Calls Tryz.prog 8 #[.int .i64 q, .slice A xs.length cap, .int .i64 cut, .slice A2 ys.length cap2] w fun e w' => e = .returned (.bool true) ∧ Below w.heap.size w w' := by
  have HAW := Lib.hid (fun W EW => awake_any W EW)
  have HE := Lib.hid E
  have HX := Lib.hid hx
  have HY := Lib.hid hy
  have HMA := Lib.hid (many_any A cap xs (by omega) w hx)
  have HMB := Lib.hid (many_any A2 cap2 ys (by omega) w hy)
  have HCAP := Lib.hid (And.intro hl (And.intro hnil hc))
  clear E hx hy hc hc2 hl hl2 hnil
  by_cases hm1 : 20000 < sumM xs
  · as_aux_lemma =>
      rw [decide_eq_true hm1] at HMA
      clear hm1
      go_enter Tryz.func8, Tryz.ntmps8
      go_wp2_with fail
      refine HMA.out.mono ?_
      rintro e w1 ⟨rfl, rfl⟩
      go_wp2_with fail
      refine (HAW.out w HE.out).mono ?_
      rintro e w1 ⟨rfl, hb⟩
      go_wp2_with fail
      go_ret
      exact ⟨rfl, hb⟩
  rw [decide_eq_false hm1] at HMA
  by_cases hm2 : 20000 < sumM ys
  · as_aux_lemma =>
      rw [decide_eq_true hm2] at HMB
      clear hm1 hm2
      go_enter Tryz.func8, Tryz.ntmps8
      go_wp2_with fail
      refine HMA.out.mono ?_
      rintro e w1 ⟨rfl, rfl⟩
      go_wp2_with fail
      refine HMB.out.mono ?_
      rintro e w1 ⟨rfl, rfl⟩
      go_wp2_with fail
      refine (HAW.out w HE.out).mono ?_
      rintro e w1 ⟨rfl, hb⟩
      go_wp2_with fail
      go_ret
      exact ⟨rfl, hb⟩
  rw [decide_eq_false hm2] at HMB
  have HS1 := Lib.hid (sumM_small xs (by omega)).1
  have HS2 := Lib.hid (sumM_small ys (by omega)).1
  have HRB := Lib.hid (RB_sum ys (by omega))
  have HXB := Lib.hid (fun W (hb : Below w.heap.size w W) => Join_any q A cap xs (by have := HS1.out; omega) W (HX.out.below hb))
  clear hm1 hm2
  by_cases hj : joE q (bytesP xs) = 0
  · as_aux_lemma =>
      obtain ⟨hw, hn⟩ := joE_zero hj
      obtain ⟨hq, hok⟩ := wrE_zero hw
      obtain ⟨a, rfl⟩ : ∃ a : Nat, q = (a : Int) := ⟨q.toNat, by have := hq.1; omega⟩
      rw [Int.toNat_natCast] at hok
      have HV := Lib.hid (show joV (a : Int) xs = .returned (.tuple #[.string (S (segB a (bytesP xs))), .int .i64 0]) by unfold joV joB; rw [hj, if_pos rfl, Int.toNat_natCast]; rfl)
      rw [← EN_all] at hn
      have hz16 : 16 ≤ EN xs xs.length := by unfold EN; omega
      obtain ⟨m, hm, hrem⟩ := rem_ok cut (EN xs xs.length - 16 + 1) (by omega) (by omega)
      obtain ⟨n, hn0⟩ : ∃ n, n = 16 + m := ⟨_, rfl⟩
      obtain ⟨R, hR⟩ : ∃ R, R = EN xs xs.length - 16 := ⟨_, rfl⟩
      rw [← hR] at hrem hm
      obtain ⟨j, hj1, hj2, hj3, e1, e2, e3, e4, e5⟩ := cut_facts a xs hok n (by omega) (by omega)
      have HSC1 := Lib.hid (fun W => SScan_any (S ((segB a (bytesP xs)).take n)) (by rw [S_size, List.length_take, segB_length, ← EN_all]; omega) W)
      have hFL : (rowF a 16 ((bytesP xs).take j)).length = j := by rw [rowF_length, List.length_take, bytesP_len]; omega
      rw [S_list, e1, e2, e3, e4, e5, hFL, show ((0 : Nat) : Int) = 0 from rfl] at HSC1
      have hTS : (S (segB a (bytesP xs))).size = EN xs xs.length := by rw [S_size, segB_length, EN_all]
      have HZ1 := Lib.hid (show wrap64 (((S (segB a (bytesP xs))).size : Int) - 16) = (R : Int) by rw [hTS, IntWalk.wrap64_in _ ⟨by omega, by omega⟩]; omega)
      have HZ2 := Lib.hid (show wrap64 ((R : Int) + 1) = (R : Int) + 1 from IntWalk.wrap64_in _ ⟨by omega, by omega⟩)
      have HZ3 := Lib.hid (show IntKind.u64.wrap ((R : Int) + 1) = (R : Int) + 1 by rw [IntKind.wrap_u64]; omega)
      have kz : ((R : Int) + 1 == 0) = false := beq_eq_false_iff_ne.2 (by omega)
      have kz2 : ¬ (R : Int) + 1 = 0 := by omega
      have HZ4 := Lib.hid (show wrap64 ((IntKind.u64.wrap cut).tmod ((R : Int) + 1)) = (m : Int) from hrem)
      have HZ5 := Lib.hid (show wrap64 (16 + (m : Int)) = (n : Int) by rw [IntWalk.wrap64_in _ ⟨by omega, by omega⟩]; omega)
      have HSL := Lib.hid (fun W => slice_to (segB a (bytesP xs)) n (by rw [segB_length, ← EN_all]; omega) W)
      have HSL2 := Lib.hid (fun W => slice_to (segB a (bytesP xs)) (EN xs j) (by rw [segB_length, ← EN_all]; omega) W)
      rw [seg_take] at HSL2
      have n1 : (0 : Int) ≤ (n : Int) := by omega
      have n2 : (n : Int) ≤ ((S (segB a (bytesP xs))).size : Int) := by rw [hTS]; omega
      have HFRL := Lib.hid hFL
      have HFA := Lib.hid (show ∀ i (hi : i < xs.length), i < j → ∀ h, (rowF a 16 ((bytesP xs).take j))[i]'h = ⟨a + i, (xs[i]'hi).data.toList, EN xs i⟩ from fun i hi hij h => fr_at a xs j i hij hj1 h)
      have HJ3 := Lib.hid hj3
      have HOKX := Lib.hid (show ∀ i (h : i < xs.length), 1 ≤ xs[i].size ∧ xs[i].size ≤ 4096 from bytesP_ok.1 (okL_all.2 hok.2))
      have HEN := Lib.hid (show ∀ i, i ≤ xs.length → EN xs i ≤ 100000000 from fun i hi => by
        have h1 := rowB_len_take_le 0 (bytesP xs) i xs.length hi
        have h2 : EN xs i ≤ EN xs xs.length := by unfold EN RB; omega
        omega)
      have HAQ := Lib.hid (show a + xs.length ≤ 1048576 by have := hok.1; rw [bytesP_len] at this; exact this)
      have HTN := Lib.hid (TnW.first (a := a) (ps := (bytesP xs).take j) ⟨by rw [List.length_take, bytesP_len]; have := hok.1; rw [bytesP_len] at this; omega, fun p hp => hok.2 p (List.mem_of_mem_take hp)⟩ ys)
      have HSGN := Lib.hid (show segN ((bytesP xs).take j) ≤ 2000000 by
        have h1 := segB_length a ((bytesP xs).take j)
        rw [← seg_take, List.length_take, segB_length, ← EN_all] at h1
        omega)
      have HMS := Lib.hid (map_S_take xs j)
      have HY2 := Lib.hid (show ∀ b o, A2 = some ⟨b, o, none⟩ → 0 < ys.length → b < w.heap.size from fun b o e hp => by
        obtain ⟨b', o', e', h1, _⟩ := HY.out 0 hp
        rw [e'] at e; injection e with e; injection e with e1; omega)
      have HTAKE := Lib.hid (show (xs.take j).length = j by rw [List.length_take]; omega)
      have HPL := Lib.hid (show ((bytesP xs).take j).length = j by rw [List.length_take, bytesP_len]; omega)
      have HJX := Lib.hid hj1
      have hjn : (j : Int) ≤ (xs.length : Int) := by omega
      have hgn : (EN xs j : Int) ≤ (n : Int) := by omega
      have HG := Lib.hid (And.intro hjn hgn)
      have g1 : decide ((n : Int) < (EN xs j : Int)) = false := decide_eq_false (by omega)
      have g2 : decide ((xs.length : Int) < (j : Int)) = false := decide_eq_false (by omega)
      have g3 : EN xs j ≤ n := hj2
      have g4 : j ≤ xs.length := hj1
      have g5 : ¬ n < EN xs j := by omega
      have g6 : ¬ xs.length < j := by omega
      have HJ2 := Lib.hid hj2
      have HCUT := Lib.hid (fun W => cut_strs A xs.length cap j hj1 HCAP.out.1 W)
      have HW := Lib.hid (show decide (EN xs j = n) = ((EN xs j : Int) == (n : Int)) by
        by_cases h : EN xs j = n
        · rw [decide_eq_true h, h]; simp
        · rw [decide_eq_false h]; symm; rw [beq_eq_false_iff_ne]; omega)
      clear hj hw hn hq hok hm hrem hn0 hR e1 e2 e3 e4 e5 hj1 hj2 hj3 hFL hTS hz16 hjn hgn
      generalize hFR : rowF a 16 ((bytesP xs).take j) = FR at *
      generalize hPS : (bytesP xs).take j = PS at *
      generalize S (segB a (bytesP xs)) = T at *
      generalize S ((segB a (bytesP xs)).take n) = T2 at *
      generalize hWW : decide (EN xs j = n) = WW at *
      clear hFR hPS hWW
      go_enter Tryz.func8, Tryz.ntmps8
      go_wp2_with fail
      refine HMA.out.mono ?_
      rintro e w1 ⟨rfl, rfl⟩
      go_wp2_with fail
      refine HMB.out.mono ?_
      rintro e w1 ⟨rfl, rfl⟩
      go_wp2_with fail
      refine (HAW.out w HE.out).mono ?_
      rintro e w1 ⟨rfl, hb⟩
      have HB := Lib.hid hb
      clear hb
      go_wp2_with fail
      refine (HXB.out w1 HB.out).mono ?_
      rintro e w2 ⟨rfl, hb⟩
      replace HB := Lib.hid (HB.out.trans (hb.mono HB.out.size))
      clear hb
      rw [HV.out]
      have z1 := HZ1.out
      have z2 := HZ2.out
      have z3 := HZ3.out
      have z4 := HZ4.out
      have z5 := HZ5.out
      have hsl := HSL.out
      go_wp2_with fail
      rw [HZ5.out]
      clear z1 z2 z3 z4 z5 hsl kz kz2
      refine (HSC1.out w2).mono ?_
      rintro e w3 ⟨A1, c1, rfl, ho, hb3⟩
      obtain ⟨A1', c1', he, -, -, hrow, -⟩ := ho.row
      injection he with he1 he2 he3
      subst he1 he3
      clear he2
      obtain ⟨w4, hw4⟩ : ∃ w4, w3.alloc (.cells #[.int .i64 (a : Int), .slice A1 j c1, .int .i64 (EN xs j : Int), .bool WW] 46) = w4 := ⟨_, rfl⟩
      have hb4 : Below w3.heap.size w3 w4 := by rw [← hw4]; exact (Below.refl _ _).alloc (Nat.le_refl _) _
      have HTB := Lib.hid (show Tb w w4 A A2 A1 xs ys FR j c1 w3.heap.size a (EN xs j) WW from
        ⟨HX.out.below (HB.out.trans ((hb3.trans (hb4.mono hb3.size)).mono HB.out.size)), HY.out.below (HB.out.trans ((hb3.trans (hb4.mono hb3.size)).mono HB.out.size)), hrow.below hb4, by rw [← hw4]; exact heap_alloc_new w3 _, HB.out.trans ((hb3.trans (hb4.mono hb3.size)).mono HB.out.size)⟩)
      have HW4 := Lib.hid hw4
      clear hb3 ho hrow hb4 hw4 HB
      go_wp2_with fail
      rw [HW4.out]
      clear HW4 g1 g2 g3 g4 g5 g6
      go_loopw [14, 15] (fun f y wr => ∃ (i : Nat), i ≤ xs.length ∧ i ≤ j ∧ y = .int .i64 (i : Int) ∧ f = .int .i64 (EN xs i : Int) ∧ Hid (Tb w wr A A2 A1 xs ys FR j c1 w3.heap.size a (EN xs j) WW)) (fun _ y _ => xs.length - (intOf y).toNat)
      case atStart => exact ⟨0, Nat.zero_le _, Nat.zero_le _, rfl, by rw [EN_zero]; rfl, HTB⟩
      case round =>
        clear HTB
        obtain ⟨i, hi, hij, rfl, rfl, HTB⟩ := hrel
        by_cases hlt : i < xs.length
        · obtain ⟨b, o, hA, hb, hs, c0⟩ := HTB.out.st i hlt
          subst hA
          obtain ⟨⟨d0, d1, d2, d3⟩, -⟩ := HTB.out.box.facts
          have hs1 := EN_succ xs i hlt
          have hok1 := HOKX.out i hlt
          have hiff := HJ3.out (i + 1) hlt
          have hen := HEN.out (i + 1) hlt
          have HSZE := Lib.hid (fun W => Size_any ((xs[i]'hlt).size : Int) W)
          rw [szI_yes hok1] at HSZE
          have HE1 : Hid (wrap64 ((EN xs i : Int) + (16 + ((xs[i]'hlt).size : Int))) = (EN xs (i + 1) : Int)) := Lib.hid (by rw [IntWalk.wrap64_in _ ⟨by omega, by omega⟩]; omega)
          have HI1 : Hid (wrap64 ((i : Int) + 1) = (i : Int) + 1) := Lib.hid (IntWalk.wrap64_in _ ⟨by omega, by have := HS1.out; omega⟩)
          have k1 : decide ((i : Int) < (xs.length : Int)) = true := decide_eq_true (by omega)
          have k2 : (i : Int) < (xs.length : Int) := by omega
          have k3 : (0 : Int) ≤ (i : Int) := by omega
          have HLT := Lib.hid hlt
          by_cases hj : i < j
          · as_aux_lemma =>
              have hfr := HFA.out i hlt hj
              have hle : EN xs (i + 1) ≤ n := hiff.1 hj
              have l1 : decide ((EN xs (i + 1) : Int) ≤ (n : Int)) = true := decide_eq_true (by omega)
              have l2 : (EN xs (i + 1) : Int) ≤ (n : Int) := by omega
              have l3 : decide ((i : Int) < (j : Int)) = true := decide_eq_true (by omega)
              have l4 : (i : Int) < (j : Int) := by omega
              have hfl : i < FR.length := by rw [HFRL.out]; exact hj
              obtain ⟨b1, o1, hA1, hb1, r0, r1, r2⟩ := HTB.out.fr i hfl
              subst hA1
              rw [hfr hfl] at r0 r1 r2
              have HAI : Hid (wrap64 ((a : Int) + (i : Int)) = ((a + i : Nat) : Int)) := Lib.hid (by have := HAQ.out; rw [IntWalk.wrap64_in _ ⟨by omega, by omega⟩]; omega)
              have HAI2 : Hid (IntKind.i64.wrap ((a : Int) + (i : Int)) = ((a + i : Nat) : Int)) := Lib.hid (by have := HAQ.out; rw [IntWalk.i64_in _ ⟨by omega, by omega⟩]; omega)
              rw [show S (xs[i]'hlt).data.toList = xs[i]'hlt from rfl] at r1
              have HJ := Lib.hid hj
              generalize xs[i]'hlt = x at *
              clear hs1 hok1 hiff hen hfr hle hfl hs hb1
              have he1 := HE1.out
              go_wp2_with fail
              refine (HSZE.out wr).mono ?_
              rintro e w5 ⟨rfl, rfl⟩
              go_wp2_with fail
              have hai := HAI.out
              have hai2 := HAI2.out
              generalize hqi : a + i = qi at *
              have hfm : Tryz.prog.follows .mixedOrders = true := by kernel_rfl
              go_big_quiet (fail)
              clear hai hai2 he1
              have hbq := below_dn wr.heap.size nq wr
              have HT5 := Lib.hid (HTB.out.below hbq)
              have c5 := (hbq.cell (p := ⟨b, o + i, none⟩) hb).trans c0
              clear c0 d0 d1 d2 d3 r0 r1 r2 hbq
              go_wp2_with fail
              refine (HSZE.out _).mono ?_
              rintro e w6 ⟨rfl, rfl⟩
              have hi1 := HI1.out
              have he1 := HE1.out
              go_wp2_with fail
              go_roundw
              case rel => exact ⟨i + 1, HLT.out, HJ.out, by rw [HI1.out]; rfl, by rw [HE1.out], HT5⟩
              case measure => rw [HI1.out]; exact meas_step _ _ HLT.out
          · as_aux_lemma =>
              obtain rfl : i = j := by omega
              have hgt : ¬ EN xs (i + 1) ≤ n := fun h => by have := hiff.2 h; omega
              have l1 : decide ((EN xs (i + 1) : Int) ≤ (n : Int)) = false := decide_eq_false (by omega)
              have l2 : ¬ (EN xs (i + 1) : Int) ≤ (n : Int) := by omega
              have l3 : decide ((i : Int) < (i : Int)) = false := decide_eq_false (by omega)
              clear hs1 hok1 hiff hen hgt hs hb hj hij hi
              have he1 := HE1.out
              have hw := HW.out.symm
              have hcut := HCUT.out
              go_wp2_with fail
              refine (HSZE.out wr).mono ?_
              rintro e w5 ⟨rfl, rfl⟩
              have hbn := (Below.refl wr.heap.size wr).alloc (Nat.le_refl _) (.cells #[] 9)
              have HBA := Lib.hid (HTB.out.bel.trans (hbn.mono HTB.out.bel.size))
              have HON := Lib.hid (own_none (w := wr) (base := w.heap.size) HTB.out.bel.size)
              have HSN := Lib.hid (strs_take (HTB.out.st.below hbn) i)
              have hbx : SBx (wr.alloc (.cells #[] 9)) w3.heap.size (a : Int) (.slice A1 i c1) (EN xs i : Int) WW := (hbn.block _ (row_lt HTB.out.box)).trans HTB.out.box
              have HBX := Lib.hid (And.intro hbx (row_lt HTB.out.box))
              obtain ⟨⟨f0, f1, f2, f3⟩, -⟩ := hbx.facts
              clear hbn hbx
              go_wp2_with (at_builtin; refine wpList_append_row rfl _ _ rfl w.heap.size (.slice (some ⟨wr.heap.size, 0, none⟩) 0 0) [] rfl HON.out (some ⟨b, o, none⟩) cap (xs.take i) (by rw [HTAKE.out]; rfl) HSN.out HCAP.out.2.1 (by rw [HTAKE.out]; have h1 := HJX.out; have h2 := HS1.out; show 0 + _ ≤ _; omega) HBA.out.size ?_)
              intro v' w6 hown hg
              have HO6 := Lib.hid (show OwnS w6 w.heap.size v' (xs.take i) by first | exact hown | (rw [List.take_length]; exact hown))
              have HB6 := Lib.hid (below_own HBA.out HON.out hg (Nat.le_refl _))
              clear f0 f1 f2 f3
              have hx6 : SBx w6 w3.heap.size (a : Int) (.slice A1 i c1) (EN xs i : Int) WW := (hg.block _ (row_lt HBX.out.1) (fun e => by have h1 := HBX.out.2; injection e with e; simp at e; omega)).trans HBX.out.1
              obtain ⟨⟨e0, e1, e2, e3⟩, -⟩ := hx6.facts
              have hsl2 := HSL2.out
              clear hown hg d0 d1 d2 d3 hw hcut HTB HON HSN HBX HBA
              go_wp2_with fail
              clear hsl2 e0 e1 e2 e3
              go_loopw [17, 18, 19] (fun al ag y wr => ∃ (ii : Nat) (ac : List (List UInt8)), ii ≤ ys.length ∧ y = .int .i64 (ii : Int) ∧ ag = .string (S (segB a (PS ++ ac))) ∧ Hid (TnW a PS ys ii ac) ∧ Hid (OwnS wr w.heap.size al (xs.take i ++ ac.map S)) ∧ Hid (Below w.heap.size w wr)) (fun _ _ y _ => ys.length - (intOf y).toNat)
              case atStart => exact ⟨0, [], Nat.zero_le _, rfl, by rw [List.append_nil], HTN, by rw [List.map_nil, List.append_nil]; exact HO6, HB6⟩
              case round =>
                clear HO6 HB6 hx6
                obtain ⟨k, ac, hk, rfl, rfl, HT, HO, HB⟩ := hrel
                obtain ⟨A3, c3, rfl, -, -, -⟩ := HO.out.row
                obtain ⟨N, hN⟩ : ∃ N, (xs.take i ++ ac.map S).length = N := ⟨_, rfl⟩
                have hN2 : N = PS.length + ac.length := by rw [← hN, List.length_append, List.length_map, HTAKE.out, HPL.out]
                rw [hN] at HO
                try rw [hN]
                have hNb : N ≤ 100000 := by
                  have h1 := HT.out.len; have h2 := HJX.out; have h3 := HS1.out; have h4 := HS2.out; have h5 := HPL.out
                  omega
                by_cases hkl : k < ys.length
                · have hyk := HY.out.below HB.out
                  obtain ⟨b2, o2, hA2, hb2, hs2, c2⟩ := hyk k hkl
                  subst hA2
                  have HI1 : Hid (wrap64 ((k : Int) + 1) = (k : Int) + 1) := Lib.hid (IntWalk.wrap64_in _ ⟨by omega, by have := HS2.out; omega⟩)
                  have k1 : decide ((k : Int) < (ys.length : Int)) = true := decide_eq_true (by omega)
                  have k2 : (k : Int) < (ys.length : Int) := by omega
                  have k3 : (0 : Int) ≤ (k : Int) := by omega
                  have hAN : wrap64 ((a : Int) + (N : Int)) = (a : Int) + ((PS.length + ac.length : Nat) : Int) := by
                    have := HAQ.out
                    rw [IntWalk.wrap64_in _ ⟨by omega, by omega⟩]; omega
                  have HAN := Lib.hid hAN
                  clear hAN
                  have HMK := Lib.hid (fun W => Make_all (wrap64 ((a : Int) + (N : Int))) (ys[k]'hkl) W)
                  have HLEN := Lib.hid (show (xs.take i ++ ac.map S).length ≤ 1000000 by omega)
                  have HKL := Lib.hid hkl
                  by_cases hm : mkE (wrap64 ((a : Int) + (N : Int))) (ys[k]'hkl).data.toList = 0
                  · as_aux_lemma =>
                      have hv : mkV (wrap64 ((a : Int) + (N : Int))) (ys[k]'hkl) = .returned (.tuple #[.string (S (frB (a + (PS.length + ac.length)) (ys[k]'hkl).data.toList)), .int .i64 0]) := by
                        unfold mkV mkB
                        rw [if_pos hm, hm, HAN.out]
                        rw [show ((a : Int) + ((PS.length + ac.length : Nat) : Int)).toNat = a + (PS.length + ac.length) by omega]
                        rfl
                      rw [HAN.out] at hm
                      have HT2 := Lib.hid (HT.out.more hkl hm)
                      have HCA := Lib.hid (TnW.bytes (a := a) (ps := PS) (ac := ac) hkl)
                      have HZ : Hid ((S (segB a (PS ++ ac))).size + (S (frB (a + (PS.length + ac.length)) (ys[k]'hkl).data.toList)).size ≤ 10000000) := Lib.hid (by
                        rw [S_size, S_size, segB_length, frB_length]
                        have h1 := HT.out.sz; have h2 := HSGN.out; have h3 := HRB.out k; have h4 := (mkE_zero hm).2.2.2
                        omega)
                      have HPL2 := Lib.hid (show (xs.take i ++ ac.map S) ++ [ys[k]'hkl] = xs.take i ++ (ac ++ [(ys[k]'hkl).data.toList]).map S by
                        rw [List.map_append, ← List.append_assoc]; rfl)
                      rw [hv] at HMK
                      clear hm hv hN hN2 hNb hs2 hb2 hyk
                      generalize ys[k]'hkl = x at *
                      generalize hP1 : S (segB a (PS ++ ac)) = P1 at *
                      generalize hP2 : S (frB (a + (PS.length + ac.length)) x.data.toList) = P2 at *
                      have hca : ∀ W, (Op.stringOp .add P1 P2).run Tryz.prog W = .ok (.string (S (segB a (PS ++ (ac ++ [x.data.toList]))))) W := fun W => by
                        rw [HCA.out, ← S_append, hP1, hP2]
                        exact run_string_add_sum W _ _ (Nat.le_trans HZ.out (by decide))
                      generalize hP3 : S (segB a (PS ++ (ac ++ [x.data.toList]))) = P3 at *
                      clear hP1 hP2
                      have c9 := c2
                      go_wp2_with fail
                      refine (HMK.out _).mono ?_
                      rintro e w7 ⟨rfl, hb⟩
                      have c7 := (hb.cell (p := ⟨b2, o2 + k, none⟩) (Nat.lt_of_lt_of_le (HY2.out b2 o2 rfl (by have := HKL.out; omega)) HB.out.size)).trans c2
                      have HB7 := Lib.hid (HB.out.trans (hb.mono HB.out.size))
                      have HB8 := Lib.hid (HB7.out.alloc HB7.out.size (.cells #[.string x] 9))
                      have HOA := Lib.hid ((HO.out.below hb).below ((Below.refl w7.heap.size w7).alloc (Nat.le_refl _) (.cells #[.string x] 9)))
                      have HCL := Lib.hid (show (w7.alloc (.cells #[.string x] 9)).cell? ⟨w7.heap.size, 0, none⟩ = some (.string x) from cell_row (heap_alloc_new w7 (.cells #[.string x] 9)) 0)
                      clear hb c2 c9
                      go_wp2_with (at_builtin; refine wpList_append_s rfl _ _ rfl w.heap.size _ (xs.take i ++ ac.map S) rfl HOA.out w7.heap.size 1 x rfl HCL.out HLEN.out HB8.out.size ?_)
                      intro v2 w9 ho9 hg9
                      have HO9 := Lib.hid (show OwnS w9 w.heap.size v2 (xs.take i ++ (ac ++ [x.data.toList]).map S) by rw [← HPL2.out]; first | exact ho9 | (rw [List.append_assoc]; exact ho9) | (rw [List.append_assoc, List.take_length]; exact ho9))
                      have HB9 := Lib.hid (below_own HB8.out HOA.out hg9 (Nat.le_refl _))
                      clear ho9 hg9 hca c7
                      have hi1 := HI1.out
                      go_wp2_with fail
                      go_roundw
                      case rel => exact ⟨k + 1, ac ++ [x.data.toList], HKL.out, by rw [HI1.out]; rfl, by rw [hP3], HT2, HO9, HB9⟩
                      case measure => rw [HI1.out]; exact meas_step _ _ HKL.out
                  · as_aux_lemma =>
                      have HT2 := Lib.hid (HT.out.skip hkl)
                      have hv : mkV (wrap64 ((a : Int) + (N : Int))) (ys[k]'hkl) = .returned (.tuple #[.string ⟨#[]⟩, .int .i64 (mkE (wrap64 ((a : Int) + (N : Int))) (ys[k]'hkl).data.toList : Int)]) := by
                        unfold mkV mkB
                        rw [if_neg hm]; rfl
                      rw [hv] at HMK
                      obtain ⟨q1, q2, q3, q4, q5⟩ := nat_ne hm
                      clear hm hv hN hN2 hNb hs2 hb2 hyk
                      generalize mkE (wrap64 ((a : Int) + (N : Int))) (ys[k]'hkl).data.toList = em at *
                      generalize ys[k]'hkl = x at *
                      go_wp2_with fail
                      refine (HMK.out _).mono ?_
                      rintro e w7 ⟨rfl, hb⟩
                      have HB7 := Lib.hid (HB.out.trans (hb.mono HB.out.size))
                      have HO7 := Lib.hid (HO.out.below hb)
                      clear hb c2
                      have hi1 := HI1.out
                      go_wp2_with fail
                      go_roundw
                      case rel => exact ⟨k + 1, ac, HKL.out, by rw [HI1.out]; rfl, rfl, HT2, HO7, HB7⟩
                      case measure => rw [HI1.out]; exact meas_step _ _ HKL.out
                · as_aux_lemma =>
                    obtain rfl : k = ys.length := by omega
                    have k1 : decide ((ys.length : Int) < (ys.length : Int)) = false := decide_eq_false (by omega)
                    obtain ⟨e1, e2, e3, e4⟩ := sc_seg a (PS ++ ac) HT.out.ok
                    have e5 : fiQ (segB a (PS ++ ac)) = a := by unfold fiQ; rw [if_pos e1, e2]
                    have e6 : scW (segB a (PS ++ ac)) = true := by unfold scW; rw [if_pos e1, e4]; exact decide_eq_true rfl
                    have HSC3 := Lib.hid (fun W => SScan_any (S (segB a (PS ++ ac))) (by
                      rw [S_size, segB_length]
                      have h1 := HT.out.sz; have h2 := HSGN.out; have h3 := HRB.out ys.length
                      omega) W)
                    rw [S_list, e1, e5, e3, e4, e6, show ((0 : Nat) : Int) = 0 from rfl] at HSC3
                    have HFL : Hid ((rowF a 16 (PS ++ ac)).length ≤ 1000000) := Lib.hid (by rw [rowF_length, List.length_append]; omega)
                    have HPF : Hid (paysF (rowF a 16 (PS ++ ac)) = xs.take i ++ ac.map S) := Lib.hid (by rw [paysF_any, List.map_append, HMS.out])
                    have HZS : Hid (∀ y ∈ xs.take i ++ ac.map S, y.size ≤ maxLen) := Lib.hid (fun y hy => by
                      rw [← HMS.out, ← List.map_append] at hy
                      obtain ⟨p, hp, rfl⟩ := List.mem_map.1 hy
                      rw [S_size]
                      have := (HT.out.ok.2 p hp).2
                      unfold maxLen; omega)
                    have HNB := Lib.hid (show N ≤ 1000000 by omega)
                    have HNN := Lib.hid hN
                    clear e1 e2 e3 e4 e5 e6 hN hN2 hNb hk hkl
                    generalize rowF a 16 (PS ++ ac) = FR2 at *
                    generalize S (segB a (PS ++ ac)) = P1 at *
                    generalize (segB a (PS ++ ac)).length = G2 at *
                    generalize xs.take i ++ ac.map S = zs at *
                    go_wp2_with fail
                    refine (HSC3.out _).mono ?_
                    rintro e w7 ⟨A5, c5, rfl, ho, hb⟩
                    obtain ⟨A5', c5', he, -, -, hrow, -⟩ := ho.row
                    cases he
                    obtain ⟨w8, hw8⟩ : ∃ w8, w7.alloc (.cells #[.int .i64 (a : Int), .slice A5 FR2.length c5, .int .i64 (G2 : Int), .bool true] 46) = w8 := ⟨_, rfl⟩
                    have hb8 : Below w7.heap.size w7 w8 := by rw [← hw8]; exact (Below.refl _ _).alloc (Nat.le_refl _) _
                    have hb78 := hb.trans (hb8.mono hb.size)
                    have HB8 := Lib.hid (HB.out.trans (hb78.mono HB.out.size))
                    have HO8 := Lib.hid (HO.out.below hb78)
                    have HR8 := Lib.hid (hrow.below hb8)
                    have HW8 := Lib.hid hw8
                    clear hb ho hrow hb8 hb78 hw8
                    go_wp2_with fail
                    rw [HW8.out]
                    refine (payloads_any A5 c5 FR2 HFL.out w8 HR8.out).mono ?_
                    rintro e w9 ⟨v, rfl, ho, hb⟩
                    rw [HPF.out] at ho
                    obtain ⟨A6, c6, rfl, -, -, -⟩ := ho.row
                    have HB9 := Lib.hid (HB8.out.trans (hb.mono HB8.out.size))
                    have ho9 := HO8.out.below hb
                    obtain ⟨A3', c3', he, -, -, hst⟩ := ho9.strs HZS.out
                    rw [← HNN.out] at he
                    cases he
                    have HTX := Lib.hid (texts_any w8.heap.size A6 A3 c6 c3 zs (by rw [HNN.out]; exact HNB.out) w9 ho hst (fun x y h1 h2 hp => by
                      have k1 := (ho.lt x.block (by rw [h1]; rfl)).2
                      have k2 := (HO8.out.lt y.block (by rw [h2]; rfl)).1
                      omega))
                    have HN9 := Lib.hid (show ∀ r, (Value.slice A6 zs.length c6).ownBlock = some r → w.heap.size ≤ r from fun r hr => by
                      have k1 := (ho.lt r hr).2
                      have k3 := HB8.out.size
                      omega)
                    rw [HNN.out] at HTX HN9
                    try rw [HNN.out]
                    clear ho ho9 hst hb
                    go_wp2_with fail
                    refine HTX.out.mono ?_
                    rintro e w10 ⟨rfl, hg⟩
                    have HB10 := Lib.hid (hg.below HB9.out (Nat.le_refl _) HN9.out)
                    clear hg
                    go_wp2_with fail
                    go_ret
                    exact ⟨rfl, HB10.out⟩
        · as_aux_lemma =>
            obtain rfl : i = xs.length := by omega
            obtain rfl : j = xs.length := by have := HJX.out; omega
            obtain ⟨⟨d0, d1, d2, d3⟩, -⟩ := HTB.out.box.facts
            have k1 : decide ((xs.length : Int) < (xs.length : Int)) = false := decide_eq_false (by omega)
            clear hi hij hlt
            have hw := HW.out.symm
            have hcut := HCUT.out
            have hbn := (Below.refl wr.heap.size wr).alloc (Nat.le_refl _) (.cells #[] 9)
            have HBA := Lib.hid (HTB.out.bel.trans (hbn.mono HTB.out.bel.size))
            have HON := Lib.hid (own_none (w := wr) (base := w.heap.size) HTB.out.bel.size)
            have HSN := Lib.hid (strs_take (HTB.out.st.below hbn) xs.length)
            have hbx : SBx (wr.alloc (.cells #[] 9)) w3.heap.size (a : Int) (.slice A1 xs.length c1) (EN xs xs.length : Int) WW := (hbn.block _ (row_lt HTB.out.box)).trans HTB.out.box
            have HBX := Lib.hid (And.intro hbx (row_lt HTB.out.box))
            obtain ⟨⟨f0, f1, f2, f3⟩, -⟩ := hbx.facts
            clear hbn hbx
            go_wp2_with (at_builtin; refine wpList_append_row rfl _ _ rfl w.heap.size (.slice (some ⟨wr.heap.size, 0, none⟩) 0 0) [] rfl HON.out A cap (xs.take xs.length) (by rw [HTAKE.out]; rfl) HSN.out HCAP.out.2.1 (by rw [HTAKE.out]; have h1 := HJX.out; have h2 := HS1.out; show 0 + _ ≤ _; omega) HBA.out.size ?_)
            intro v' w6 hown hg
            have HO6 := Lib.hid (show OwnS w6 w.heap.size v' (xs.take xs.length) by first | exact hown | (rw [List.take_length]; exact hown))
            have HB6 := Lib.hid (below_own HBA.out HON.out hg (Nat.le_refl _))
            clear f0 f1 f2 f3
            have hx6 : SBx w6 w3.heap.size (a : Int) (.slice A1 xs.length c1) (EN xs xs.length : Int) WW := (hg.block _ (row_lt HBX.out.1) (fun e => by have h1 := HBX.out.2; injection e with e; simp at e; omega)).trans HBX.out.1
            obtain ⟨⟨e0, e1, e2, e3⟩, -⟩ := hx6.facts
            have hsl2 := HSL2.out
            clear hown hg d0 d1 d2 d3 hw hcut HTB HON HSN HBX HBA
            go_wp2_with fail
            clear hsl2 e0 e1 e2 e3
            go_loopw [17, 18, 19] (fun al ag y wr => ∃ (ii : Nat) (ac : List (List UInt8)), ii ≤ ys.length ∧ y = .int .i64 (ii : Int) ∧ ag = .string (S (segB a (PS ++ ac))) ∧ Hid (TnW a PS ys ii ac) ∧ Hid (OwnS wr w.heap.size al (xs.take xs.length ++ ac.map S)) ∧ Hid (Below w.heap.size w wr)) (fun _ _ y _ => ys.length - (intOf y).toNat)
            case atStart => exact ⟨0, [], Nat.zero_le _, rfl, by rw [List.append_nil], HTN, by rw [List.map_nil, List.append_nil]; exact HO6, HB6⟩
            case round =>
              clear HO6 HB6 hx6
              obtain ⟨k, ac, hk, rfl, rfl, HT, HO, HB⟩ := hrel
              obtain ⟨A3, c3, rfl, -, -, -⟩ := HO.out.row
              obtain ⟨N, hN⟩ : ∃ N, (xs.take xs.length ++ ac.map S).length = N := ⟨_, rfl⟩
              have hN2 : N = PS.length + ac.length := by rw [← hN, List.length_append, List.length_map, HTAKE.out, HPL.out]
              rw [hN] at HO
              try rw [hN]
              have hNb : N ≤ 100000 := by
                have h1 := HT.out.len; have h2 := HJX.out; have h3 := HS1.out; have h4 := HS2.out; have h5 := HPL.out
                omega
              by_cases hkl : k < ys.length
              · have hyk := HY.out.below HB.out
                obtain ⟨b2, o2, hA2, hb2, hs2, c2⟩ := hyk k hkl
                subst hA2
                have HI1 : Hid (wrap64 ((k : Int) + 1) = (k : Int) + 1) := Lib.hid (IntWalk.wrap64_in _ ⟨by omega, by have := HS2.out; omega⟩)
                have k1 : decide ((k : Int) < (ys.length : Int)) = true := decide_eq_true (by omega)
                have k2 : (k : Int) < (ys.length : Int) := by omega
                have k3 : (0 : Int) ≤ (k : Int) := by omega
                have hAN : wrap64 ((a : Int) + (N : Int)) = (a : Int) + ((PS.length + ac.length : Nat) : Int) := by
                  have := HAQ.out
                  rw [IntWalk.wrap64_in _ ⟨by omega, by omega⟩]; omega
                have HAN := Lib.hid hAN
                clear hAN
                have HMK := Lib.hid (fun W => Make_all (wrap64 ((a : Int) + (N : Int))) (ys[k]'hkl) W)
                have HLEN := Lib.hid (show (xs.take xs.length ++ ac.map S).length ≤ 1000000 by omega)
                have HKL := Lib.hid hkl
                by_cases hm : mkE (wrap64 ((a : Int) + (N : Int))) (ys[k]'hkl).data.toList = 0
                · as_aux_lemma =>
                    have hv : mkV (wrap64 ((a : Int) + (N : Int))) (ys[k]'hkl) = .returned (.tuple #[.string (S (frB (a + (PS.length + ac.length)) (ys[k]'hkl).data.toList)), .int .i64 0]) := by
                      unfold mkV mkB
                      rw [if_pos hm, hm, HAN.out]
                      rw [show ((a : Int) + ((PS.length + ac.length : Nat) : Int)).toNat = a + (PS.length + ac.length) by omega]
                      rfl
                    rw [HAN.out] at hm
                    have HT2 := Lib.hid (HT.out.more hkl hm)
                    have HCA := Lib.hid (TnW.bytes (a := a) (ps := PS) (ac := ac) hkl)
                    have HZ : Hid ((S (segB a (PS ++ ac))).size + (S (frB (a + (PS.length + ac.length)) (ys[k]'hkl).data.toList)).size ≤ 10000000) := Lib.hid (by
                      rw [S_size, S_size, segB_length, frB_length]
                      have h1 := HT.out.sz; have h2 := HSGN.out; have h3 := HRB.out k; have h4 := (mkE_zero hm).2.2.2
                      omega)
                    have HPL2 := Lib.hid (show (xs.take xs.length ++ ac.map S) ++ [ys[k]'hkl] = xs.take xs.length ++ (ac ++ [(ys[k]'hkl).data.toList]).map S by
                      rw [List.map_append, ← List.append_assoc]; rfl)
                    rw [hv] at HMK
                    clear hm hv hN hN2 hNb hs2 hb2 hyk
                    generalize ys[k]'hkl = x at *
                    generalize hP1 : S (segB a (PS ++ ac)) = P1 at *
                    generalize hP2 : S (frB (a + (PS.length + ac.length)) x.data.toList) = P2 at *
                    have hca : ∀ W, (Op.stringOp .add P1 P2).run Tryz.prog W = .ok (.string (S (segB a (PS ++ (ac ++ [x.data.toList]))))) W := fun W => by
                      rw [HCA.out, ← S_append, hP1, hP2]
                      exact run_string_add_sum W _ _ (Nat.le_trans HZ.out (by decide))
                    generalize hP3 : S (segB a (PS ++ (ac ++ [x.data.toList]))) = P3 at *
                    clear hP1 hP2
                    have c9 := c2
                    go_wp2_with fail
                    refine (HMK.out _).mono ?_
                    rintro e w7 ⟨rfl, hb⟩
                    have c7 := (hb.cell (p := ⟨b2, o2 + k, none⟩) (Nat.lt_of_lt_of_le (HY2.out b2 o2 rfl (by have := HKL.out; omega)) HB.out.size)).trans c2
                    have HB7 := Lib.hid (HB.out.trans (hb.mono HB.out.size))
                    have HB8 := Lib.hid (HB7.out.alloc HB7.out.size (.cells #[.string x] 9))
                    have HOA := Lib.hid ((HO.out.below hb).below ((Below.refl w7.heap.size w7).alloc (Nat.le_refl _) (.cells #[.string x] 9)))
                    have HCL := Lib.hid (show (w7.alloc (.cells #[.string x] 9)).cell? ⟨w7.heap.size, 0, none⟩ = some (.string x) from cell_row (heap_alloc_new w7 (.cells #[.string x] 9)) 0)
                    clear hb c2 c9
                    go_wp2_with (at_builtin; refine wpList_append_s rfl _ _ rfl w.heap.size _ (xs.take xs.length ++ ac.map S) rfl HOA.out w7.heap.size 1 x rfl HCL.out HLEN.out HB8.out.size ?_)
                    intro v2 w9 ho9 hg9
                    have HO9 := Lib.hid (show OwnS w9 w.heap.size v2 (xs.take xs.length ++ (ac ++ [x.data.toList]).map S) by rw [← HPL2.out]; first | exact ho9 | (rw [List.append_assoc]; exact ho9) | (rw [List.append_assoc, List.take_length]; exact ho9))
                    have HB9 := Lib.hid (below_own HB8.out HOA.out hg9 (Nat.le_refl _))
                    clear ho9 hg9 hca c7
                    have hi1 := HI1.out
                    go_wp2_with fail
                    go_roundw
                    case rel => exact ⟨k + 1, ac ++ [x.data.toList], HKL.out, by rw [HI1.out]; rfl, by rw [hP3], HT2, HO9, HB9⟩
                    case measure => rw [HI1.out]; exact meas_step _ _ HKL.out
                · as_aux_lemma =>
                    have HT2 := Lib.hid (HT.out.skip hkl)
                    have hv : mkV (wrap64 ((a : Int) + (N : Int))) (ys[k]'hkl) = .returned (.tuple #[.string ⟨#[]⟩, .int .i64 (mkE (wrap64 ((a : Int) + (N : Int))) (ys[k]'hkl).data.toList : Int)]) := by
                      unfold mkV mkB
                      rw [if_neg hm]; rfl
                    rw [hv] at HMK
                    obtain ⟨q1, q2, q3, q4, q5⟩ := nat_ne hm
                    clear hm hv hN hN2 hNb hs2 hb2 hyk
                    generalize mkE (wrap64 ((a : Int) + (N : Int))) (ys[k]'hkl).data.toList = em at *
                    generalize ys[k]'hkl = x at *
                    go_wp2_with fail
                    refine (HMK.out _).mono ?_
                    rintro e w7 ⟨rfl, hb⟩
                    have HB7 := Lib.hid (HB.out.trans (hb.mono HB.out.size))
                    have HO7 := Lib.hid (HO.out.below hb)
                    clear hb c2
                    have hi1 := HI1.out
                    go_wp2_with fail
                    go_roundw
                    case rel => exact ⟨k + 1, ac, HKL.out, by rw [HI1.out]; rfl, rfl, HT2, HO7, HB7⟩
                    case measure => rw [HI1.out]; exact meas_step _ _ HKL.out
              · as_aux_lemma =>
                  obtain rfl : k = ys.length := by omega
                  have k1 : decide ((ys.length : Int) < (ys.length : Int)) = false := decide_eq_false (by omega)
                  obtain ⟨e1, e2, e3, e4⟩ := sc_seg a (PS ++ ac) HT.out.ok
                  have e5 : fiQ (segB a (PS ++ ac)) = a := by unfold fiQ; rw [if_pos e1, e2]
                  have e6 : scW (segB a (PS ++ ac)) = true := by unfold scW; rw [if_pos e1, e4]; exact decide_eq_true rfl
                  have HSC3 := Lib.hid (fun W => SScan_any (S (segB a (PS ++ ac))) (by
                    rw [S_size, segB_length]
                    have h1 := HT.out.sz; have h2 := HSGN.out; have h3 := HRB.out ys.length
                    omega) W)
                  rw [S_list, e1, e5, e3, e4, e6, show ((0 : Nat) : Int) = 0 from rfl] at HSC3
                  have HFL : Hid ((rowF a 16 (PS ++ ac)).length ≤ 1000000) := Lib.hid (by rw [rowF_length, List.length_append]; omega)
                  have HPF : Hid (paysF (rowF a 16 (PS ++ ac)) = xs.take xs.length ++ ac.map S) := Lib.hid (by rw [paysF_any, List.map_append, HMS.out])
                  have HZS : Hid (∀ y ∈ xs.take xs.length ++ ac.map S, y.size ≤ maxLen) := Lib.hid (fun y hy => by
                    rw [← HMS.out, ← List.map_append] at hy
                    obtain ⟨p, hp, rfl⟩ := List.mem_map.1 hy
                    rw [S_size]
                    have := (HT.out.ok.2 p hp).2
                    unfold maxLen; omega)
                  have HNB := Lib.hid (show N ≤ 1000000 by omega)
                  have HNN := Lib.hid hN
                  clear e1 e2 e3 e4 e5 e6 hN hN2 hNb hk hkl
                  generalize rowF a 16 (PS ++ ac) = FR2 at *
                  generalize S (segB a (PS ++ ac)) = P1 at *
                  generalize (segB a (PS ++ ac)).length = G2 at *
                  generalize xs.take xs.length ++ ac.map S = zs at *
                  go_wp2_with fail
                  refine (HSC3.out _).mono ?_
                  rintro e w7 ⟨A5, c5, rfl, ho, hb⟩
                  obtain ⟨A5', c5', he, -, -, hrow, -⟩ := ho.row
                  cases he
                  obtain ⟨w8, hw8⟩ : ∃ w8, w7.alloc (.cells #[.int .i64 (a : Int), .slice A5 FR2.length c5, .int .i64 (G2 : Int), .bool true] 46) = w8 := ⟨_, rfl⟩
                  have hb8 : Below w7.heap.size w7 w8 := by rw [← hw8]; exact (Below.refl _ _).alloc (Nat.le_refl _) _
                  have hb78 := hb.trans (hb8.mono hb.size)
                  have HB8 := Lib.hid (HB.out.trans (hb78.mono HB.out.size))
                  have HO8 := Lib.hid (HO.out.below hb78)
                  have HR8 := Lib.hid (hrow.below hb8)
                  have HW8 := Lib.hid hw8
                  clear hb ho hrow hb8 hb78 hw8
                  go_wp2_with fail
                  rw [HW8.out]
                  refine (payloads_any A5 c5 FR2 HFL.out w8 HR8.out).mono ?_
                  rintro e w9 ⟨v, rfl, ho, hb⟩
                  rw [HPF.out] at ho
                  obtain ⟨A6, c6, rfl, -, -, -⟩ := ho.row
                  have HB9 := Lib.hid (HB8.out.trans (hb.mono HB8.out.size))
                  have ho9 := HO8.out.below hb
                  obtain ⟨A3', c3', he, -, -, hst⟩ := ho9.strs HZS.out
                  rw [← HNN.out] at he
                  cases he
                  have HTX := Lib.hid (texts_any w8.heap.size A6 A3 c6 c3 zs (by rw [HNN.out]; exact HNB.out) w9 ho hst (fun x y h1 h2 hp => by
                    have k1 := (ho.lt x.block (by rw [h1]; rfl)).2
                    have k2 := (HO8.out.lt y.block (by rw [h2]; rfl)).1
                    omega))
                  have HN9 := Lib.hid (show ∀ r, (Value.slice A6 zs.length c6).ownBlock = some r → w.heap.size ≤ r from fun r hr => by
                    have k1 := (ho.lt r hr).2
                    have k3 := HB8.out.size
                    omega)
                  rw [HNN.out] at HTX HN9
                  try rw [HNN.out]
                  clear ho ho9 hst hb
                  go_wp2_with fail
                  refine HTX.out.mono ?_
                  rintro e w10 ⟨rfl, hg⟩
                  have HB10 := Lib.hid (hg.below HB9.out (Nat.le_refl _) HN9.out)
                  clear hg
                  go_wp2_with fail
                  go_ret
                  exact ⟨rfl, HB10.out⟩
  · as_aux_lemma =>
      obtain ⟨q1, q2, q3, q4, q5⟩ := nat_ne hj
      have HV : Hid (joV q xs = .returned (.tuple #[.string ⟨#[]⟩, .int .i64 (joE q (bytesP xs) : Int)])) := Lib.hid (by unfold joV joB; rw [if_neg hj]; rfl)
      clear hj
      generalize joE q (bytesP xs) = x at *
      go_enter Tryz.func8, Tryz.ntmps8
      go_wp2_with fail
      refine HMA.out.mono ?_
      rintro e w1 ⟨rfl, rfl⟩
      go_wp2_with fail
      refine HMB.out.mono ?_
      rintro e w1 ⟨rfl, rfl⟩
      go_wp2_with fail
      refine (HAW.out w HE.out).mono ?_
      rintro e w1 ⟨rfl, hb⟩
      have HB := Lib.hid hb
      clear hb
      go_wp2_with fail
      refine (HXB.out w1 HB.out).mono ?_
      rintro e w2 ⟨rfl, hb⟩
      replace HB := Lib.hid (HB.out.trans (hb.mono HB.out.size))
      clear hb
      rw [HV.out]
      go_wp2_with fail
      go_ret
      exact ⟨rfl, HB.out⟩
end Go.Proofs.YtkccdffccjgajaaGreatDoor.Seg
