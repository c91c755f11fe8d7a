import Derived.Test.YtkccdffccjgajaaGreatDoorLB
/-
  The walk of the statement SegBack.
-/
namespace Go.Proofs.YtkccdffccjgajaaGreatDoor.Seg
open Go Go.RowKit
open Go.Proofs.YtkccdffccjgajaaGreatDoor.Wire (S S_list S_size S_append cell_row frozen_row row_lt heap_set U)
open Go.Proofs.YtkccdffccjgajaaGreatDoor.Frame Go.Proofs.YtkccdffccjgajaaGreatDoor.Ranges

theorem own_block {base : Nat} {w : World} {v : Value} {ys : List ByteArray} (h : OwnS w base v ys) (r : Nat) (hr : v.ownBlock = some r) : base ≤ r := (h.lt r hr).2
theorem slice_own {A : Option Addr} {n c : Nat} {a : Addr} (h : A = some a) : (Value.slice A n c).ownBlock = some a.block := by subst h; rfl
set_option maxRecDepth 100000 in
set_option maxHeartbeats 8000000 in
theorem back_law (q : Int) (A : Option Addr) (cap : Nat) (xs : List ByteArray) (s : ByteArray) (w : World) (w0 : (Lit.int .i64 q).wf = true) (hx : Strs w A xs) (hl : xs.length ≤ cap) (hm : cap ≤ maxLen) (w2 : s.size ≤ maxLen) (E : Env w) :
    Calls Tryz.prog 7 #[.int .i64 q, .slice A xs.length cap, .string s] w fun e w' => e = .returned (.bool true) ∧ Below w.heap.size w w' := by
  have HAW := Lib.hid (fun W EW => awake_any W EW)
  have HE := Lib.hid E
  have HX := Lib.hid hx
  have HMA := Lib.hid (many_any A cap xs (by omega) w hx)
  clear E w0 hx hm w2
  by_cases hm1 : 20000 < sumM xs
  · as_aux_lemma =>
      rw [decide_eq_true hm1] at HMA
      clear hm1
      go_enter Tryz.func7, Tryz.ntmps7
      go_wp2_with fail
      refine HMA.out.mono ?_
      rintro e w1 ⟨rfl, rfl⟩
      go_wp2_with fail
      refine (HAW.out w HE.out).mono ?_
      rintro e w1 ⟨rfl, hb⟩
      go_wp2_with fail
      go_ret
      exact ⟨rfl, hb⟩
  rw [decide_eq_false hm1] at HMA
  obtain ⟨hs1, hs2⟩ := sumM_small xs (by omega)
  have HS1 := Lib.hid hs1
  clear hm1 hs1
  by_cases hs : 20000 < s.size
  · as_aux_lemma =>
      have z1 : (20000 : Int) < (s.size : Int) := by omega
      clear hs2
      go_enter Tryz.func7, Tryz.ntmps7
      go_wp2_with fail
      refine HMA.out.mono ?_
      rintro e w1 ⟨rfl, rfl⟩
      go_wp2_with fail
      refine (HAW.out w HE.out).mono ?_
      rintro e w1 ⟨rfl, hb⟩
      go_wp2_with fail
      go_ret
      exact ⟨rfl, hb⟩
  have z0 : decide ((20000 : Int) < (s.size : Int)) = false := decide_eq_false (by omega)
  have z1 : decide (20000 < s.size) = false := decide_eq_false (by omega)
  have z2 : ¬ (20000 : Int) < (s.size : Int) := by omega
  have HSZ := Lib.hid (show s.size ≤ 20000 by omega)
  have HSC2 := Lib.hid (fun W => SScan_any s (by omega) W)
  have HXB := Lib.hid (fun W (hb : Below w.heap.size w W) => Join_any q A cap xs (by have := HS1.out; omega) W (HX.out.below hb))
  clear hs
  by_cases hj : joE q (bytesP xs) = 0
  · as_aux_lemma =>
      obtain ⟨hw, hn⟩ := joE_zero hj
      obtain ⟨hq, hok⟩ := wrE_zero hw
      obtain ⟨a, rfl⟩ : ∃ a : Nat, q = (a : Int) := ⟨q.toNat, by have := hq.1; omega⟩
      rw [Int.toNat_natCast] at hok
      obtain ⟨e1, e2, e3, e4⟩ := sc_seg a (bytesP xs) hok
      have e5 : fiQ (segB a (bytesP xs)) = a := by unfold fiQ; rw [if_pos e1, e2]
      have e6 : scW (segB a (bytesP xs)) = true := by unfold scW; rw [if_pos e1, e4]; exact decide_eq_true rfl
      have hSL : (segB a (bytesP xs)).length = segN (bytesP xs) := segB_length _ _
      have HSC1 := Lib.hid (fun W => SScan_any (S (segB a (bytesP xs))) (by rw [S_size, hSL]; omega) W)
      rw [S_list, e1, e5, e3, e4, e6, show ((0 : Nat) : Int) = 0 from rfl] at HSC1
      have HV := Lib.hid (show joV (a : Int) xs = .returned (.tuple #[.string (S (segB a (bytesP xs))), .int .i64 0]) by unfold joV joB; rw [hj, if_pos rfl, Int.toNat_natCast]; rfl)
      have HRQ := Lib.hid (row_q (bytesP xs) a 16 hok)
      have hlen : (rowF a 16 (bytesP xs)).length = xs.length := by rw [rowF_length, bytesP_len]
      have HRL := Lib.hid (show (rowF a 16 (bytesP xs)).length ≤ 100000000 by rw [hlen]; have := HS1.out; omega)
      have HRL2 := Lib.hid (show (rowF a 16 (bytesP xs)).length ≤ 1000000 by rw [hlen]; have := HS1.out; omega)
      have HLL := Lib.hid (show xs.length ≤ 1000000 by have := HS1.out; omega)
      have HNR := Lib.hid (nx_row (bytesP xs) a 16)
      have hTS : (S (segB a (bytesP xs))).size = (segB a (bytesP xs)).length := S_size _
      have HAB := Lib.hid (show ∀ y, A = some y → 0 < xs.length → y.block < w.heap.size from fun y hy hp => by obtain ⟨b, o, e, h1, _⟩ := HX.out 0 hp; rw [hy] at e; injection e with e; rw [e]; exact h1)
      have HA1 := Lib.hid (show wrap64 ((a : Int) + (xs.length : Int)) = (a : Int) + (xs.length : Int) from IntWalk.wrap64_in _ ⟨by omega, by have := HS1.out; have := hq.2; omega⟩)
      have HA2 := Lib.hid (show IntKind.i64.wrap ((a : Int) + (xs.length : Int)) = (a : Int) + (xs.length : Int) from IntWalk.i64_in _ ⟨by omega, by have := HS1.out; have := hq.2; omega⟩)
      have hbl : ((bytesP xs).length : Int) = (xs.length : Int) := by rw [bytesP_len]
      rw [hbl] at HNR
      clear hj hw hn hq hok e1 e2 e3 e4 e5 e6 hSL hlen hbl hs2
      generalize S (segB a (bytesP xs)) = T at *
      generalize (segB a (bytesP xs)).length = G at *
      subst hTS
      go_enter Tryz.func7, Tryz.ntmps7
      go_wp2_with fail
      refine HMA.out.mono ?_
      rintro e w1 ⟨rfl, rfl⟩
      go_wp2_with fail
      refine (HAW.out w HE.out).mono ?_
      rintro e w1 ⟨rfl, hb⟩
      have HB := Lib.hid hb
      clear hb
      go_wp2_with fail
      refine (HXB.out w1 HB.out).mono ?_
      rintro e w2 ⟨rfl, hb⟩
      replace HB := Lib.hid (HB.out.trans (hb.mono HB.out.size))
      clear hb
      rw [HV.out]
      go_wp2_with fail
      refine (HSC1.out w2).mono ?_
      rintro e w3 ⟨A1, c1, rfl, ho, hb⟩
      obtain ⟨A1', c1', he, -, -, hrow, -⟩ := ho.row
      cases he
      replace HB := Lib.hid (HB.out.trans (hb.mono HB.out.size))
      obtain ⟨w4, hw4⟩ : ∃ w4, w3.alloc (.cells #[.int .i64 (a : Int), .slice A1 (rowF a 16 (bytesP xs)).length c1, .int .i64 (T.size : Int), .bool true] 46) = w4 := ⟨_, rfl⟩
      have hb4 : Below w3.heap.size w3 w4 := by rw [← hw4]; exact (Below.refl _ _).alloc (Nat.le_refl _) _
      have HX4 := Lib.hid (show SBx w4 w3.heap.size (a : Int) (.slice A1 (rowF a 16 (bytesP xs)).length c1) (T.size : Int) true by rw [← hw4]; exact heap_alloc_new w3 _)
      have HZ4 := Lib.hid (show w3.heap.size < w4.heap.size by rw [← hw4]; simp)
      have HR4 := Lib.hid (hrow.below hb4)
      replace HB := Lib.hid (HB.out.trans (hb4.mono HB.out.size))
      have HW4 := Lib.hid hw4
      have HNX := Lib.hid (fun W (hr : RowFr W A1 (rowF a 16 (bytesP xs))) => Next_any (a : Int) A1 c1 (rowF a 16 (bytesP xs)) (T.size : Int) true W hr HRQ.out HRL.out)
      rw [HNR.out] at HNX
      clear hb ho hrow hb4 hw4
      go_wp2_with fail
      rw [HW4.out]
      refine (HNX.out w4 HR4.out).mono ?_
      rintro e w5 ⟨rfl, hb⟩
      have hX5 : SBx w5 w3.heap.size (a : Int) (.slice A1 (rowF a 16 (bytesP xs)).length c1) (T.size : Int) true := (hb.block _ HZ4.out).trans HX4.out
      obtain ⟨⟨c0, cc1, cc2, cc3⟩, -⟩ := hX5.facts
      have HR5 := Lib.hid (HR4.out.below hb)
      replace HB := Lib.hid (HB.out.trans (hb.mono HB.out.size))
      clear hb hX5
      have hadd := HA1.out
      have hadd2 := HA2.out
      go_wp2_with fail
      clear hadd hadd2
      refine (payloads_any A1 c1 (rowF a 16 (bytesP xs)) HRL2.out w5 HR5.out).mono ?_
      rintro e w6 ⟨v, rfl, ho, hb⟩
      rw [paysF_row] at ho
      obtain ⟨A2, c2, -, -, -, -⟩ := ho.row
      obtain ⟨A2, c2, rfl, -, -, -⟩ := ho.row
      have hB6 := HB.out.trans (hb.mono HB.out.size)
      have hx6 := HX.out.below hB6
      have HTX := Lib.hid (texts_any w5.heap.size A2 A c2 cap xs HLL.out w6 ho hx6 (fun x y h1 h2 hp => by
        have k1 := own_block ho x.block (slice_own h1)
        have k2 := HAB.out y h2 hp
        have k3 := HB.out.size
        omega))
      have hnil : ∀ r, (Value.slice A2 xs.length c2).ownBlock = some r → w.heap.size ≤ r := fun r hr => by
        have k1 := own_block ho r hr
        have k3 := HB.out.size
        omega
      have HN6 := Lib.hid hnil
      replace HB := Lib.hid hB6
      clear hb hB6 hx6 ho hnil
      go_wp2_with fail
      refine HTX.out.mono ?_
      rintro e w7 ⟨rfl, hg⟩
      replace HB := Lib.hid (hg.below HB.out (Nat.le_refl _) HN6.out)
      clear hg
      by_cases h0 : fiE s.data.toList = 0
      · obtain ⟨a1, a2, a3, a4, a5⟩ := sc_again s.data.toList h0
        have hz : s.data.toList.length = s.size := by simp
        obtain ⟨j1, j2⟩ := sc_join s.data.toList h0 (by have := HSZ.out; omega)
        have eQ : fiQ s.data.toList = fiN s.data.toList := if_pos h0
        have eW : scW s.data.toList = decide (scG s.data.toList = s.size) := by unfold scW; rw [if_pos h0, hz]
        have hlen : (scL s.data.toList).length ≤ 1000000 := by
          have e := segB_length (fiN s.data.toList) (pays (scL s.data.toList))
          have h2 := segN_ge (pays (scL s.data.toList))
          rw [pays_len] at h2
          rw [a2, List.length_take] at e
          have := HSZ.out
          omega
        have HLE := Lib.hid hlen
        have HPS := Lib.hid (show ∀ y ∈ paysF (scL s.data.toList), y.size ≤ maxLen from fun y hy => by
          have hb := bytesP_pays (scL s.data.toList)
          have hm : y.data.toList ∈ bytesP (paysF (scL s.data.toList)) := by unfold bytesP; exact List.mem_map_of_mem hy
          rw [hb] at hm
          have := (a1.2 _ hm).2
          have e : y.data.toList.length = y.size := by simp
          unfold maxLen; omega)
        have HV2 := Lib.hid (show joV (fiN s.data.toList : Int) (paysF (scL s.data.toList)) = .returned (.tuple #[.string (S (s.data.toList.take (scG s.data.toList))), .int .i64 0]) by unfold joV; rw [bytesP_pays, j1, j2]; rfl)
        have HPL := Lib.hid (show (paysF (scL s.data.toList)).length ≤ 1000000 by rw [paysF_len]; exact hlen)
        have hsl : ∀ W, (Instr.slice 9 (.string s) none (some (.int .i64 (scG s.data.toList : Int))) none).run Tryz.prog W = .ok (.string (S (s.data.toList.take (scG s.data.toList)))) W := fun W => slice_to s.data.toList (scG s.data.toList) (by omega) W
        have g1 : (16 : Int) ≤ (scG s.data.toList : Int) := by omega
        have g2 : (scG s.data.toList : Int) ≤ (s.size : Int) := by omega
        have g3 : ((scG s.data.toList : Int) == (s.size : Int)) = scW s.data.toList := by
          rw [eW]
          by_cases e : scG s.data.toList = s.size
          · rw [decide_eq_true e, beq_iff_eq]; omega
          · rw [decide_eq_false e, beq_eq_false_iff_ne]; omega
        have G1 := Lib.hid (And.intro g1 (And.intro g2 (And.intro g3 hsl)))
        rw [eQ, h0, show ((0 : Nat) : Int) = 0 from rfl] at HSC2
        clear a1 a2 a3 a4 a5 j1 j2 eQ eW hlen hz g1 g2 g3 hsl h0
        generalize S (s.data.toList.take (scG s.data.toList)) = TG at *
        generalize scW s.data.toList = WW at *
        generalize scG s.data.toList = GG at *
        generalize fiN s.data.toList = NN at *
        generalize scL s.data.toList = L at *
        go_wp2_with fail
        refine (HSC2.out _).mono ?_
        rintro e w8 ⟨A3, c3, rfl, ho, hb⟩
        obtain ⟨A3', c3', he, -, -, hrow, -⟩ := ho.row
        cases he
        replace HB := Lib.hid (HB.out.trans (hb.mono HB.out.size))
        obtain ⟨w9, hw9⟩ : ∃ w9, w8.alloc (.cells #[.int .i64 (NN : Int), .slice A3 L.length c3, .int .i64 (GG : Int), .bool WW] 46) = w9 := ⟨_, rfl⟩
        have hb9 : Below w8.heap.size w8 w9 := by rw [← hw9]; exact (Below.refl _ _).alloc (Nat.le_refl _) _
        have HX9 := Lib.hid (show SBx w9 w8.heap.size (NN : Int) (.slice A3 L.length c3) (GG : Int) WW by rw [← hw9]; exact heap_alloc_new w8 _)
        have HZ9 := Lib.hid (show w8.heap.size < w9.heap.size by rw [← hw9]; simp)
        have HR9 := Lib.hid (hrow.below hb9)
        replace HB := Lib.hid (HB.out.trans (hb9.mono HB.out.size))
        have HW9 := Lib.hid hw9
        have HPA : Hid (∀ n, Calls Tryz.prog 34 #[.slice A3 L.length c3] (w9.drewN n) fun e w' => ∃ v, e = .returned v ∧ OwnS w' w9.heap.size v (paysF L) ∧ Below w9.heap.size w9 w') :=
          Lib.hid (fun n => (payloads_any A3 c3 L HLE.out (w9.drewN n) HR9.out).mono fun e w' ⟨v, h1, h2, h3⟩ => ⟨v, h1, h2, (below_dn w9.heap.size n w9).trans h3⟩)
        clear hb ho hrow hb9 hw9
        go_wp2_with fail
        rw [HW9.out]
        obtain ⟨⟨c0, cc1, cc2, cc3⟩, -⟩ := HX9.out.facts
        have hfm : Tryz.prog.follows .mixedOrders = true := by kernel_rfl
        go_region_with (first | (go_at_call 34; (first | refine (HPA.out _).mono ?_ | refine (HPA.out 1).mono ?_ | refine (HPA.out 0).mono ?_); rintro e wp ⟨v, rfl, ho, hbp⟩; obtain ⟨A4, c4, rfl, -, -, hst⟩ := ho.strs HPS.out; (have HXP := Lib.hid (show SBx wp w8.heap.size (NN : Int) (.slice A3 L.length c3) (GG : Int) WW from (hbp.block _ HZ9.out).trans HX9.out)); (have k0 := HXP.out.facts.1.1); (have HBP := Lib.hid (HB.out.trans (hbp.mono HB.out.size))); (have HJN : Hid (∀ n, Calls Tryz.prog 16 #[.int .i64 (NN : Int), .slice A4 (paysF L).length c4] (wp.drewN n) fun e w' => e = joV (NN : Int) (paysF L) ∧ Below wp.heap.size wp w') := Lib.hid (fun n => (Join_any (NN : Int) A4 c4 (paysF L) HPL.out (wp.drewN n) hst).mono fun e w' ⟨h1, h2⟩ => ⟨h1, (below_dn wp.heap.size n wp).trans h2⟩)); clear ho hbp hst) | (go_at_call 16; (first | refine (HJN.out _).mono ?_ | refine (HJN.out 1).mono ?_ | refine (HJN.out 0).mono ?_); rw [HV2.out]; rintro e wj ⟨rfl, hbj⟩))
        all_goals
          have hXJ : SBx wj w8.heap.size (NN : Int) (.slice A3 L.length c3) (GG : Int) WW := (hbj.block _ (row_lt HXP.out)).trans HXP.out
          obtain ⟨⟨d0, d1, d2, d3⟩, -⟩ := hXJ.facts
          have HBJ := Lib.hid (HBP.out.trans (hbj.mono HBP.out.size))
          obtain ⟨g1, g2, g3, hsl⟩ := G1.out
          clear hbj hXJ c0 cc1 cc2 cc3 k0
          go_wp2_with fail
          go_ret
          first | exact ⟨rfl, HBJ.out⟩ | exact ⟨rfl, HBJ.out.trans (below_dn _ _ _)⟩
      · obtain ⟨k1, k2, k3, k4, k5⟩ := nat_ne h0
        have eQ : fiQ s.data.toList = 0 := if_neg h0
        have eL : scL s.data.toList = [] := if_neg h0
        have eG : scG s.data.toList = 0 := if_neg h0
        have eW : scW s.data.toList = false := if_neg h0
        rw [eQ, eL, eG, eW, show ((0 : Nat) : Int) = 0 from rfl] at HSC2
        clear eQ eL eG eW h0
        generalize fiE s.data.toList = y at *
        go_wp2_with fail
        refine (HSC2.out _).mono ?_
        rintro e w8 ⟨A3, c3, rfl, ho, hb⟩
        have HB8 := Lib.hid (HB.out.trans (hb.mono HB.out.size))
        clear hb ho
        go_wp2_with fail
        go_ret
        exact ⟨rfl, HB8.out.alloc HB8.out.size _⟩
  · as_aux_lemma =>
      obtain ⟨q1, q2, q3, q4, q5⟩ := nat_ne hj
      have HV : Hid (joV q xs = .returned (.tuple #[.string (S (joB q (bytesP xs))), .int .i64 (joE q (bytesP xs) : Int)])) := Lib.hid rfl
      clear hj hs2
      generalize S (joB q (bytesP xs)) = T at *
      generalize joE q (bytesP xs) = x at *
      go_enter Tryz.func7, Tryz.ntmps7
      go_wp2_with fail
      refine HMA.out.mono ?_
      rintro e w1 ⟨rfl, rfl⟩
      go_wp2_with fail
      refine (HAW.out w HE.out).mono ?_
      rintro e w1 ⟨rfl, hb⟩
      have HB := Lib.hid hb
      clear hb
      go_wp2_with fail
      refine (HXB.out w1 HB.out).mono ?_
      rintro e w2 ⟨rfl, hb⟩
      replace HB := Lib.hid (HB.out.trans (hb.mono HB.out.size))
      clear hb
      rw [HV.out]
      by_cases h0 : fiE s.data.toList = 0
      · obtain ⟨a1, a2, a3, a4, a5⟩ := sc_again s.data.toList h0
        have hz : s.data.toList.length = s.size := by simp
        obtain ⟨j1, j2⟩ := sc_join s.data.toList h0 (by have := HSZ.out; omega)
        have eQ : fiQ s.data.toList = fiN s.data.toList := if_pos h0
        have eW : scW s.data.toList = decide (scG s.data.toList = s.size) := by unfold scW; rw [if_pos h0, hz]
        have hlen : (scL s.data.toList).length ≤ 1000000 := by
          have e := segB_length (fiN s.data.toList) (pays (scL s.data.toList))
          have h2 := segN_ge (pays (scL s.data.toList))
          rw [pays_len] at h2
          rw [a2, List.length_take] at e
          have := HSZ.out
          omega
        have HLE := Lib.hid hlen
        have HPS := Lib.hid (show ∀ y ∈ paysF (scL s.data.toList), y.size ≤ maxLen from fun y hy => by
          have hb := bytesP_pays (scL s.data.toList)
          have hm : y.data.toList ∈ bytesP (paysF (scL s.data.toList)) := by unfold bytesP; exact List.mem_map_of_mem hy
          rw [hb] at hm
          have := (a1.2 _ hm).2
          have e : y.data.toList.length = y.size := by simp
          unfold maxLen; omega)
        have HV2 := Lib.hid (show joV (fiN s.data.toList : Int) (paysF (scL s.data.toList)) = .returned (.tuple #[.string (S (s.data.toList.take (scG s.data.toList))), .int .i64 0]) by unfold joV; rw [bytesP_pays, j1, j2]; rfl)
        have HPL := Lib.hid (show (paysF (scL s.data.toList)).length ≤ 1000000 by rw [paysF_len]; exact hlen)
        have hsl : ∀ W, (Instr.slice 9 (.string s) none (some (.int .i64 (scG s.data.toList : Int))) none).run Tryz.prog W = .ok (.string (S (s.data.toList.take (scG s.data.toList)))) W := fun W => slice_to s.data.toList (scG s.data.toList) (by omega) W
        have g1 : (16 : Int) ≤ (scG s.data.toList : Int) := by omega
        have g2 : (scG s.data.toList : Int) ≤ (s.size : Int) := by omega
        have g3 : ((scG s.data.toList : Int) == (s.size : Int)) = scW s.data.toList := by
          rw [eW]
          by_cases e : scG s.data.toList = s.size
          · rw [decide_eq_true e, beq_iff_eq]; omega
          · rw [decide_eq_false e, beq_eq_false_iff_ne]; omega
        have G1 := Lib.hid (And.intro g1 (And.intro g2 (And.intro g3 hsl)))
        rw [eQ, h0, show ((0 : Nat) : Int) = 0 from rfl] at HSC2
        clear a1 a2 a3 a4 a5 j1 j2 eQ eW hlen hz g1 g2 g3 hsl h0
        generalize S (s.data.toList.take (scG s.data.toList)) = TG at *
        generalize scW s.data.toList = WW at *
        generalize scG s.data.toList = GG at *
        generalize fiN s.data.toList = NN at *
        generalize scL s.data.toList = L at *
        go_wp2_with fail
        refine (HSC2.out _).mono ?_
        rintro e w8 ⟨A3, c3, rfl, ho, hb⟩
        obtain ⟨A3', c3', he, -, -, hrow, -⟩ := ho.row
        cases he
        replace HB := Lib.hid (HB.out.trans (hb.mono HB.out.size))
        obtain ⟨w9, hw9⟩ : ∃ w9, w8.alloc (.cells #[.int .i64 (NN : Int), .slice A3 L.length c3, .int .i64 (GG : Int), .bool WW] 46) = w9 := ⟨_, rfl⟩
        have hb9 : Below w8.heap.size w8 w9 := by rw [← hw9]; exact (Below.refl _ _).alloc (Nat.le_refl _) _
        have HX9 := Lib.hid (show SBx w9 w8.heap.size (NN : Int) (.slice A3 L.length c3) (GG : Int) WW by rw [← hw9]; exact heap_alloc_new w8 _)
        have HZ9 := Lib.hid (show w8.heap.size < w9.heap.size by rw [← hw9]; simp)
        have HR9 := Lib.hid (hrow.below hb9)
        replace HB := Lib.hid (HB.out.trans (hb9.mono HB.out.size))
        have HW9 := Lib.hid hw9
        have HPA : Hid (∀ n, Calls Tryz.prog 34 #[.slice A3 L.length c3] (w9.drewN n) fun e w' => ∃ v, e = .returned v ∧ OwnS w' w9.heap.size v (paysF L) ∧ Below w9.heap.size w9 w') :=
          Lib.hid (fun n => (payloads_any A3 c3 L HLE.out (w9.drewN n) HR9.out).mono fun e w' ⟨v, h1, h2, h3⟩ => ⟨v, h1, h2, (below_dn w9.heap.size n w9).trans h3⟩)
        clear hb ho hrow hb9 hw9
        go_wp2_with fail
        rw [HW9.out]
        obtain ⟨⟨c0, cc1, cc2, cc3⟩, -⟩ := HX9.out.facts
        have hfm : Tryz.prog.follows .mixedOrders = true := by kernel_rfl
        go_region_with (first | (go_at_call 34; (first | refine (HPA.out _).mono ?_ | refine (HPA.out 1).mono ?_ | refine (HPA.out 0).mono ?_); rintro e wp ⟨v, rfl, ho, hbp⟩; obtain ⟨A4, c4, rfl, -, -, hst⟩ := ho.strs HPS.out; (have HXP := Lib.hid (show SBx wp w8.heap.size (NN : Int) (.slice A3 L.length c3) (GG : Int) WW from (hbp.block _ HZ9.out).trans HX9.out)); (have k0 := HXP.out.facts.1.1); (have HBP := Lib.hid (HB.out.trans (hbp.mono HB.out.size))); (have HJN : Hid (∀ n, Calls Tryz.prog 16 #[.int .i64 (NN : Int), .slice A4 (paysF L).length c4] (wp.drewN n) fun e w' => e = joV (NN : Int) (paysF L) ∧ Below wp.heap.size wp w') := Lib.hid (fun n => (Join_any (NN : Int) A4 c4 (paysF L) HPL.out (wp.drewN n) hst).mono fun e w' ⟨h1, h2⟩ => ⟨h1, (below_dn wp.heap.size n wp).trans h2⟩)); clear ho hbp hst) | (go_at_call 16; (first | refine (HJN.out _).mono ?_ | refine (HJN.out 1).mono ?_ | refine (HJN.out 0).mono ?_); rw [HV2.out]; rintro e wj ⟨rfl, hbj⟩))
        all_goals
          have hXJ : SBx wj w8.heap.size (NN : Int) (.slice A3 L.length c3) (GG : Int) WW := (hbj.block _ (row_lt HXP.out)).trans HXP.out
          obtain ⟨⟨d0, d1, d2, d3⟩, -⟩ := hXJ.facts
          have HBJ := Lib.hid (HBP.out.trans (hbj.mono HBP.out.size))
          obtain ⟨g1, g2, g3, hsl⟩ := G1.out
          clear hbj hXJ c0 cc1 cc2 cc3 k0
          go_wp2_with fail
          go_ret
          first | exact ⟨rfl, HBJ.out⟩ | exact ⟨rfl, HBJ.out.trans (below_dn _ _ _)⟩
      · obtain ⟨k1, k2, k3, k4, k5⟩ := nat_ne h0
        have eQ : fiQ s.data.toList = 0 := if_neg h0
        have eL : scL s.data.toList = [] := if_neg h0
        have eG : scG s.data.toList = 0 := if_neg h0
        have eW : scW s.data.toList = false := if_neg h0
        rw [eQ, eL, eG, eW, show ((0 : Nat) : Int) = 0 from rfl] at HSC2
        clear eQ eL eG eW h0
        generalize fiE s.data.toList = y at *
        go_wp2_with fail
        refine (HSC2.out _).mono ?_
        rintro e w8 ⟨A3, c3, rfl, ho, hb⟩
        have HB8 := Lib.hid (HB.out.trans (hb.mono HB.out.size))
        clear hb ho
        go_wp2_with fail
        go_ret
        exact ⟨rfl, HB8.out.alloc HB8.out.size _⟩
end Go.Proofs.YtkccdffccjgajaaGreatDoor.Seg
