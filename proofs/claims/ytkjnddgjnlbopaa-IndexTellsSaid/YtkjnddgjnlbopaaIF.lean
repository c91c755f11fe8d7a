import Derived.Test.YtkjnddgjnlbopaaIE
/-
  An index's Build.
-/
namespace Go.Proofs.Ytkjnddgjnlbopaa.Index
open Go Go.RowKit
open Go.Proofs.Ytkjnddgjnlbopaa.Wire (S S_list S_size cell_row frozen_row row_lt heap_set heap_far)
open Go.Proofs.Ytkjnddgjnlbopaa.Frame Go.Proofs.Ytkjnddgjnlbopaa.Seg

/-- where the frames of these payloads stand in a segment -/
def atsP (ps : List (List UInt8)) : List Nat := (List.range ps.length).map fun i => segN (ps.take i)
theorem atsP_len (ps : List (List UInt8)) : (atsP ps).length = ps.length := by unfold atsP; simp
theorem atsP_snoc (ps : List (List UInt8)) (p : List UInt8) : atsP (ps ++ [p]) = atsP ps ++ [segN ps] := by
  unfold atsP
  rw [List.length_append, List.length_singleton, List.range_succ, List.map_append, List.map_singleton, List.take_left]
  congr 1
  refine List.map_congr_left (fun i hi => ?_)
  rw [List.take_append_of_le_length (Nat.le_of_lt (List.mem_range.1 hi))]
theorem atsP_take (ps : List (List UInt8)) (i : Nat) (h : i < ps.length) : atsP (ps.take (i + 1)) = atsP (ps.take i) ++ [segN (ps.take i)] ∧ segN (ps.take (i + 1)) = segN (ps.take i) + (16 + (ps[i]'h).length) := by
  rw [List.take_succ_eq_append_getElem h]
  exact ⟨atsP_snoc _ _, segN_snoc _ _⟩
theorem atsP_at (ps : List (List UInt8)) (i : Nat) (h : i < ps.length) : (atsP ps).getD i 0 = segN (ps.take i) := by
  unfold atsP
  rw [List.getD_eq_getElem?_getD, List.getElem?_map, List.getElem?_range h]; rfl
theorem row_under {w w' : World} {A : Option Addr} {L : List Fr} {n : Nat} (h : RowFr w A L) (hb : Below n w w') (hA : ∀ b o, A = some ⟨b, o, none⟩ → 0 < L.length → b < n) : RowFr w' A L := fun i hi => by
  obtain ⟨b, o, e, h1, h2, h3, h4⟩ := h i hi
  have hn := hA b o e (by omega)
  exact ⟨b, o, e, Nat.lt_of_lt_of_le h1 hb.size, (hb.cell (p := ⟨b, o + i * 3, none⟩) hn).trans h2, (hb.cell (p := ⟨b, o + i * 3 + 1, none⟩) hn).trans h3, (hb.cell (p := ⟨b, o + i * 3 + 2, none⟩) hn).trans h4⟩
set_option maxRecDepth 100000 in
set_option maxHeartbeats 2000000 in
/-- **Build**: of a segment's bytes -/
theorem build_yes (s : ByteArray) (hs : s.size ≤ 10000000) (ev : Nat) (hev : 1 ≤ ev ∧ ev ≤ 64) (h0 : fiE s.data.toList = 0) (w : World) :
    Calls Try.prog 11 #[.string s, .int .i64 (ev : Int)] w fun e w' => ∃ b, w.heap.size ≤ b ∧ e = .returned (.tuple #[.pointer (some ⟨b, 0, none⟩), .int .i64 0]) ∧ Ix w' b b ev (fiN s.data.toList) (atsP (pays (scL s.data.toList))) (scG s.data.toList) ∧ Below w.heap.size w w' := by
  have HSC := Lib.hid (fun W => SScan_any s hs W)
  have hz : s.data.toList.length = s.size := by simp
  obtain ⟨a1, a2, a3, a4, a5⟩ := sc_again s.data.toList h0
  have eQ : fiQ s.data.toList = fiN s.data.toList := if_pos h0
  have hG : scG s.data.toList = segN (pays (scL s.data.toList)) := by
    have := congrArg List.length a2
    rw [segB_length, List.length_take] at this
    omega
  rw [hG]
  rw [eQ, h0, hG, show ((0 : Nat) : Int) = 0 from rfl] at HSC
  have hsz : segN (pays (scL s.data.toList)) ≤ 10000000 := by rw [← hG]; omega
  generalize hps : pays (scL s.data.toList) = ps at *
  rw [← a5] at HSC
  clear hps
  generalize fiN s.data.toList = a at *
  generalize scW s.data.toList = WW at *
  have hlen : (rowF a 16 ps).length = ps.length := rowF_length _ _ _
  have hpl : ps.length ≤ 700000 := by have := segN_ge ps; omega
  have hmono : ∀ i, i ≤ ps.length → segN (ps.take i) ≤ 10000000 := fun i hi => by
    have := rowB_len_take_le 0 ps i ps.length hi
    rw [List.take_length] at this
    unfold segN at *
    omega
  have HMO := Lib.hid hmono
  have HOK := Lib.hid a1
  have HFR := Lib.hid (show ∀ i (h : i < ps.length) (h2 : i < (rowF a 16 ps).length), ((rowF a 16 ps)[i]'h2).p = ps[i]'h from fun i h h2 => by
    have h3 := rowF_at ps a 16 i h
    rw [List.getElem?_eq_getElem h2] at h3
    injection h3 with h3
    rw [h3])
  have HAQ := Lib.hid a1.1
  rw [hlen] at HSC
  have k1 : decide ((ev : Int) < 1) = false := decide_eq_false (by omega)
  have k2 : decide ((64 : Int) < (ev : Int)) = false := decide_eq_false (by omega)
  have k3 : ¬ (64 : Int) < (ev : Int) := by omega
  have k4 : ¬ (ev : Int) < 1 := by omega
  have HEV := Lib.hid hev
  have HPL := Lib.hid hpl
  have HLEN := Lib.hid hlen
  clear a1 a2 a3 a4 a5 eQ hG hsz hmono hlen hpl hz h0 hs hev
  generalize hFR : rowF a 16 ps = FR at *
  clear hFR
  go_enter Try.func11, Try.ntmps11
  go_wp2_with fail
  refine (HSC.out w).mono ?_
  rintro e w3 ⟨A1, c1, rfl, ho, hb3⟩
  obtain ⟨A1', c1', he, -, -, hrow, -⟩ := ho.row
  injection he with he1 he2 he3
  subst he1 he3
  clear he2
  obtain ⟨w4, hw4⟩ : ∃ w4, (w3.alloc (.cells #[.int .i64 (a : Int), .slice A1 ps.length c1, .int .i64 (segN ps : Int), .bool WW] 71)).alloc (.cells #[.int .i64 (ev : Int), .int .i64 (a : Int), .int .i64 (a : Int), .slice none 0 0, .int .i64 16] 75) = w4 := ⟨_, rfl⟩
  have hb4 : Below w3.heap.size w3 w4 := by rw [← hw4]; exact ((Below.refl _ _).alloc (Nat.le_refl _) _).alloc (by simp) _
  have HIX4 := Lib.hid (show Ix w4 (w3.heap.size + 1) (w3.heap.size + 1) ev a (atsP (ps.take 0)) (segN (ps.take 0)) from ⟨.slice none 0 0, by
    rw [← hw4, List.take_zero]
    show ((w3.alloc _).alloc _).heap[w3.heap.size + 1]? = _
    have h := heap_alloc_new (w3.alloc (.cells #[.int .i64 (a : Int), .slice A1 ps.length c1, .int .i64 (segN ps : Int), .bool WW] 71)) (.cells #[.int .i64 (ev : Int), .int .i64 (a : Int), .int .i64 (a : Int), .slice none 0 0, .int .i64 16] 75)
    have e : (w3.alloc (.cells #[.int .i64 (a : Int), .slice A1 ps.length c1, .int .i64 (segN ps : Int), .bool WW] 71)).heap.size = w3.heap.size + 1 := by simp
    rw [e] at h
    exact h, by rw [List.take_zero]; rw [show atsP [] = [] from rfl, mks_nil HEV.out.1]; exact OwnM.nil _ _⟩)
  have HR4 := Lib.hid (hrow.below hb4)
  have HA4 := Lib.hid (show ∀ b o, A1 = some ⟨b, o, none⟩ → 0 < FR.length → b < w3.heap.size + 1 from fun b o e hp => by
    obtain ⟨b2, o2, e2, h2, _⟩ := hrow 0 hp
    rw [e] at e2; injection e2 with e2; injection e2 with e2; omega)
  have HB4 := Lib.hid (hb3.trans (hb4.mono hb3.size))
  have HW4 := Lib.hid hw4
  have HZ3 := Lib.hid hb3.size
  clear hb3 ho hrow hb4 hw4
  go_wp2_with fail
  rw [HW4.out]
  go_loopw [34] (fun y wr => ∃ i : Nat, i ≤ ps.length ∧ y = .int .i64 (i : Int) ∧ Hid (Ix wr (w3.heap.size + 1) (w3.heap.size + 1) ev a (atsP (ps.take i)) (segN (ps.take i))) ∧ Hid (RowFr wr A1 FR) ∧ Hid (Below w.heap.size w wr)) (fun y _ => ps.length - (intOf y).toNat)
  case atStart => exact ⟨0, Nat.zero_le _, rfl, HIX4, HR4, HB4⟩
  case round =>
    clear HIX4 HR4 HB4
    obtain ⟨i, hi, rfl, HIX, HR, HB⟩ := hrel
    by_cases hlt : i < ps.length
    · have hfl : i < FR.length := by rw [HLEN.out]; exact hlt
      obtain ⟨b, o, hA, hb, r0, r1, r2⟩ := HR.out i hfl
      subst hA
      rw [HFR.out i hlt hfl] at r1
      obtain ⟨t1, t2⟩ := atsP_take ps i hlt
      have hok := HOK.out.2 _ (List.getElem_mem hlt)
      have hmo := HMO.out (i + 1) hlt
      have hal : (atsP (ps.take i)).length = i := by rw [atsP_len, List.length_take]; omega
      have haq := HAQ.out
      have hpl := HPL.out
      obtain ⟨k, hk⟩ : ∃ k, (ps[i]'hlt).length = k := ⟨_, rfl⟩
      rw [hk] at t2 hok
      have HSZ := Lib.hid (fun W => Size_any (k : Int) W)
      rw [szI_yes hok] at HSZ
      have HPT := Lib.hid (fun W (h : Ix W (w3.heap.size + 1) (w3.heap.size + 1) ev a (atsP (ps.take i)) (segN (ps.take i))) => put_any W (w3.heap.size + 1) (w3.heap.size + 1) ev a (atsP (ps.take i)) (segN (ps.take i)) (16 + k) h (Nat.le_refl _) HEV.out (by omega) (by omega) (by omega))
      rw [← t1, ← t2, show ((16 + k : Nat) : Int) = 16 + (k : Int) by omega] at HPT
      have hps : (S (ps[i]'hlt)).size = k := by rw [S_size, hk]
      have HI1 : Hid (wrap64 ((i : Int) + 1) = (i : Int) + 1) := Lib.hid (IntWalk.wrap64_in _ ⟨by omega, by omega⟩)
      have j1 : decide ((i : Int) < (ps.length : Int)) = true := decide_eq_true (by omega)
      have j2 : (i : Int) < (ps.length : Int) := by omega
      have j3 : (0 : Int) ≤ (i : Int) := by omega
      have HLT := Lib.hid hlt
      clear t1 t2 hok hmo hal haq hpl hk
      generalize S (ps[i]'hlt) = P at *
      generalize FR[i].q = Q1 at *
      generalize FR[i].i = Q2 at *
      obtain ⟨w5, hw5⟩ : ∃ w5, wr.alloc (.cells #[.int .i64 (Q1 : Int), .string P, .int .i64 (Q2 : Int)] 51) = w5 := ⟨_, rfl⟩
      have hb5 : Below wr.heap.size wr w5 := by rw [← hw5]; exact (Below.refl _ _).alloc (Nat.le_refl _) _
      have HIX5 := Lib.hid (HIX.out.below hb5)
      have HR5 := Lib.hid (HR.out.below hb5)
      have HB5 := Lib.hid (HB.out.trans (hb5.mono HB.out.size))
      have HW5 := Lib.hid hw5
      clear hb5 hw5
      go_wp2_with fail
      refine (HSZ.out _).mono ?_
      rintro e w6 ⟨rfl, rfl⟩
      go_wp2_with fail
      rw [HW5.out]
      refine (HPT.out w5 HIX5.out).mono ?_
      rintro e w7 ⟨rfl, hix, hb7⟩
      have HIX7 := Lib.hid hix
      have HR7 := Lib.hid (row_under HR5.out hb7 HA4.out)
      have HB7 := Lib.hid (HB5.out.trans (hb7.mono (by have := HZ3.out; omega)))
      clear hix hb7 r0 r1 r2
      have hi1 := HI1.out
      go_wp2_with fail
      go_roundw
      case rel => exact ⟨i + 1, HLT.out, by first | rfl | (rw [HI1.out]; rfl), HIX7, HR7, HB7⟩
      case measure => first | (show ps.length - ((i : Int) + 1).toNat < ps.length - (i : Int).toNat; have := HLT.out; omega) | (rw [HI1.out]; show ps.length - ((i : Int) + 1).toNat < ps.length - (i : Int).toNat; have := HLT.out; omega)
    · obtain rfl : i = ps.length := by omega
      rw [List.take_length] at HIX
      have j1 : decide ((ps.length : Int) < (ps.length : Int)) = false := decide_eq_false (by omega)
      go_wp2_with fail
      go_ret2
      exact ⟨_, by have := HZ3.out; omega, rfl, HIX.out, HB.out⟩
end Go.Proofs.Ytkjnddgjnlbopaa.Index
