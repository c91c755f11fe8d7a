/-
  The walk of the statement WireOne.
-/
import Derived.Test.YtdllncbacbpedaaB19
namespace Go.Proofs.Ytdllncbacbpedaa.Wire
open Go.RowKit

structure OneI (w : World) (s : ByteArray) (r p i e : Nat) (wr : World) : Prop where
  inv : Inv w.heap.size w p (s.data.toList.take i) wr
  rd : Rd wr r s i e
  le : i ≤ s.size
  low : w.heap.size ≤ r
theorem OneI.drewN {w : World} {s : ByteArray} {r p i e : Nat} {wr : World} (h : OneI w s r p i e wr) (n : Nat) : OneI w s r p i e (wr.drewN n) := ⟨h.inv.drewN n, h.rd, h.le, h.low⟩
theorem OneI.below {w : World} {s : ByteArray} {r p i e : Nat} {wr w' : World} (h : OneI w s r p i e wr) (k : Below wr.heap.size wr w') : OneI w s r p i e w' := ⟨h.inv.below k, (k.block r (row_lt h.rd)).trans h.rd, h.le, h.low⟩
/-- an error: nothing was taken -/
theorem OneI.stay {w : World} {s : ByteArray} {r p i e f : Nat} {wr w' : World} (h : OneI w s r p i e wr) (k : Step wr w' r s i f) : OneI w s r p i f w' := ⟨h.inv.step h.low h.rd k, k.1, h.le, h.low⟩
/-- what was read, put behind -/
theorem OneI.put {w : World} {s : ByteArray} {r p i j : Nat} {wr w1 w2 : World} {m : List UInt8} (h : OneI w s r p i 0 wr) (k : Step wr w1 r s j 0) (hj : j ≤ s.size) (hm : s.data.toList.take i ++ m = s.data.toList.take j)
    {w1' : World} (hb : Below w1.heap.size w1 w1') (hw : Wr w.heap.size w2 p (s.data.toList.take i ++ m)) (o : Only w.heap.size w1' w2) : OneI w s r p j 0 w2 := by
  have h1 := (h.inv.step h.low h.rd k).below hb
  have hr : Rd w1' r s j 0 := (hb.block r (row_lt k.1)).trans k.1
  exact ⟨by rw [← hm]; exact h1.put hw o, Wr.only hr o, hj, h.low⟩
theorem take_more (l : List UInt8) (i j : Nat) (h : i ≤ j) : l.take i ++ (l.drop i).take (j - i) = l.take j := by
  conv => rhs; rw [show j = i + (j - i) by omega, List.take_add]
theorem ext0_eq (s : ByteArray) (i : Nat) : ((S (s.data.toList.take i)).toList == (s.extract 0 i).toList) = true := by
  rw [S_toList, ByteArray.toList_eq, Lib.extract_data, List.drop_zero, Nat.sub_zero]
  exact beq_self_eq_true _

set_option maxRecDepth 100000 in
set_option maxHeartbeats 2000000 in
theorem wireOne_walk (s : ByteArray) (A : Option Addr) (cap : Nat) (xs : List It) (w : World) (hs : s.size ≤ maxLen) (hx : Items w A xs w.heap.size) (hl : xs.length ≤ cap) (hcap : cap ≤ maxLen) :
    Calls Try.prog 7 #[.string s, .slice A xs.length cap] w fun e w' => e = .returned (.bool true) ∧ Below w.heap.size w w' := by
  have HX := Lib.hid hx; clear hx
  have HH : Hid (∀ W, Below w.heap.size w W → Calls Try.prog 35 #[.string s, .slice A xs.length cap] W fun e w' => e = .returned (.bool (decide (20000 ≤ s.size + tot xs))) ∧ W = w') := fun W hb =>
    heavy_any s A cap xs W hs (fun i hi => by
      obtain ⟨b, off, h1, h2, h3⟩ := HX.out.below hb i hi
      exact ⟨b, off, h1, by have := hb.size; omega, h3⟩) hl hcap
  by_cases hv : 20000 ≤ s.size + tot xs
  · rw [decide_eq_true hv] at HH
    clear hv
    go_enter Try.func7, Try.ntmps7
    go_wp2_with fail
    refine (works_any w).mono ?_; rintro e w1 ⟨rfl, hb1⟩
    go_wp2_with fail
    refine (HH.out w1 hb1).mono ?_; rintro e w2 ⟨rfl, rfl⟩
    go_wp2_with fail
    refine (carry hb1 (works_any w1)).mono ?_; rintro e w2 ⟨rfl, hb2⟩
    go_wp2_with fail
    go_ret
    exact ⟨rfl, hb2⟩
  · rw [decide_eq_false hv] at HH
    have HV : Hid (s.size + tot xs < 20000) := by show _ < _; omega
    have hs2 : s.size ≤ 20000 := by omega
    have HS : Hid (s.size ≤ 1000000000000) := by show _ ≤ _; omega
    clear hv
    have hlen : xs.length ≤ 9223372036854775807 := by unfold maxLen at hcap; omega
    have u0 : U 0 = 0 := rfl
    go_enter Try.func7, Try.ntmps7
    go_wp2_with fail
    refine (works_any w).mono ?_; rintro e w1 ⟨rfl, hb1⟩
    go_wp2_with fail
    refine (HH.out w1 hb1).mono ?_; rintro e w2 ⟨rfl, rfl⟩
    have HB1 := Lib.hid hb1; clear hb1
    go_wp2_with fail
    refine (new_any s w1).mono ?_; rintro e w2 ⟨rfl, rfl⟩
    have HI0 : Hid (OneI w s w1.heap.size (w1.heap.size + 1) 0 0 ((w1.alloc (.cells (rdS s 0 0) 73)).alloc (.cells #[.pointer none, .int .i64 0] 38))) := by
      have h1 : w.heap.size ≤ (w1.alloc (.cells (rdS s 0 0) 73)).heap.size := by have := HB1.out.size; simp; omega
      have h2 : (w1.alloc (.cells (rdS s 0 0) 73)).heap.size = w1.heap.size + 1 := by simp
      refine ⟨⟨(HB1.out.alloc HB1.out.size _).alloc h1 _, ?_⟩, rd_alloc (Rd.new s w1) _, Nat.zero_le _, HB1.out.size⟩
      have := Wr.new (w := w1.alloc (.cells (rdS s 0 0) 73)) h1
      rw [h2] at this
      exact this
    have HLr : Hid (w.heap.size ≤ w1.heap.size) := HB1.out.size
    go_wp2_with fail
    generalize w1.heap.size = r at *
    go_loopw [7] (fun t wr => ∃ k i e : Nat, k ≤ xs.length ∧ t = .int .i64 k ∧ Hid (OneI w s r (r + 1) i e wr)) (fun t _ => xs.length - (intOf t).toNat)
    case atStart => exact ⟨0, 0, 0, Nat.zero_le _, rfl, HI0⟩
    case round =>
      obtain ⟨k, i, e, hk, rfl, HI⟩ := hrel
      by_cases hlt : k < xs.length
      · have HXr := Lib.hid (HX.out.below HI.out.inv.bel)
        obtain ⟨b, off, hA, hB, c0, c1, c2, c3, hok⟩ := HXr.out k hlt
        have HOK := Lib.hid hok
        have HBb := Lib.hid hB
        subst hA
        clear hok hB
        generalize hX : xs[k] = x at *
        have HXk := Lib.hid hX; clear hX
        have hk0 : (0 : Int) ≤ (k : Int) := by omega
        have hk1 : (k : Int) < (xs.length : Int) := by omega
        by_cases he : e = 0
        · subst he
          by_cases hf : (gt s i 0 x).2.2 = 0
          · obtain ⟨_, g1, g2, g3, g4⟩ := gt_ok hf
            have HG : Hid (∃ V T j, gt s i 0 x = ((V, T), j, 0) ∧ i ≤ j ∧ j ≤ s.size ∧ (s.data.toList.drop i).take (j - i) = wrB (back x V T) ∧ V < 18446744073709551616 ∧ T.size ≤ s.size) :=
              ⟨_, _, _, Prod.ext rfl (Prod.ext rfl hf), g1, gt_le s i 0 x HI.out.le, g2, g3, g4⟩
            clear hf g1 g2 g3 g4
            obtain ⟨V, T, j, hG, hij, hjs, hwr, hV, hT⟩ := HG.out
            have HG2 := Lib.hid hG; have HIJ := Lib.hid hij; have HJS := Lib.hid hjs; have HWR := Lib.hid hwr; have HV2 := Lib.hid hV; have HT2 := Lib.hid hT
            clear hG hij hjs hwr hV hT HG
            have HOK2 : Hid (back x V T).ok := ⟨HOK.out.1, HV2.out, by have := HT2.out; unfold back; show T.size ≤ maxLen; unfold maxLen; omega, HOK.out.2.2.2.1, HOK.out.2.2.2.2⟩
            have c0s := c0; have c1s := c1; have c2s := c2; have c3s := c3
            have C0 := Lib.hid c0s; have C1 := Lib.hid c1s; have C2 := Lib.hid c2s; have C3 := Lib.hid c3s
            clear c0s c1s c2s c3s
            go_wp2_with fail
            refine (err_any r s i 0 wr HI.out.rd).mono ?_; rintro z w3 ⟨rfl, n3, rfl⟩
            have hea : errAt i 0 = 0 := rfl
            rw [hea]; clear hea
            go_wp2_with fail
            refine (at_any r s i 0 (wr.drewN n3) HI.out.rd).mono ?_; rintro z w4 ⟨rfl, rfl⟩
            go_wp2_with fail
            refine (lget_any r s i 0 x (wr.drewN n3) HI.out.rd HI.out.le HS.out HOK.out).mono ?_; rintro z w4 ⟨rfl, hst⟩
            rw [HG2.out] at hst ⊢
            have HST := Lib.hid hst
            have HBw := Lib.hid (step_low (B := w.heap.size) hst HI.out.low HI.out.inv.wr.low)
            clear hst
            go_wp2_with fail
            refine (err_any r s j 0 w4 HST.out.1).mono ?_; rintro z w5 ⟨rfl, n5, rfl⟩
            have hea : errAt j 0 = 0 := rfl
            rw [hea]; clear hea
            have HBw2 : Hid (Below w.heap.size wr (w4.drewN n5)) := ⟨HBw.out.os, HBw.out.tape, HBw.out.output, HBw.out.size, HBw.out.block⟩
            have HSTd : Hid (Step (wr.drewN n3) (w4.drewN n5) r s j 0) := HST.out.drewN n5
            clear HBw HST
            generalize w4.drewN n5 = W at *
            have hB := HBb.out
            have c0 := (HBw2.out.cell (p := ⟨b, off + k * 4, none⟩) hB).trans C0.out
            have c1 := (HBw2.out.cell (p := ⟨b, off + k * 4 + 1, none⟩) hB).trans C1.out
            have c2 := (HBw2.out.cell (p := ⟨b, off + k * 4 + 2, none⟩) hB).trans C2.out
            have c3 := (HBw2.out.cell (p := ⟨b, off + k * 4 + 3, none⟩) hB).trans C3.out
            clear hB
            go_wp2_with fail
            refine (lput_any (W.alloc (.cells #[.int .u8 (x.k : Int), .int .u64 (U V), .string T, .int .i64 x.m] 56)) w.heap.size (r + 1) (s.data.toList.take i) (back x V T) ((HI.out.drewN n3).inv.step HI.out.low HI.out.rd HSTd.out |>.alloc _).wr HOK2.out (by have := HT2.out; have hq : s.data.toList.length = s.size := rfl; rw [List.length_take, hq]; show _ + T.size + 20 ≤ _; omega)).mono ?_; rintro z w6 ⟨rfl, h1, o1⟩
            have HI2 := Lib.hid ((HI.out.drewN n3).put (m := wrB (back x V T)) HSTd.out HJS.out (by rw [← HWR.out]; exact take_more _ _ _ HIJ.out) ((Below.refl _ _).alloc (Nat.le_refl _) _) h1 o1); clear h1 o1
            go_wp2_with fail
            go_roundw
            case rel => exact ⟨k + 1, j, 0, by omega, by go_num, HI2⟩
            case measure => simp [intOf] <;> omega
          · have hE := gt_err hf
            have HG : Hid (gt s i 0 x = ((0, ⟨#[]⟩), i, (gt s i 0 x).2.2)) := Prod.ext hE.1 (Prod.ext hE.2 rfl)
            clear hE
            generalize hff : (gt s i 0 x).2.2 = f at *
            have HFF := Lib.hid hff; clear hff
            have hb1 : ((f : Int) != 0) = true := by rw [bne_iff_ne]; omega
            have hb2 : ((f : Int) == 0) = false := by rw [beq_eq_false_iff_ne]; omega
            have HEA : Hid (errAt i f = i) := if_neg hf
            clear hf
            go_wp2_with fail
            refine (err_any r s i 0 wr HI.out.rd).mono ?_; rintro z w3 ⟨rfl, n3, rfl⟩
            have hea : errAt i 0 = 0 := rfl
            rw [hea]; clear hea
            go_wp2_with fail
            refine (at_any r s i 0 (wr.drewN n3) HI.out.rd).mono ?_; rintro z w4 ⟨rfl, rfl⟩
            go_wp2_with fail
            refine (lget_any r s i 0 x (wr.drewN n3) HI.out.rd HI.out.le HS.out HOK.out).mono ?_; rintro z w4 ⟨rfl, hst⟩
            rw [HG.out] at hst ⊢
            have HST := Lib.hid hst; clear hst
            go_wp2_with fail
            refine (err_any r s i f w4 HST.out.1).mono ?_; rintro z w5 ⟨rfl, n5, rfl⟩
            rw [HEA.out]
            go_wp2_with fail
            refine (at_any r s i f (w4.drewN n5) HST.out.1).mono ?_; rintro z w6 ⟨rfl, rfl⟩
            have HI2 := Lib.hid ((HI.out.drewN n3).stay (HST.out.drewN n5))
            go_wp2_with fail
            go_roundw
            case rel => exact ⟨k + 1, i, f, by omega, by go_num, HI2⟩
            case measure => simp [intOf] <;> omega
        · have HG : Hid (gt s i e x = ((0, ⟨#[]⟩), i, e)) := gt_stuck he
          have hb1 : ((e : Int) != 0) = true := by rw [bne_iff_ne]; omega
          have hb2 : ((e : Int) == 0) = false := by rw [beq_eq_false_iff_ne]; omega
          have HEA : Hid (errAt i e = i) := if_neg he
          clear he
          go_wp2_with fail
          refine (err_any r s i e wr HI.out.rd).mono ?_; rintro z w3 ⟨rfl, n3, rfl⟩
          rw [HEA.out]
          go_wp2_with fail
          refine (at_any r s i e (wr.drewN n3) HI.out.rd).mono ?_; rintro z w4 ⟨rfl, rfl⟩
          go_wp2_with fail
          refine (lget_any r s i e x (wr.drewN n3) HI.out.rd HI.out.le HS.out HOK.out).mono ?_; rintro z w4 ⟨rfl, hst⟩
          rw [HG.out] at hst ⊢
          have HST := Lib.hid hst; clear hst
          go_wp2_with fail
          refine (err_any r s i e w4 HST.out.1).mono ?_; rintro z w5 ⟨rfl, n5, rfl⟩
          rw [HEA.out]
          go_wp2_with fail
          refine (at_any r s i e (w4.drewN n5) HST.out.1).mono ?_; rintro z w6 ⟨rfl, rfl⟩
          have HI2 := Lib.hid ((HI.out.drewN n3).stay (HST.out.drewN n5))
          go_wp2_with fail
          refine (at_any r s i e (w4.drewN n5) HST.out.1).mono ?_; rintro z w6 ⟨rfl, rfl⟩
          go_wp2_with fail
          go_roundw
          case rel => exact ⟨k + 1, i, e, by omega, by go_num, HI2⟩
          case measure => simp [intOf] <;> omega
      · obtain rfl : k = xs.length := by omega
        have hq := ext0_eq s i
        have hz1 : (i : Int) ≤ (s.size : Int) := by have := HI.out.le; omega
        have hz0 : (0 : Int) ≤ (i : Int) := by omega
        go_wp2_with fail
        refine (bytes_any wr w.heap.size (r + 1) _ HI.out.inv.wr).mono ?_; rintro z w2 ⟨rfl, n2, rfl⟩
        generalize S (s.data.toList.take i) = Y at *
        go_wp2_with fail
        refine (at_any r s i e (wr.drewN n2) HI.out.rd).mono ?_; rintro z w3 ⟨rfl, rfl⟩
        go_wp2_with fail
        refine (left_any r s i e (wr.drewN n2) HI.out.rd HI.out.le HS.out).mono ?_; rintro z w3 ⟨rfl, n3, rfl⟩
        go_wp2_with fail
        refine (at_any r s i e (wr.drewN (n2 + n3)) HI.out.rd).mono ?_; rintro z w4 ⟨rfl, rfl⟩
        go_wp2_with fail
        go_ret
        exact ⟨rfl, (HI.out.inv.drewN _).bel⟩

end Go.Proofs.Ytdllncbacbpedaa.Wire
