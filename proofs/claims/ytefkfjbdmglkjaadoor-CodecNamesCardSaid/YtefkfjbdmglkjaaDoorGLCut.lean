import Derived.Test.YtefkfjbdmglkjaaDoorGLUnlike
/-
  The walk of the statement CodecCut.
-/
namespace Go.Proofs.YtefkfjbdmglkjaaDoor.Schema
open Go Go.RowKit
open Go.Proofs.YtefkfjbdmglkjaaDoor.Codec

theorem enc_long {e : Ev} (h : may e = true) : 1 ≤ (encB e).length := by
  rw [encB_is h, List.length_append, Wire.fixB_length]; omega
theorem S_add (l : List UInt8) (t : ByteArray) : (Wire.S l ++ t).data.toList = l ++ t.data.toList := by
  show (Wire.S l ++ t).data.toList = _
  rw [ByteArray.data_append, Array.toList_append]; rfl
theorem S_cut (l : List UInt8) (k : Nat) : ((Wire.S l).extract 0 k).data.toList = l.take k := by
  rw [Lib.extract_data, Nat.sub_zero, List.drop_zero]; rfl

set_option maxRecDepth 100000 in
set_option maxHeartbeats 2000000 in
theorem cut_any (A : Option Addr) (ca : Nat) (B : Option Addr) (cb : Nat) (e : Ev) (at' : Int) (t : ByteArray) (w : World) (hA : EvAt w A ca B cb e) (lA : e.ns.length ≤ 140737488355328 ∧ e.ts.length ≤ 140737488355328) (w1 : (Lit.int .i64 at').wf = true) (w2 : t.size ≤ maxLen) (E : Env w) :
    Calls Tryd.prog 7 #[evV A ca B cb e, .int .i64 at', .string t] w fun z w' => z = .returned (.bool true) ∧ Below w.heap.size w w' := by
  have hb := (Below.refl w.heap.size w).alloc (Nat.le_refl _) (.cells #[.int .u8 e.v, .int .u8 e.k, .slice A e.ns.length ca, .slice B e.ts.length cb] 26)
  have HP := Lib.hid (show Four _ w.heap.size _ _ _ _ from box4 w (.int .u8 e.v) (.int .u8 e.k) (.slice A e.ns.length ca) (.slice B e.ts.length cb) 26)
  have HA := Lib.hid (hA.below hb)
  have HE := Lib.hid (E.below hb)
  have HB := Lib.hid hb
  have HLA := Lib.hid lA
  clear hb hA E lA
  unfold evV
  go_enter Tryd.func7, Tryd.ntmps7
  go_upto_region 1 with (fail)
  generalize w.alloc (.cells #[.int .u8 e.v, .int .u8 e.k, .slice A e.ns.length ca, .slice B e.ts.length cb] 26) = W at HP HA HE HB ⊢
  have HW := Lib.hid (works_any W HE.out)
  go_wp2_with (go_at_call 10; refine HW.out.mono ?_)
  rintro z W1 ⟨rfl, hb⟩
  replace HP := Lib.hid (HP.out.below hb)
  replace HA := Lib.hid (HA.out.below hb)
  replace HE := Lib.hid (HE.out.below hb)
  replace HB := Lib.hid (below_step HB.out hb)
  clear hb HW
  have HW := Lib.hid (weight_any A ca B cb e HLA.out.1 HLA.out.2 W1 HA.out)
  simp only [evV] at HW
  obtain ⟨p0, p1, p2, p3⟩ := HP.out
  go_wp2_with (go_at_call 20; refine HW.out.mono ?_)
  clear p0 p1 p2 p3
  rintro z W2 ⟨n, rfl, hn1, hn2, hb⟩
  replace HP := Lib.hid (HP.out.below hb)
  replace HA := Lib.hid (HA.out.below hb)
  replace HE := Lib.hid (HE.out.below hb)
  replace HB := Lib.hid (below_step HB.out hb)
  clear hb HW
  by_cases hn : 2000 ≤ n
  · have z1 : decide ((n : Int) ≥ 2000) = true := decide_eq_true (by omega)
    have z2 : (2000 : Int) ≤ (n : Int) := by omega
    clear hn1 hn2 hn
    have HW := Lib.hid (works_any W2 HE.out)
    go_wp2_with (go_at_call 10; refine HW.out.mono ?_)
    rintro z W3 ⟨rfl, hb⟩
    replace HB := Lib.hid (below_step HB.out hb)
    clear hb HW
    go_wp2_with fail
    go_ret
    exact ⟨rfl, HB.out⟩
  have HL1 := Lib.hid (hn2 (by omega))
  have z1 : decide ((n : Int) ≥ 2000) = false := decide_eq_false (by omega)
  have z2 : ¬ (2000 : Int) ≤ (n : Int) := by omega
  have z3 : (n : Int) < 2000 := by omega
  clear hn1 hn2 hn
  by_cases hn : 2000 < t.size
  · have z4 : decide ((t.size : Int) > 2000) = true := decide_eq_true (by omega)
    have z5 : decide ((2000 : Int) < (t.size : Int)) = true := decide_eq_true (by omega)
    have z6 : (2000 : Int) < (t.size : Int) := by omega
    clear hn
    have HW := Lib.hid (works_any W2 HE.out)
    go_wp2_with (go_at_call 10; refine HW.out.mono ?_)
    rintro z W3 ⟨rfl, hb⟩
    replace HB := Lib.hid (below_step HB.out hb)
    clear hb HW
    go_wp2_with fail
    go_ret
    exact ⟨rfl, HB.out⟩
  have z4 : decide ((t.size : Int) > 2000) = false := decide_eq_false (by omega)
  have z5 : decide ((2000 : Int) < (t.size : Int)) = false := decide_eq_false (by omega)
  have z6 : ¬ (2000 : Int) < (t.size : Int) := by omega
  have HW := Lib.hid (Encode_any W2 A ca B cb e (by have := HL1.out; omega) HA.out HE.out)
  simp only [evV] at HW
  obtain ⟨p0, p1, p2, p3⟩ := HP.out
  go_wp2_with (go_at_call 13; refine HW.out.mono ?_)
  clear p0 p1 p2 p3 z1 z2 z3 z4 z5 z6
  rintro z W3 ⟨rfl, hb⟩
  replace HE := Lib.hid (HE.out.below hb)
  replace HB := Lib.hid (below_step HB.out hb)
  clear hb HW HP HA
  by_cases h1 : putE e = 0
  · rw [h1]
    have hm := putE_may h1
    have hlo := enc_long hm
    have hup : (encB e).length ≤ 1000 := by
      have q1 := may_lens hm
      rw [encB_is hm, List.length_append, Wire.fixB_length]
      unfold bare
      rw [List.length_append, List.length_append, Wire.fixB_length]
      have q2 := nsB_len e.ns
      have q3 : (tsB e.ts).length ≤ 40 := by
        rcases mayT_is (may_parts hm).2.2.2 with ⟨_, x, k2, k3⟩ | ⟨_, k2⟩
        · rw [k2, tsB_one]
          unfold Wire.textB
          rw [List.length_append, Wire.size_list]
          have := mayName_size k3
          have := Wire.shortB_le x.size
          omega
        · rw [k2]; exact Nat.zero_le _
      omega
    have hz : (encB e).length = (Wire.S (encB e)).size := (S_size _).symm
    have HC := Lib.hid (fun k (hk : k < (Wire.S (encB e)).size) => dec_cut hm ((Wire.S (encB e)).extract 0 k) k (S_cut _ k) (by omega))
    have HM := Lib.hid (fun (X : t.data.toList ≠ []) => (dec_more hm (Wire.S (encB e) ++ t) t.data.toList (S_add _ t)).2.1 X)
    rw [hz] at hlo hup
    clear h1 hm hz
    generalize Wire.S (encB e) = s at hlo hup HC HM ⊢
    obtain ⟨k, hk, hkr⟩ : ∃ k : Nat, k < s.size ∧ (IntKind.u64.wrap at').tmod (s.size : Int) = (k : Int) := by
      have hw : 0 ≤ IntKind.u64.wrap at' := by rw [IntKind.wrap_u64]; omega
      refine ⟨((IntKind.u64.wrap at').tmod (s.size : Int)).toNat, ?_, ?_⟩
      · rw [Int.tmod_eq_emod_of_nonneg hw]
        have h1 := Int.emod_lt_of_pos (IntKind.u64.wrap at') (show (0 : Int) < (s.size : Int) by omega)
        have h2 := Int.emod_nonneg (IntKind.u64.wrap at') (show (s.size : Int) ≠ 0 by omega)
        omega
      · rw [Int.tmod_eq_emod_of_nonneg hw]
        have h2 := Int.emod_nonneg (IntKind.u64.wrap at') (show (s.size : Int) ≠ 0 by omega)
        omega
    have z1 : IntKind.u64.wrap (s.size : Int) = (s.size : Int) := by rw [IntKind.wrap_u64]; omega
    have z2 : IntKind.i64.wrap (k : Int) = (k : Int) := by rw [IntKind.wrap_i64]; omega
    have z2b : IntKind.u64.wrap (k : Int) = (k : Int) := by rw [IntKind.wrap_u64]; omega
    have z3 : ((s.size : Int) == 0) = false := beq_eq_false_iff_ne.2 (by omega)
    have z4 : (k : Int) ≤ (s.size : Int) := by omega
    have z5 : (0 : Int) ≤ (k : Int) := by omega
    have z6 : ¬ (s.size : Int) = 0 := by omega
    have z7 : (s.size == 0) = false := beq_eq_false_iff_ne.2 (by omega)
    have HW := Lib.hid (refused_any (s.extract 0 k) 8 (by rw [ByteArray.size_extract]; omega) (HC.out k hk) (by decide) W3 HE.out)
    go_wp2_with (go_at_call 17; refine HW.out.mono ?_)
    rintro z W4 ⟨rfl, hb⟩
    replace HE := Lib.hid (HE.out.below hb)
    replace HB := Lib.hid (below_step HB.out hb)
    clear hb HW
    clear z1 z2 z2b z3 z4 z5 z6 z7 hkr
    by_cases ht : t.size = 0
    · obtain rfl : t = ⟨#[]⟩ := by
        apply Wire.ba_ext
        exact List.eq_nil_of_length_eq_zero ht
      have q1 : ((ByteArray.mk #[]).toList == (ByteArray.mk #[]).toList) = true := by simp
      clear ht
      go_wp2_with fail
      go_ret
      exact ⟨rfl, HB.out⟩
    · have hne : t.data.toList ≠ [] := fun h => ht (by rw [← Wire.size_list, h]; rfl)
      have q1 : (t.toList == (ByteArray.mk #[]).toList) = false := by
        rw [str_eq]
        exact decide_eq_false fun h => ht (by rw [h]; rfl)
      have q2 : ¬ t.toList = [] := by rw [ByteArray.toList_eq]; exact hne
      have q3 : (t.toList == []) = false := by rw [beq_eq_false_iff_ne]; exact q2
      have HW := Lib.hid (refused_any (s ++ t) 4 (by rw [ByteArray.size_append]; omega) (HM.out hne) (by decide) W4 HE.out)
      clear ht hne
      have z1 : s.size + t.size ≤ maxLen := by have : (1000000 : Nat) ≤ maxLen := by decide
                                               omega
      go_wp2_with (go_at_call 17; refine HW.out.mono ?_)
      rintro z W5 ⟨rfl, hb⟩
      replace HB := Lib.hid (below_step HB.out hb)
      clear hb HW
      go_wp2_with fail
      go_ret
      exact ⟨rfl, HB.out⟩
  · have z1 : ((putE e : Int) == 0) = false := beq_eq_false_iff_ne.2 (by omega)
    have z2 : (putE e == 0) = false := beq_eq_false_iff_ne.2 h1
    clear h1
    go_wp2_with fail
    go_ret
    exact ⟨rfl, HB.out⟩

end Go.Proofs.YtefkfjbdmglkjaaDoor.Schema

/-
  What is decoded, encoded again. Plain mathematics on the values.
-/
namespace Go.Proofs.YtefkfjbdmglkjaaDoor.Codec
open Go Go.RowKit
open Go.Proofs.YtefkfjbdmglkjaaDoor.Wire (fixB shortB textB be fxV shR txR tkI tkE tkT endE tk_is tk_cut tk_ok sh_is sh_cut sh_ok tx_is tx_cut tx_ok fixB_length be_fixB fixB_be size_list ba_ext)
open Go.Proofs.YtefkfjbdmglkjaaDoor.Schema

theorem tx_back {s : ByteArray} {i : Nat} (h : (tx s i 0).2.2 = 0) (hi : i ≤ s.size) : (s.data.toList.drop i).take (textB (tx s i 0).1).length = textB (tx s i 0).1 ∧ (tx s i 0).2.1 = i + (textB (tx s i 0).1).length ∧ i + (textB (tx s i 0).1).length ≤ s.size := by
  obtain ⟨_, n, sz, hsc, hn, hle, hd, hp⟩ := tx_ok (s := s) (i := i) (e := 0) (m := 24) h
  obtain ⟨_, hsz, htk⟩ := Wire.scan_backB hsc
  have hts : (tx s i 0).1.size = n := by
    have hh := congrArg List.length hd
    rw [size_list, List.length_take, List.length_drop, size_list] at hh
    show (txR s i 0 24).1.size = n
    omega
  have hl : (textB (tx s i 0).1).length = sz + n := by
    unfold textB
    rw [List.length_append, size_list, hts, hsz]
  refine ⟨?_, ?_, by omega⟩
  · rw [hl, List.take_add, htk, List.drop_drop]
    unfold textB
    rw [hts]
    exact congrArg (fun q => shortB n ++ q) hd.symm
  · rw [hl, ← Nat.add_assoc]; exact hp
theorem one_back {s : ByteArray} {i : Nat} (h : tkE s i 0 1 = 0) : fixB 1 (fxV s i 0 1) = (s.data.toList.drop i).take 1 ∧ tkI s i 0 1 = i + 1 ∧ i + 1 ≤ s.size := by
  obtain ⟨_, h1, h2, h3⟩ := tk_ok h
  refine ⟨?_, h3, h1⟩
  unfold fxV
  rw [fixB_be 1 _ (by rw [h2, List.length_take, List.length_drop, size_list]; omega), h2]

theorem get_back {s : ByteArray} {i v : Nat} (h : getW s i 0 v = 0) : may (getE s i 0 v) = true ∧ (getE s i 0 v).v = v ∧ (s.data.toList.drop i).take (bare (getE s i 0 v)).length = bare (getE s i 0 v) ∧ getI s i 0 v = i + (bare (getE s i 0 v)).length ∧ getF s i 0 v = 0 ∧ i + (bare (getE s i 0 v)).length ≤ s.size := by
  have hv : 1 ≤ v ∧ v ≤ 3 := by
    by_cases hq : 1 ≤ v ∧ v ≤ 3
    · exact hq
    · unfold getW at h; rw [if_neg hq] at h; cases h
  have hE : getE s i 0 v = ⟨v, kd s i 0, (rs1 s i 0 v).ns, (rs2 s i 0 v).2.2.2⟩ := if_pos h
  have hW : (rs2 s i 0 v).2.2.1 = 0 := by unfold getW at h; rw [if_pos hv] at h; exact h
  have hI : getI s i 0 v = (rs2 s i 0 v).1 := if_pos hv
  have hF : getF s i 0 v = (rs2 s i 0 v).2.1 := if_pos hv
  have h1 : (rs1 s i 0 v).w = 0 := by
    by_cases hq : (rs1 s i 0 v).w = 0
    · exact hq
    · rw [rs2_w hq] at hW; exact hW
  have h0 : wrK s i 0 v = 0 := by
    by_cases hq : wrK s i 0 v = 0
    · exact hq
    · unfold rs1 at h1
      rw [fold_skip _ _ _ _ (show (rs0 s i 0 v).w ≠ 0 from hq)] at h1
      exact h1
  have hT : tkE s i 0 1 = 0 ∧ tall v (kd s i 0) = true := by
    unfold wrK at h0
    by_cases hq : tkE s i 0 1 = 0
    · rw [if_pos hq] at h0
      refine ⟨hq, ?_⟩
      cases ht : tall v (kd s i 0) with
      | true => rfl
      | false => rw [show tall v (fxV s i 0 1) = false from ht] at h0; cases h0
    · rw [if_neg hq] at h0; exact absurd h0 hq
  obtain ⟨b1, b2, b3⟩ := one_back hT.1
  have hr0 : rs0 s i 0 v = ⟨i + 1, 0, 0, []⟩ := by unfold rs0; rw [hT.1, b2, h0]
  have hr1 : rs1 s i 0 v = foldR v s (lets v (kd s i 0)) (lets v (kd s i 0)).size ⟨i + 1, 0, 0, []⟩ := by unfold rs1; rw [hr0]
  rw [hr1] at h1
  obtain ⟨ns, c1, c2, c3, c4, c5⟩ := fold_back v (i + 1) s (lets v (kd s i 0)) (fun k hk => lets_bnd v (kd s i 0) k hk) b3 _ (Nat.le_refl _) h1
  rw [← hr1] at c2
  have hfit : fitB v (lets v (kd s i 0)) ns = true := by
    unfold fitB
    rw [Bool.and_eq_true, decide_eq_true_iff, List.all_eq_true]
    exact ⟨c1, fun j hj => c3 j (List.mem_range.1 hj)⟩
  have hfin : ∀ ts, (rs2 s i 0 v).2.2.2 = ts → mayT (kd s i 0) ts = true → (s.data.toList.drop (i + 1 + (nsB ns).length)).take (tsB ts).length = tsB ts → (rs2 s i 0 v).1 = i + 1 + (nsB ns).length + (tsB ts).length → (rs2 s i 0 v).2.1 = 0 → i + 1 + (nsB ns).length + (tsB ts).length ≤ s.size → may (getE s i 0 v) = true ∧ (getE s i 0 v).v = v ∧ (s.data.toList.drop i).take (bare (getE s i 0 v)).length = bare (getE s i 0 v) ∧ getI s i 0 v = i + (bare (getE s i 0 v)).length ∧ getF s i 0 v = 0 ∧ i + (bare (getE s i 0 v)).length ≤ s.size := by
    intro ts e1 e2 e3 e4 e5 e6
    rw [hE, e1, c2]
    have hl : (bare ⟨v, kd s i 0, ns, ts⟩).length = 1 + (nsB ns).length + (tsB ts).length := by unfold bare; rw [List.length_append, List.length_append, fixB_length]
    refine ⟨?_, rfl, ?_, by rw [hI, e4, hl]; omega, by rw [hF, e5], by rw [hl]; omega⟩
    · unfold may
      show (tall v (kd s i 0) && fitB v (lets v (kd s i 0)) ns && mayT (kd s i 0) ts) = true
      rw [hT.2, hfit, e2]; rfl
    · rw [hl, List.take_add, List.take_add, List.drop_drop, List.drop_drop, c4, show i + (1 + (nsB ns).length) = i + 1 + (nsB ns).length from by omega, e3, ← b1]
      rfl
  cases hk : tru (kd s i 0) with
  | true =>
    have hR : rs2 s i 0 v = ((tx s (i + 1 + (nsB ns).length) 0).2.1, (tx s (i + 1 + (nsB ns).length) 0).2.2, wrT (tx s (i + 1 + (nsB ns).length) 0), [(tx s (i + 1 + (nsB ns).length) 0).1]) := by
      unfold rs2
      rw [hT.2, hk, if_pos (by rfl), c2, if_pos rfl]
    have hwt : wrT (tx s (i + 1 + (nsB ns).length) 0) = 0 := by rw [hR] at hW; exact hW
    have hx : (tx s (i + 1 + (nsB ns).length) 0).2.2 = 0 ∧ mayName (tx s (i + 1 + (nsB ns).length) 0).1 = true := by
      unfold wrT at hwt
      by_cases hq : (tx s (i + 1 + (nsB ns).length) 0).2.2 = 0
      · rw [if_pos hq] at hwt
        refine ⟨hq, ?_⟩
        cases hm : mayName (tx s (i + 1 + (nsB ns).length) 0).1 with
        | true => rfl
        | false => rw [hm] at hwt; cases hwt
      · rw [if_neg hq] at hwt; exact absurd hwt hq
    obtain ⟨t1, t2, t3⟩ := tx_back hx.1 c5
    refine hfin [(tx s (i + 1 + (nsB ns).length) 0).1] (by rw [hR]) ?_ (by rw [tsB_one]; exact t1) (by rw [hR, tsB_one]; exact t2) (by rw [hR]; exact hx.1) (by rw [tsB_one]; exact t3)
    unfold mayT
    rw [hk, if_pos rfl]
    show (decide (1 = 1) && mayName _) = true
    rw [show ([(tx s (i + 1 + (nsB ns).length) 0).1] : List ByteArray).getD 0 ByteArray.empty = (tx s (i + 1 + (nsB ns).length) 0).1 from rfl, hx.2]; rfl
  | false =>
    have hR : rs2 s i 0 v = (i + 1 + (nsB ns).length, 0, 0, []) := by
      unfold rs2
      rw [hT.2, hk, if_neg (by decide), c2]
    refine hfin [] (by rw [hR]) ?_ rfl (by rw [hR]; rfl) (by rw [hR]) c5
    unfold mayT
    rw [hk, if_neg (by decide)]; rfl

theorem dec_back {s : ByteArray} (h : decW s = 0) : may (decE s) = true ∧ encB (decE s) = s.data.toList := by
  have h1 : tkE s 0 0 1 = 0 := by
    by_cases hq : tkE s 0 0 1 = 0
    · exact hq
    · unfold decW at h; rw [if_neg hq] at h; exact h
  obtain ⟨b1, b2, b3⟩ := one_back h1
  have hd := dec_is h1 b2
  have h2 : getW s 1 0 (ver s) = 0 := by
    by_cases hq : getW s 1 0 (ver s) = 0
    · exact hq
    · rw [hd, if_neg hq] at h; exact h
  obtain ⟨g1, g2, g3, g4, g5, g6⟩ := get_back h2
  have hE : decE s = getE s 1 0 (ver s) := by unfold decE; rw [if_pos h, b2]
  rw [hE]
  refine ⟨g1, ?_⟩
  rw [hd, if_pos h2, g5] at h
  have hz : s.size ≤ getI s 1 0 (ver s) := by
    unfold endE at h
    by_cases hq : getI s 1 0 (ver s) < s.size
    · rw [if_pos ⟨rfl, hq⟩] at h; cases h
    · omega
  have g7 : bare (getE s 1 0 (ver s)) = s.data.toList.drop 1 := g3.symm.trans (List.take_of_length_le (by rw [List.length_drop, size_list]; omega))
  rw [encB_is g1, g2, show fixB 1 (ver s) = (s.data.toList.drop 0).take 1 from b1, List.drop_zero, g7, List.take_append_drop]

end Go.Proofs.YtefkfjbdmglkjaaDoor.Codec

/-
  The walk of the statement CodecBack.
-/
namespace Go.Proofs.YtefkfjbdmglkjaaDoor.Schema
open Go Go.RowKit
open Go.Proofs.YtefkfjbdmglkjaaDoor.Codec

theorem enc_short {e : Ev} (hm : may e = true) : (encB e).length ≤ 1000 := by
  have q1 := may_lens hm
  rw [encB_is hm, List.length_append, Wire.fixB_length]
  unfold bare
  rw [List.length_append, List.length_append, Wire.fixB_length]
  have q2 := nsB_len e.ns
  have q3 : (tsB e.ts).length ≤ 40 := by
    rcases mayT_is (may_parts hm).2.2.2 with ⟨_, x, k2, k3⟩ | ⟨_, k2⟩
    · rw [k2, tsB_one]
      unfold Wire.textB
      rw [List.length_append, Wire.size_list]
      have := mayName_size k3
      have := Wire.shortB_le x.size
      omega
    · rw [k2]; exact Nat.zero_le _
  omega
theorem may_at {w : World} {b1 b2 : Nat} {A : Option Addr} {ca : Nat} {C : Option Addr} {cc : Nat} {e : Ev} (hm : may e = true) (h1 : OwnE w b1 2 (.slice A e.ns.length ca) (nums e.ns)) (h2 : OwnE w b2 9 (.slice C e.ts.length cc) (texts e.ts)) : EvAt w A ca C cc e := by
  have q := tall_range (may_parts hm).1
  refine ownE_ev (by omega) (by omega) (fun x hx => ?_) (fun x hx => ?_) h1 h2
  · obtain ⟨j, hj, rfl⟩ := List.getElem_of_mem hx
    have r := may_range hm j hj
    rw [List.getD_eq_getElem?_getD, List.getElem?_eq_getElem hj] at r
    simp only [Option.getD_some] at r
    omega
  · obtain ⟨j, hj, rfl⟩ := List.getElem_of_mem hx
    have r := may_text hm j hj
    rw [List.getD_eq_getElem?_getD, List.getElem?_eq_getElem hj] at r
    simp only [Option.getD_some] at r
    have : (24 : Nat) ≤ maxLen := by decide
    omega

set_option maxRecDepth 100000 in
set_option maxHeartbeats 2000000 in
theorem back_any (A : Option Addr) (ca : Nat) (B : Option Addr) (cb : Nat) (e : Ev) (t : ByteArray) (w : World) (hA : EvAt w A ca B cb e) (lA : e.ns.length ≤ 140737488355328 ∧ e.ts.length ≤ 140737488355328) (w2 : t.size ≤ maxLen) (E : Env w) :
    Calls Tryd.prog 6 #[evV A ca B cb e, .string t] w fun z w' => z = .returned (.bool true) ∧ Below w.heap.size w w' := by
  have hb := (Below.refl w.heap.size w).alloc (Nat.le_refl _) (.cells #[.int .u8 e.v, .int .u8 e.k, .slice A e.ns.length ca, .slice B e.ts.length cb] 26)
  have HP := Lib.hid (show Four _ w.heap.size _ _ _ _ from box4 w (.int .u8 e.v) (.int .u8 e.k) (.slice A e.ns.length ca) (.slice B e.ts.length cb) 26)
  have HA := Lib.hid (hA.below hb)
  have HE := Lib.hid (E.below hb)
  have HB := Lib.hid hb
  have HLA := Lib.hid lA
  clear hb hA E lA
  unfold evV
  go_enter Tryd.func6, Tryd.ntmps6
  go_upto_region 1 with (fail)
  generalize w.alloc (.cells #[.int .u8 e.v, .int .u8 e.k, .slice A e.ns.length ca, .slice B e.ts.length cb] 26) = W at HP HA HE HB ⊢
  have HW := Lib.hid (works_any W HE.out)
  go_wp2_with (go_at_call 10; refine HW.out.mono ?_)
  rintro z W1 ⟨rfl, hb⟩
  replace HP := Lib.hid (HP.out.below hb)
  replace HA := Lib.hid (HA.out.below hb)
  replace HE := Lib.hid (HE.out.below hb)
  replace HB := Lib.hid (below_step HB.out hb)
  clear hb HW
  have HW := Lib.hid (weight_any A ca B cb e HLA.out.1 HLA.out.2 W1 HA.out)
  simp only [evV] at HW
  obtain ⟨p0, p1, p2, p3⟩ := HP.out
  go_wp2_with (go_at_call 20; refine HW.out.mono ?_)
  clear p0 p1 p2 p3
  rintro z W2 ⟨n, rfl, hn1, hn2, hb⟩
  replace HP := Lib.hid (HP.out.below hb)
  replace HA := Lib.hid (HA.out.below hb)
  replace HE := Lib.hid (HE.out.below hb)
  replace HB := Lib.hid (below_step HB.out hb)
  clear hb HW
  by_cases hn : 2000 ≤ n
  · have z1 : decide ((n : Int) ≥ 2000) = true := decide_eq_true (by omega)
    have z2 : (2000 : Int) ≤ (n : Int) := by omega
    clear hn1 hn2 hn
    have HW := Lib.hid (works_any W2 HE.out)
    go_wp2_with (go_at_call 10; refine HW.out.mono ?_)
    rintro z W3 ⟨rfl, hb⟩
    replace HB := Lib.hid (below_step HB.out hb)
    clear hb HW
    go_wp2_with fail
    go_ret
    exact ⟨rfl, HB.out⟩
  have HL1 := Lib.hid (hn2 (by omega))
  have z1 : decide ((n : Int) ≥ 2000) = false := decide_eq_false (by omega)
  have z2 : ¬ (2000 : Int) ≤ (n : Int) := by omega
  have z3 : (n : Int) < 2000 := by omega
  clear hn1 hn2 hn
  by_cases hn : 2000 < t.size
  · have z4 : decide ((t.size : Int) > 2000) = true := decide_eq_true (by omega)
    have z5 : decide ((2000 : Int) < (t.size : Int)) = true := decide_eq_true (by omega)
    have z6 : (2000 : Int) < (t.size : Int) := by omega
    clear hn
    have HW := Lib.hid (works_any W2 HE.out)
    go_wp2_with (go_at_call 10; refine HW.out.mono ?_)
    rintro z W3 ⟨rfl, hb⟩
    replace HB := Lib.hid (below_step HB.out hb)
    clear hb HW
    go_wp2_with fail
    go_ret
    exact ⟨rfl, HB.out⟩
  have z4 : decide ((t.size : Int) > 2000) = false := decide_eq_false (by omega)
  have z5 : decide ((2000 : Int) < (t.size : Int)) = false := decide_eq_false (by omega)
  have z6 : ¬ (2000 : Int) < (t.size : Int) := by omega
  have HT := Lib.hid (show t.size ≤ 2000 by omega)
  have HW := Lib.hid (Encode_any W2 A ca B cb e (by have := HL1.out; omega) HA.out HE.out)
  simp only [evV] at HW
  obtain ⟨p0, p1, p2, p3⟩ := HP.out
  go_wp2_with (go_at_call 13; refine HW.out.mono ?_)
  clear p0 p1 p2 p3 z1 z2 z3 z4 z5 z6 hn
  rintro z W3 ⟨rfl, hb⟩
  replace HP := Lib.hid (HP.out.below hb)
  replace HA := Lib.hid (HA.out.below hb)
  replace HE := Lib.hid (HE.out.below hb)
  replace HB := Lib.hid (below_step HB.out hb)
  clear hb HW
  by_cases h1 : putE e = 0
  · rw [h1]
    have hm := putE_may h1
    have hlo := enc_short hm
    have hdd := dec_enc hm
    have HD1 := Lib.hid hdd.1
    have HD2 := Lib.hid hdd.2
    have HW := Lib.hid (Decode_any (Wire.S (encB e)) (by rw [S_size]; omega) W3 HE.out)
    clear h1 hm hlo hdd
    generalize Wire.S (encB e) = s at HD1 HD2 HW ⊢
    go_wp2_with (go_at_call 24; refine HW.out.mono ?_)
    rintro z W4 ⟨A2, ca2, C2, cc2, rfl, hn, hm, hb⟩
    rw [HD2.out] at hn hm ⊢
    rw [HD1.out]
    simp only [evV]
    have HEV := Lib.hid (ownE_ev HA.out.v HA.out.k HA.out.fit HA.out.txt hn hm)
    replace HP := Lib.hid (HP.out.below hb)
    replace HA := Lib.hid (HA.out.below hb)
    replace HE := Lib.hid (HE.out.below hb)
    replace HB := Lib.hid (below_step HB.out hb)
    clear hn hm hb HW
    go_upto_region 6 with (fail)
    have hb := (Below.refl W4.heap.size W4).alloc (Nat.le_refl _) (.cells #[.int .u8 e.v, .int .u8 e.k, .slice A2 e.ns.length ca2, .slice C2 e.ts.length cc2] 26)
    have HX := Lib.hid (show Four _ W4.heap.size _ _ _ _ from box4 W4 (.int .u8 e.v) (.int .u8 e.k) (.slice A2 e.ns.length ca2) (.slice C2 e.ts.length cc2) 26)
    replace HEV := Lib.hid (HEV.out.below hb)
    replace HP := Lib.hid (HP.out.below hb)
    replace HA := Lib.hid (HA.out.below hb)
    replace HE := Lib.hid (HE.out.below hb)
    replace HB := Lib.hid (below_step HB.out hb)
    clear hb
    generalize W4.alloc (.cells #[.int .u8 e.v, .int .u8 e.k, .slice A2 e.ns.length ca2, .slice C2 e.ts.length cc2] 26) = W5 at HX HEV HP HA HE HB ⊢
    have hsm := sameE_any A2 ca2 C2 cc2 e A ca B cb e (by have := HL1.out; omega) (by have := HL1.out; omega) W5 HEV.out HA.out
    rw [show same e e = true from same_yes rfl rfl rfl rfl] at hsm
    simp only [evV] at hsm
    have HS := Lib.hid hsm
    clear hsm
    obtain ⟨x0, x1, x2, x3⟩ := HX.out
    obtain ⟨p0, p1, p2, p3⟩ := HP.out
    go_wp2_with (go_at_call 23; refine HS.out.mono ?_)
    clear x0 x1 x2 x3 p0 p1 p2 p3
    rintro z W6 ⟨rfl, hb⟩
    replace HE := Lib.hid (HE.out.below hb)
    replace HB := Lib.hid (below_step HB.out hb)
    clear hb HS HX HEV
    have HW := Lib.hid (Decode_any t (by have := HT.out; omega) W6 HE.out)
    go_wp2_with (go_at_call 24; refine HW.out.mono ?_)
    rintro z V1 ⟨A3, ca3, C3, cc3, rfl, hn, hm3, hb⟩
    replace HE := Lib.hid (HE.out.below hb)
    replace HB := Lib.hid (below_step HB.out hb)
    clear hb HW
    by_cases hd : decW t = 0
    · obtain ⟨hmay, henc⟩ := dec_back hd
      have HEN := Lib.hid (show Wire.S (encB (decE t)) = t from Wire.ba_ext henc)
      have HPU := Lib.hid (show putE (decE t) = 0 from by unfold putE; rw [hmay]; rfl)
      have HLN := Lib.hid (may_lens hmay)
      rw [hd]
      simp only [evV]
      have HEV := Lib.hid (may_at hmay hn hm3)
      clear hn hm3 hd hmay henc
      generalize decE t = f at HEN HPU HLN HEV ⊢
      go_upto_region 9 with (fail)
      have hb := (Below.refl V1.heap.size V1).alloc (Nat.le_refl _) (.cells #[.int .u8 f.v, .int .u8 f.k, .slice A3 f.ns.length ca3, .slice C3 f.ts.length cc3] 26)
      have HX := Lib.hid (show Four _ V1.heap.size _ _ _ _ from box4 V1 (.int .u8 f.v) (.int .u8 f.k) (.slice A3 f.ns.length ca3) (.slice C3 f.ts.length cc3) 26)
      replace HEV := Lib.hid (HEV.out.below hb)
      replace HE := Lib.hid (HE.out.below hb)
      replace HB := Lib.hid (below_step HB.out hb)
      clear hb
      generalize V1.alloc (.cells #[.int .u8 f.v, .int .u8 f.k, .slice A3 f.ns.length ca3, .slice C3 f.ts.length cc3] 26) = V2 at HX HEV HE HB ⊢
      have HW := Lib.hid (Encode_any V2 A3 ca3 C3 cc3 f (by have := HLN.out; omega) HEV.out HE.out)
      simp only [evV] at HW
      obtain ⟨x0, x1, x2, x3⟩ := HX.out
      go_wp2_with (go_at_call 13; refine HW.out.mono ?_)
      clear x0 x1 x2 x3
      rintro z V3 ⟨rfl, hb⟩
      rw [HEN.out, HPU.out]
      replace HB := Lib.hid (below_step HB.out hb)
      clear hb HW
      have qs := str_self t
      go_wp2_with fail
      go_ret
      exact ⟨rfl, HB.out⟩
    · rw [decE_bad hd] at hn hm3 ⊢
      have z1 : ((decW t : Int) == 0) = false := beq_eq_false_iff_ne.2 (by omega)
      have z2 : (decW t == 0) = false := beq_eq_false_iff_ne.2 hd
      simp only [evV, noEv, List.length_nil] at hn hm3 ⊢
      have HEV := Lib.hid (ownE_ev (e := noEv) (by decide) (by decide) (fun x hx => by cases hx) (fun t ht => by cases ht) hn hm3)
      clear hn hm3 hd
      go_upto_region 9 with (fail)
      have hb := (Below.refl V1.heap.size V1).alloc (Nat.le_refl _) (.cells #[.int .u8 0, .int .u8 0, .slice A3 0 ca3, .slice C3 0 cc3] 26)
      have HX := Lib.hid (show Four _ V1.heap.size _ _ _ _ from box4 V1 (.int .u8 0) (.int .u8 0) (.slice A3 0 ca3) (.slice C3 0 cc3) 26)
      replace HEV := Lib.hid (HEV.out.below hb)
      replace HB := Lib.hid (below_step HB.out hb)
      clear hb
      generalize V1.alloc (.cells #[.int .u8 0, .int .u8 0, .slice A3 0 ca3, .slice C3 0 cc3] 26) = V2 at HX HEV HB ⊢
      have hsm := sameE_any A3 ca3 C3 cc3 noEv none 0 none 0 noEv (by decide) (by decide) V2 HEV.out (ownE_ev (b1 := 0) (b2 := 0) (e := noEv) (by decide) (by decide) (fun x hx => by cases hx) (fun t ht => by cases ht) (ownE_nil _ _ _) (ownE_nil _ _ _))
      rw [show same noEv noEv = true from by decide +kernel] at hsm
      simp only [evV, noEv, List.length_nil] at hsm
      have HS := Lib.hid hsm
      clear hsm
      obtain ⟨x0, x1, x2, x3⟩ := HX.out
      go_wp2_with (go_at_call 23; refine HS.out.mono ?_)
      clear x0 x1 x2 x3
      rintro z V3 ⟨rfl, hb⟩
      replace HB := Lib.hid (below_step HB.out hb)
      clear hb
      go_wp2_with fail
      go_ret
      exact ⟨rfl, HB.out⟩
  · have z1 : ((putE e : Int) == 0) = false := beq_eq_false_iff_ne.2 (by omega)
    have z2 : (putE e == 0) = false := beq_eq_false_iff_ne.2 h1
    clear h1
    have HW := Lib.hid (Decode_any t (by have := HT.out; omega) W3 HE.out)
    go_wp2_with (go_at_call 24; refine HW.out.mono ?_)
    rintro z V1 ⟨A3, ca3, C3, cc3, rfl, hn, hm3, hb⟩
    replace HE := Lib.hid (HE.out.below hb)
    replace HB := Lib.hid (below_step HB.out hb)
    clear hb HW
    by_cases hd : decW t = 0
    · obtain ⟨hmay, henc⟩ := dec_back hd
      have HEN := Lib.hid (show Wire.S (encB (decE t)) = t from Wire.ba_ext henc)
      have HPU := Lib.hid (show putE (decE t) = 0 from by unfold putE; rw [hmay]; rfl)
      have HLN := Lib.hid (may_lens hmay)
      rw [hd]
      simp only [evV]
      have HEV := Lib.hid (may_at hmay hn hm3)
      clear hn hm3 hd hmay henc
      generalize decE t = f at HEN HPU HLN HEV ⊢
      go_upto_region 9 with (fail)
      have hb := (Below.refl V1.heap.size V1).alloc (Nat.le_refl _) (.cells #[.int .u8 f.v, .int .u8 f.k, .slice A3 f.ns.length ca3, .slice C3 f.ts.length cc3] 26)
      have HX := Lib.hid (show Four _ V1.heap.size _ _ _ _ from box4 V1 (.int .u8 f.v) (.int .u8 f.k) (.slice A3 f.ns.length ca3) (.slice C3 f.ts.length cc3) 26)
      replace HEV := Lib.hid (HEV.out.below hb)
      replace HE := Lib.hid (HE.out.below hb)
      replace HB := Lib.hid (below_step HB.out hb)
      clear hb
      generalize V1.alloc (.cells #[.int .u8 f.v, .int .u8 f.k, .slice A3 f.ns.length ca3, .slice C3 f.ts.length cc3] 26) = V2 at HX HEV HE HB ⊢
      have HW := Lib.hid (Encode_any V2 A3 ca3 C3 cc3 f (by have := HLN.out; omega) HEV.out HE.out)
      simp only [evV] at HW
      obtain ⟨x0, x1, x2, x3⟩ := HX.out
      go_wp2_with (go_at_call 13; refine HW.out.mono ?_)
      clear x0 x1 x2 x3
      rintro z V3 ⟨rfl, hb⟩
      rw [HEN.out, HPU.out]
      replace HB := Lib.hid (below_step HB.out hb)
      clear hb HW
      have qs := str_self t
      go_wp2_with fail
      go_ret
      exact ⟨rfl, HB.out⟩
    · rw [decE_bad hd] at hn hm3 ⊢
      have z1 : ((decW t : Int) == 0) = false := beq_eq_false_iff_ne.2 (by omega)
      have z2 : (decW t == 0) = false := beq_eq_false_iff_ne.2 hd
      simp only [evV, noEv, List.length_nil] at hn hm3 ⊢
      have HEV := Lib.hid (ownE_ev (e := noEv) (by decide) (by decide) (fun x hx => by cases hx) (fun t ht => by cases ht) hn hm3)
      clear hn hm3 hd
      go_upto_region 9 with (fail)
      have hb := (Below.refl V1.heap.size V1).alloc (Nat.le_refl _) (.cells #[.int .u8 0, .int .u8 0, .slice A3 0 ca3, .slice C3 0 cc3] 26)
      have HX := Lib.hid (show Four _ V1.heap.size _ _ _ _ from box4 V1 (.int .u8 0) (.int .u8 0) (.slice A3 0 ca3) (.slice C3 0 cc3) 26)
      replace HEV := Lib.hid (HEV.out.below hb)
      replace HB := Lib.hid (below_step HB.out hb)
      clear hb
      generalize V1.alloc (.cells #[.int .u8 0, .int .u8 0, .slice A3 0 ca3, .slice C3 0 cc3] 26) = V2 at HX HEV HB ⊢
      have hsm := sameE_any A3 ca3 C3 cc3 noEv none 0 none 0 noEv (by decide) (by decide) V2 HEV.out (ownE_ev (b1 := 0) (b2 := 0) (e := noEv) (by decide) (by decide) (fun x hx => by cases hx) (fun t ht => by cases ht) (ownE_nil _ _ _) (ownE_nil _ _ _))
      rw [show same noEv noEv = true from by decide +kernel] at hsm
      simp only [evV, noEv, List.length_nil] at hsm
      have HS := Lib.hid hsm
      clear hsm
      obtain ⟨x0, x1, x2, x3⟩ := HX.out
      go_wp2_with (go_at_call 23; refine HS.out.mono ?_)
      clear x0 x1 x2 x3
      rintro z V3 ⟨rfl, hb⟩
      replace HB := Lib.hid (below_step HB.out hb)
      clear hb
      go_wp2_with fail
      go_ret
      exact ⟨rfl, HB.out⟩

end Go.Proofs.YtefkfjbdmglkjaaDoor.Schema
