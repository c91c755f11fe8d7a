import Derived.Test.YtiibeemjkdipnaaGreatDoorGLUnlike
/-
  The walk of the statement CodecCut.
-/
namespace Go.Proofs.YtiibeemjkdipnaaGreatDoor.Schema
open Go Go.RowKit
open Go.Proofs.YtiibeemjkdipnaaGreatDoor.Codec

theorem enc_long {e : Ev} (h : may e = true) : 1 ≤ (encB e).length := by
  rw [encB_is h, List.length_append, Wire.fixB_length]; omega
theorem S_add (l : List UInt8) (t : ByteArray) : (Wire.S l ++ t).data.toList = l ++ t.data.toList := by
  show (Wire.S l ++ t).data.toList = _
  rw [ByteArray.data_append, Array.toList_append]; rfl
theorem S_cut (l : List UInt8) (k : Nat) : ((Wire.S l).extract 0 k).data.toList = l.take k := by
  rw [Lib.extract_data, Nat.sub_zero, List.drop_zero]; rfl

end Go.Proofs.YtiibeemjkdipnaaGreatDoor.Schema

/-
  What is decoded, encoded again. Plain mathematics on the values.
-/
namespace Go.Proofs.YtiibeemjkdipnaaGreatDoor.Codec
open Go Go.RowKit
open Go.Proofs.YtiibeemjkdipnaaGreatDoor.Wire (fixB shortB textB be fxV shR txR tkI tkE tkT endE tk_is tk_cut tk_ok sh_is sh_cut sh_ok tx_is tx_cut tx_ok fixB_length be_fixB fixB_be size_list ba_ext)
open Go.Proofs.YtiibeemjkdipnaaGreatDoor.Schema

theorem tx_back {s : ByteArray} {i : Nat} (h : (tx s i 0).2.2 = 0) (hi : i ≤ s.size) : (s.data.toList.drop i).take (textB (tx s i 0).1).length = textB (tx s i 0).1 ∧ (tx s i 0).2.1 = i + (textB (tx s i 0).1).length ∧ i + (textB (tx s i 0).1).length ≤ s.size := by
  obtain ⟨_, n, sz, hsc, hn, hle, hd, hp⟩ := tx_ok (s := s) (i := i) (e := 0) (m := 24) h
  obtain ⟨_, hsz, htk⟩ := Wire.scan_backB hsc
  have hts : (tx s i 0).1.size = n := by
    have hh := congrArg List.length hd
    rw [size_list, List.length_take, List.length_drop, size_list] at hh
    show (txR s i 0 24).1.size = n
    omega
  have hl : (textB (tx s i 0).1).length = sz + n := by
    unfold textB
    rw [List.length_append, size_list, hts, hsz]
  refine ⟨?_, ?_, by omega⟩
  · rw [hl, List.take_add, htk, List.drop_drop]
    unfold textB
    rw [hts]
    exact congrArg (fun q => shortB n ++ q) hd.symm
  · rw [hl, ← Nat.add_assoc]; exact hp
theorem one_back {s : ByteArray} {i : Nat} (h : tkE s i 0 1 = 0) : fixB 1 (fxV s i 0 1) = (s.data.toList.drop i).take 1 ∧ tkI s i 0 1 = i + 1 ∧ i + 1 ≤ s.size := by
  obtain ⟨_, h1, h2, h3⟩ := tk_ok h
  refine ⟨?_, h3, h1⟩
  unfold fxV
  rw [fixB_be 1 _ (by rw [h2, List.length_take, List.length_drop, size_list]; omega), h2]

theorem get_back {s : ByteArray} {i v : Nat} (h : getW s i 0 v = 0) : may (getE s i 0 v) = true ∧ (getE s i 0 v).v = v ∧ (s.data.toList.drop i).take (bare (getE s i 0 v)).length = bare (getE s i 0 v) ∧ getI s i 0 v = i + (bare (getE s i 0 v)).length ∧ getF s i 0 v = 0 ∧ i + (bare (getE s i 0 v)).length ≤ s.size := by
  have hv : 1 ≤ v ∧ v ≤ 3 := by
    by_cases hq : 1 ≤ v ∧ v ≤ 3
    · exact hq
    · unfold getW at h; rw [if_neg hq] at h; cases h
  have hE : getE s i 0 v = ⟨v, kd s i 0, (rs1 s i 0 v).ns, (rs2 s i 0 v).2.2.2⟩ := if_pos h
  have hW : (rs2 s i 0 v).2.2.1 = 0 := by unfold getW at h; rw [if_pos hv] at h; exact h
  have hI : getI s i 0 v = (rs2 s i 0 v).1 := if_pos hv
  have hF : getF s i 0 v = (rs2 s i 0 v).2.1 := if_pos hv
  have h1 : (rs1 s i 0 v).w = 0 := by
    by_cases hq : (rs1 s i 0 v).w = 0
    · exact hq
    · rw [rs2_w hq] at hW; exact hW
  have h0 : wrK s i 0 v = 0 := by
    by_cases hq : wrK s i 0 v = 0
    · exact hq
    · unfold rs1 at h1
      rw [fold_skip _ _ _ _ (show (rs0 s i 0 v).w ≠ 0 from hq)] at h1
      exact h1
  have hT : tkE s i 0 1 = 0 ∧ tall v (kd s i 0) = true := by
    unfold wrK at h0
    by_cases hq : tkE s i 0 1 = 0
    · rw [if_pos hq] at h0
      refine ⟨hq, ?_⟩
      cases ht : tall v (kd s i 0) with
      | true => rfl
      | false => rw [show tall v (fxV s i 0 1) = false from ht] at h0; cases h0
    · rw [if_neg hq] at h0; exact absurd h0 hq
  obtain ⟨b1, b2, b3⟩ := one_back hT.1
  have hr0 : rs0 s i 0 v = ⟨i + 1, 0, 0, []⟩ := by unfold rs0; rw [hT.1, b2, h0]
  have hr1 : rs1 s i 0 v = foldR v s (lets v (kd s i 0)) (lets v (kd s i 0)).size ⟨i + 1, 0, 0, []⟩ := by unfold rs1; rw [hr0]
  rw [hr1] at h1
  obtain ⟨ns, c1, c2, c3, c4, c5⟩ := fold_back v (i + 1) s (lets v (kd s i 0)) (fun k hk => lets_bnd v (kd s i 0) k hk) b3 _ (Nat.le_refl _) h1
  rw [← hr1] at c2
  have hfit : fitB v (lets v (kd s i 0)) ns = true := by
    unfold fitB
    rw [Bool.and_eq_true, decide_eq_true_iff, List.all_eq_true]
    exact ⟨c1, fun j hj => c3 j (List.mem_range.1 hj)⟩
  have hfin : ∀ ts, (rs2 s i 0 v).2.2.2 = ts → mayT (kd s i 0) ts = true → (s.data.toList.drop (i + 1 + (nsB ns).length)).take (tsB ts).length = tsB ts → (rs2 s i 0 v).1 = i + 1 + (nsB ns).length + (tsB ts).length → (rs2 s i 0 v).2.1 = 0 → i + 1 + (nsB ns).length + (tsB ts).length ≤ s.size → may (getE s i 0 v) = true ∧ (getE s i 0 v).v = v ∧ (s.data.toList.drop i).take (bare (getE s i 0 v)).length = bare (getE s i 0 v) ∧ getI s i 0 v = i + (bare (getE s i 0 v)).length ∧ getF s i 0 v = 0 ∧ i + (bare (getE s i 0 v)).length ≤ s.size := by
    intro ts e1 e2 e3 e4 e5 e6
    rw [hE, e1, c2]
    have hl : (bare ⟨v, kd s i 0, ns, ts⟩).length = 1 + (nsB ns).length + (tsB ts).length := by unfold bare; rw [List.length_append, List.length_append, fixB_length]
    refine ⟨?_, rfl, ?_, by rw [hI, e4, hl]; omega, by rw [hF, e5], by rw [hl]; omega⟩
    · unfold may
      show (tall v (kd s i 0) && fitB v (lets v (kd s i 0)) ns && mayT (kd s i 0) ts) = true
      rw [hT.2, hfit, e2]; rfl
    · rw [hl, List.take_add, List.take_add, List.drop_drop, List.drop_drop, c4, show i + (1 + (nsB ns).length) = i + 1 + (nsB ns).length from by omega, e3, ← b1]
      rfl
  cases hk : tru (kd s i 0) with
  | true =>
    have hR : rs2 s i 0 v = ((tx s (i + 1 + (nsB ns).length) 0).2.1, (tx s (i + 1 + (nsB ns).length) 0).2.2, wrT (tx s (i + 1 + (nsB ns).length) 0), [(tx s (i + 1 + (nsB ns).length) 0).1]) := by
      unfold rs2
      rw [hT.2, hk, if_pos (by rfl), c2, if_pos rfl]
    have hwt : wrT (tx s (i + 1 + (nsB ns).length) 0) = 0 := by rw [hR] at hW; exact hW
    have hx : (tx s (i + 1 + (nsB ns).length) 0).2.2 = 0 ∧ mayName (tx s (i + 1 + (nsB ns).length) 0).1 = true := by
      unfold wrT at hwt
      by_cases hq : (tx s (i + 1 + (nsB ns).length) 0).2.2 = 0
      · rw [if_pos hq] at hwt
        refine ⟨hq, ?_⟩
        cases hm : mayName (tx s (i + 1 + (nsB ns).length) 0).1 with
        | true => rfl
        | false => rw [hm] at hwt; cases hwt
      · rw [if_neg hq] at hwt; exact absurd hwt hq
    obtain ⟨t1, t2, t3⟩ := tx_back hx.1 c5
    refine hfin [(tx s (i + 1 + (nsB ns).length) 0).1] (by rw [hR]) ?_ (by rw [tsB_one]; exact t1) (by rw [hR, tsB_one]; exact t2) (by rw [hR]; exact hx.1) (by rw [tsB_one]; exact t3)
    unfold mayT
    rw [hk, if_pos rfl]
    show (decide (1 = 1) && mayName _) = true
    rw [show ([(tx s (i + 1 + (nsB ns).length) 0).1] : List ByteArray).getD 0 ByteArray.empty = (tx s (i + 1 + (nsB ns).length) 0).1 from rfl, hx.2]; rfl
  | false =>
    have hR : rs2 s i 0 v = (i + 1 + (nsB ns).length, 0, 0, []) := by
      unfold rs2
      rw [hT.2, hk, if_neg (by decide), c2]
    refine hfin [] (by rw [hR]) ?_ rfl (by rw [hR]; rfl) (by rw [hR]) c5
    unfold mayT
    rw [hk, if_neg (by decide)]; rfl

theorem dec_back {s : ByteArray} (h : decW s = 0) : may (decE s) = true ∧ encB (decE s) = s.data.toList := by
  have h1 : tkE s 0 0 1 = 0 := by
    by_cases hq : tkE s 0 0 1 = 0
    · exact hq
    · unfold decW at h; rw [if_neg hq] at h; exact h
  obtain ⟨b1, b2, b3⟩ := one_back h1
  have hd := dec_is h1 b2
  have h2 : getW s 1 0 (ver s) = 0 := by
    by_cases hq : getW s 1 0 (ver s) = 0
    · exact hq
    · rw [hd, if_neg hq] at h; exact h
  obtain ⟨g1, g2, g3, g4, g5, g6⟩ := get_back h2
  have hE : decE s = getE s 1 0 (ver s) := by unfold decE; rw [if_pos h, b2]
  rw [hE]
  refine ⟨g1, ?_⟩
  rw [hd, if_pos h2, g5] at h
  have hz : s.size ≤ getI s 1 0 (ver s) := by
    unfold endE at h
    by_cases hq : getI s 1 0 (ver s) < s.size
    · rw [if_pos ⟨rfl, hq⟩] at h; cases h
    · omega
  have g7 : bare (getE s 1 0 (ver s)) = s.data.toList.drop 1 := g3.symm.trans (List.take_of_length_le (by rw [List.length_drop, size_list]; omega))
  rw [encB_is g1, g2, show fixB 1 (ver s) = (s.data.toList.drop 0).take 1 from b1, List.drop_zero, g7, List.take_append_drop]

end Go.Proofs.YtiibeemjkdipnaaGreatDoor.Codec

/-
  The walk of the statement CodecBack.
-/
namespace Go.Proofs.YtiibeemjkdipnaaGreatDoor.Schema
open Go Go.RowKit
open Go.Proofs.YtiibeemjkdipnaaGreatDoor.Codec

theorem enc_short {e : Ev} (hm : may e = true) : (encB e).length ≤ 1000 := by
  have q1 := may_lens hm
  rw [encB_is hm, List.length_append, Wire.fixB_length]
  unfold bare
  rw [List.length_append, List.length_append, Wire.fixB_length]
  have q2 := nsB_len e.ns
  have q3 : (tsB e.ts).length ≤ 40 := by
    rcases mayT_is (may_parts hm).2.2.2 with ⟨_, x, k2, k3⟩ | ⟨_, k2⟩
    · rw [k2, tsB_one]
      unfold Wire.textB
      rw [List.length_append, Wire.size_list]
      have := mayName_size k3
      have := Wire.shortB_le x.size
      omega
    · rw [k2]; exact Nat.zero_le _
  omega
theorem may_at {w : World} {b1 b2 : Nat} {A : Option Addr} {ca : Nat} {C : Option Addr} {cc : Nat} {e : Ev} (hm : may e = true) (h1 : OwnE w b1 2 (.slice A e.ns.length ca) (nums e.ns)) (h2 : OwnE w b2 9 (.slice C e.ts.length cc) (texts e.ts)) : EvAt w A ca C cc e := by
  have q := tall_range (may_parts hm).1
  refine ownE_ev (by omega) (by omega) (fun x hx => ?_) (fun x hx => ?_) h1 h2
  · obtain ⟨j, hj, rfl⟩ := List.getElem_of_mem hx
    have r := may_range hm j hj
    rw [List.getD_eq_getElem?_getD, List.getElem?_eq_getElem hj] at r
    simp only [Option.getD_some] at r
    omega
  · obtain ⟨j, hj, rfl⟩ := List.getElem_of_mem hx
    have r := may_text hm j hj
    rw [List.getD_eq_getElem?_getD, List.getElem?_eq_getElem hj] at r
    simp only [Option.getD_some] at r
    have : (24 : Nat) ≤ maxLen := by decide
    omega

end Go.Proofs.YtiibeemjkdipnaaGreatDoor.Schema
