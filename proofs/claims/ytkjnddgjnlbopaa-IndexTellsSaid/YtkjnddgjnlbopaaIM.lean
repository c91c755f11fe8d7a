import Derived.Test.YtkjnddgjnlbopaaIL
/-
  The frames from a mark on, one by one, as a function that is ranged over.
-/
namespace Go.Proofs.Ytkjnddgjnlbopaa.Index
open Go Go.RowKit
open Go.Proofs.Ytkjnddgjnlbopaa.Wire (S S_list S_size cell_row frozen_row row_lt heap_set heap_far)
open Go.Proofs.Ytkjnddgjnlbopaa.Frame Go.Proofs.Ytkjnddgjnlbopaa.Seg Go.Proofs.Ytkjnddgjnlbopaa.Ranges
attribute [local go_sem] Oper.semAt_some

/-- the error behind the frames that are there -/
def exE (s : ByteArray) (p q : Nat) : Nat := isX s (p + bytesOf (isL s p q)) (q + (isL s p q).length)
/-- what is handed over -/
def RelI (s : ByteArray) (p q : Nat) (i _sz : Nat) (args : Array Value) (_W : World) : Prop :=
  (i < (isL s p q).length ∧ args = #[frV (((isL s p q).getD i fr0).q : Int) ((isL s p q).getD i fr0).p (((isL s p q).getD i fr0).i : Int), .int .i64 0]) ∨
  (i = (isL s p q).length ∧ ¬ exE s p q = 0 ∧ args = #[frV 0 [] 0, .int .i64 (exE s p q : Int)])
/-- where the reading stands -/
def AtI (s : ByteArray) (p0 q0 i p x : Nat) (z : Int) : Prop :=
  (x = 0 ∧ z = ((q0 + i : Nat) : Int) ∧ i ≤ (isL s p0 q0).length ∧ isL s p (q0 + i) = (isL s p0 q0).drop i ∧ p = p0 + bytesOf ((isL s p0 q0).take i)) ∨ (¬ x = 0 ∧ i = (isL s p0 q0).length + 1)
theorem at_yes {s : ByteArray} {p0 q0 i p : Nat} (hi : i ≤ (isL s p0 q0).length) (hd : isL s p (q0 + i) = (isL s p0 q0).drop i) (hp : p = p0 + bytesOf ((isL s p0 q0).take i)) (h : isX s p (q0 + i) = 0) :
    i < (isL s p0 q0).length ∧ (isL s p0 q0).getD i fr0 = ⟨q0 + i, rdP (s.data.toList.drop p), p⟩ ∧ isL s (p + rdK (s.data.toList.drop p)) (q0 + (i + 1)) = (isL s p0 q0).drop (i + 1) ∧ p + rdK (s.data.toList.drop p) = p0 + bytesOf ((isL s p0 q0).take (i + 1)) ∧ p + rdK (s.data.toList.drop p) ≤ s.size ∧ 17 ≤ rdK (s.data.toList.drop p) ∧ q0 + i < 1048576 := by
  obtain ⟨h0, h1, h2, h3⟩ := isL_yes h
  rw [hd] at h3
  obtain ⟨g1, g2, g3⟩ := drop_at h3
  have hk := rdK_le h0
  have hz : s.data.toList.length = s.size := by simp
  rw [List.length_drop, hz] at hk
  obtain ⟨z1, _, _, z4, _⟩ := rd_zero h0
  have hpl := rdP_length z1
  have hkk : rdK (s.data.toList.drop p) = 16 + (rdP (s.data.toList.drop p)).length := by unfold rdK; rw [hpl]
  have hg : (isL s p0 q0)[i]'g1 = ⟨q0 + i, rdP (s.data.toList.drop p), p⟩ := by
    rw [← g2, List.getD_eq_getElem?_getD, List.getElem?_eq_getElem g1, Option.getD_some]
  refine ⟨g1, g2, by rw [g3, show q0 + (i + 1) = q0 + i + 1 by omega], ?_, by omega, hk.1, by omega⟩
  rw [List.take_succ_eq_append_getElem g1, bytes_append, hg]
  show _ = p0 + (_ + (16 + (rdP (s.data.toList.drop p)).length + 0))
  omega
theorem at_no {s : ByteArray} {p0 q0 i p : Nat} (hi : i ≤ (isL s p0 q0).length) (hd : isL s p (q0 + i) = (isL s p0 q0).drop i) (hp : p = p0 + bytesOf ((isL s p0 q0).take i)) (h : ¬ isX s p (q0 + i) = 0) :
    i = (isL s p0 q0).length ∧ isX s p (q0 + i) = exE s p0 q0 := by
  rw [isL_no h] at hd
  have hl := congrArg List.length hd
  rw [List.length_drop, List.length_nil] at hl
  have hil : i = (isL s p0 q0).length := by omega
  refine ⟨hil, ?_⟩
  unfold exE
  rw [hp, hil, List.take_length]
set_option maxRecDepth 100000 in
set_option maxHeartbeats 2000000 in
/-- **frames**: what it hands over -/
theorem iframes_seq (o m b : Nat) (s : ByteArray) (p0 q0 : Nat) (hs : s.size ≤ 1000000000000) (w : World) (hS : Boxed w b 9 (.string s)) (hI : w.heap[b + 1]? = some (.cells #[.int .i64 (q0 : Int), .int .i64 (p0 : Int)] 46 (0, 0))) (how : o ≤ m) (hm : m ≤ b) :
    Seq Try.prog 65 #[.pointer (some ⟨b + 1, 0, none⟩), .pointer (some ⟨b, 0, none⟩)] (RelI s p0 q0) ((isL s p0 q0).length + 1) o m w := by
  intro l J Jx W hW hsz hJ hJx hY h0
  have hbw := hS.lt
  have hS0 : Boxed W b 9 (.string s) := (hW.block b hbw).trans hS
  have hI0 : W.heap[b + 1]? = some (.cells #[.int .i64 (q0 : Int), .int .i64 (p0 : Int)] 46 (0, 0)) := (hW.block (b + 1) (row_lt hI)).trans hI
  have HBO := Lib.hid hS0
  have hc0 := cell_row hI0 0
  have hc1 := cell_row hI0 1
  have HBL := Lib.hid hbw
  have HSZ := Lib.hid hsz
  have HMB := Lib.hid hm
  have HOM := Lib.hid how
  have HS := Lib.hid hs
  have HJ := Lib.hid hJ
  have HJX := Lib.hid hJx
  have HY := Lib.hid hY
  have HJ0 := Lib.hid (h0 W (Below.refl _ _))
  have HAT := Lib.hid (show AtI s p0 q0 0 p0 0 (q0 : Int) from Or.inl ⟨rfl, by rw [Nat.add_zero], Nat.zero_le _, by rw [Nat.add_zero]; rfl, rfl⟩)
  have HM := Lib.hid (show ∀ z : Nat, z ≤ 2000000 → wrap64 ((z : Int) + 1) = (z : Int) + 1 from fun z h => IntWalk.wrap64_in _ ⟨by omega, by omega⟩)
  clear hS hI hS0 hI0 hW hJ hJx hY h0 hbw hsz hm how hs
  refine callsIn_of_wp Try.func65 rfl trivial ?_ rfl
  simp only [Try.ntmps65, List.size_toArray, List.length_cons, List.length_nil, Nat.reduceAdd, Nat.reduceSub, Array.replicate_succ, Array.replicate_zero, List.push_toArray, List.append_toArray, List.nil_append, List.cons_append]
  generalize hhi : W.heap.size = hi at *
  have HHW := Lib.hid (show hi ≤ W.heap.size by omega)
  clear hhi
  gi_wp2
  gi_loopw [4, 5, 6] (fun nx ee sq wr => ∃ (i p x : Nat) (z : Int), nx = .int .i64 (p : Int) ∧ ee = .int .i64 (x : Int) ∧ sq = .int .i64 z ∧ Hid (AtI s p0 q0 i p x z) ∧ Hid (J hi i wr) ∧ Hid (hi ≤ wr.heap.size) ∧ Hid (Boxed wr b 9 (.string s))) (fun nx ee _ _ => if intOf ee = 0 then s.size + 2 - (intOf nx).toNat + 1 else 0)
  case atStart => exact ⟨0, p0, 0, (q0 : Int), rfl, rfl, rfl, HAT, HJ0, HHW, HBO⟩
  case round =>
    clear HAT HJ0 HHW HBO
    obtain ⟨i, p, x, z, rfl, rfl, rfl, HA, HJ2, HW2, HB2⟩ := hrel
    rcases HA.out with ⟨rfl, rfl, hi', hd, hp⟩ | ⟨hx, hi'⟩
    · have cS := (HB2.out.alloc (.cells #[.int .i64 0, .string ⟨#[]⟩, .int .i64 0] 51)).cell
      have hrd := fun W => iread_any s p ((q0 + i : Nat) : Int) HS.out W
      rw [irV_eq] at hrd
      obtain ⟨qi, hqi⟩ : ∃ qi, q0 + i = qi := ⟨_, rfl⟩
      have HFB := Lib.hid (show FrB (wr.alloc (.cells #[.int .i64 0, .string ⟨#[]⟩, .int .i64 0] 51)) wr.heap.size 0 ⟨#[]⟩ 0 from heap_alloc_new wr _)
      have HBA := Lib.hid ((Below.refl wr.heap.size wr).alloc (Nat.le_refl _) (.cells #[.int .i64 0, .string ⟨#[]⟩, .int .i64 0] 51))
      have HBB := Lib.hid (HB2.out.lt)
      by_cases hx : isX s p (q0 + i) = 0
      · rw [if_pos hx] at hrd
        obtain ⟨g1, g2, g3, g4, g5, g6, g7⟩ := at_yes hi' hd hp hx
        rw [hqi] at hrd
        unfold frV at hrd
        have HRD := Lib.hid hrd
        have HA5 := Lib.hid (show AtI s p0 q0 (i + 1) (p + rdK (s.data.toList.drop p)) 0 ((q0 + (i + 1) : Nat) : Int) from Or.inl ⟨rfl, rfl, g1, g3, g4⟩)
        have hpk : (p : Int) + (rdK (s.data.toList.drop p) : Int) = ((p + rdK (s.data.toList.drop p) : Nat) : Int) := by omega
        have HPP := Lib.hid hpk
        have HMM := Lib.hid (show s.size + 2 - (p + rdK (s.data.toList.drop p)) < s.size + 2 - p by omega)
        have HQ1 := Lib.hid (show wrap64 ((qi : Int) + 1) = ((q0 + (i + 1) : Nat) : Int) by rw [HM.out qi (by omega)]; omega)
        have HRL := Lib.hid (show RelI s p0 q0 i wr.heap.size #[.agg #[.int .i64 (qi : Int), .string (S (rdP (s.data.toList.drop p))), .int .i64 (p : Int)], .int .i64 0] wr from Or.inl ⟨g1, by rw [g2, ← hqi]; rfl⟩)
        have HG1 := Lib.hid g1
        clear hrd hi' hd hp HA hx g1 g2 g3 g4 g5 g6 g7 hpk
        rw [hqi]
        gi_wp2_with fail
        refine ⟨trivial, rfl, ?_⟩
        refine (callsIn_wide.2 (HRD.out _)).mono ?_
        rintro ev W3 ⟨rfl, hb⟩
        have hsz1 : (wr.alloc (.cells #[.int .i64 0, .string ⟨#[]⟩, .int .i64 0] 51)).heap.size = wr.heap.size + 1 := by simp
        have HF3 := Lib.hid (show FrB W3 wr.heap.size 0 ⟨#[]⟩ 0 from (hb.block _ (by rw [hsz1]; omega)).trans HFB.out)
        have HB3 := Lib.hid (HBA.out.trans (hb.mono (by rw [hsz1]; omega)))
        clear hb hsz1 HFB HBA HRD cS
        obtain ⟨⟨c0, c1, c2⟩, f0, f1, f2⟩ := HF3.out.facts
        obtain ⟨⟨d0, d1, d2⟩, -⟩ := (HF3.out.store (qi : Int) (S (rdP (s.data.toList.drop p))) (p : Int)).facts
        obtain ⟨W4, hW4⟩ : ∃ W4, set3 W3 wr.heap.size (qi : Int) (S (rdP (s.data.toList.drop p))) (p : Int) = W4 := ⟨_, rfl⟩
        have hb4 : Below wr.heap.size wr W4 := by rw [← hW4]; exact below_set3 HB3.out (Nat.le_refl _) _ _ _
        have hgr : Grw (fun r => hi ≤ r ∧ r < hi) wr W4 := grw_below hb4
        have HB4 := Lib.hid (show Boxed W4 b 9 (.string s) from (hb4.block b HBB.out).trans HB2.out)
        have HW4 := Lib.hid (Nat.le_trans HW2.out hgr.size)
        obtain ⟨fn, tmps, assign, body, hy, hR⟩ := HY.out hi i #[.agg #[.int .i64 (qi : Int), .string (S (rdP (s.data.toList.drop p))), .int .i64 (p : Int)], .int .i64 0] wr W4 (Nat.le_refl _) HW2.out (by have := HG1.out; omega) HJ2.out hgr HRL.out
        have HWE := Lib.hid hW4
        unfold set3 at hW4 d0 d1 d2
        rw [← HWE.out] at hy hR
        unfold set3 at hy hR
        clear hb4 hgr hW4
        gi_wp2
        refine ⟨rfl, hR.mono ?_⟩
        clear c0 c1 c2 f0 f1 f2 d0 d1 d2 hy hR
        rintro ev W5 (⟨rfl, hj, hkp⟩ | ⟨rfl, hjx, hkp⟩)
        · have e4 := HWE.out
          unfold set3 at e4
          rw [e4] at hkp
          have HJ5 := Lib.hid hj
          have HW5 := Lib.hid (Nat.le_trans HW4.out hkp.size)
          have HB5 := Lib.hid (show Boxed W5 b 9 (.string s) from (hkp.same b (by have := HBL.out; have := HSZ.out; omega) (by have := HBL.out; have := HMB.out; omega)).trans HB4.out)
          clear hj hkp e4 HWE
          gi_wp2
          exact ⟨⟨i + 1, p + rdK (s.data.toList.drop p), 0, ((q0 + (i + 1) : Nat) : Int), by rw [HPP.out], rfl, by rw [HQ1.out], HA5, HJ5, HW5, HB5⟩, by rw [HPP.out]; simp [intOf]; have := HMM.out; omega⟩
        · have e4 := HWE.out
          unfold set3 at e4
          rw [e4] at hkp
          have HW5 := Lib.hid (Nat.le_trans HW4.out hkp.size)
          clear hkp e4 HWE
          gi_wp2
          refine bodyPost_ret (results_none rfl _ _ _) rfl ?_
          exact ⟨⟨_, rfl⟩, hi, Nat.le_refl _, HW5.out, .inr hjx⟩
      · rw [if_neg hx] at hrd
        obtain ⟨hil, hex⟩ := at_no hi' hd hp hx
        rw [hex] at hrd hx
        rw [hqi] at hrd
        unfold frV at hrd
        obtain ⟨X, hX⟩ : ∃ X, exE s p0 q0 = X := ⟨_, rfl⟩
        rw [hX] at hrd hx
        obtain ⟨q1, q2, q3, q4, q5⟩ := nat_ne hx
        have HRD := Lib.hid hrd
        have HX0 := Lib.hid hx
        have HA5 := fun z => Lib.hid (show AtI s p0 q0 (i + 1) 0 X z from Or.inr ⟨hx, by omega⟩)
        have HRL := Lib.hid (show RelI s p0 q0 i wr.heap.size #[.agg #[.int .i64 0, .string (S []), .int .i64 0], .int .i64 (X : Int)] wr from Or.inr ⟨hil, by rw [hX]; exact hx, by rw [hX]; rfl⟩)
        have HG1 := Lib.hid (show i < (isL s p0 q0).length + 1 by omega)
        clear hrd hi' hd hp HA hx hil hex hX
        rw [hqi]
        gi_wp2_with fail
        refine ⟨trivial, rfl, ?_⟩
        refine (callsIn_wide.2 (HRD.out _)).mono ?_
        rintro ev W3 ⟨rfl, hb⟩
        have hsz1 : (wr.alloc (.cells #[.int .i64 0, .string ⟨#[]⟩, .int .i64 0] 51)).heap.size = wr.heap.size + 1 := by simp
        have HF3 := Lib.hid (show FrB W3 wr.heap.size 0 ⟨#[]⟩ 0 from (hb.block _ (by rw [hsz1]; omega)).trans HFB.out)
        have HB3 := Lib.hid (HBA.out.trans (hb.mono (by rw [hsz1]; omega)))
        clear hb hsz1 HFB HBA HRD cS
        obtain ⟨⟨c0, c1, c2⟩, f0, f1, f2⟩ := HF3.out.facts
        obtain ⟨⟨d0, d1, d2⟩, -⟩ := (HF3.out.store 0 (S []) 0).facts
        obtain ⟨W4, hW4⟩ : ∃ W4, set3 W3 wr.heap.size 0 (S []) 0 = W4 := ⟨_, rfl⟩
        have hb4 : Below wr.heap.size wr W4 := by rw [← hW4]; exact below_set3 HB3.out (Nat.le_refl _) _ _ _
        have hgr : Grw (fun r => hi ≤ r ∧ r < hi) wr W4 := grw_below hb4
        have HB4 := Lib.hid (show Boxed W4 b 9 (.string s) from (hb4.block b HBB.out).trans HB2.out)
        have HW4 := Lib.hid (Nat.le_trans HW2.out hgr.size)
        obtain ⟨fn, tmps, assign, body, hy, hR⟩ := HY.out hi i #[.agg #[.int .i64 0, .string (S []), .int .i64 0], .int .i64 (X : Int)] wr W4 (Nat.le_refl _) HW2.out (by have := HG1.out; omega) HJ2.out hgr HRL.out
        have HWE := Lib.hid hW4
        unfold set3 at hW4 d0 d1 d2
        rw [← HWE.out] at hy hR
        unfold set3 at hy hR
        clear hb4 hgr hW4
        gi_wp2
        refine ⟨rfl, hR.mono ?_⟩
        clear c0 c1 c2 f0 f1 f2 d0 d1 d2 hy hR
        rintro ev W5 (⟨rfl, hj, hkp⟩ | ⟨rfl, hjx, hkp⟩)
        · have e4 := HWE.out
          unfold set3 at e4
          rw [e4] at hkp
          have HJ5 := Lib.hid hj
          have HW5 := Lib.hid (Nat.le_trans HW4.out hkp.size)
          have HB5 := Lib.hid (show Boxed W5 b 9 (.string s) from (hkp.same b (by have := HBL.out; have := HSZ.out; omega) (by have := HBL.out; have := HMB.out; omega)).trans HB4.out)
          clear hj hkp e4 HWE
          gi_wp2
          exact ⟨⟨i + 1, 0, X, _, rfl, rfl, rfl, HA5 _, HJ5, HW5, HB5⟩, by simp [intOf]; have h5 := HX0.out; rw [if_neg h5]; omega⟩
        · have e4 := HWE.out
          unfold set3 at e4
          rw [e4] at hkp
          have HW5 := Lib.hid (Nat.le_trans HW4.out hkp.size)
          clear hkp e4 HWE
          gi_wp2
          refine bodyPost_ret (results_none rfl _ _ _) rfl ?_
          exact ⟨⟨_, rfl⟩, hi, Nat.le_refl _, HW5.out, .inr hjx⟩
    · obtain ⟨q1, q2, q3, q4, q5⟩ := nat_ne hx
      have HIL := Lib.hid hi'
      clear hx hi' HA
      gi_wp2
      go_end0
      exact ⟨⟨_, rfl⟩, hi, Nat.le_refl _, HW2.out, .inl (by rw [← HIL.out]; exact HJ2.out)⟩
end Go.Proofs.Ytkjnddgjnlbopaa.Index
