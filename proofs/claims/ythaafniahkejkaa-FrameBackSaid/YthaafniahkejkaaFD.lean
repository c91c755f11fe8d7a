import Derived.Test.YthaafniahkejkaaFC
import Derived.Test.YthaafniahkejkaaHB
/-
  The function that tells a scan's frames one by one.
-/
namespace Go.Proofs.Ythaafniahkejkaa.Frame
open Go Go.RowKit
open Go.Proofs.Ythaafniahkejkaa.Wire (S S_list S_size cell_row frozen_row)
open Go.Proofs.Ythaafniahkejkaa.Ranges
attribute [local go_sem] Oper.semAt_some

/-- all frames from a place on -/
def allS (s : ByteArray) (k : Nat) : List Fr := allF (s.data.toList.drop k).length (s.data.toList.drop k) k
theorem allS_yes {s : ByteArray} {k : Nat} (h : rdE (s.data.toList.drop k) = 0) : allS s k = ⟨rdQ (s.data.toList.drop k), rdP (s.data.toList.drop k), k⟩ :: allS s (k + rdK (s.data.toList.drop k)) := by
  unfold allS; rw [all_step h, List.drop_drop]
theorem allS_no {s : ByteArray} {k : Nat} (h : ¬ rdE (s.data.toList.drop k) = 0) : allS s k = [] := all_none h
def fr0 : Fr := ⟨0, [], 0⟩
/-- what is handed over -/
def RelF (s : ByteArray) (k : Nat) (i _sz : Nat) (args : Array Value) (_W : World) : Prop :=
  (i < (allS s k).length ∧ args = #[frV (((allS s k).getD i fr0).q : Int) ((allS s k).getD i fr0).p (((allS s k).getD i fr0).i : Int), .int .i64 0]) ∨
  (i = (allS s k).length ∧ ∃ e : Nat, ¬ e = 0 ∧ args = #[frV 0 [] 0, .int .i64 (e : Int)])
/-- where the reading stands -/
def AtF (s : ByteArray) (k i p x : Nat) : Prop := (x = 0 ∧ p ≤ s.size ∧ i ≤ (allS s k).length ∧ allS s p = (allS s k).drop i) ∨ (¬ x = 0 ∧ i = (allS s k).length + 1)
theorem frames_in (n : Nat) (s : ByteArray) (i : Int) (w : World) :
    CallsIn Fence.wide n Try.prog 35 #[.string s, .int .i64 i] w fun e w' => e = .returned (.func (.func 49) #[] #[.pointer (some ⟨w.heap.size + 1, 0, none⟩), .pointer (some ⟨w.heap.size, 0, none⟩)]) ∧ w' = (w.alloc (.cells #[.string s] 9)).alloc (.cells #[.int .i64 i] 3) := by
  refine callsIn_of_wp Try.func35 rfl trivial ?_ rfl
  simp only [Try.ntmps35, List.size_toArray, List.length_cons, List.length_nil, Nat.reduceAdd, Nat.reduceSub, Array.replicate_succ, Array.replicate_zero, List.push_toArray, List.append_toArray, List.nil_append, List.cons_append]
  have hmf : ∀ (fn : Fn) (first cap : Array Value) (w : World), (Instr.makeFunc fn first cap).run Try.prog w = .ok (.func fn first cap) w := fun _ _ _ _ => rfl
  gi_wp2
  go_ret
  exact ⟨rfl, rfl⟩
theorem drop_at {l : List Fr} {i : Nat} {e : Fr} {m : List Fr} (h : l.drop i = e :: m) : i < l.length ∧ l.getD i fr0 = e ∧ l.drop (i + 1) = m := by
  have hi : i < l.length := by
    by_cases hq : i < l.length
    · exact hq
    · rw [List.drop_of_length_le (by omega)] at h; cases h
  rw [List.drop_eq_getElem_cons hi] at h
  injection h with h1 h2
  exact ⟨hi, by rw [List.getD_eq_getElem?_getD, List.getElem?_eq_getElem hi, Option.getD_some, h1], h2⟩

set_option maxRecDepth 100000 in
set_option maxHeartbeats 4000000 in
/-- **frames**: what it hands over -/
theorem frames_seq (o m b : Nat) (s : ByteArray) (k : Nat) (hk : k ≤ s.size) (hs : s.size ≤ 1000000000000) (w : World) (hS : Boxed w b 9 (.string s)) (hI : Boxed w (b + 1) 3 (.int .i64 (k : Int))) (how : o ≤ m) (hm : m ≤ b) :
    Seq Try.prog 49 #[.pointer (some ⟨b + 1, 0, none⟩), .pointer (some ⟨b, 0, none⟩)] (RelF s k) ((allS s k).length + 1) o m w := by
  intro l J Jx W hW hsz hJ hJx hY h0
  have hbw := hS.lt
  have hS0 : Boxed W b 9 (.string s) := (hW.block b hbw).trans hS
  have hI0 : Boxed W (b + 1) 3 (.int .i64 (k : Int)) := (hW.block (b + 1) hI.lt).trans hI
  have HBO := Lib.hid hS0
  have hci := hI0.cell
  have HBL := Lib.hid hbw
  have HSZ := Lib.hid hsz
  have HMB := Lib.hid hm
  have HOM := Lib.hid how
  have HK := Lib.hid hk
  have HS := Lib.hid hs
  have HJ := Lib.hid hJ
  have HJX := Lib.hid hJx
  have HY := Lib.hid hY
  have HJ0 := Lib.hid (h0 W (Below.refl _ _))
  have HAT := Lib.hid (show AtF s k 0 k 0 from Or.inl ⟨rfl, hk, Nat.zero_le _, rfl⟩)
  clear hS hI hS0 hI0 hW hJ hJx hY h0 hbw hsz hm how hk hs
  refine callsIn_of_wp Try.func49 rfl trivial ?_ rfl
  simp only [Try.ntmps49, List.size_toArray, List.length_cons, List.length_nil, Nat.reduceAdd, Nat.reduceSub, Array.replicate_succ, Array.replicate_zero, List.push_toArray, List.append_toArray, List.nil_append, List.cons_append]
  generalize hhi : W.heap.size = hi at *
  have HHW := Lib.hid (show hi ≤ W.heap.size by omega)
  clear hhi
  gi_wp2
  gi_loopw [4, 5] (fun nx ee wr => ∃ i p x : Nat, nx = .int .i64 (p : Int) ∧ ee = .int .i64 (x : Int) ∧ Hid (AtF s k i p x) ∧ Hid (J hi i wr) ∧ Hid (hi ≤ wr.heap.size) ∧ Hid (Boxed wr b 9 (.string s))) (fun nx ee _ => if intOf ee = 0 then s.size + 1 - (intOf nx).toNat else 0)
  case atStart => exact ⟨0, k, 0, rfl, rfl, HAT, HJ0, HHW, HBO⟩
  case round =>
    clear HAT HJ0 HHW HBO
    obtain ⟨i, p, x, rfl, rfl, HA, HJ2, HW2, HB2⟩ := hrel
    rcases HA.out with ⟨rfl, hp, hi', hd⟩ | ⟨hx, hi'⟩
    · have HP := Lib.hid hp
      have HI := Lib.hid hi'
      have HD := Lib.hid hd
      have cS := (HB2.out.alloc (.cells #[.int .i64 0, .string ⟨#[]⟩, .int .i64 0] 26)).cell
      have HRD := Lib.hid (fun W => Read_at s p hp HS.out _ rfl W)
      have HFB := Lib.hid (show FBx (wr.alloc (.cells #[.int .i64 0, .string ⟨#[]⟩, .int .i64 0] 26)) wr.heap.size from heap_alloc_new wr _)
      have HBA := Lib.hid ((Below.refl wr.heap.size wr).alloc (Nat.le_refl _) (.cells #[.int .i64 0, .string ⟨#[]⟩, .int .i64 0] 26))
      have HBB := Lib.hid (HB2.out.lt)
      clear hp hi' hd HA
      gi_wp2_with fail
      refine ⟨trivial, rfl, ?_⟩
      refine (callsIn_wide.2 (HRD.out _)).mono ?_
      rintro ev W3 ⟨he, hb⟩
      have hsz1 : (wr.alloc (.cells #[.int .i64 0, .string ⟨#[]⟩, .int .i64 0] 26)).heap.size = wr.heap.size + 1 := by simp
      have HF3 := Lib.hid (show FBx W3 wr.heap.size from (hb.block _ (by rw [hsz1]; omega)).trans HFB.out)
      have HB3 := Lib.hid (HBA.out.trans (hb.mono (by rw [hsz1]; omega)))
      clear hb hsz1 HFB HBA HRD
      obtain ⟨⟨c0, c1, c2⟩, f0, f1, f2⟩ := HF3.out.facts
      rcases he with ⟨h0, rfl⟩ | ⟨h0, rfl⟩
      · have hl := HD.out
        rw [allS_yes h0] at hl
        obtain ⟨g1, g2, g3⟩ := drop_at hl.symm
        have hkl := rdK_le h0
        rw [List.length_drop] at hkl
        generalize hT : s.data.toList.drop p = T at *
        obtain ⟨d0, d1, d2, d3, d4⟩ := HF3.out.store (rdQ T : Int) (S (rdP T)) (p : Int)
        obtain ⟨W4, hW4⟩ : ∃ W4, ((W3.setCell ⟨wr.heap.size, 0, none⟩ (.int .i64 (rdQ T : Int))).setCell ⟨wr.heap.size, 1, none⟩ (.string (S (rdP T)))).setCell ⟨wr.heap.size, 2, none⟩ (.int .i64 (p : Int)) = W4 := ⟨_, rfl⟩
        rw [hW4] at d0 d1 d2
        have hb4 : Below wr.heap.size wr W4 := by
          rw [← hW4]
          exact ((HB3.out.setCell (p := ⟨wr.heap.size, 0, none⟩) (Nat.le_refl _) _).setCell (p := ⟨wr.heap.size, 1, none⟩) (Nat.le_refl _) _).setCell (p := ⟨wr.heap.size, 2, none⟩) (Nat.le_refl _) _
        have hgr : Grw (fun r => hi ≤ r ∧ r < hi) wr W4 := grw_below hb4
        have HB4 := Lib.hid (show Boxed W4 b 9 (.string s) from (hb4.block b HBB.out).trans HB2.out)
        have HW4 := Lib.hid (Nat.le_trans HW2.out hgr.size)
        obtain ⟨fn, tmps, assign, body, hy, hR⟩ := HY.out hi i #[.agg #[.int .i64 (rdQ T : Int), .string (S (rdP T)), .int .i64 (p : Int)], .int .i64 0] wr W4 (Nat.le_refl _) HW2.out (by omega) HJ2.out hgr (Or.inl ⟨g1, by rw [g2]; rfl⟩)
        have HPK := Lib.hid (show p + rdK T ≤ s.size by have := HP.out; simp at hkl; omega)
        have HPI := Lib.hid (And.intro hkl.1 (show i + 1 ≤ (allS s k).length by omega))
        have HG3 := Lib.hid g3
        have hpk : (p : Int) + (rdK T : Int) = ((p + rdK T : Nat) : Int) := by omega
        have HPP := Lib.hid hpk
        clear hl g1 g2 g3 hkl hb4 hgr hpk
        gi_wp2
        refine ⟨rfl, hR.mono ?_⟩
        clear c0 c1 c2 f0 f1 f2 d0 d1 d2 d3 d4 hW4 hy hR
        rintro ev W5 (⟨rfl, hj, hkp⟩ | ⟨rfl, hjx, hkp⟩)
        · have HJ5 := Lib.hid hj
          have HW5 := Lib.hid (Nat.le_trans HW4.out hkp.size)
          have HB5 := Lib.hid (show Boxed W5 b 9 (.string s) from (hkp.same b (by have := HBL.out; have := HSZ.out; omega) (by have := HBL.out; have := HMB.out; omega)).trans HB4.out)
          have HA5 := Lib.hid (show AtF s k (i + 1) (p + rdK T) 0 from Or.inl ⟨rfl, HPK.out, HPI.out.2, HG3.out.symm⟩)
          have HM := Lib.hid (show s.size + 1 - (p + rdK T) < s.size + 1 - p by have := HPI.out; have := HPK.out; omega)
          clear hj hkp
          gi_wp2
          exact ⟨⟨i + 1, p + rdK T, 0, by rw [HPP.out], rfl, HA5, HJ5, HW5, HB5⟩, by rw [HPP.out]; simp [intOf]; have := HM.out; omega⟩
        · gi_wp2
          refine bodyPost_ret (results_none rfl _ _ _) rfl ?_
          exact ⟨⟨_, rfl⟩, hi, Nat.le_refl _, Nat.le_trans HW4.out hkp.size, .inr hjx⟩
      · have hl := HD.out
        rw [allS_no h0] at hl
        have hil : i = (allS s k).length := by
          have := congrArg List.length hl
          rw [List.length_drop, List.length_nil] at this
          have := HI.out; omega
        generalize hT : s.data.toList.drop p = T at *
        obtain ⟨d0, d1, d2, d3, d4⟩ := HF3.out.store 0 ⟨#[]⟩ 0
        obtain ⟨W4, hW4⟩ : ∃ W4, ((W3.setCell ⟨wr.heap.size, 0, none⟩ (.int .i64 0)).setCell ⟨wr.heap.size, 1, none⟩ (.string ⟨#[]⟩)).setCell ⟨wr.heap.size, 2, none⟩ (.int .i64 0) = W4 := ⟨_, rfl⟩
        rw [hW4] at d0 d1 d2
        have hb4 : Below wr.heap.size wr W4 := by
          rw [← hW4]
          exact ((HB3.out.setCell (p := ⟨wr.heap.size, 0, none⟩) (Nat.le_refl _) _).setCell (p := ⟨wr.heap.size, 1, none⟩) (Nat.le_refl _) _).setCell (p := ⟨wr.heap.size, 2, none⟩) (Nat.le_refl _) _
        have hgr : Grw (fun r => hi ≤ r ∧ r < hi) wr W4 := grw_below hb4
        have HB4 := Lib.hid (show Boxed W4 b 9 (.string s) from (hb4.block b HBB.out).trans HB2.out)
        have HW4 := Lib.hid (Nat.le_trans HW2.out hgr.size)
        obtain ⟨fn, tmps, assign, body, hy, hR⟩ := HY.out hi i #[.agg #[.int .i64 0, .string ⟨#[]⟩, .int .i64 0], .int .i64 (rdE T : Int)] wr W4 (Nat.le_refl _) HW2.out (by omega) HJ2.out hgr (Or.inr ⟨hil, rdE T, h0, rfl⟩)
        have HIL := Lib.hid (And.intro hil h0)
        obtain ⟨q1, q2, q3, q4, q5⟩ := nat_ne h0
        generalize rdE T = x at HIL hy hR q1 q2 q3 q4 q5 ⊢
        clear hl hb4 hgr hil h0
        gi_wp2
        refine ⟨rfl, hR.mono ?_⟩
        clear c0 c1 c2 f0 f1 f2 d0 d1 d2 d3 d4 hW4 hy hR
        rintro ev W5 (⟨rfl, hj, hkp⟩ | ⟨rfl, hjx, hkp⟩)
        · have HJ5 := Lib.hid hj
          have HW5 := Lib.hid (Nat.le_trans HW4.out hkp.size)
          have HB5 := Lib.hid (show Boxed W5 b 9 (.string s) from (hkp.same b (by have := HBL.out; have := HSZ.out; omega) (by have := HBL.out; have := HMB.out; omega)).trans HB4.out)
          have HA5 := Lib.hid (show AtF s k (i + 1) 0 x from Or.inr ⟨HIL.out.2, by have := HIL.out.1; omega⟩)
          have HM := Lib.hid (show p ≤ s.size from HP.out)
          have HX := Lib.hid q5
          clear hj hkp
          gi_wp2
          exact ⟨⟨i + 1, 0, x, rfl, rfl, HA5, HJ5, HW5, HB5⟩, by simp [intOf]; have := HM.out; have h5 := HIL.out.2; rw [if_neg h5]; omega⟩
        · gi_wp2
          refine bodyPost_ret (results_none rfl _ _ _) rfl ?_
          exact ⟨⟨_, rfl⟩, hi, Nat.le_refl _, Nat.le_trans HW4.out hkp.size, .inr hjx⟩
    · obtain ⟨q1, q2, q3, q4, q5⟩ := nat_ne hx
      have HIL := Lib.hid hi'
      clear hx hi' HA
      gi_wp2
      go_end0
      exact ⟨⟨_, rfl⟩, hi, Nat.le_refl _, HW2.out, .inl (by rw [← HIL.out]; exact HJ2.out)⟩
end Go.Proofs.Ythaafniahkejkaa.Frame
