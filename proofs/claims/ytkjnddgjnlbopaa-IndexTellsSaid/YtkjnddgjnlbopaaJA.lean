import Derived.Test.YtkjnddgjnlbopaaIT
import Derived.Test.YtkjnddgjnlbopaaIF
import Derived.Test.YtkjnddgjnlbopaaRI
import Derived.BigQuiet
/-
  The document's Index: what it has in memory; Next, Build.
-/
namespace Go.Proofs.Ytkjnddgjnlbopaa.Index
open Go Go.RowKit
open Go.Proofs.Ytkjnddgjnlbopaa.Wire (S S_list S_size cell_row frozen_row row_lt heap_set heap_far)
open Go.Proofs.Ytkjnddgjnlbopaa.Frame Go.Proofs.Ytkjnddgjnlbopaa.Seg

def RB4 (w : World) (b a ev : Nat) (v : Value) (g : Nat) : Prop := w.heap[b]? = some (.cells #[.int .i64 (a : Int), .int .i64 (ev : Int), v, .int .i64 (g : Int)] 90 (0, 0))
theorem RB4.facts {w : World} {b a ev : Nat} {v : Value} {g : Nat} (h : RB4 w b a ev v g) :
    (w.cell? ⟨b, 0, none⟩ = some (.int .i64 (a : Int)) ∧ w.cell? ⟨b, 1, none⟩ = some (.int .i64 (ev : Int)) ∧ w.cell? ⟨b, 2, none⟩ = some v ∧ w.cell? ⟨b, 3, none⟩ = some (.int .i64 (g : Int))) ∧
      w.frozen? ⟨b, 0, none⟩ = false ∧ w.frozen? ⟨b, 1, none⟩ = false ∧ w.frozen? ⟨b, 2, none⟩ = false ∧ w.frozen? ⟨b, 3, none⟩ = false :=
  ⟨⟨cell_row h 0, cell_row h 1, cell_row h 2, cell_row h 3⟩, frozen_row h 0, frozen_row h 1, frozen_row h 2, frozen_row h 3⟩
theorem OwnN.lt {w : World} {base : Nat} {v : Value} {l : List Nat} (h : OwnN w base v l) (g : Nat) (hg : v.ownBlock = some g) : g < w.heap.size ∧ base ≤ g := by
  rcases h.2 with ⟨rfl, _⟩ | ⟨b, cap, cur, rfl, hbg, hh, _⟩
  · cases hg
  · have : b = g := by simpa [Value.ownBlock] using hg
    subst this
    exact ⟨row_lt hh, hbg⟩
theorem OwnN.keep {w w' : World} {base : Nat} {v : Value} {l : List Nat} (h : OwnN w base v l) (hk : ∀ g, v.ownBlock = some g → w'.heap[g]? = w.heap[g]?) : OwnN w' base v l := by
  obtain ⟨h1, h2⟩ := h
  refine ⟨h1, ?_⟩
  rcases h2 with h2 | ⟨b, cap, cur, e, hbg, hh, r⟩
  · exact Or.inl h2
  · exact Or.inr ⟨b, cap, cur, e, hbg, (hk b (by rw [e]; rfl)).trans hh, r⟩
theorem valsN_append (l m : List Nat) : valsN (l ++ m) = valsN l ++ valsN m := by unfold valsN; rw [List.map_append]
/-- the document's index of frames that stand at these places: of its own, from a block on; and which blocks are none of these -/
def Rx (P : Nat → Prop) (w : World) (base b ev a : Nat) (ats : List Nat) (g : Nat) : Prop :=
  ∃ v, RB4 w b a ev v g ∧ OwnN w base v ats ∧ ¬ P b ∧ ∀ r, v.ownBlock = some r → ¬ P r
theorem Rx.below {P : Nat → Prop} {w w' : World} {base b ev a : Nat} {ats : List Nat} {g : Nat} (h : Rx P w base b ev a ats g) (hb : Below w.heap.size w w') : Rx P w' base b ev a ats g := by
  obtain ⟨v, h1, h2, h3⟩ := h
  exact ⟨v, (hb.block _ (row_lt h1)).trans h1, h2.below hb, h3⟩
theorem rb_ne {w : World} {base b a ev g : Nat} {v u : Value} {l : List Nat} (h : RB4 w b a ev u g) (ho : OwnN w base v l) (r : Nat) (hr : v.ownBlock = some r) : r ≠ b := by
  rintro rfl
  rcases ho.2 with ⟨rfl, _⟩ | ⟨g2, cap, cur, rfl, _, hg, _⟩
  · cases hr
  · have e : g2 = r := by simpa [Value.ownBlock] using hr
    subst e
    unfold RB4 at h
    rw [h] at hg
    injection hg with hg
    injection hg with _ hg
    cases hg
theorem step_append_n2 {ops : Array Oper} {o : Oper} {a : Act} {w : World} {K : Act → World → Prop} {Q : Exit → Act → World → Prop} {X : Prop} (hgd : o.guard = none) (s x : Operand)
    (ho : o.op = .call { callee := .builtin .append, args := #[s, x], argTypes := #[40, 40] })
    (base : Nat) (v : Value) (xs : List Nat) (hs : a.eval s = v) (hown : OwnN w base v xs)
    (g : Nat) (cap : Nat) (y : Nat) (hx : a.eval x = .slice (some ⟨g, 0, none⟩) 1 cap) (hn : w.heap[g]? = some (.cells #[.int .i64 (y : Int)] 3 (0, 0)))
    (hlen : xs.length ≤ 1000000) (hbase : base ≤ w.heap.size)
    (h : ∀ v' w', OwnN w' base v' (xs ++ [y]) → w.grownBy w' v.ownBlock → (∀ r, v'.ownBlock = some r → v.ownBlock = some r ∨ w.heap.size ≤ r) → K (a.put o.dst v') w') :
    if Region.wanted o (yielded ops a.tmps) = true then Oper.wp Try.prog o a w K Q else X := by
  obtain ⟨i0, hi, hz0, hz1, hz2⟩ := info_parts infoN
  rw [if_pos (by simp [Region.wanted, hgd])]
  refine wp_append_own2 w s x 40 ho base 3 i0 _ 1 8 Try.underlying40 hi hz0 hz1 hz2 rfl (by decide) v xs.length (valsN xs) hs hown ⟨g, 0, none⟩ 1 cap [.int .i64 (y : Int)] hx rfl ?_ (fun u hu => by obtain rfl := List.mem_singleton.1 hu; rfl) (by unfold maxLen; omega) (by omega) hbase (by decide) ?_
  · intro j u hj
    rw [addr_add0, cell_row hn]
    simpa using hj
  · intro v' w' hown' hg hn
    exact h v' w' (by unfold OwnN; rw [valsN_append, List.length_append]; exact hown') hg hn
set_option maxRecDepth 100000 in
/-- **Next** -/
theorem next_r (w : World) (b a ev : Nat) (A : Option Addr) (n cap g : Nat) (h : RB4 w b a ev (.slice A n cap) g) (hsm : a + n ≤ 100000000) :
    Calls Try.prog 45 #[.pointer (some ⟨b, 0, none⟩)] w fun e w' => e = .returned (.int .i64 ((a + n : Nat) : Int)) ∧ Below w.heap.size w w' := by
  obtain ⟨⟨c0, c1, c2, c3⟩, -⟩ := h.facts
  have H1 := Lib.hid (show wrap64 ((a : Int) + (n : Int)) = ((a + n : Nat) : Int) by rw [IntWalk.wrap64_in _ ⟨by omega, by omega⟩]; omega)
  clear h hsm
  go_enter Try.func45, Try.ntmps45
  go_wp2_with fail
  go_quiet (fail)
  go_wp2_with fail
  go_ret
  exact ⟨by rw [H1.out]; first | rfl | simp, below_dn _ _ _⟩
theorem segN_front (ps : List (List UInt8)) (k : Nat) : segN (ps.take k) ≤ segN ps := by
  have h2 : rowB 0 ps = rowB 0 (ps.take k) ++ rowB (0 + (ps.take k).length) (ps.drop k) := by rw [← rowB_append, List.take_append_drop]
  unfold segN
  rw [h2, List.length_append]; omega
/-! ### Build -/
theorem rbuild_arg (s : ByteArray) (every : Int) (hev : ¬ (1 ≤ every ∧ every ≤ 64)) (w : World) :
    Calls Try.prog 21 #[.string s, .int .i64 every] w fun e w' => e = .returned (.tuple #[.pointer none, .int .i64 1]) ∧ w = w' := by
  by_cases h1 : every < 1
  · have k1 : decide (every < 1) = true := decide_eq_true h1
    go_enter Try.func21, Try.ntmps21
    go_wp2_with fail
    go_ret2
    exact ⟨rfl, rfl⟩
  · have k1 : decide (every < 1) = false := decide_eq_false h1
    have k2 : 64 < every := by omega
    have k3 : decide (64 < every) = true := decide_eq_true k2
    clear hev
    go_enter Try.func21, Try.ntmps21
    go_wp2_with fail
    go_ret2
    exact ⟨rfl, rfl⟩
set_option maxRecDepth 100000 in
theorem rbuild_no (s : ByteArray) (hs : s.size ≤ 10000000) (ev : Nat) (hev : 1 ≤ ev ∧ ev ≤ 64) (h0 : ¬ fiE s.data.toList = 0) (w : World) :
    Calls Try.prog 21 #[.string s, .int .i64 (ev : Int)] w fun e w' => e = .returned (.tuple #[.pointer none, .int .i64 (fiE s.data.toList : Int)]) ∧ Below w.heap.size w w' := by
  have HSC := Lib.hid (fun W => refSScan_any s hs W)
  obtain ⟨q1, q2, q3, q4, q5⟩ := nat_ne h0
  generalize fiE s.data.toList = x at *
  generalize fiQ s.data.toList = y at *
  generalize scL s.data.toList = L at *
  generalize scG s.data.toList = z at *
  generalize scW s.data.toList = t at *
  have k1 : decide ((ev : Int) < 1) = false := decide_eq_false (by omega)
  have k2 : decide ((64 : Int) < (ev : Int)) = false := decide_eq_false (by omega)
  have k3 : ¬ (64 : Int) < (ev : Int) := by omega
  have k4 : ¬ (ev : Int) < 1 := by omega
  clear h0 hs hev
  go_enter Try.func21, Try.ntmps21
  go_wp2_with fail
  refine (HSC.out w).mono ?_
  rintro e w1 ⟨A, cap, rfl, -, hb⟩
  have hb2 := hb.alloc hb.size (.cells #[.int .i64 (y : Int), .slice A L.length cap, .int .i64 (z : Int), .bool t] 86)
  have HB2 := Lib.hid hb2
  clear hb hb2
  go_wp2_with fail
  go_ret2
  exact ⟨rfl, HB2.out⟩
theorem i_at (a : Nat) (ps : List (List UInt8)) (i : Nat) (h : i < ps.length) (h2 : i < (rowF a 16 ps).length) : ((rowF a 16 ps)[i]'h2).i = segN (ps.take i) := by
  have h3 := rowF_at ps a 16 i h
  rw [List.getElem?_eq_getElem h2] at h3
  injection h3 with h3
  rw [h3]
  show 16 + (rowB a (ps.take i)).length = segN (ps.take i)
  unfold segN
  rw [rowB_length (ps.take i) a 0]
theorem rowRf_under {w w' : World} {A : Option Addr} {L : List Fr} {n : Nat} (h : RowRf w A L) (hb : Below n w w') (hA : ∀ b o, A = some ⟨b, o, none⟩ → 0 < L.length → b < n) : RowRf w' A L := fun i hi => by
  obtain ⟨b, o, e, h1, h2, h3, h4⟩ := h i hi
  have hn := hA b o e (by omega)
  exact ⟨b, o, e, Nat.lt_of_lt_of_le h1 hb.size, (hb.cell (p := ⟨b, o + i * 3, none⟩) hn).trans h2, (hb.cell (p := ⟨b, o + i * 3 + 1, none⟩) hn).trans h3, (hb.cell (p := ⟨b, o + i * 3 + 2, none⟩) hn).trans h4⟩
set_option maxRecDepth 100000 in
set_option maxHeartbeats 4000000 in
/-- **Build**, of a segment -/
theorem rbuild_yes (s : ByteArray) (hs : s.size ≤ 10000000) (ev : Nat) (hev : 1 ≤ ev ∧ ev ≤ 64) (h0 : fiE s.data.toList = 0) (w : World) :
    Calls Try.prog 21 #[.string s, .int .i64 (ev : Int)] w fun e w' => ∃ b, w.heap.size ≤ b ∧ e = .returned (.tuple #[.pointer (some ⟨b, 0, none⟩), .int .i64 0]) ∧ (∃ v, RB4 w' b (fiN s.data.toList) ev v (scG s.data.toList) ∧ OwnN w' b v (atsP (pays (scL s.data.toList)))) ∧ Below w.heap.size w w' := by
  have HSC := Lib.hid (fun W => refSScan_any s hs W)
  have hz : s.data.toList.length = s.size := by simp
  obtain ⟨a1, a2, a3, a4, a5⟩ := sc_again s.data.toList h0
  have eQ : fiQ s.data.toList = fiN s.data.toList := if_pos h0
  have hG : scG s.data.toList = segN (pays (scL s.data.toList)) := by
    have := congrArg List.length a2
    rw [segB_length, List.length_take] at this
    omega
  rw [hG]
  rw [eQ, h0, hG, show ((0 : Nat) : Int) = 0 from rfl] at HSC
  have hsz : segN (pays (scL s.data.toList)) ≤ 10000000 := by rw [← hG]; omega
  generalize hps : pays (scL s.data.toList) = ps at *
  rw [← a5] at HSC
  clear hps
  generalize fiN s.data.toList = a at *
  generalize scW s.data.toList = WW at *
  have hlen : (rowF a 16 ps).length = ps.length := rowF_length _ _ _
  have hpl : ps.length ≤ 700000 := by have := segN_ge ps; omega
  have HFR := Lib.hid (show ∀ i (h : i < ps.length) (h2 : i < (rowF a 16 ps).length), ((rowF a 16 ps)[i]'h2).i = segN (ps.take i) from fun i h h2 => i_at a ps i h h2)
  rw [hlen] at HSC
  have k1 : decide ((ev : Int) < 1) = false := decide_eq_false (by omega)
  have k2 : decide ((64 : Int) < (ev : Int)) = false := decide_eq_false (by omega)
  have k3 : ¬ (64 : Int) < (ev : Int) := by omega
  have k4 : ¬ (ev : Int) < 1 := by omega
  have HPL := Lib.hid hpl
  have HLEN := Lib.hid hlen
  clear a1 a2 a3 a4 a5 eQ hG hsz hlen hpl hz h0 hs hev
  generalize hFR : rowF a 16 ps = FR at *
  clear hFR
  go_enter Try.func21, Try.ntmps21
  go_wp2_with fail
  refine (HSC.out w).mono ?_
  rintro e w3 ⟨A1, c1, rfl, ho, hb3⟩
  obtain ⟨A1', c1', he, -, -, hrow, -⟩ := ho.row
  injection he with he1 he2 he3
  subst he1 he3
  clear he2
  obtain ⟨w4, hw4⟩ : ∃ w4, (w3.alloc (.cells #[.int .i64 (a : Int), .slice A1 ps.length c1, .int .i64 (segN ps : Int), .bool WW] 86)).alloc (.cells #[.int .i64 (a : Int), .int .i64 (ev : Int), .slice none 0 0, .int .i64 (segN ps : Int)] 90) = w4 := ⟨_, rfl⟩
  have hs4 : SBr (w3.alloc (.cells #[.int .i64 (a : Int), .slice A1 ps.length c1, .int .i64 (segN ps : Int), .bool WW] 86)) w3.heap.size (a : Int) (.slice A1 ps.length c1) (segN ps : Int) WW := heap_alloc_new w3 _
  obtain ⟨⟨s0, s1, s2, s3⟩, -⟩ := hs4.facts
  have HS4 := Lib.hid hs4
  have hb4 : Below w3.heap.size w3 w4 := by rw [← hw4]; exact ((Below.refl _ _).alloc (Nat.le_refl _) _).alloc (by simp) _
  have e4 : (w3.alloc (.cells #[.int .i64 (a : Int), .slice A1 ps.length c1, .int .i64 (segN ps : Int), .bool WW] 86)).heap.size = w3.heap.size + 1 := by simp
  have HIX4 := Lib.hid (show ∃ v, RB4 w4 (w3.heap.size + 1) a ev v (segN ps) ∧ OwnN w4 (w3.heap.size + 1) v (atsP (ps.take 0)) from ⟨.slice none 0 0, by
    rw [← hw4]
    have h := heap_alloc_new (w3.alloc (.cells #[.int .i64 (a : Int), .slice A1 ps.length c1, .int .i64 (segN ps : Int), .bool WW] 86)) (.cells #[.int .i64 (a : Int), .int .i64 (ev : Int), .slice none 0 0, .int .i64 (segN ps : Int)] 90)
    rw [e4] at h
    exact h, by rw [List.take_zero]; rw [show atsP [] = [] from rfl]; exact OwnN.nil _ _⟩)
  have HSB4 := Lib.hid (show SBr w4 w3.heap.size (a : Int) (.slice A1 ps.length c1) (segN ps : Int) WW by
    rw [← hw4]
    have hbx : Below (w3.heap.size + 1) (w3.alloc (.cells #[.int .i64 (a : Int), .slice A1 ps.length c1, .int .i64 (segN ps : Int), .bool WW] 86)) ((w3.alloc (.cells #[.int .i64 (a : Int), .slice A1 ps.length c1, .int .i64 (segN ps : Int), .bool WW] 86)).alloc (.cells #[.int .i64 (a : Int), .int .i64 (ev : Int), .slice none 0 0, .int .i64 (segN ps : Int)] 90)) := (Below.refl _ _).alloc (by simp) _
    exact (hbx.block w3.heap.size (by omega)).trans HS4.out)
  have HR4 := Lib.hid (hrow.below hb4)
  have HA4 := Lib.hid (show ∀ b o, A1 = some ⟨b, o, none⟩ → 0 < FR.length → b < w3.heap.size + 1 from fun b o e hp => by
    obtain ⟨b2, o2, e2, h2, _⟩ := hrow 0 hp
    rw [e] at e2; injection e2 with e2; injection e2 with e2; omega)
  have HB4 := Lib.hid (hb3.trans (hb4.mono hb3.size))
  have HW4 := Lib.hid hw4
  have HZ3 := Lib.hid hb3.size
  have HZ4 := Lib.hid (show w3.heap.size + 1 < w4.heap.size by rw [← hw4]; simp)
  clear hb3 ho hrow hb4 hw4 hs4 e4
  go_wp2_with fail
  clear s0 s1 s2 s3
  rw [HW4.out]
  go_loopw [9] (fun y wr => ∃ i : Nat, i ≤ ps.length ∧ y = .int .i64 (i : Int) ∧ Hid (∃ v, RB4 wr (w3.heap.size + 1) a ev v (segN ps) ∧ OwnN wr (w3.heap.size + 1) v (atsP (ps.take i))) ∧ Hid (RowRf wr A1 FR) ∧ Hid (SBr wr w3.heap.size (a : Int) (.slice A1 ps.length c1) (segN ps : Int) WW) ∧ Hid (w3.heap.size + 1 < wr.heap.size) ∧ Hid (Below w.heap.size w wr)) (fun y _ => ps.length - (intOf y).toNat)
  case atStart => exact ⟨0, Nat.zero_le _, rfl, HIX4, HR4, HSB4, HZ4, HB4⟩
  case round =>
    clear HIX4 HR4 HSB4 HB4 HZ4 HS4
    obtain ⟨i, hi, rfl, HIX, HR, HSB, HZ, HB⟩ := hrel
    obtain ⟨⟨s0, s1, s2, s3⟩, -⟩ := HSB.out.facts
    by_cases hlt : i < ps.length
    · as_aux_lemma =>
        have hfl : i < FR.length := by rw [HLEN.out]; exact hlt
        obtain ⟨b, o, hA, hb, r0, r1, r2⟩ := HR.out i hfl
        have hbA := HA4.out b o hA (by omega)
        subst hA
        rw [HFR.out i hlt hfl] at r2
        obtain ⟨t1, t2⟩ := atsP_take ps i hlt
        have HT1 := Lib.hid t1
        have hal : (atsP (ps.take i)).length = i := by rw [atsP_len, List.length_take]; omega
        have HML := Lib.hid (show (atsP (ps.take i)).length ≤ 1000000 by have := HPL.out; omega)
        have e1 : decide ((i : Int) < (ps.length : Int)) = true := decide_eq_true (by omega)
        have HI1 := Lib.hid (show wrap64 ((i : Int) + 1) = (i : Int) + 1 from IntWalk.wrap64_in _ ⟨by omega, by have := HPL.out; omega⟩)
        have HLT := Lib.hid hlt
        obtain ⟨v, h1, h2⟩ := HIX.out
        generalize segN (ps.take i) = at_ at *
        obtain ⟨⟨c0, c1_, c2, c3⟩, f0, f1, f2, f3⟩ := h1.facts
        have hb2 : Below wr.heap.size wr (wr.drew.alloc (.cells #[.int .i64 (at_ : Int)] 3)) := (Below.refl _ _).drew.alloc (Nat.le_refl _) _
        have hi2 : RB4 (wr.drew.alloc (.cells #[.int .i64 (at_ : Int)] 3)) (w3.heap.size + 1) a ev v (segN ps) := (hb2.block _ (row_lt h1)).trans h1
        have hsb2 : SBr (wr.drew.alloc (.cells #[.int .i64 (at_ : Int)] 3)) w3.heap.size (a : Int) (.slice (some ⟨b, o, none⟩) ps.length c1) (segN ps : Int) WW := (hb2.block _ (row_lt HSB.out)).trans HSB.out
        have r2b : (wr.drew.alloc (.cells #[.int .i64 (at_ : Int)] 3)).cell? ⟨b, o + i * 3 + 2, none⟩ = some (.int .i64 (at_ : Int)) := (hb2.cell (p := ⟨b, o + i * 3 + 2, none⟩) hb).trans r2
        have HI2 := Lib.hid hi2
        have HO2 := Lib.hid (h2.below hb2)
        have HM2 := Lib.hid (show (wr.drew.alloc (.cells #[.int .i64 (at_ : Int)] 3)).heap[wr.heap.size]? = some (.cells #[.int .i64 (at_ : Int)] 3 (0, 0)) from heap_alloc_new wr.drew _)
        have HB2 := Lib.hid (hb2.mono (Nat.le_of_lt HZ.out))
        have HBZ := Lib.hid (show w3.heap.size + 1 ≤ (wr.drew.alloc (.cells #[.int .i64 (at_ : Int)] 3)).heap.size from Nat.le_trans (Nat.le_of_lt HZ.out) hb2.size)
        have HZ2 := Lib.hid (show w3.heap.size + 1 < (wr.drew.alloc (.cells #[.int .i64 (at_ : Int)] 3)).heap.size from Nat.lt_of_lt_of_le HZ.out hb2.size)
        obtain ⟨⟨x0, x1, x2, x3⟩, y0, y1, y2, y3⟩ := hi2.facts
        have hi4 : RB4 (wr.alloc (.cells #[.int .i64 (at_ : Int)] 3)) (w3.heap.size + 1) a ev v (segN ps) := hi2
        obtain ⟨⟨x5, x6, x7, x8⟩, y5, y6, y7, y8⟩ := hi4.facts
        obtain ⟨⟨p0, p1, p2, p3⟩, -⟩ := hsb2.facts
        have hsb4 : SBr (wr.alloc (.cells #[.int .i64 (at_ : Int)] 3)) w3.heap.size (a : Int) (.slice (some ⟨b, o, none⟩) ps.length c1) (segN ps : Int) WW := hsb2
        obtain ⟨⟨p5, p6, p7, p8⟩, -⟩ := hsb4.facts
        have r2c : (wr.alloc (.cells #[.int .i64 (at_ : Int)] 3)).cell? ⟨b, o + i * 3 + 2, none⟩ = some (.int .i64 (at_ : Int)) := r2b
        clear hb2 hi2 hi4 hsb2 hsb4 t1 t2 hal h1 h2 r0 r1 hbA hi
        go_wp2_with fail
        go_region_law ((refine step_append_n2 (by rfl) (.tmp 42) (.tmp 49) (by rfl) (w3.heap.size + 1) v (atsP (ps.take i)) (by rfl) HO2.out wr.heap.size 1 at_ (by rfl) HM2.out HML.out HBZ.out ?_; intro v' w5 hown hgr hnw; (have hi3 : RB4 w5 (w3.heap.size + 1) a ev v (segN ps) := (hgr.block _ (row_lt HI2.out) (fun e => (rb_ne HI2.out HO2.out _ e.symm) rfl)).trans HI2.out); obtain ⟨⟨z0, z1, z2, z3⟩, t0, t1, t2, t3⟩ := hi3.facts; (have HOW := Lib.hid hown); (have HI3 := Lib.hid hi3); (have HGR := Lib.hid hgr); obtain ⟨A4, c4, rfl, -, -⟩ := hown.row; clear hi3 hgr hown hnw))
        all_goals
          clear x0 x1 x2 x3 x5 x6 x7 x8 y0 y1 y2 y3 y5 y6 y7 y8 z0 z1 z2 z3 t0 t1 t2 t3 p0 p1 p2 p3 p5 p6 p7 p8 r2b r2c
          have h5 := heap_set HI3.out 2 (.slice A4 ((atsP (ps.take i)).length + 1) c4)
          have how : OwnN w5 (w3.heap.size + 1) (.slice A4 ((atsP (ps.take i)).length + 1) c4) (atsP (ps.take i) ++ [at_]) := by
            have := HOW.out
            rw [List.length_append, List.length_singleton] at this
            exact this
          have HIX2 : Hid (∃ v, RB4 (w5.setCell ⟨w3.heap.size + 1, 2, none⟩ (.slice A4 ((atsP (ps.take i)).length + 1) c4)) (w3.heap.size + 1) a ev v (segN ps) ∧ OwnN (w5.setCell ⟨w3.heap.size + 1, 2, none⟩ (.slice A4 ((atsP (ps.take i)).length + 1) c4)) (w3.heap.size + 1) v (atsP (ps.take (i + 1)))) := Lib.hid (by
            refine ⟨.slice A4 ((atsP (ps.take i)).length + 1) c4, h5, ?_⟩
            rw [HT1.out]
            refine OwnN.keep how (fun r hr => ?_)
            rw [heap_far 2 _ (rb_ne HI3.out how r hr)])
          have HBE : Hid (Below (w3.heap.size + 1) wr (w5.setCell ⟨w3.heap.size + 1, 2, none⟩ (.slice A4 ((atsP (ps.take i)).length + 1) c4))) := Lib.hid ((HB2.out.grown HGR.out HBZ.out (fun r hr => (OwnN.lt HO2.out r hr).2)).setCell (p := ⟨w3.heap.size + 1, 2, none⟩) (Nat.le_refl _) _)
          have HR2 := Lib.hid (rowRf_under HR.out HBE.out HA4.out)
          have HS2 := Lib.hid ((HBE.out.block w3.heap.size (Nat.lt_succ_self _)).trans HSB.out)
          have HZ5 := Lib.hid (Nat.lt_of_lt_of_le HZ.out HBE.out.size)
          have HBW := Lib.hid (HB.out.trans (HBE.out.mono (Nat.le_trans HZ3.out (Nat.le_succ _))))
          clear h5 how
          go_wp2_with fail
          go_roundw
          case rel => exact ⟨i + 1, HLT.out, by rw [HI1.out]; rfl, HIX2, HR2, HS2, HZ5, HBW⟩
          case measure =>
            rw [HI1.out]
            show ps.length - ((i : Int) + 1).toNat < ps.length - (i : Int).toNat
            have := HLT.out; omega
    · as_aux_lemma =>
        have e1 : decide ((i : Int) < (ps.length : Int)) = false := decide_eq_false (by omega)
        obtain rfl : i = ps.length := by omega
        clear hi
        go_wp2_with fail
        go_ret2
        refine ⟨w3.heap.size + 1, by have := HZ3.out; omega, rfl, ?_, HB.out⟩
        have := HIX.out
        rw [List.take_length] at this
        exact this
end Go.Proofs.Ytkjnddgjnlbopaa.Index
