import Derived.Test.YtkjnddgjnlbopaaJE
import Derived.Test.YtkjnddgjnlbopaaJF
import Derived.Test.YtkjnddgjnlbopaaJO
/-
  The walk of the statement IndexTells.
-/
namespace Go.Proofs.Ytkjnddgjnlbopaa.Index
open Go Go.RowKit
open Go.Proofs.Ytkjnddgjnlbopaa.Wire (S S_list S_size row_lt)
open Go.Proofs.Ytkjnddgjnlbopaa.Frame Go.Proofs.Ytkjnddgjnlbopaa.Seg

/-- an index all of whose blocks are some of these -/
def Iy (P : Nat → Prop) (w : World) (b ev a : Nat) (ats : List Nat) (g : Nat) : Prop :=
  ∃ v, IBx w b ev a (a + ats.length) v g ∧ OwnM w b v (mks ev a ats) ∧ P b ∧ ∀ r, v.ownBlock = some r → P r
theorem Iy.ix {P : Nat → Prop} {w : World} {b ev a : Nat} {ats : List Nat} {g : Nat} (h : Iy P w b ev a ats g) : Ix w b b ev a ats g := by
  obtain ⟨v, h1, h2, _⟩ := h
  exact ⟨v, h1, h2⟩
theorem Iy.below {P : Nat → Prop} {w w' : World} {b ev a : Nat} {ats : List Nat} {g : Nat} (h : Iy P w b ev a ats g) (hb : Below w.heap.size w w') : Iy P w' b ev a ats g := by
  obtain ⟨v, h1, h2, h3⟩ := h
  exact ⟨v, (hb.block _ (row_lt h1)).trans h1, h2.below hb, h3⟩
theorem Iy.same {P : Nat → Prop} {w w' : World} {b ev a : Nat} {ats : List Nat} {g : Nat} (h : Iy P w b ev a ats g) (hs : SameP P w w') : Iy P w' b ev a ats g := by
  obtain ⟨v, h1, h2, h3, h4⟩ := h
  exact ⟨v, (hs _ h3).trans h1, h2.keep (fun r hr => hs r (h4 r hr)), h3, h4⟩
theorem Iy.more {P P' : Nat → Prop} {w : World} {b ev a : Nat} {ats : List Nat} {g : Nat} (h : Iy P w b ev a ats g) (hp : ∀ r, P r → P' r) : Iy P' w b ev a ats g := by
  obtain ⟨v, h1, h2, h3, h4⟩ := h
  exact ⟨v, h1, h2, hp _ h3, fun r hr => hp r (h4 r hr)⟩
/-- an index that was made behind a world -/
theorem iy_new {lo : Nat} {P : Nat → Prop} {w : World} {b ev a : Nat} {ats : List Nat} {g : Nat} (h : Ix w b b ev a ats g) (hlo : lo ≤ b) (hp : ∀ r, lo ≤ r → r < w.heap.size → P r) : Iy P w b ev a ats g := by
  obtain ⟨v, h1, h2⟩ := h
  exact ⟨v, h1, h2, hp b hlo (row_lt h1), fun r hr => hp r (Nat.le_trans hlo (h2.lt r hr).2) (h2.lt r hr).1⟩
/-- the document's, and more blocks that are none of its -/
theorem rx_more {P P' : Nat → Prop} {w wl : World} {base b ev a : Nat} {ats : List Nat} {g : Nat} (hl : Rx P wl base b ev a ats g) (hb : Below wl.heap.size wl w) (hp : ∀ r, P' r → P r ∨ wl.heap.size ≤ r) : Rx P' w base b ev a ats g := by
  obtain ⟨v, h1, h2, h3, h4⟩ := hl
  refine ⟨v, (hb.block _ (row_lt h1)).trans h1, h2.below hb, fun h => ?_, fun r hr h => ?_⟩
  · rcases hp b h with h | h
    · exact h3 h
    · have := row_lt h1; omega
  · rcases hp r h with h | h
    · exact h4 r hr h
    · have := (OwnN.lt h2 r hr).1; omega
theorem OwnN.less {w : World} {base base' : Nat} {v : Value} {l : List Nat} (h : OwnN w base v l) (hb : base' ≤ base) : OwnN w base' v l := by
  obtain ⟨h1, h2⟩ := h
  refine ⟨h1, ?_⟩
  rcases h2 with h2 | ⟨b, cap, cur, e, hbg, r⟩
  · exact Or.inl h2
  · exact Or.inr ⟨b, cap, cur, e, Nat.le_trans hb hbg, r⟩
/-- what holds of the places -/
def Pos (a : Nat) (ats : List Nat) (g i : Nat) : Prop := a + ats.length ≤ 1048576 ∧ ats.length ≤ 12000 + i ∧ g ≤ 20000 + i * 5000 ∧ ∀ z ∈ ats, z < g
theorem Pos.add {a : Nat} {ats : List Nat} {g i : Nat} {q : Int} (h : Pos a ats g i) (hq : adE q (a + ats.length) = 0) : Pos a (ats ++ [g]) (g + (16 + q.toNat)) (i + 1) := by
  obtain ⟨h1, h2, h3, h4⟩ := h
  have hqq : 1 ≤ q ∧ q ≤ 4096 := by
    unfold adE at hq
    by_cases hh : 1 ≤ q ∧ q ≤ 4096
    · exact hh
    · rw [if_neg hh] at hq; cases hq
  have hm : ¬ 1048576 ≤ a + ats.length := by
    unfold adE at hq
    rw [if_pos hqq] at hq
    intro hh
    rw [if_pos hh] at hq; cases hq
  refine ⟨by rw [List.length_append, List.length_singleton]; omega, by rw [List.length_append, List.length_singleton]; omega, by omega, fun z hz => ?_⟩
  rcases List.mem_append.1 hz with h | h
  · have := h4 z h; omega
  · have : z = g := by simpa using h
    omega
set_option maxRecDepth 100000 in
theorem Pos.next {a : Nat} {ats : List Nat} {g i : Nat} (h : Pos a ats g i) : Pos a ats g (i + 1) := by
  unfold Pos at *
  obtain ⟨h1, h2, h3, h4⟩ := h
  refine ⟨h1, ?_, ?_, h4⟩
  · omega
  · omega
theorem ite_map {c : Prop} [Decidable c] {A B A' B' : Prop} (h : if c then A else B) (hA : A → A') (hB : B → B') : if c then A' else B' := by
  by_cases hc : c
  · rw [if_pos hc] at h ⊢; exact hA h
  · rw [if_neg hc] at h ⊢; exact hB h
theorem rowM_same {P : Nat → Prop} {w w' : World} {A : Option Addr} {l : List (Nat × Nat)} (h : RowM w A l) (hs : SameP P w w') (hA : ∀ a, A = some a → a.block < w.heap.size → P a.block) (hz : w.heap.size ≤ w'.heap.size) : RowM w' A l := fun k hk => by
  obtain ⟨g, e, h1, h2, h3⟩ := h k hk
  have hb := hs g (hA ⟨g, 0, none⟩ e h1)
  exact ⟨g, e, Nat.lt_of_lt_of_le h1 hz, (World.cell?_of_block (w := w) hb).trans h2, (World.cell?_of_block (w := w) hb).trans h3⟩
theorem last_lt {ev a : Nat} {ats : List Nat} {g : Nat} (hev : 1 ≤ ev) (h : ∀ z ∈ ats, z < g) (k : Nat) (hk : k < (mks ev a ats).length) : (mks ev a ats)[k].2 < g := by
  rw [mks_at]
  have h1 : k * ev < ats.length := nm_lt hev (by rw [mks_len] at hk; exact hk)
  show ats.getD (k * ev) 0 < g
  rw [List.getD_eq_getElem?_getD, List.getElem?_eq_getElem h1]
  exact h _ (List.getElem_mem h1)
theorem pos_first (l : List UInt8) (hl : l.length ≤ 12000) (h : fiE l = 0) : Pos (fiN l) (atsP (pays (scL l))) (scG l) 0 := by
  obtain ⟨a1, h2, _, h4, _⟩ := sc_again l h
  have h5 := congrArg List.length h2
  rw [segB_length, List.length_take] at h5
  have h6 := segN_ge (pays (scL l))
  refine ⟨by rw [atsP_len]; exact a1.1, by rw [atsP_len]; omega, by omega, fun z hz => ?_⟩
  unfold atsP at hz
  obtain ⟨i, hi, rfl⟩ := List.mem_map.1 hz
  have hi2 := List.mem_range.1 hi
  have h7 := (atsP_take (pays (scL l)) i hi2).2
  have h8 := segN_front (pays (scL l)) (i + 1)
  omega
set_option maxRecDepth 100000 in
set_option maxHeartbeats 4000000 in
theorem tells_law (s : ByteArray) (every : Int) (A : Option Addr) (cap : Nat) (qs : List Int) (w : World) (hx : IntsI w A qs) (hl : qs.length ≤ maxLen) :
    Calls Try.prog 4 #[.string s, .int .i64 every, .slice A qs.length cap] w fun e w' => e = .returned (.bool true) ∧ Below w.heap.size w w' := by
  have HWK := Lib.hid (fun W => works_any W)
  have HX := Lib.hid hx
  clear hx
  by_cases hs : s.size ≤ 12000
  case neg =>
    have k1 : decide ((12000 : Int) < (s.size : Int)) = true := decide_eq_true (by omega)
    have k2 : (12000 : Int) < (s.size : Int) := by omega
    clear hs hl
    go_enter Try.func4, Try.ntmps4
    go_wp2_with fail
    refine (HWK.out w).mono ?_
    rintro e w1 ⟨rfl, hb⟩
    have HB1 := Lib.hid hb
    clear hb
    go_wp2_with fail
    go_ret
    exact ⟨rfl, HB1.out⟩
  have k1 : decide ((12000 : Int) < (s.size : Int)) = false := decide_eq_false (by omega)
  have k2 : ¬ (12000 : Int) < (s.size : Int) := by omega
  have k3 : ¬ 12000 < s.size := by omega
  by_cases ho : qs.length ≤ 200
  case neg =>
    have k4 : decide ((200 : Int) < (qs.length : Int)) = true := decide_eq_true (by omega)
    have k5 : (200 : Int) < (qs.length : Int) := by omega
    clear hs ho hl
    go_enter Try.func4, Try.ntmps4
    go_wp2_with fail
    refine (HWK.out w).mono ?_
    rintro e w1 ⟨rfl, hb⟩
    have HB1 := Lib.hid hb
    clear hb
    go_wp2_with fail
    go_ret
    exact ⟨rfl, HB1.out⟩
  have k4 : decide ((200 : Int) < (qs.length : Int)) = false := decide_eq_false (by omega)
  have k5 : ¬ (200 : Int) < (qs.length : Int) := by omega
  have k6 : ¬ 200 < qs.length := by omega
  clear hl
  by_cases hev : 1 ≤ every ∧ every ≤ 64
  case neg =>
    have HBA := Lib.hid (fun W => build_arg s every hev W)
    have HRA := Lib.hid (fun W => rbuild_arg s every hev W)
    have HL := Lib.hid ho
    clear hs ho hev
    go_enter Try.func4, Try.ntmps4
    go_wp2_with fail
    refine (HBA.out w).mono ?_
    rintro e w2 ⟨rfl, rfl⟩
    go_wp2_with fail
    refine (HRA.out w).mono ?_
    rintro e w2 ⟨rfl, rfl⟩
    have HB0 := Lib.hid (Below.refl w.heap.size w)
    go_wp2_with fail
    go_loopw [7, 11] (fun x y wr => x = .pointer none ∧ y = .int .i64 0 ∧ wr = w) (fun _ _ _ => 0)
    case atStart => exact ⟨rfl, rfl, rfl⟩
    case round =>
      obtain ⟨rfl, rfl, rfl⟩ := hrel
      by_cases h0 : 0 < qs.length
      · have e1 : decide ((0 : Int) < (qs.length : Int)) = true := decide_eq_true (by omega)
        go_wp2_with fail
        refine (HWK.out _).mono ?_
        rintro e w9 ⟨rfl, hb⟩
        have HB9 := Lib.hid (HB0.out.trans (hb.mono HB0.out.size))
        clear hb
        go_wp2_with fail
        go_ret
        exact ⟨rfl, HB9.out⟩
      · have e1 : decide ((0 : Int) < (qs.length : Int)) = false := decide_eq_false (by omega)
        go_wp2_with fail
        refine (HWK.out _).mono ?_
        rintro e w9 ⟨rfl, hb⟩
        have HB9 := Lib.hid (HB0.out.trans (hb.mono HB0.out.size))
        clear hb
        go_wp2_with fail
        go_ret
        exact ⟨rfl, HB9.out⟩
  obtain ⟨ev, rfl⟩ : ∃ ev : Nat, every = (ev : Int) := ⟨every.toNat, by omega⟩
  have hev2 : 1 ≤ ev ∧ ev ≤ 64 := by omega
  by_cases h0 : fiE s.data.toList = 0
  case neg =>
    have HBN := Lib.hid (fun W => build_no s (by omega) ev hev2 h0 W)
    have HRN := Lib.hid (fun W => rbuild_no s (by omega) ev hev2 h0 W)
    obtain ⟨q1, q2, q3, q4, q5⟩ := nat_ne h0
    clear hs ho hev hev2 h0
    generalize fiE s.data.toList = x at *
    go_enter Try.func4, Try.ntmps4
    go_wp2_with fail
    refine (HBN.out w).mono ?_
    rintro e w1 ⟨rfl, hb⟩
    have HB1 := Lib.hid hb
    clear hb
    go_wp2_with fail
    refine (HRN.out w1).mono ?_
    rintro e w2 ⟨rfl, hb⟩
    have HB2 := Lib.hid (HB1.out.trans (hb.mono HB1.out.size))
    clear hb
    go_wp2_with fail
    go_loopw [7, 11] (fun x y wr => x = .pointer none ∧ y = .int .i64 0 ∧ wr = w2) (fun _ _ _ => 0)
    case atStart => exact ⟨rfl, rfl, rfl⟩
    case round =>
      obtain ⟨rfl, rfl, rfl⟩ := hrel
      by_cases h0 : 0 < qs.length
      · have e1 : decide ((0 : Int) < (qs.length : Int)) = true := decide_eq_true (by omega)
        go_wp2_with fail
        refine (HWK.out _).mono ?_
        rintro e w9 ⟨rfl, hb⟩
        have HB9 := Lib.hid (HB2.out.trans (hb.mono HB2.out.size))
        clear hb
        go_wp2_with fail
        go_ret
        exact ⟨rfl, HB9.out⟩
      · have e1 : decide ((0 : Int) < (qs.length : Int)) = false := decide_eq_false (by omega)
        go_wp2_with fail
        refine (HWK.out _).mono ?_
        rintro e w9 ⟨rfl, hb⟩
        have HB9 := Lib.hid (HB2.out.trans (hb.mono HB2.out.size))
        clear hb
        go_wp2_with fail
        go_ret
        exact ⟨rfl, HB9.out⟩
  have HBY := Lib.hid (fun W => build_yes s (by omega) ev hev2 h0 W)
  have HRY := Lib.hid (fun W => rbuild_yes s (by omega) ev hev2 h0 W)
  have HPOS := Lib.hid (pos_first s.data.toList (by simpa using hs) h0)
  have HEV := Lib.hid hev2
  have HLQ := Lib.hid ho
  generalize atsP (pays (scL s.data.toList)) = ats at *
  generalize fiN s.data.toList = a at *
  generalize scG s.data.toList = g at *
  clear h0 hev hev2 hs ho
  go_enter Try.func4, Try.ntmps4
  go_wp2_with fail
  refine (HBY.out w).mono ?_
  rintro e w1 ⟨b, hbb, rfl, hi, hb⟩
  have HB1 := Lib.hid hb
  have HI1 := Lib.hid hi
  clear hb hi hbb
  go_wp2_with fail
  refine (HRY.out w1).mono ?_
  rintro e w2 ⟨b2, hbb, rfl, hi, hb⟩
  have HB2 := Lib.hid (HB1.out.trans (hb.mono HB1.out.size))
  have HI2 : Hid (Iy (fun r => r < w1.heap.size) w2 b ev a ats g) := Lib.hid ((iy_new (lo := 0) HI1.out (Nat.zero_le _) (fun r _ h => h)).below hb)
  have HWB := Lib.hid (Nat.le_trans HB1.out.size hbb)
  have HR2 : Hid (Rx (fun r => r < w1.heap.size) w2 w.heap.size b2 ev a ats g) := Lib.hid (by
    obtain ⟨v, y1, y2⟩ := hi
    exact ⟨v, y1, OwnN.less y2 HWB.out, fun h => Nat.not_lt.2 hbb h, fun r hr h => Nat.not_lt.2 (Nat.le_trans hbb (OwnN.lt y2 r hr).2) h⟩)
  have HP2 : Hid (∀ r, (fun r => r < w1.heap.size) r → r < w2.heap.size) := Lib.hid (fun r h => Nat.lt_of_lt_of_le h hb.size)
  clear hb hi HI1 HB1 HBY HRY k1 k2 k3 k4 k5 k6 hbb
  generalize (fun r => r < w1.heap.size) = P0 at *
  go_wp2_with fail
  go_loopw [7, 11] (fun x y wr => ∃ (i b : Nat) (ats : List Nat) (g : Nat) (P : Nat → Prop), i ≤ qs.length ∧ x = .pointer (some ⟨b, 0, none⟩) ∧ y = .int .i64 (i : Int) ∧ Hid (Iy P wr b ev a ats g) ∧ Hid (Rx P wr w.heap.size b2 ev a ats g) ∧ Hid (∀ r, P r → r < wr.heap.size) ∧ Hid (Pos a ats g i) ∧ Hid (Below w.heap.size w wr)) (fun _ y _ => qs.length - (intOf y).toNat)
  case atStart => exact ⟨0, b, ats, g, P0, Nat.zero_le _, rfl, rfl, HI2, HR2, HP2, HPOS, HB2⟩
  case round =>
    clear HI2 HR2 HP2 HPOS HB2
    obtain ⟨i, b, ats, g, P, hi, rfl, rfl, HI, HR, HP, HPOS, HB⟩ := hrel
    have hpos := HPOS.out
    obtain ⟨p1, p2, p3, p4⟩ := hpos
    have HP1 := Lib.hid p1
    have HP2 := Lib.hid p2
    have HP3 := Lib.hid p3
    have HP4 := Lib.hid p4
    have hlq := HLQ.out
    obtain ⟨v, y1, y2, y3, y4⟩ := HR.out
    have HLK := Lib.hid (like_gen wr b b2 a ev ats v g w.heap.size HI.out.ix y1 y2 HEV.out (by omega) (by omega) (fun W hb => marks_r W w.heap.size b2 a ev ats v g ((hb.block _ (row_lt y1)).trans y1) (y2.below hb) HEV.out (by omega) (by omega)))
    have HLA := Lib.hid (show ats.length ≤ 900000 ∧ a + ats.length ≤ 100000000 ∧ g ≤ 100000000000 by omega)
    clear y1 y2 y3 y4 p1 p2 p3 p4 hlq
    by_cases hlt : i < qs.length
    · as_aux_lemma =>
        have e1 : decide ((i : Int) < (qs.length : Int)) = true := decide_eq_true (by omega)
        have HLT := Lib.hid hlt
        have HI1 := Lib.hid (show wrap64 ((i : Int) + 1) = (i : Int) + 1 from IntWalk.wrap64_in _ ⟨by omega, by have := HLQ.out; omega⟩)
        clear hi
        go_wp2_with fail
        refine HLK.out.mono ?_
        rintro e wL ⟨rfl, hb⟩
        have HBL := Lib.hid (HB.out.trans (hb.mono HB.out.size))
        have HIL := Lib.hid (HI.out.below hb)
        have HRL := Lib.hid (HR.out.below hb)
        have HPL : Hid (∀ r, P r → r < wL.heap.size) := Lib.hid (fun r h => Nat.lt_of_lt_of_le (HP.out r h) hb.size)
        clear hb
        go_wp2_with fail
        refine (copy_any wL b b ev a ats g HIL.out.ix HEV.out.1 HLA.out.1).mono ?_
        rintro e wC ⟨rfl, hix, hb⟩
        have HLC := Lib.hid hb
        have HIC := Lib.hid hix
        have HBC := Lib.hid (HBL.out.trans (hb.mono HBL.out.size))
        obtain ⟨B, o, hA, -, c0⟩ := HX.out.below HBC.out i hlt
        subst hA
        have HXC := Lib.hid (fun W (h : Below w.heap.size w W) => (HX.out.below h) i hlt)
        obtain ⟨bx, hbx⟩ : ∃ bx, wL.heap.size = bx := ⟨_, rfl⟩
        rw [hbx] at HIC HLC
        rw [hbx]
        have HBX := Lib.hid hbx
        clear hix hb hbx
        generalize qs.getD i 0 = q at *
        have HADX := Lib.hid (add_any wC bx bx ev a ats g q HIC.out (Nat.le_refl _) HEV.out HLA.out.2.1 HLA.out.1 HLA.out.2.2)
        by_cases hz : adE q (a + ats.length) = 0
        · as_aux_lemma =>
            have hV : adV q (a + ats.length) g = .tuple #[.int .i64 (g : Int), .int .i64 0] := by unfold adV; rw [hz, if_pos rfl]; rfl
            simp only [hV, if_pos hz] at HADX
            have HADR := Lib.hid (fun P' wM (h1 : ∀ r, P' r → r < wM.heap.size) (h2 : Rx P' wM w.heap.size b2 ev a ats g) => add_r P' wM h1 w.heap.size b2 ev a ats g q h2 HWB.out HLA.out.2.1 HLA.out.1 HLA.out.2.2)
            simp only [hV, if_pos hz] at HADR
            have HPP := Lib.hid (HPOS.out.add hz)
            clear hV hz
            go_wp2_with fail
            refine HADX.out.mono ?_
            rintro e wA ⟨rfl, hix, hb⟩
            have HLAW := Lib.hid (HLC.out.trans hb)
            have HIA : Hid (Ix wA bx bx ev a (ats ++ [g]) (g + (16 + q.toNat))) := Lib.hid hix
            have HBA := Lib.hid (HBL.out.trans ((HLAW.out.mono (by rw [← HBX.out]; exact HBL.out.size))))
            have HWA := Lib.hid (HIL.out.below (by rw [HBX.out]; exact HLAW.out))
            clear hix hb c0 HADX
            go_wp2_with fail
            refine (marks_any wA b b ev a ats g HWA.out.ix HEV.out.1 HLA.out.1).mono ?_
            rintro e wM ⟨u, rfl, ho, hb⟩
            have HLM := Lib.hid (HLAW.out.trans (hb.mono (by have := HLAW.out.size; have := HBX.out; omega)))
            have HIM := Lib.hid (HIA.out.below hb)
            have HBM := Lib.hid (HBA.out.trans (hb.mono HBA.out.size))
            have HWM := Lib.hid (HWA.out.below hb)
            obtain ⟨Am, cm, rfl, -, -, hrow, hbase⟩ := ho.row
            have HRM := Lib.hid hrow
            have HBAS := Lib.hid (show ∀ z, Am = some z → bx ≤ z.block from fun z hz => Nat.le_trans (by have := HLAW.out.size; have := HBX.out; omega) (hbase z hz))
            clear ho hb hrow hbase
            obtain ⟨B2, o2, hA, -, c0⟩ := HXC.out wM HBM.out
            injection hA with hA
            injection hA with hA1 hA2
            subst hA1 hA2
            have HRXM : Hid (Rx (fun r => P r ∨ (bx ≤ r ∧ r < wM.heap.size)) wM w.heap.size b2 ev a ats g) := Lib.hid (rx_more HRL.out (by rw [HBX.out]; exact HLM.out) (fun r h => by rcases h with h | h; exact Or.inl h; exact Or.inr (by rw [HBX.out]; exact h.1)))
            have HPM : Hid (∀ r, (fun r => P r ∨ (bx ≤ r ∧ r < wM.heap.size)) r → r < wM.heap.size) := Lib.hid (fun r h => by
              rcases h with h | h
              · have h1 := HPL.out r h
                have h2 := HLM.out.size
                omega
              · exact h.2)
            have HWP : Hid (Iy (fun r => P r ∨ (bx ≤ r ∧ r < wM.heap.size)) wM b ev a ats g) := Lib.hid (HWM.out.more (fun r h => Or.inl h))
            have HNP : Hid (Iy (fun r => P r ∨ (bx ≤ r ∧ r < wM.heap.size)) wM bx ev a (ats ++ [g]) (g + (16 + q.toNat))) := Lib.hid (iy_new (lo := bx) HIM.out (Nat.le_refl _) (fun r h1 h2 => Or.inr ⟨h1, h2⟩))
            have HAP : Hid (∀ z, Am = some z → z.block < wM.heap.size → (fun r => P r ∨ (bx ≤ r ∧ r < wM.heap.size)) z.block) := Lib.hid (fun z hz h => Or.inr ⟨HBAS.out z hz, h⟩)
            generalize (fun r => P r ∨ (bx ≤ r ∧ r < wM.heap.size)) = P' at *
            go_wp2_with fail
            refine (HADR.out P' wM HPM.out HRXM.out).mono ?_
            rintro e wY ⟨rfl, hry, hb, hsp⟩
            have HBY := Lib.hid (HBM.out.trans hb)
            have HRR : Hid (Rx P' wY w.heap.size b2 ev a (ats ++ [g]) (g + (16 + q.toNat))) := Lib.hid hry
            have HWY := Lib.hid (HWP.out.same hsp)
            have HNN := Lib.hid (HNP.out.same hsp)
            have HPY : Hid (∀ r, P' r → r < wY.heap.size) := Lib.hid (fun r h => Nat.lt_of_lt_of_le (HPM.out r h) hb.size)
            have HRW := Lib.hid (rowM_same HRM.out hsp HAP.out hb.size)
            clear hry hb hsp c0 HADR
            obtain ⟨vb, hxb, -⟩ := HWY.out.ix
            obtain ⟨vx, hxx, -⟩ := HNN.out.ix
            obtain ⟨n0, hn0⟩ : ∃ n0, a + ats.length = n0 := ⟨_, rfl⟩
            rw [hn0] at hxb
            rw [List.length_append, List.length_singleton, show a + (ats.length + 1) = n0 + 1 by omega] at hxx
            have HXB := Lib.hid hxb
            have HXX := Lib.hid hxx
            have HNB := Lib.hid (show n0 ≤ 1048576 by have := HP1.out; omega)
            have HW3 := Lib.hid (show wrap64 (((n0 + 1 : Nat) : Int) - 1) = (n0 : Int) by have := HNB.out; rw [IntWalk.wrap64_in _ ⟨by omega, by omega⟩]; omega)
            clear hxb hxx hn0
            obtain ⟨m, hm⟩ : ∃ m, (mks ev a ats).length = m := ⟨_, rfl⟩
            have HLL := Lib.hid (fun k (hk : k < (mks ev a ats).length) => last_lt (a := a) HEV.out.1 HP4.out k hk)
            have HMS := Lib.hid (show m ≤ 1000000 by rw [← hm, mks_len]; have := nm_le (n := ats.length) HEV.out.1; have := HLA.out.1; omega)
            have HMM := Lib.hid hm
            obtain ⟨n1, hn1⟩ : ∃ n1, n0 + 1 = n1 := ⟨_, rfl⟩
            rw [hn1] at HXX HW3
            have w3 := HW3.out
            clear hn1
            by_cases h0 : m = 0
            · subst h0
              generalize mks ev a ats = M at *
              rw [hm]
              go_wp2_with fail
              refine (next_x wY b ev a n0 vb g HXB.out).mono ?_
              rintro e w8 ⟨rfl, rfl⟩
              go_wp2_with fail
              refine (next_x wY bx ev a n1 vx _ HXX.out).mono ?_
              rintro e w8 ⟨rfl, rfl⟩
              go_wp2_with fail
              go_roundw
              case rel => exact ⟨i + 1, bx, (ats ++ [g]), (g + (16 + q.toNat)), P', HLT.out, rfl, by rw [HI1.out]; rfl, HNN, HRR, HPY, HPP, HBY⟩
              case measure =>
                rw [HI1.out]
                show qs.length - ((i : Int) + 1).toNat < qs.length - (i : Int).toNat
                have := HLT.out; omega
            · have hlast : m - 1 < (mks ev a ats).length := by omega
              obtain ⟨gm, hA, -, d0, d1⟩ := HRW.out (m - 1) hlast
              subst hA
              have hlt2 := HLL.out (m - 1) hlast
              generalize (mks ev a ats)[m - 1].2 = at_ at *
              generalize (mks ev a ats)[m - 1].1 = aq at *
              obtain ⟨mm, hmm⟩ : ∃ mm, m - 1 = mm := ⟨_, rfl⟩
              rw [hmm] at d1
              have HW4 := Lib.hid (show wrap64 ((m : Int) - 1) = (mm : Int) by have := HMS.out; rw [IntWalk.wrap64_in _ ⟨by omega, by omega⟩]; omega)
              have j1 : (0 : Int) ≤ (mm : Int) := by omega
              have j2 : (mm : Int) < (m : Int) := by omega
              have j3 : decide ((0 : Int) < (m : Int)) = true := decide_eq_true (by omega)
              have j4 : decide ((g : Int) ≤ (at_ : Int)) = false := decide_eq_false (by omega)
              have j5 : ¬ (g : Int) ≤ (at_ : Int) := by omega
              have j6 : ¬ g ≤ at_ := by omega
              have j7 : 0 < m := by omega
              rw [hm]
              clear d0 hlast hlt2 hmm h0
              have w4 := HW4.out
              go_wp2_with fail
              refine (next_x wY b ev a n0 vb g HXB.out).mono ?_
              rintro e w8 ⟨rfl, rfl⟩
              go_wp2_with fail
              refine (next_x wY bx ev a n1 vx _ HXX.out).mono ?_
              rintro e w8 ⟨rfl, rfl⟩
              go_wp2_with fail
              clear d1 j1 j2 j3 j4 j5 j6 j7 w3 w4
              go_roundw
              case rel => exact ⟨i + 1, bx, (ats ++ [g]), (g + (16 + q.toNat)), P', HLT.out, rfl, by rw [HI1.out]; rfl, HNN, HRR, HPY, HPP, HBY⟩
              case measure =>
                rw [HI1.out]
                show qs.length - ((i : Int) + 1).toNat < qs.length - (i : Int).toNat
                have := HLT.out; omega
        · as_aux_lemma =>
            have hV : adV q (a + ats.length) g = .tuple #[.int .i64 0, .int .i64 (adE q (a + ats.length) : Int)] := by unfold adV; rw [if_neg hz]
            simp only [hV, if_neg hz] at HADX
            have HADR := Lib.hid (fun P' wM (h1 : ∀ r, P' r → r < wM.heap.size) (h2 : Rx P' wM w.heap.size b2 ev a ats g) => add_r P' wM h1 w.heap.size b2 ev a ats g q h2 HWB.out HLA.out.2.1 HLA.out.1 HLA.out.2.2)
            simp only [hV, if_neg hz] at HADR
            have HPP := Lib.hid (HPOS.out.next)
            obtain ⟨q1, q2, q3, q4, q5⟩ := nat_ne hz
            generalize adE q (a + ats.length) = X at *
            clear hV hz
            go_wp2_with fail
            refine HADX.out.mono ?_
            rintro e wA ⟨rfl, hix, hb⟩
            have HLAW := Lib.hid (HLC.out.trans hb)
            have HIA : Hid (Ix wA bx bx ev a ats g) := Lib.hid hix
            have HBA := Lib.hid (HBL.out.trans ((HLAW.out.mono (by rw [← HBX.out]; exact HBL.out.size))))
            have HWA := Lib.hid (HIL.out.below (by rw [HBX.out]; exact HLAW.out))
            clear hix hb c0 HADX
            go_wp2_with fail
            refine (marks_any wA b b ev a ats g HWA.out.ix HEV.out.1 HLA.out.1).mono ?_
            rintro e wM ⟨u, rfl, ho, hb⟩
            have HLM := Lib.hid (HLAW.out.trans (hb.mono (by have := HLAW.out.size; have := HBX.out; omega)))
            have HIM := Lib.hid (HIA.out.below hb)
            have HBM := Lib.hid (HBA.out.trans (hb.mono HBA.out.size))
            have HWM := Lib.hid (HWA.out.below hb)
            obtain ⟨Am, cm, rfl, -, -, hrow, hbase⟩ := ho.row
            have HRM := Lib.hid hrow
            have HBAS := Lib.hid (show ∀ z, Am = some z → bx ≤ z.block from fun z hz => Nat.le_trans (by have := HLAW.out.size; have := HBX.out; omega) (hbase z hz))
            clear ho hb hrow hbase
            obtain ⟨B2, o2, hA, -, c0⟩ := HXC.out wM HBM.out
            injection hA with hA
            injection hA with hA1 hA2
            subst hA1 hA2
            have HRXM : Hid (Rx (fun r => P r ∨ (bx ≤ r ∧ r < wM.heap.size)) wM w.heap.size b2 ev a ats g) := Lib.hid (rx_more HRL.out (by rw [HBX.out]; exact HLM.out) (fun r h => by rcases h with h | h; exact Or.inl h; exact Or.inr (by rw [HBX.out]; exact h.1)))
            have HPM : Hid (∀ r, (fun r => P r ∨ (bx ≤ r ∧ r < wM.heap.size)) r → r < wM.heap.size) := Lib.hid (fun r h => by
              rcases h with h | h
              · have h1 := HPL.out r h
                have h2 := HLM.out.size
                omega
              · exact h.2)
            have HWP : Hid (Iy (fun r => P r ∨ (bx ≤ r ∧ r < wM.heap.size)) wM b ev a ats g) := Lib.hid (HWM.out.more (fun r h => Or.inl h))
            have HNP : Hid (Iy (fun r => P r ∨ (bx ≤ r ∧ r < wM.heap.size)) wM bx ev a ats g) := Lib.hid (iy_new (lo := bx) HIM.out (Nat.le_refl _) (fun r h1 h2 => Or.inr ⟨h1, h2⟩))
            have HAP : Hid (∀ z, Am = some z → z.block < wM.heap.size → (fun r => P r ∨ (bx ≤ r ∧ r < wM.heap.size)) z.block) := Lib.hid (fun z hz h => Or.inr ⟨HBAS.out z hz, h⟩)
            generalize (fun r => P r ∨ (bx ≤ r ∧ r < wM.heap.size)) = P' at *
            go_wp2_with fail
            refine (HADR.out P' wM HPM.out HRXM.out).mono ?_
            rintro e wY ⟨rfl, hry, hb, hsp⟩
            have HBY := Lib.hid (HBM.out.trans hb)
            have HRR : Hid (Rx P' wY w.heap.size b2 ev a ats g) := Lib.hid hry
            have HWY := Lib.hid (HWP.out.same hsp)
            have HNN := Lib.hid (HNP.out.same hsp)
            have HPY : Hid (∀ r, P' r → r < wY.heap.size) := Lib.hid (fun r h => Nat.lt_of_lt_of_le (HPM.out r h) hb.size)
            have HRW := Lib.hid (rowM_same HRM.out hsp HAP.out hb.size)
            clear hry hb hsp c0 HADR
            go_wp2_with fail
            go_roundw
            case rel => exact ⟨i + 1, bx, ats, g, P', HLT.out, rfl, by rw [HI1.out]; rfl, HNN, HRR, HPY, HPP, HBY⟩
            case measure =>
              rw [HI1.out]
              show qs.length - ((i : Int) + 1).toNat < qs.length - (i : Int).toNat
              have := HLT.out; omega
    · as_aux_lemma =>
        have e1 : decide ((i : Int) < (qs.length : Int)) = false := decide_eq_false (by omega)
        clear hi
        go_wp2_with fail
        refine HLK.out.mono ?_
        rintro e wL ⟨rfl, hb⟩
        have HBL := Lib.hid (HB.out.trans (hb.mono HB.out.size))
        clear hb
        go_wp2_with fail
        refine (HWK.out wL).mono ?_
        rintro e w9 ⟨rfl, hb⟩
        have HB9 := Lib.hid (HBL.out.trans (hb.mono HBL.out.size))
        clear hb
        go_wp2_with fail
        go_ret
        exact ⟨rfl, HB9.out⟩
end Go.Proofs.Ytkjnddgjnlbopaa.Index
