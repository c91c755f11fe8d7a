import Derived.Test.YtefkfjbdmglkjaaDoorGR
import Derived.Test.YtefkfjbdmglkjaaDoorGLCut
import Derived.BigQuiet
import Derived.Deep.QuietTactic
/-
  The walk of the statement CodecGets.
-/
namespace Go.Proofs.YtefkfjbdmglkjaaDoor.Codec
open Go Go.RowKit
open Go.Proofs.YtefkfjbdmglkjaaDoor.Wire (Dr DStep drS Rd Step U fxV shR txR tkI tkE tkT rdS errAt new_any at_any)
open Go.Proofs.YtefkfjbdmglkjaaDoor.Schema

/-- what Get told is an event in memory of its own -/
theorem get_at {s : ByteArray} {i v : Nat} {w : World} {b1 b2 : Nat} {A : Option Addr} {ca : Nat} {C : Option Addr} {cc : Nat} (h1 : OwnE w b1 2 (.slice A (getE s i 0 v).ns.length ca) (nums (getE s i 0 v).ns)) (h2 : OwnE w b2 9 (.slice C (getE s i 0 v).ts.length cc) (texts (getE s i 0 v).ts)) : EvAt w A ca C cc (getE s i 0 v) ∧ (getE s i 0 v).ns.length ≤ 20 ∧ (getE s i 0 v).ts.length ≤ 1 := by
  by_cases h : getW s i 0 v = 0
  · have hm := (get_back h).1
    exact ⟨may_at hm h1 h2, may_lens hm⟩
  · have he : getE s i 0 v = noEv := by unfold getE; rw [if_neg h]
    rw [he] at h1 h2 ⊢
    exact ⟨ownE_ev (by decide) (by decide) (fun x hx => by cases hx) (fun t ht => by cases ht) h1 h2, by decide, by decide⟩
theorem rd_grown {w w' : World} {r d : Nat} {s : ByteArray} {i e : Nat} (h : Rd w r s i e) (g : w.grownBy w' (some d)) (hne : r ≠ d) : Rd w' r s i e := (g.block r (Wire.row_lt h) (fun e => by injection e with e; exact hne e)).trans h
theorem dr_grown {w w' : World} {r d : Nat} {s : ByteArray} {i e : Nat} (h : Dr w r s i e) (g : w.grownBy w' (some d)) (hne : r ≠ d) : Dr w' r s i e := (g.block r (Wire.row_lt h) (fun e => by injection e with e; exact hne e)).trans h
theorem bel_grown {B : Nat} {w W W' : World} {d : Nat} (h : Below B w W) (hB : B ≤ W.heap.size) (g : W.grownBy W' (some d)) (hd : B ≤ d) : Below B w W' := h.trans ⟨g.os, g.tape, g.output, g.size, fun k hk => g.block k (by omega) (fun e => by injection e with e; omega)⟩
theorem ownE_grown {w w' : World} {d base : Nat} {E : TypeId} {v : Value} {vs : List Value} (h : OwnE w base E v vs) (g : w.grownBy w' (some d)) (hd : d < base) : OwnE w' base E v vs := by
  refine h.imp (fun h => ?_) id
  obtain ⟨h1, h2⟩ := h
  refine ⟨h1, ?_⟩
  rcases h2 with h2 | ⟨q, cap, cur, e, hb, hq, r⟩
  · exact Or.inl h2
  · exact Or.inr ⟨q, cap, cur, e, hb, by rw [g.block q (Array.getElem?_eq_some_iff.1 hq).1 (fun e => by injection e with e; omega)]; exact hq, r⟩
/-- while both read -/
structure GetsI (w : World) (r d : Nat) (s : ByteArray) (pos : Nat) (wr : World) : Prop where
  bel : Below w.heap.size w wr
  rd : Rd wr r s pos 0
  dr : Dr wr d s pos 0
  hp : pos ≤ s.size

set_option maxRecDepth 100000 in
set_option maxHeartbeats 4000000 in
theorem gets_any (s : ByteArray) (v : Int) (w : World) (hs : s.size ≤ maxLen) (hvw : (Lit.int .u8 v).wf = true) (E : Env w) :
    Calls Tryd.prog 5 #[.string s, .int .u8 v] w fun z w' => z = .returned (.bool true) ∧ Below w.heap.size w w' := by
  have hvb := bounds_u8 hvw
  obtain ⟨v, rfl⟩ := Int.eq_ofNat_of_zero_le hvb.1
  have HV := Lib.hid (show v < 256 by omega)
  have HE := Lib.hid E
  have HSX := Lib.hid hs
  clear hvb hvw E
  unfold maxLen at hs
  go_enter Tryd.func5, Tryd.ntmps5
  by_cases h2 : 2000 < s.size
  · have z1 : decide ((s.size : Int) > 2000) = true := decide_eq_true (by omega)
    have z2 : (2000 : Int) < (s.size : Int) := by omega
    clear h2
    go_wp2_with fail
    refine (works_any w HE.out).mono ?_
    rintro z W1 ⟨rfl, hb⟩
    have HB := Lib.hid hb
    clear hb
    go_wp2_with fail
    go_ret
    exact ⟨rfl, HB.out⟩
  have z1 : decide ((s.size : Int) > 2000) = false := decide_eq_false (by omega)
  have z2 : ¬ (2000 : Int) < (s.size : Int) := by omega
  have HS := Lib.hid (show s.size ≤ 2000 by omega)
  clear h2 hs
  go_wp2_with fail
  refine (new_any s w).mono ?_
  rintro z W1 ⟨rfl, rfl⟩
  clear z1 z2
  have hb := (Below.refl w.heap.size w).alloc (Nat.le_refl _) (.cells (rdS s 0 0) 84)
  have HRd := Lib.hid (Rd.new s w)
  have hsz : (w.alloc (.cells (rdS s 0 0) 84)).heap.size = w.heap.size + 1 := by simp
  generalize w.alloc (.cells (rdS s 0 0) 84) = W1 at hb HRd hsz ⊢
  have hb2 := (Below.refl W1.heap.size W1).alloc (Nat.le_refl _) (.cells (drS s 0 0 0) 55)
  have HI : Hid (GetsI w w.heap.size (w.heap.size + 1) s 0 (W1.alloc (.cells (drS s 0 0 0) 55))) := ⟨below_step hb hb2, HRd.out.below hb2, by rw [← hsz]; exact heap_alloc_new W1 _, Nat.zero_le _⟩
  clear hb hb2 HRd
  go_wp2_with fail
  simp only [drS] at HI
  skip
  try rw [hsz]
  clear hsz
  have HLO := Lib.hid (show 2 ≤ w.heap.size from HE.out.2.2)
  go_loopw [7] (fun j wr => ∃ k pos : Nat, j = .int .i64 k ∧ k ≤ 20 ∧ Hid (GetsI w w.heap.size (w.heap.size + 1) s pos wr)) (fun j _ => 20 - (intOf j).toNat)
  case atStart => exact ⟨0, 0, rfl, Nat.zero_le _, HI⟩
  case round =>
    obtain ⟨k, pos, rfl, hk, HIk⟩ := hrel
    by_cases hlt : k < 20
    · have z0 : (k : Int) < 20 := by omega
      go_wp2_with fail
      refine (Get_any w.heap.size s pos 0 v wr HIk.out.rd HIk.out.hp (by have := HS.out; omega) HV.out HLO.out (HE.out.below HIk.out.bel)).mono ?_
      rintro z W3 ⟨A, ca, C, cc, rfl, hn, hm, hst⟩
      have HN := Lib.hid hn
      have HM := Lib.hid hm
      have HDW := Lib.hid (Wire.row_lt HIk.out.dr)
      have HB := Lib.hid (bel_grown HIk.out.bel HIk.out.bel.size hst.2 (Nat.le_refl _))
      have HR := Lib.hid hst.1
      have HD := Lib.hid (dr_grown HIk.out.dr hst.2 (by omega))
      have HPP := Lib.hid HIk.out.hp
      clear hn hm hst HIk
      simp only [evV]
      obtain ⟨x, hx⟩ : ∃ x, getE s pos 0 v = x := ⟨_, rfl⟩
      obtain ⟨y, hy⟩ : ∃ y, getW s pos 0 v = y := ⟨_, rfl⟩
      have HX := Lib.hid (And.intro hx hy)
      rw [hx] at HN HM ⊢
      rw [hy]
      clear hx hy
      go_upto_region 8 with (fail)
      have hb := (Below.refl W3.heap.size W3).alloc (Nat.le_refl _) (.cells #[.int .u8 x.v, .int .u8 x.k, .slice A x.ns.length ca, .slice C x.ts.length cc] 26)
      have HP := Lib.hid (show Four _ W3.heap.size _ _ _ _ from box4 W3 (.int .u8 x.v) (.int .u8 x.k) (.slice A x.ns.length ca) (.slice C x.ts.length cc) 26)
      replace HN := Lib.hid (HN.out.below hb)
      replace HM := Lib.hid (HM.out.below hb)
      replace HB := Lib.hid (below_step HB.out hb)
      replace HR := Lib.hid (HR.out.below hb)
      have hlow : w.heap.size + 1 < W3.heap.size := Wire.row_lt HD.out
      replace HD := Lib.hid (dr_bel HD.out hb)
      clear hb
      generalize W3.alloc (.cells #[.int .u8 x.v, .int .u8 x.k, .slice A x.ns.length ca, .slice C x.ts.length cc] 26) = W4 at HP HN HM HB HR HD ⊢
      generalize W3.heap.size = q at HP hlow ⊢
      have HLQ := Lib.hid hlow
      clear hlow
      go_wp2_with fail
      refine (DGet_any (w.heap.size + 1) s pos v W4 HD.out HPP.out (by have := HS.out; omega) HV.out).mono ?_
      rintro z W5 ⟨A2, c2, C2, d2, rfl, hn, hm, hst, hg⟩
      replace HN := Lib.hid (ownE_grown HN.out hg HDW.out)
      replace HM := Lib.hid (ownE_grown HM.out hg HDW.out)
      replace HP := Lib.hid (four_grown HP.out hg (by have := HLQ.out; omega))
      replace HB := Lib.hid (bel_grown HB.out HB.out.size hg (by omega))
      replace HR := Lib.hid (rd_grown HR.out hg (by omega))
      have HST := Lib.hid hst
      clear hst hg HD
      simp only [evV]
      rw [HX.out.1, HX.out.2]
      rw [HX.out.1] at hn hm
      have HN2 := Lib.hid hn
      have HM2 := Lib.hid hm
      clear hn hm
      go_upto_region 9 with (fail)
      have hb := (Below.refl W5.heap.size W5).alloc (Nat.le_refl _) (.cells #[.int .u8 x.v, .int .u8 x.k, .slice A2 x.ns.length c2, .slice C2 x.ts.length d2] 26)
      have HQ := Lib.hid (show Four _ W5.heap.size _ _ _ _ from box4 W5 (.int .u8 x.v) (.int .u8 x.k) (.slice A2 x.ns.length c2) (.slice C2 x.ts.length d2) 26)
      replace HN := Lib.hid (HN.out.below hb)
      replace HM := Lib.hid (HM.out.below hb)
      replace HN2 := Lib.hid (HN2.out.below hb)
      replace HM2 := Lib.hid (HM2.out.below hb)
      replace HP := Lib.hid (HP.out.below hb)
      replace HB := Lib.hid (below_step HB.out hb)
      replace HR := Lib.hid (HR.out.below hb)
      have HST2 := Lib.hid (fun h => show Dr _ _ _ _ _ ∧ _ from ⟨dr_bel (HST.out h).1 hb, (HST.out h).2⟩)
      clear hb HST
      generalize W5.alloc (.cells #[.int .u8 x.v, .int .u8 x.k, .slice A2 x.ns.length c2, .slice C2 x.ts.length d2] 26) = W6 at HP HQ HN HM HN2 HM2 HB HR HST2 ⊢
      generalize W5.heap.size = q2 at HQ ⊢
      have hsm := sameE_any A ca C cc x A2 c2 C2 d2 x (by have h := HN.out; have hz := HX.out.1; subst hz; have := (get_at HN.out HM.out).2.1; omega) (by have hz := HX.out.1; subst hz; have := (get_at HN.out HM.out).2.2; omega) W6 (by have hz := HX.out.1; subst hz; exact (get_at HN.out HM.out).1) (by have hz := HX.out.1; subst hz; exact (get_at HN2.out HM2.out).1)
      rw [show same x x = true from same_yes rfl rfl rfl rfl] at hsm
      simp only [evV] at hsm
      have HSM := Lib.hid hsm
      clear hsm HN HM HN2 HM2
      obtain ⟨p0, p1, p2, p3⟩ := HP.out
      obtain ⟨x0, x1, x2, x3⟩ := HQ.out
      have q0 : ((y : Int) != (y : Int)) = false := by simp
      have q1 : (y != y) = false := by simp
      go_wp2_with fail
      clear p0 p1 p2 p3 x0 x1 x2 x3
      refine HSM.out.mono ?_
      rintro z W7 ⟨rfl, hb⟩
      replace HB := Lib.hid (below_step HB.out hb)
      replace HR := Lib.hid (HR.out.below hb)
      have HST3 := Lib.hid (fun h => show Dr _ _ _ _ _ ∧ _ from ⟨dr_bel (HST2.out h).1 hb, (HST2.out h).2⟩)
      clear hb HST2 HP HQ HSM q0 q1
      by_cases hy0 : y = 0
      case neg =>
        have q2 : ((y : Int) != 0) = true := by rw [bne_iff_ne]; omega
        have q3 : (y != 0) = true := by rw [bne_iff_ne]; exact hy0
        clear hy0
        go_wp2_with fail
        refine (works_any W7 (HE.out.below HB.out)).mono ?_
        rintro z W8 ⟨rfl, hb⟩
        replace HB := Lib.hid (below_step HB.out hb)
        clear hb
        go_wp2_with fail
        go_ret
        exact ⟨rfl, HB.out⟩
      have hw0 : getW s pos 0 v = 0 := HX.out.2.trans hy0
      subst hy0
      have hbk := get_back hw0
      have hdr := HST3.out hw0
      rw [hdr.2] at HR
      have HP2 := Lib.hid (show getI s pos 0 v ≤ s.size by have h1 := hbk.2.2.2.1; have h2 := hbk.2.2.2.2.2; omega)
      have HD := Lib.hid hdr.1
      clear hbk hdr hw0 HST3
      generalize getI s pos 0 v = pos2 at HR HD HP2
      obtain ⟨c0, c1, c2', c3⟩ := HD.out.cells
      clear c0 c2' c3
      have q2 : (((0 : Nat) : Int) != 0) = false := rfl
      have HAT := Lib.hid (fun n => (at_any w.heap.size s pos2 0 (W7.drewN n) HR.out).mono fun _ _ h => And.intro h.1 h.2.symm)
      go_wp2_with fail
      go_quiet ((go_at_call 28; refine Calls.quiet_of_same (HAT.out _)))
      have q4 : ((pos2 : Int) != (pos2 : Int)) = false := by simp
      have q5 : (pos2 != pos2) = false := by simp
      have HI2 : Hid (GetsI w w.heap.size (w.heap.size + 1) s pos2 (W7.drewN nq)) := ⟨HB.out.trans (below_dn _ W7 nq), HR.out, HD.out, HP2.out⟩
      go_wp2_with fail
      go_roundw
      case rel => exact ⟨k + 1, pos2, by go_num, by omega, HI2⟩
      case measure => simp [intOf] <;> omega
    · have z0 : ¬ (k : Int) < 20 := by omega
      have z1 : decide ((k : Int) < 20) = false := decide_eq_false z0
      go_wp2_with fail
      refine (works_any wr (HE.out.below HIk.out.bel)).mono ?_
      rintro z W8 ⟨rfl, hb⟩
      have HB := Lib.hid (below_step HIk.out.bel hb)
      clear hb
      go_wp2_with fail
      go_ret
      exact ⟨rfl, HB.out⟩

end Go.Proofs.YtefkfjbdmglkjaaDoor.Codec
