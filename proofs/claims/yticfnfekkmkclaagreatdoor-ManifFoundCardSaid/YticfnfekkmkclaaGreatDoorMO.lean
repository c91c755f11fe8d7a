import Derived.Test.YticfnfekkmkclaaGreatDoorS
import Derived.Test.YticfnfekkmkclaaGreatDoorMF
import Derived.Defers
/-
  Manifests: the steps of a swap.
-/
namespace Go.Proofs.YticfnfekkmkclaaGreatDoor.Manif
open Go Go.RowKit
open Go.Proofs.YticfnfekkmkclaaGreatDoor.Disk

def fresh : Nm := [77, 65, 78, 73, 70, 69, 83, 84, 46, 110, 101, 119]
def file : Nm := [77, 65, 78, 73, 70, 69, 83, 84]
/-- MANIFEST.new is put away -/
def awayD (d : Dk) : Nat × Dk := if (deleteD d fresh).1 = 5 then (0, (deleteD d fresh).2) else deleteD d fresh
set_option maxRecDepth 100000 in
theorem putAway_any (a b : Nat) (d : Dk) (w : World) (h : DkAt w a b d) :
    Calls Tryz.prog 52 #[.pointer (some ⟨a, 0, none⟩)] w (Res a b (awayD d) w) := by
  have HD := Lib.hid (delete_any a b d fresh (by decide) w h)
  clear h
  unfold awayD
  by_cases h5 : (deleteD d fresh).1 = 5
  · have HV := Lib.hid h5
    rw [if_pos h5]
    generalize hr : deleteD d fresh = r at *
    obtain ⟨r1, r2⟩ := r
    simp only at h5 HV
    subst h5
    clear hr
    go_enter Tryz.func52, Tryz.ntmps52
    go_wp2_with fail
    refine HD.out.mono ?_
    rintro e w1 ⟨rfl, h1, h2⟩
    have H1 := Lib.hid h1
    have H2 := Lib.hid h2
    clear h1 h2
    go_wp2_with fail
    go_ret
    exact ⟨rfl, H1.out, H2.out⟩
  · rw [if_neg h5]
    generalize deleteD d fresh = r at *
    obtain ⟨r1, r2⟩ := r
    simp only at h5
    have k1 : ((r1 : Int) == 5) = false := beq_eq_false_iff_ne.2 (by omega)
    have k2 : ¬ (r1 : Int) = 5 := by omega
    go_enter Tryz.func52, Tryz.ntmps52
    go_wp2_with fail
    refine HD.out.mono ?_
    rintro e w1 ⟨rfl, h1, h2⟩
    have H1 := Lib.hid h1
    have H2 := Lib.hid h2
    clear h1 h2
    go_wp2_with fail
    go_ret
    exact ⟨rfl, H1.out, H2.out⟩
theorem sw2_any (a b k : Nat) (d : Dk) (w : World) (h : DkAt w a b d) (hk : Bx w k #[.pointer (some ⟨a, 0, none⟩)]) :
    Calls Tryz.prog 54 #[.pointer (some ⟨k, 0, none⟩)] w (Res a b (awayD d) w) := by
  have HD := Lib.hid (putAway_any a b d w h)
  have e0 := hk.cell 0
  simp only [List.getElem?_toArray, List.getElem?_cons_zero] at e0
  clear h
  generalize awayD d = r at *
  obtain ⟨r1, r2⟩ := r
  go_enter Tryz.func54, Tryz.ntmps54
  go_wp2_with fail
  refine HD.out.mono ?_
  rintro e w1 ⟨rfl, h1, h2⟩
  have H1 := Lib.hid h1
  have H2 := Lib.hid h2
  clear h1 h2
  go_wp2_with fail
  go_ret
  exact ⟨rfl, H1.out, H2.out⟩
theorem sw3_any (a b k : Nat) (d : Dk) (w : World) (h : DkAt w a b d) (hk : Bx w k #[.pointer (some ⟨a, 0, none⟩)]) :
    Calls Tryz.prog 55 #[.pointer (some ⟨k, 0, none⟩)] w (Res a b (createD d fresh) w) := by
  have HD := Lib.hid (create_any a b d fresh (by decide) w h)
  have e0 := hk.cell 0
  simp only [List.getElem?_toArray, List.getElem?_cons_zero] at e0
  clear h
  generalize createD d fresh = r at *
  obtain ⟨r1, r2⟩ := r
  go_enter Tryz.func55, Tryz.ntmps55
  go_wp2_with fail
  refine HD.out.mono ?_
  rintro e w1 ⟨rfl, h1, h2⟩
  have H1 := Lib.hid h1
  have H2 := Lib.hid h2
  clear h1 h2
  go_wp2_with fail
  go_ret
  exact ⟨rfl, H1.out, H2.out⟩
theorem sw4_any (a b k : Nat) (d : Dk) (m : Nat) (s : List UInt8) (hs : s.length ≤ maxLen) (w : World) (h : DkAt w a b d) (hk : Bx w k #[.pointer (some ⟨a, 0, none⟩)]) (hm : Bx w m #[.string (S s)]) :
    Calls Tryz.prog 57 #[.pointer (some ⟨k, 0, none⟩), .pointer (some ⟨m, 0, none⟩)] w (Res a b (appendD d fresh s) w) := by
  have HD := Lib.hid (append_any a b d fresh (by decide) s hs w h)
  have e0 := hk.cell 0
  have e1 := hm.cell 0
  simp only [List.getElem?_toArray, List.getElem?_cons_zero] at e0 e1
  clear h
  generalize appendD d fresh s = r at *
  obtain ⟨r1, r2⟩ := r
  go_enter Tryz.func57, Tryz.ntmps57
  go_wp2_with fail
  refine HD.out.mono ?_
  rintro e w1 ⟨rfl, h1, h2⟩
  have H1 := Lib.hid h1
  have H2 := Lib.hid h2
  clear h1 h2
  go_wp2_with fail
  go_ret
  exact ⟨rfl, H1.out, H2.out⟩
theorem sw5_any (a b k : Nat) (d : Dk) (w : World) (h : DkAt w a b d) (hk : Bx w k #[.pointer (some ⟨a, 0, none⟩)]) :
    Calls Tryz.prog 59 #[.pointer (some ⟨k, 0, none⟩)] w (Res a b (syncD d fresh) w) := by
  have HD := Lib.hid (sync_any a b d fresh (by decide) w h)
  have e0 := hk.cell 0
  simp only [List.getElem?_toArray, List.getElem?_cons_zero] at e0
  clear h
  generalize syncD d fresh = r at *
  obtain ⟨r1, r2⟩ := r
  go_enter Tryz.func59, Tryz.ntmps59
  go_wp2_with fail
  refine HD.out.mono ?_
  rintro e w1 ⟨rfl, h1, h2⟩
  have H1 := Lib.hid h1
  have H2 := Lib.hid h2
  clear h1 h2
  go_wp2_with fail
  go_ret
  exact ⟨rfl, H1.out, H2.out⟩
theorem sw6_any (a b k : Nat) (d : Dk) (w : World) (h : DkAt w a b d) (hk : Bx w k #[.pointer (some ⟨a, 0, none⟩)]) :
    Calls Tryz.prog 61 #[.pointer (some ⟨k, 0, none⟩)] w (Res a b (renameD d fresh file) w) := by
  have HD := Lib.hid (rename_any a b d fresh file (by decide) (by decide) w h)
  have e0 := hk.cell 0
  simp only [List.getElem?_toArray, List.getElem?_cons_zero] at e0
  clear h
  generalize renameD d fresh file = r at *
  obtain ⟨r1, r2⟩ := r
  go_enter Tryz.func61, Tryz.ntmps61
  go_wp2_with fail
  refine HD.out.mono ?_
  rintro e w1 ⟨rfl, h1, h2⟩
  have H1 := Lib.hid h1
  have H2 := Lib.hid h2
  clear h1 h2
  go_wp2_with fail
  go_ret
  exact ⟨rfl, H1.out, H2.out⟩
end Go.Proofs.YticfnfekkmkclaaGreatDoor.Manif

/-
  Manifests: the steps of a swap, in their row.
-/
namespace Go.Proofs.YticfnfekkmkclaaGreatDoor.Manif
open Go Go.RowKit
open Go.Proofs.YticfnfekkmkclaaGreatDoor.Disk

/-- steps one behind the other, until one errs -/
def stepsD : List (Dk → Nat × Dk) → Dk → Nat × Dk
  | [], d => (0, d)
  | f :: r, d => if (f d).1 = 0 then stepsD r (f d).2 else f d
/-- what a swap does -/
def swapL (s : List UInt8) : List (Dk → Nat × Dk) := [awayD, fun d => createD d fresh, fun d => appendD d fresh s, fun d => syncD d fresh, fun d => renameD d fresh file]
def runD (s : List UInt8) (d : Dk) : Nat × Dk := stepsD (swapL s) d
/-- the functions, as they lie in their row -/
def swapF (k m : Nat) : Array Value := #[.func (.func 54) #[] #[.pointer (some ⟨k, 0, none⟩)], .func (.func 55) #[] #[.pointer (some ⟨k, 0, none⟩)], .func (.func 57) #[] #[.pointer (some ⟨k, 0, none⟩), .pointer (some ⟨m, 0, none⟩)], .func (.func 59) #[] #[.pointer (some ⟨k, 0, none⟩)], .func (.func 61) #[] #[.pointer (some ⟨k, 0, none⟩)]]
set_option maxRecDepth 100000 in
set_option maxHeartbeats 4000000 in
theorem inRow_any (w : World) (a b k m G : Nat) (d : Dk) (s : List UInt8) (hs : s.length ≤ maxLen) (h : DkAt w a b d) (hk : Bx w k #[.pointer (some ⟨a, 0, none⟩)]) (hm : Bx w m #[.string (S s)]) (hg : Bx w G (swapF k m)) (hka : k ≠ a) (hma : m ≠ a) (hga : G ≠ a) :
    Calls Tryz.prog 53 #[.slice (some ⟨G, 0, none⟩) 5 5] w (Res a b (runD s d) w) := by
  have HK := Lib.hid hk
  have HM := Lib.hid hm
  have HG := Lib.hid hg
  have HD := Lib.hid h
  have HS := Lib.hid hs
  clear h hk hm hg hs
  go_enter Tryz.func53, Tryz.ntmps53
  go_wp2_with fail
  go_loopw [8] (fun y wr => ∃ (j : Nat) (dj : Dk), j ≤ 5 ∧ y = .int .i64 (j : Int) ∧ Hid (DkAt wr a b dj) ∧ Hid (Tn a b w wr) ∧ Hid (runD s d = stepsD ((swapL s).drop j) dj)) (fun y _ => 5 - (intOf y).toNat)
  case atStart => exact ⟨0, d, by omega, rfl, HD, Lib.hid (Tn.refl a b w), Lib.hid rfl⟩
  case round =>
    obtain ⟨j, dj, hj, rfl, HJ, HT, HR⟩ := hrel
    have hkr := HK.out.tn HD.out hka HT.out
    have hmr := HM.out.tn HD.out hma HT.out
    have hgr := HG.out.tn HD.out hga HT.out
    have HKR := Lib.hid hkr
    have HMR := Lib.hid hmr
    have HGR := Lib.hid hgr
    clear hkr hmr hgr
    by_cases h0 : j = 0
    · subst h0
      as_aux_lemma =>
        have HC := Lib.hid (sw2_any a b k dj wr HJ.out HKR.out)
        have HE := Lib.hid (show runD s d = if (awayD dj).1 = 0 then stepsD ((swapL s).drop 1) (awayD dj).2 else awayD dj from HR.out)
        have g1 : wr.cell? ⟨G, 0, none⟩ = some (.func (.func 54) #[] #[.pointer (some ⟨k, 0, none⟩)]) := HGR.out.cell 0
        generalize awayD dj = r at *
        obtain ⟨r1, r2⟩ := r
        simp only at HE
        clear hj
        by_cases hr : r1 = 0
        · subst hr
          rw [if_pos rfl] at HE
          go_wp2_with fail
          refine HC.out.mono ?_
          rintro e w1 ⟨rfl, x1, x2⟩
          have HJ1 := Lib.hid x1
          have HT1 := Lib.hid (HT.out.trans x2)
          clear x1 x2 g1
          go_wp2_with fail
          go_roundw
          case rel => exact ⟨1, r2, by omega, by first | rfl | decide, HJ1, HT1, HE⟩
          case measure => first | decide | (simp [intOf])
        · rw [if_neg hr] at HE
          have k1 : ((r1 : Int) == 0) = false := beq_eq_false_iff_ne.2 (by omega)
          have k2 : ¬ (r1 : Int) = 0 := by omega
          go_wp2_with fail
          refine HC.out.mono ?_
          rintro e w1 ⟨rfl, x1, x2⟩
          have HJ1 := Lib.hid x1
          have HT1 := Lib.hid (HT.out.trans x2)
          clear x1 x2 g1
          go_wp2_with fail
          go_ret
          rw [HE.out]
          exact ⟨rfl, HJ1.out, HT1.out⟩
    by_cases h1 : j = 1
    · subst h1
      as_aux_lemma =>
        have HC := Lib.hid (sw3_any a b k dj wr HJ.out HKR.out)
        have HE := Lib.hid (show runD s d = if (createD dj fresh).1 = 0 then stepsD ((swapL s).drop 2) (createD dj fresh).2 else createD dj fresh from HR.out)
        have g1 : wr.cell? ⟨G, 1, none⟩ = some (.func (.func 55) #[] #[.pointer (some ⟨k, 0, none⟩)]) := HGR.out.cell 1
        generalize createD dj fresh = r at *
        obtain ⟨r1, r2⟩ := r
        simp only at HE
        clear hj
        by_cases hr : r1 = 0
        · subst hr
          rw [if_pos rfl] at HE
          go_wp2_with fail
          refine HC.out.mono ?_
          rintro e w1 ⟨rfl, x1, x2⟩
          have HJ1 := Lib.hid x1
          have HT1 := Lib.hid (HT.out.trans x2)
          clear x1 x2 g1
          go_wp2_with fail
          go_roundw
          case rel => exact ⟨2, r2, by omega, by first | rfl | decide, HJ1, HT1, HE⟩
          case measure => first | decide | (simp [intOf])
        · rw [if_neg hr] at HE
          have k1 : ((r1 : Int) == 0) = false := beq_eq_false_iff_ne.2 (by omega)
          have k2 : ¬ (r1 : Int) = 0 := by omega
          go_wp2_with fail
          refine HC.out.mono ?_
          rintro e w1 ⟨rfl, x1, x2⟩
          have HJ1 := Lib.hid x1
          have HT1 := Lib.hid (HT.out.trans x2)
          clear x1 x2 g1
          go_wp2_with fail
          go_ret
          rw [HE.out]
          exact ⟨rfl, HJ1.out, HT1.out⟩
    by_cases h2 : j = 2
    · subst h2
      as_aux_lemma =>
        have HC := Lib.hid (sw4_any a b k dj m s HS.out wr HJ.out HKR.out HMR.out)
        have HE := Lib.hid (show runD s d = if (appendD dj fresh s).1 = 0 then stepsD ((swapL s).drop 3) (appendD dj fresh s).2 else appendD dj fresh s from HR.out)
        have g1 : wr.cell? ⟨G, 2, none⟩ = some (.func (.func 57) #[] #[.pointer (some ⟨k, 0, none⟩), .pointer (some ⟨m, 0, none⟩)]) := HGR.out.cell 2
        generalize appendD dj fresh s = r at *
        obtain ⟨r1, r2⟩ := r
        simp only at HE
        clear hj
        by_cases hr : r1 = 0
        · subst hr
          rw [if_pos rfl] at HE
          go_wp2_with fail
          refine HC.out.mono ?_
          rintro e w1 ⟨rfl, x1, x2⟩
          have HJ1 := Lib.hid x1
          have HT1 := Lib.hid (HT.out.trans x2)
          clear x1 x2 g1
          go_wp2_with fail
          go_roundw
          case rel => exact ⟨3, r2, by omega, by first | rfl | decide, HJ1, HT1, HE⟩
          case measure => first | decide | (simp [intOf])
        · rw [if_neg hr] at HE
          have k1 : ((r1 : Int) == 0) = false := beq_eq_false_iff_ne.2 (by omega)
          have k2 : ¬ (r1 : Int) = 0 := by omega
          go_wp2_with fail
          refine HC.out.mono ?_
          rintro e w1 ⟨rfl, x1, x2⟩
          have HJ1 := Lib.hid x1
          have HT1 := Lib.hid (HT.out.trans x2)
          clear x1 x2 g1
          go_wp2_with fail
          go_ret
          rw [HE.out]
          exact ⟨rfl, HJ1.out, HT1.out⟩
    by_cases h3 : j = 3
    · subst h3
      as_aux_lemma =>
        have HC := Lib.hid (sw5_any a b k dj wr HJ.out HKR.out)
        have HE := Lib.hid (show runD s d = if (syncD dj fresh).1 = 0 then stepsD ((swapL s).drop 4) (syncD dj fresh).2 else syncD dj fresh from HR.out)
        have g1 : wr.cell? ⟨G, 3, none⟩ = some (.func (.func 59) #[] #[.pointer (some ⟨k, 0, none⟩)]) := HGR.out.cell 3
        generalize syncD dj fresh = r at *
        obtain ⟨r1, r2⟩ := r
        simp only at HE
        clear hj
        by_cases hr : r1 = 0
        · subst hr
          rw [if_pos rfl] at HE
          go_wp2_with fail
          refine HC.out.mono ?_
          rintro e w1 ⟨rfl, x1, x2⟩
          have HJ1 := Lib.hid x1
          have HT1 := Lib.hid (HT.out.trans x2)
          clear x1 x2 g1
          go_wp2_with fail
          go_roundw
          case rel => exact ⟨4, r2, by omega, by first | rfl | decide, HJ1, HT1, HE⟩
          case measure => first | decide | (simp [intOf])
        · rw [if_neg hr] at HE
          have k1 : ((r1 : Int) == 0) = false := beq_eq_false_iff_ne.2 (by omega)
          have k2 : ¬ (r1 : Int) = 0 := by omega
          go_wp2_with fail
          refine HC.out.mono ?_
          rintro e w1 ⟨rfl, x1, x2⟩
          have HJ1 := Lib.hid x1
          have HT1 := Lib.hid (HT.out.trans x2)
          clear x1 x2 g1
          go_wp2_with fail
          go_ret
          rw [HE.out]
          exact ⟨rfl, HJ1.out, HT1.out⟩
    by_cases h4 : j = 4
    · subst h4
      as_aux_lemma =>
        have HC := Lib.hid (sw6_any a b k dj wr HJ.out HKR.out)
        have HE := Lib.hid (show runD s d = if (renameD dj fresh file).1 = 0 then stepsD ((swapL s).drop 5) (renameD dj fresh file).2 else renameD dj fresh file from HR.out)
        have g1 : wr.cell? ⟨G, 4, none⟩ = some (.func (.func 61) #[] #[.pointer (some ⟨k, 0, none⟩)]) := HGR.out.cell 4
        generalize renameD dj fresh file = r at *
        obtain ⟨r1, r2⟩ := r
        simp only at HE
        clear hj
        by_cases hr : r1 = 0
        · subst hr
          rw [if_pos rfl] at HE
          go_wp2_with fail
          refine HC.out.mono ?_
          rintro e w1 ⟨rfl, x1, x2⟩
          have HJ1 := Lib.hid x1
          have HT1 := Lib.hid (HT.out.trans x2)
          clear x1 x2 g1
          go_wp2_with fail
          go_roundw
          case rel => exact ⟨5, r2, by omega, by first | rfl | decide, HJ1, HT1, HE⟩
          case measure => first | decide | (simp [intOf])
        · rw [if_neg hr] at HE
          have k1 : ((r1 : Int) == 0) = false := beq_eq_false_iff_ne.2 (by omega)
          have k2 : ¬ (r1 : Int) = 0 := by omega
          go_wp2_with fail
          refine HC.out.mono ?_
          rintro e w1 ⟨rfl, x1, x2⟩
          have HJ1 := Lib.hid x1
          have HT1 := Lib.hid (HT.out.trans x2)
          clear x1 x2 g1
          go_wp2_with fail
          go_ret
          rw [HE.out]
          exact ⟨rfl, HJ1.out, HT1.out⟩
    have h5 : j = 5 := by omega
    subst h5
    have HE := Lib.hid (show runD s d = (0, dj) from HR.out)
    clear hj
    go_wp2_with fail
    go_ret
    rw [HE.out]
    exact ⟨rfl, HJ.out, HT.out⟩
end Go.Proofs.YticfnfekkmkclaaGreatDoor.Manif

/-
  Manifests: what a swap defers.
-/
namespace Go.Proofs.YticfnfekkmkclaaGreatDoor.Manif
open Go Go.RowKit
open Go.Proofs.YticfnfekkmkclaaGreatDoor.Disk

set_option maxRecDepth 100000 in
/-- nothing was full: nothing is done -/
theorem sw1_no (a b k ke : Nat) (d : Dk) (x : Nat) (u : FrameMode) (w : World) (h : DkAt w a b d) (he : Bx w ke #[.int .i64 (x : Int)]) (hx : ¬ x = 44) :
    CallsD Tryz.prog 51 #[.pointer (some ⟨ke, 0, none⟩), .pointer (some ⟨k, 0, none⟩)] u w fun e u' w' => u' = u ∧ (e = .returned (.tuple #[]) ∧ w' = w) := by
  have e0 : w.cell? ⟨ke, 0, none⟩ = some (.int .i64 (x : Int)) := he.cell 0
  have k1 : ((x : Int) == 44) = false := beq_eq_false_iff_ne.2 (by omega)
  have k2 : ¬ (x : Int) = 44 := by omega
  clear h he
  go_enter_d Tryz.func51, Tryz.ntmps51
  go_wp2_with fail
  go_end0
  exact ⟨rfl, rfl⟩
set_option maxRecDepth 100000 in
/-- what is full is put away -/
theorem sw1_full (a b k ke : Nat) (d : Dk) (u : FrameMode) (w : World) (h : DkAt w a b d) (he : Bx w ke #[.int .i64 44]) (hk : Bx w k #[.pointer (some ⟨a, 0, none⟩)]) (hz : ¬ (awayD d).1 = 45) :
    CallsD Tryz.prog 51 #[.pointer (some ⟨ke, 0, none⟩), .pointer (some ⟨k, 0, none⟩)] u w fun e u' w' => u' = u ∧ (e = .returned (.tuple #[]) ∧ DkAt w' a b (awayD d).2 ∧ Tn a b w w') := by
  have e0 : w.cell? ⟨ke, 0, none⟩ = some (.int .i64 44) := he.cell 0
  have e1 : w.cell? ⟨k, 0, none⟩ = some (.pointer (some ⟨a, 0, none⟩)) := hk.cell 0
  have HP := Lib.hid (putAway_any a b d w h)
  generalize awayD d = r at *
  obtain ⟨r1, r2⟩ := r
  simp only at hz
  have k1 : ((r1 : Int) == 45) = false := beq_eq_false_iff_ne.2 (by omega)
  have k2 : ¬ (r1 : Int) = 45 := by omega
  clear h he hk
  go_enter_d Tryz.func51, Tryz.ntmps51
  go_wp2_with fail
  refine HP.out.mono ?_
  rintro e w1 ⟨rfl, h1, h2⟩
  have H1 := Lib.hid h1
  have H2 := Lib.hid h2
  clear h1 h2
  go_wp2_with fail
  go_end0
  exact ⟨rfl, H1.out, H2.out⟩
set_option maxRecDepth 100000 in
/-- the power goes at that -/
theorem sw1_cut (a b k ke : Nat) (d : Dk) (u : FrameMode) (w : World) (h : DkAt w a b d) (he : Bx w ke #[.int .i64 44]) (hk : Bx w k #[.pointer (some ⟨a, 0, none⟩)]) (hke : ke ≠ a) (hz : (awayD d).1 = 45) :
    CallsD Tryz.prog 51 #[.pointer (some ⟨ke, 0, none⟩), .pointer (some ⟨k, 0, none⟩)] u w fun e u' w' => u' = u ∧ (e = .returned (.tuple #[]) ∧ ∃ w1, w' = w1.setCell ⟨ke, 0, none⟩ (.int .i64 45) ∧ DkAt w1 a b (awayD d).2 ∧ Tn a b w w1) := by
  have e0 : w.cell? ⟨ke, 0, none⟩ = some (.int .i64 44) := he.cell 0
  have e1 : w.cell? ⟨k, 0, none⟩ = some (.pointer (some ⟨a, 0, none⟩)) := hk.cell 0
  have HP := Lib.hid (putAway_any a b d w h)
  have HE := Lib.hid he
  have HD := Lib.hid h
  generalize awayD d = r at *
  obtain ⟨r1, r2⟩ := r
  simp only at hz
  subst hz
  clear h he hk
  go_enter_d Tryz.func51, Tryz.ntmps51
  go_wp2_with fail
  refine HP.out.mono ?_
  rintro e w1 ⟨rfl, h1, h2⟩
  have hb := HE.out.tn HD.out hke h2
  obtain ⟨t, hb⟩ := hb
  have g0 : w1.cell? ⟨ke, 0, none⟩ = some (.int .i64 44) := Go.Proofs.YticfnfekkmkclaaGreatDoor.Wire.cell_row hb 0
  have g1 : w1.frozen? ⟨ke, 0, none⟩ = false := Go.Proofs.YticfnfekkmkclaaGreatDoor.Wire.frozen_row hb 0
  have H1 := Lib.hid h1
  have H2 := Lib.hid h2
  clear h1 h2 hb
  go_wp2_with fail
  go_end0
  exact ⟨rfl, w1, rfl, H1.out, H2.out⟩
end Go.Proofs.YticfnfekkmkclaaGreatDoor.Manif

/-
  Manifests: Swap.
-/
namespace Go.Proofs.YticfnfekkmkclaaGreatDoor.Manif
open Go Go.RowKit
open Go.Proofs.YticfnfekkmkclaaGreatDoor.Disk

set_option maxRecDepth 100000 in
set_option maxHeartbeats 2000000 in
/-- **Swap** of a manifest that may not be -/
theorem Swap_no (w : World) (p : Option Addr) (g : Int) (A : Option Addr) (cap : Nat) (l : List (Int × Int)) (hl : l.length ≤ maxLen) (hx : RowE w A l) (hm : mayM g l = false) :
    Calls Tryz.prog 15 #[.pointer p, .agg #[.int .i64 g, .slice A l.length cap]] w fun e w' => e = .returned (.int .i64 4) ∧ Below w.heap.size w w' := by
  have hmf : ∀ (fn : Fn) (first cap : Array Value) (w : World), (Instr.makeFunc fn first cap).run Tryz.prog w = .ok (.func fn first cap) w := fun _ _ _ _ => rfl
  have HMK := Lib.hid (fun W (h : RowE W A l) => Make_any W g A cap l hl h)
  have hV : mkS g l = ⟨#[]⟩ ∧ mkX g l = 4 := ⟨if_neg (by rw [hm]; decide), if_neg (by rw [hm]; decide)⟩
  rw [hV.1, hV.2] at HMK
  have HX := Lib.hid hx
  clear hx hm hl hV
  obtain ⟨W0, hW0⟩ : ∃ W0, ((w.alloc (.cells #[.pointer p] 40)).alloc (.cells #[.int .i64 g, .slice A l.length cap] 25)).alloc (.cells #[.int .i64 0] 28) = W0 := ⟨_, rfl⟩
  have s1 : (w.alloc (.cells #[.pointer p] 40)).heap.size = w.heap.size + 1 := by simp
  have s2 : ((w.alloc (.cells #[.pointer p] 40)).alloc (.cells #[.int .i64 g, .slice A l.length cap] 25)).heap.size = w.heap.size + 1 + 1 := by simp
  have hb0 : Below w.heap.size w W0 := by rw [← hW0]; exact (((Below.refl _ _).alloc (Nat.le_refl _) _).alloc (by simp) _).alloc (by simp; omega) _
  have he0 : W0.heap[w.heap.size + 1 + 1]? = some (.cells #[.int .i64 0] 28 (0, 0)) := by rw [← hW0, ← s2]; exact heap_alloc_new _ _
  have a1 : W0.heap[w.heap.size + 1]? = some (.cells #[.int .i64 g, .slice A l.length cap] 25 (0, 0)) := by
    rw [← hW0]
    exact (Below.heap_alloc _ _ _ (by rw [s2]; omega)).trans (by rw [← s1]; exact heap_alloc_new _ _)
  have c10 : W0.cell? ⟨w.heap.size + 1, 0, none⟩ = some (.int .i64 g) := cell_row a1 0
  have c11 : W0.cell? ⟨w.heap.size + 1, 1, none⟩ = some (.slice A l.length cap) := cell_row a1 1
  have HB0 := Lib.hid hb0
  have HW0 := Lib.hid hW0
  have HE0 := Lib.hid he0
  have HM1 := Lib.hid (HMK.out W0 (HX.out.below hb0))
  clear hb0 he0 s1 s2 a1
  go_enter_defers Tryz.func15, Tryz.ntmps15
  go_wp2_with fail
  refine HM1.out.mono ?_
  rintro e w1 ⟨rfl, hb⟩
  have he1 := (hb.block _ (Go.Proofs.YticfnfekkmkclaaGreatDoor.Wire.row_lt HE0.out)).trans HE0.out
  have hb2 : Below w1.heap.size w1 (w1.alloc (.cells #[.string ⟨#[]⟩] 9)) := (Below.refl _ _).alloc (Nat.le_refl _) _
  have he2 := (hb2.block _ (Go.Proofs.YticfnfekkmkclaaGreatDoor.Wire.row_lt he1)).trans he1
  have b0 : (w1.alloc (.cells #[.string ⟨#[]⟩] 9)).cell? ⟨w.heap.size + 1 + 1, 0, none⟩ = some (.int .i64 0) := Go.Proofs.YticfnfekkmkclaaGreatDoor.Wire.cell_row he2 0
  have f0 := Go.Proofs.YticfnfekkmkclaaGreatDoor.Wire.frozen_row he2 0
  have he3 := Go.Proofs.YticfnfekkmkclaaGreatDoor.Wire.heap_set he2 0 (.int .i64 4)
  have b1 : ((w1.alloc (.cells #[.string ⟨#[]⟩] 9)).setCell ⟨w.heap.size + 1 + 1, 0, none⟩ (.int .i64 4)).cell? ⟨w.heap.size + 1 + 1, 0, none⟩ = some (.int .i64 4) := Go.Proofs.YticfnfekkmkclaaGreatDoor.Wire.cell_row he3 0
  have f1 := Go.Proofs.YticfnfekkmkclaaGreatDoor.Wire.frozen_row he3 0
  have HB2 := Lib.hid (((HB0.out.trans (hb.mono HB0.out.size)).trans (hb2.mono (Nat.le_trans HB0.out.size hb.size))))
  have b2 := Lib.hid (Go.Proofs.YticfnfekkmkclaaGreatDoor.Wire.cell_row (Go.Proofs.YticfnfekkmkclaaGreatDoor.Wire.heap_set he3 0 (.int .i64 4)) 0)
  clear hb hb2 he1 he2 he3 hW0 c10 c11
  go_wp2_with fail
  exact ⟨.int .i64 4, by have h2 := b2.out; simp at h2; simp [results, go_sem, h2], rfl, (HB2.out.setCell (by simp; omega) _).setCell (by simp; omega) _⟩
end Go.Proofs.YticfnfekkmkclaaGreatDoor.Manif

/-
  Manifests: Swap of a manifest that may be.
-/
namespace Go.Proofs.YticfnfekkmkclaaGreatDoor.Manif
open Go Go.RowKit
open Go.Proofs.YticfnfekkmkclaaGreatDoor.Disk

/-- what a swap does, and what it defers -/
def swD (s : List UInt8) (d : Dk) : Nat × Dk := if (runD s d).1 = 44 then (if (awayD (runD s d).2).1 = 45 then 45 else 44, (awayD (runD s d).2).2) else runD s d
set_option maxRecDepth 100000 in
set_option maxHeartbeats 2000000 in
/-- **Swap** of a manifest that may be -/
theorem Swap_yes (w : World) (a b : Nat) (d : Dk) (hd : DkAt w a b d) (g : Int) (A : Option Addr) (cap : Nat) (l : List (Int × Int)) (hl : l.length ≤ maxLen) (hx : RowE w A l) (hm : mayM g l = true) (s : List UInt8) (hs : s.length ≤ maxLen) (hk : mkS g l = S s) :
    Calls Tryz.prog 15 #[.pointer (some ⟨a, 0, none⟩), .agg #[.int .i64 g, .slice A l.length cap]] w (Res a b (swD s d) w) := by
  have hmf : ∀ (fn : Fn) (first cap : Array Value) (w : World), (Instr.makeFunc fn first cap).run Tryz.prog w = .ok (.func fn first cap) w := fun _ _ _ _ => rfl
  have HMK := Lib.hid (fun W (h : RowE W A l) => Make_any W g A cap l hl h)
  have hV : mkS g l = S s ∧ mkX g l = 0 := ⟨hk, if_pos hm⟩
  rw [hV.1, hV.2] at HMK
  have HX := Lib.hid hx
  clear hx hm hl hV hk
  obtain ⟨W0, hW0⟩ : ∃ W0, ((w.alloc (.cells #[.pointer (some ⟨a, 0, none⟩)] 40)).alloc (.cells #[.int .i64 g, .slice A l.length cap] 25)).alloc (.cells #[.int .i64 0] 28) = W0 := ⟨_, rfl⟩
  have s1 : (w.alloc (.cells #[.pointer (some ⟨a, 0, none⟩)] 40)).heap.size = w.heap.size + 1 := by simp
  have s2 : ((w.alloc (.cells #[.pointer (some ⟨a, 0, none⟩)] 40)).alloc (.cells #[.int .i64 g, .slice A l.length cap] 25)).heap.size = w.heap.size + 1 + 1 := by simp
  have hb0 : Below w.heap.size w W0 := by rw [← hW0]; exact (((Below.refl _ _).alloc (Nat.le_refl _) _).alloc (by simp) _).alloc (by simp; omega) _
  have he0 : W0.heap[w.heap.size + 1 + 1]? = some (.cells #[.int .i64 0] 28 (0, 0)) := by rw [← hW0, ← s2]; exact heap_alloc_new _ _
  have a1 : W0.heap[w.heap.size + 1]? = some (.cells #[.int .i64 g, .slice A l.length cap] 25 (0, 0)) := by
    rw [← hW0]
    exact (Below.heap_alloc _ _ _ (by rw [s2]; omega)).trans (by rw [← s1]; exact heap_alloc_new _ _)
  have c10 : W0.cell? ⟨w.heap.size + 1, 0, none⟩ = some (.int .i64 g) := cell_row a1 0
  have c11 : W0.cell? ⟨w.heap.size + 1, 1, none⟩ = some (.slice A l.length cap) := cell_row a1 1
  have k0 : W0.heap[w.heap.size]? = some (.cells #[.pointer (some ⟨a, 0, none⟩)] 40 (0, 0)) := by
    rw [← hW0]
    exact (Below.heap_alloc _ _ _ (by rw [s2]; omega)).trans ((Below.heap_alloc _ _ _ (by rw [s1]; omega)).trans (heap_alloc_new _ _))
  have HK0 := Lib.hid (show Bx W0 w.heap.size #[.pointer (some ⟨a, 0, none⟩)] from ⟨_, k0⟩)
  have HX0 := Lib.hid (show Bx W0 (w.heap.size + 1 + 1) #[.int .i64 0] from ⟨_, he0⟩)
  have HD := Lib.hid hd
  have hlt := hd.lt
  have HB0 := Lib.hid hb0
  have HW0 := Lib.hid hW0
  have HE0 := Lib.hid he0
  have HM1 := Lib.hid (HMK.out W0 (HX.out.below hb0))
  clear hb0 he0 s1 s2 a1 k0 hd
  go_enter_defers Tryz.func15, Tryz.ntmps15
  go_wp2_with fail
  refine HM1.out.mono ?_
  rintro e w1 ⟨rfl, hb⟩
  obtain ⟨W2, hW2⟩ : ∃ W2, (w1.alloc (.cells #[.string (S s)] 9)) = W2 := ⟨_, rfl⟩
  have hb2 : Below w1.heap.size w1 W2 := by rw [← hW2]; exact (Below.refl _ _).alloc (Nat.le_refl _) _
  have he1 := (hb.block _ (Go.Proofs.YticfnfekkmkclaaGreatDoor.Wire.row_lt HE0.out)).trans HE0.out
  have he2 := (hb2.block _ (Go.Proofs.YticfnfekkmkclaaGreatDoor.Wire.row_lt he1)).trans he1
  have b0 : W2.cell? ⟨w.heap.size + 1 + 1, 0, none⟩ = some (.int .i64 0) := Go.Proofs.YticfnfekkmkclaaGreatDoor.Wire.cell_row he2 0
  have f0 := Go.Proofs.YticfnfekkmkclaaGreatDoor.Wire.frozen_row he2 0
  have he3 := Go.Proofs.YticfnfekkmkclaaGreatDoor.Wire.heap_set he2 0 (.int .i64 0)
  have b1 : (W2.setCell ⟨w.heap.size + 1 + 1, 0, none⟩ (.int .i64 0)).cell? ⟨w.heap.size + 1 + 1, 0, none⟩ = some (.int .i64 0) := Go.Proofs.YticfnfekkmkclaaGreatDoor.Wire.cell_row he3 0
  have f1 := Go.Proofs.YticfnfekkmkclaaGreatDoor.Wire.frozen_row he3 0
  have HE3 := Lib.hid he3
  have HB2 := Lib.hid (((HB0.out.trans (hb.mono HB0.out.size)).trans (hb2.mono (Nat.le_trans HB0.out.size hb.size))))
  have HW2 := Lib.hid hW2
  have HQ2 := Lib.hid hb2
  have HQ1 := Lib.hid hb
  have z0 := Go.Proofs.YticfnfekkmkclaaGreatDoor.Wire.row_lt HE0.out
  have z1 := hb.size
  have kk2 := Bx.below (Bx.below HK0.out hb) hb2
  have HK3 := Lib.hid (show Bx (W2.setCell ⟨w.heap.size + 1 + 1, 0, none⟩ (.int .i64 0)) w.heap.size #[.pointer (some ⟨a, 0, none⟩)] from ⟨_, (Below.heap_setCell W2 ⟨w.heap.size + 1 + 1, 0, none⟩ _ _ (by show w.heap.size ≠ w.heap.size + 1 + 1; omega)).trans kk2.choose_spec⟩)
  have mm2 : Bx W2 w1.heap.size #[.string (S s)] := by rw [← hW2]; exact bx_new _ _ _
  have HN3 := Lib.hid (show Bx (W2.setCell ⟨w.heap.size + 1 + 1, 0, none⟩ (.int .i64 0)) w1.heap.size #[.string (S s)] from ⟨_, (Below.heap_setCell W2 ⟨w.heap.size + 1 + 1, 0, none⟩ _ _ (by show w1.heap.size ≠ w.heap.size + 1 + 1; omega)).trans mm2.choose_spec⟩)
  have HX3 := Lib.hid (show Bx (W2.setCell ⟨w.heap.size + 1 + 1, 0, none⟩ (.int .i64 0)) (w.heap.size + 1 + 1) #[.int .i64 0] from ⟨_, he3⟩)
  have HB3 := Lib.hid (HB2.out.setCell (p := ⟨w.heap.size + 1 + 1, 0, none⟩) (by show w.heap.size ≤ w.heap.size + 1 + 1; omega) (.int .i64 0))
  have HZ := Lib.hid (show W2.heap.size = w1.heap.size + 1 by rw [← hW2]; simp)
  have HZ3 := Lib.hid (show (W2.setCell ⟨w.heap.size + 1 + 1, 0, none⟩ (.int .i64 0)).heap.size = W2.heap.size by simp [World.setCell])
  clear kk2 mm2
  clear hb hb2 he1 he2 he3 hW0 c10 c11
  go_wp2_with fail
  obtain ⟨W4, hW4⟩ : ∃ W4, (W2.setCell ⟨w.heap.size + 1 + 1, 0, none⟩ (.int .i64 0)).alloc (.cells (swapF w.heap.size w1.heap.size) 152) = W4 := ⟨_, rfl⟩
  have hg4 : Bx W4 W2.heap.size (swapF w.heap.size w1.heap.size) := by rw [← hW4, ← HZ3.out]; exact bx_new _ _ _
  have hk4 := HK3.out.new (.cells (swapF w.heap.size w1.heap.size) 152)
  have hn4 := HN3.out.new (.cells (swapF w.heap.size w1.heap.size) 152)
  have hx4 := HX3.out.new (.cells (swapF w.heap.size w1.heap.size) 152)
  have hb4 := HB3.out.alloc (by rw [HZ3.out, HZ.out]; omega) (.cells (swapF w.heap.size w1.heap.size) 152)
  rw [hW4] at hk4 hn4 hx4 hb4
  have hd4 := HD.out.below hb4
  have HR := inRow_any W4 a b w.heap.size w1.heap.size W2.heap.size d s hs hd4 hk4 hn4 hg4 (by omega) (by omega) (by rw [HZ.out]; omega)
  have HK4 := Lib.hid hk4
  have HX4 := Lib.hid hx4
  have HB4 := Lib.hid hb4
  have HD4 := Lib.hid hd4
  clear hk4 hn4 hx4 hb4 hd4 hg4
  unfold swapF at hW4
  rw [hW4]
  refine HR.mono ?_
  clear HR
  rintro e w5 ⟨rfl, h5, ht⟩
  have hx5 := HX4.out.tn HD4.out (by omega) ht
  have hk5 := HK4.out.tn HD4.out (by omega) ht
  have HB5 := Lib.hid (Tn.trans (Tn.of HB4.out) ht)
  obtain ⟨t5, hx5⟩ := hx5
  have e5 : w5.cell? ⟨w.heap.size + 1 + 1, 0, none⟩ = some (.int .i64 0) := Go.Proofs.YticfnfekkmkclaaGreatDoor.Wire.cell_row hx5 0
  have f5 : w5.frozen? ⟨w.heap.size + 1 + 1, 0, none⟩ = false := Go.Proofs.YticfnfekkmkclaaGreatDoor.Wire.frozen_row hx5 0
  have HX5 := Lib.hid hx5
  have HK5 := Lib.hid hk5
  have H5 := Lib.hid h5
  have HV := Lib.hid (show swD s d = if (runD s d).1 = 44 then (if (awayD (runD s d).2).1 = 45 then 45 else 44, (awayD (runD s d).2).2) else runD s d from rfl)
  clear hx5 hk5 ht h5
  generalize runD s d = r at *
  obtain ⟨r1, r2⟩ := r
  simp only at H5
  go_wp2_with fail
  obtain ⟨W6, hW6⟩ : ∃ W6, w5.setCell ⟨w.heap.size + 1 + 1, 0, none⟩ (.int .i64 (r1 : Int)) = W6 := ⟨_, rfl⟩
  have far : ∀ i, i ≠ w.heap.size + 1 + 1 → W6.heap[i]? = w5.heap[i]? := fun i hi => by rw [← hW6]; exact Below.heap_setCell w5 ⟨w.heap.size + 1 + 1, 0, none⟩ _ i hi
  have h6 : DkAt W6 a b r2 := H5.out.same (far a (by omega)) (far b (by omega))
  have hx6 : Bx W6 (w.heap.size + 1 + 1) #[.int .i64 (r1 : Int)] := by rw [← hW6]; exact ⟨_, Go.Proofs.YticfnfekkmkclaaGreatDoor.Wire.heap_set HX5.out 0 _⟩
  have hk6 : Bx W6 w.heap.size #[.pointer (some ⟨a, 0, none⟩)] := ⟨_, (far _ (by omega)).trans HK5.out.choose_spec⟩
  have ht6 : Tn a b w W6 := by rw [← hW6]; exact HB5.out.high (by omega) 0 _
  rw [hW6]
  clear hW6 far e5 f5
  refine leaves_cons (f := 51) (args := #[.pointer (some ⟨w.heap.size + 1 + 1, 0, none⟩), .pointer (some ⟨w.heap.size, 0, none⟩)]) (by simp) (by simp [go_sem]) ?_
  by_cases h44 : r1 = 44
  · subst h44
    by_cases h45 : (awayD r2).1 = 45
    · have hS : swD s d = (45, (awayD r2).2) := HV.out.trans (by simp [h45])
      refine (sw1_cut a b w.heap.size (w.heap.size + 1 + 1) r2 .returning W6 h6 hx6 hk6 (by omega) h45).mono ?_
      rintro e u' w7 ⟨rfl, rfl, w8, rfl, h8, ht8⟩
      have hx8 := hx6.tn h6 (by omega) ht8
      obtain ⟨t8, hx8⟩ := hx8
      have hc := Go.Proofs.YticfnfekkmkclaaGreatDoor.Wire.cell_row (Go.Proofs.YticfnfekkmkclaaGreatDoor.Wire.heap_set hx8 0 (.int .i64 45)) 0
      simp at hc
      have far : ∀ i, i ≠ w.heap.size + 1 + 1 → (w8.setCell ⟨w.heap.size + 1 + 1, 0, none⟩ (.int .i64 45)).heap[i]? = w8.heap[i]? := fun i hi => Below.heap_setCell w8 ⟨w.heap.size + 1 + 1, 0, none⟩ _ i hi
      refine ⟨.int .i64 45, by simp [results, go_sem, hc], ?_⟩
      rw [hS]
      exact ⟨rfl, h8.same (far a (by omega)) (far b (by omega)), (ht6.trans ht8).high (by omega) 0 _⟩
    · have hS : swD s d = (44, (awayD r2).2) := HV.out.trans (by simp [h45])
      refine (sw1_full a b w.heap.size (w.heap.size + 1 + 1) r2 .returning W6 h6 hx6 hk6 h45).mono ?_
      rintro e u' w7 ⟨rfl, rfl, h8, ht8⟩
      have hx8 := hx6.tn h6 (by omega) ht8
      have hc := hx8.cell 0
      simp at hc
      refine ⟨.int .i64 44, by simp [results, go_sem, hc], ?_⟩
      rw [hS]
      exact ⟨rfl, h8, ht6.trans ht8⟩
  · have hS : swD s d = (r1, r2) := HV.out.trans (if_neg h44)
    refine (sw1_no a b w.heap.size (w.heap.size + 1 + 1) r2 r1 .returning W6 h6 hx6 h44).mono ?_
    rintro e u' w7 ⟨rfl, rfl, rfl⟩
    have hc := hx6.cell 0
    simp at hc
    refine ⟨.int .i64 (r1 : Int), by simp [results, go_sem, hc], ?_⟩
    rw [hS]
    exact ⟨rfl, h6, ht6⟩
/-- **Swap** -/
theorem Swap_any (w : World) (a b : Nat) (d : Dk) (hd : DkAt w a b d) (g : Int) (A : Option Addr) (cap : Nat) (l : List (Int × Int)) (hl : l.length ≤ maxLen) (hx : RowE w A l) (s : List UInt8) (hs : s.length ≤ maxLen) (hk : mayM g l = true → mkS g l = S s) :
    Calls Tryz.prog 15 #[.pointer (some ⟨a, 0, none⟩), .agg #[.int .i64 g, .slice A l.length cap]] w (Res a b (if mayM g l = true then swD s d else (4, d)) w) := by
  by_cases hm : mayM g l = true
  · rw [if_pos hm]; exact Swap_yes w a b d hd g A cap l hl hx hm s hs (hk hm)
  · rw [if_neg hm]
    refine (Swap_no w _ g A cap l hl hx (by simpa using hm)).mono ?_
    rintro e w' ⟨rfl, hb⟩
    exact ⟨rfl, hd.below hb, Tn.of hb⟩
end Go.Proofs.YticfnfekkmkclaaGreatDoor.Manif

/-
  Manifests: the bytes of one, as a list.
-/
namespace Go.Proofs.YticfnfekkmkclaaGreatDoor.Manif
open Go Go.RowKit
open Go.Proofs.YticfnfekkmkclaaGreatDoor.Disk

/-- a manifest's bytes -/
def manB (g : Int) (l : List (Int × Int)) : List UInt8 := bareM g l ++ Crc.fourL (Crc.ofW (bareM g l))
theorem manB_length (g : Int) (l : List (Int × Int)) : (manB g l).length = 18 + 16 * l.length := by
  unfold manB; rw [List.length_append, bareM_length]; show _ + 4 = _; omega
theorem mkS_list {g : Int} {l : List (Int × Int)} (hm : mayM g l = true) : mkS g l = S (manB g l) := by
  unfold mkS; rw [if_pos hm]
  have h := Crc.sealS_list (Crc.S (bareM g l))
  rw [Crc.S_list] at h
  exact (Wire.S_of _).symm.trans (congrArg S h)
theorem manB_small {g : Int} {l : List (Int × Int)} (hm : mayM g l = true) : (manB g l).length ≤ maxLen := by
  have := (mayM_parts hm).2.2.2.1
  rw [manB_length]; unfold maxLen; omega
/-- **Swap**, of a manifest's bytes -/
theorem Swap_all (w : World) (a b : Nat) (d : Dk) (hd : DkAt w a b d) (g : Int) (A : Option Addr) (cap : Nat) (l : List (Int × Int)) (hl : l.length ≤ maxLen) (hx : RowE w A l) :
    Calls Tryz.prog 15 #[.pointer (some ⟨a, 0, none⟩), .agg #[.int .i64 g, .slice A l.length cap]] w (Res a b (if mayM g l = true then swD (manB g l) d else (4, d)) w) := by
  by_cases hm : mayM g l = true
  · exact Swap_any w a b d hd g A cap l hl hx (manB g l) (manB_small hm) (fun h => mkS_list h)
  · have := Swap_any w a b d hd g A cap l hl hx [] (by simp) (fun h => absurd h hm)
    rw [if_neg hm] at this ⊢; exact this
end Go.Proofs.YticfnfekkmkclaaGreatDoor.Manif
