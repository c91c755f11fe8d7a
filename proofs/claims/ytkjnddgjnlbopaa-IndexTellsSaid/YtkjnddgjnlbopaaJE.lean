import Derived.Test.YtkjnddgjnlbopaaJD
import Derived.BigQuiet
import Derived.Deep.RegionHeldLaw
/-
  The document's Index: Marks.
-/
namespace Go.Proofs.Ytkjnddgjnlbopaa.Index
open Go Go.RowKit
open Go.Proofs.Ytkjnddgjnlbopaa.Wire (S S_list S_size cell_row frozen_row row_lt heap_set heap_far)
open Go.Proofs.Ytkjnddgjnlbopaa.Frame Go.Proofs.Ytkjnddgjnlbopaa.Seg

set_option maxRecDepth 100000 in
set_option maxHeartbeats 4000000 in
/-- **Marks** -/
theorem marks_r (w : World) (base b a ev : Nat) (ats : List Nat) (v : Value) (g : Nat) (h : RB4 w b a ev v g) (ho : OwnN w base v ats) (hev : 1 ≤ ev ∧ ev ≤ 64) (hl : ats.length ≤ 900000) (hsm : a + ats.length ≤ 100000000) :
    Calls Try.prog 44 #[.pointer (some ⟨b, 0, none⟩)] w fun e w' => ∃ u, e = .returned u ∧ OwnR w' w.heap.size u (mks ev a ats) ∧ Below w.heap.size w w' := by
  obtain ⟨A, cap, rfl, hcl, hrow⟩ := ho.row
  have HROW := Lib.hid hrow
  have HRB := Lib.hid h
  have HL := Lib.hid hl
  have HSM := Lib.hid hsm
  have HEV := Lib.hid hev
  have HCL := Lib.hid hcl
  obtain ⟨n, hn⟩ : ∃ n, nm ev ats.length = n := ⟨_, rfl⟩
  have HN := Lib.hid hn
  clear hrow h hl hsm hev hcl hn ho
  go_enter Try.func44, Try.ntmps44
  go_wp2_with fail
  go_loopw [3, 4] (fun x y wr => ∃ (k : Nat) (vo : Value), k ≤ n ∧ vo = x ∧ y = .int .i64 ((k * ev : Nat) : Int) ∧ Hid (OwnR wr w.heap.size vo ((mks ev a ats).take k)) ∧ Hid (Below w.heap.size w wr)) (fun _ y _ => ats.length + 64 - (intOf y).toNat)
  case atStart => exact ⟨0, _, Nat.zero_le _, rfl, by rw [Nat.zero_mul]; rfl, Lib.hid (by rw [List.take_zero]; exact OwnR.nil _ _), Lib.hid (Below.refl _ _)⟩
  case round =>
    obtain ⟨k, vo, hk, rfl, rfl, HO, HB⟩ := hrel
    have hrb : RB4 wr b a ev (.slice A ats.length cap) g := (HB.out.block _ (row_lt HRB.out)).trans HRB.out
    obtain ⟨⟨c0, c1, c2, c3⟩, -⟩ := hrb.facts
    obtain ⟨I, hI⟩ : ∃ I, k * ev = I := ⟨_, rfl⟩
    rw [hI]
    by_cases hlt : k < n
    · as_aux_lemma =>
        have hIl : I < ats.length := by rw [← hI]; exact nm_lt HEV.out.1 (by rw [HN.out]; exact hlt)
        have e1 : decide ((I : Int) < (ats.length : Int)) = true := decide_eq_true (by omega)
        obtain ⟨G, hA, hGl, -, d0⟩ := HROW.out I hIl
        have HT := Lib.hid (mks_take ev a ats k (by rw [HN.out]; exact hlt))
        have hgd : ats.getD (k * ev) 0 = ats[I] := by rw [hI, List.getD_eq_getElem?_getD, List.getElem?_eq_getElem hIl]; rfl
        rw [hgd, hI] at HT
        subst hA
        have d1 : wr.cell? ⟨G, I, none⟩ = some (.int .i64 (ats[I] : Int)) := (HB.out.cell (p := ⟨G, I, none⟩) hGl).trans d0
        have HGW := Lib.hid (Nat.lt_of_lt_of_le hGl HB.out.size)
        have HIL := Lib.hid hIl
        have hS := HSM.out
        have hE := HEV.out
        have hL := HL.out
        have HW1 := Lib.hid (show wrap64 ((a : Int) + (I : Int)) = ((a + I : Nat) : Int) by rw [IntWalk.wrap64_in _ ⟨by omega, by omega⟩]; omega)
        have HW2 := Lib.hid (show wrap64 ((I : Int) + (ev : Int)) = (((k + 1) * ev : Nat) : Int) by
          rw [IntWalk.wrap64_in _ ⟨by omega, by omega⟩, Nat.succ_mul, hI]; omega)
        have HLT := Lib.hid hlt
        have HII := Lib.hid hI
        have HMK := Lib.hid (show ((mks ev a ats).take k).length ≤ 1000000 by rw [List.length_take, mks_len]; have := nm_le (n := ats.length) hE.1; omega)
        have j1 : (0 : Int) ≤ (I : Int) := by omega
        have j2 : (I : Int) < (ats.length : Int) := by omega
        generalize (mks ev a ats).take k = M at *
        generalize hat : ats[I] = at_ at *
        obtain ⟨y1, hy1⟩ : ∃ y1, a + I = y1 := ⟨_, rfl⟩
        rw [hy1] at HW1 HT
        have HX0 := Lib.hid (show IntKind.i64.wrap ((a : Int) + (I : Int)) = (y1 : Int) by rw [IntWalk.i64_left, HW1.out])
        have HY0 := Lib.hid hrb
        clear hS hE hL hI hy1 hgd hk
        have hD0 := d0
        have HD0 := Lib.hid hD0
        have HGL := Lib.hid hGl
        clear d0 hD0 hGl hrb
        go_wp2_with fail
        have g0 : wr.drew.cell? ⟨b, 0, none⟩ = some (.int .i64 (a : Int)) := c0
        have g1 : wr.drew.cell? ⟨b, 2, none⟩ = some (.slice (some ⟨G, 0, none⟩) ats.length cap) := c2
        have g2 : wr.drew.cell? ⟨G, I, none⟩ = some (.int .i64 (at_ : Int)) := d1
        have g3 : wr.drew.cell? ⟨b, 1, none⟩ = some (.int .i64 (ev : Int)) := c1
        have g4 : Below w.heap.size w wr.drew := HB.out.drew
        have hb2 : Below wr.heap.size wr ((wr.alloc (.cells #[.int .i64 (IntKind.i64.wrap ((a : Int) + (I : Int))), .int .i64 (at_ : Int)] 122)).drew) := ((Below.refl _ _).alloc (Nat.le_refl _) _).drew
        have hy2 : RB4 ((wr.alloc (.cells #[.int .i64 (IntKind.i64.wrap ((a : Int) + (I : Int))), .int .i64 (at_ : Int)] 122)).drew) b a ev (.slice (some ⟨G, 0, none⟩) ats.length cap) g := (hb2.block _ (row_lt HY0.out)).trans HY0.out
        obtain ⟨⟨x0, x1, x2, x3⟩, -⟩ := hy2.facts
        have x4 : ((wr.alloc (.cells #[.int .i64 (IntKind.i64.wrap ((a : Int) + (I : Int))), .int .i64 (at_ : Int)] 122)).drew).cell? ⟨G, I, none⟩ = some (.int .i64 (at_ : Int)) := (hb2.cell (p := ⟨G, I, none⟩) HGW.out).trans d1
        have x5 : Below w.heap.size w ((wr.alloc (.cells #[.int .i64 (IntKind.i64.wrap ((a : Int) + (I : Int))), .int .i64 (at_ : Int)] 122)).drew) := HB.out.trans (hb2.mono HB.out.size)
        have HO2 := Lib.hid (HO.out.below hb2)
        have HM2 := Lib.hid (show ((wr.alloc (.cells #[.int .i64 (IntKind.i64.wrap ((a : Int) + (I : Int))), .int .i64 (at_ : Int)] 122)).drew).heap[wr.heap.size]? = some (.cells (mkC (y1, at_)).toArray 122 (0, 0)) from by rw [show (mkC (y1, at_)).toArray = #[Value.int .i64 (IntKind.i64.wrap ((a : Int) + (I : Int))), .int .i64 (at_ : Int)] by rw [HX0.out]; rfl]; exact heap_alloc_new wr _)
        have HBZ := Lib.hid (show w.heap.size ≤ ((wr.alloc (.cells #[.int .i64 (IntKind.i64.wrap ((a : Int) + (I : Int))), .int .i64 (at_ : Int)] 122)).drew).heap.size from Nat.le_trans HB.out.size hb2.size)
        clear hb2 hy2 x1 x3
        go_region_held_law (fun w' => w'.cell? ⟨b, 0, none⟩ = some (.int .i64 (a : Int)) ∧ w'.cell? ⟨b, 2, none⟩ = some (.slice (some ⟨G, 0, none⟩) ats.length cap) ∧ w'.cell? ⟨G, I, none⟩ = some (.int .i64 (at_ : Int)) ∧ Below w.heap.size w w')
          (first | assumption | (refine ⟨?_, ?_, ?_, ?_⟩ <;> assumption) | go_keep)
          (first | (refine step_append_r (by rfl) (.tmp 18) (.tmp 33) (by rfl) w.heap.size vo M (by rfl) HO2.out wr.heap.size 1 (y1, at_) (by rfl) HM2.out HMK.out HBZ.out ?_; intro v' w5 hown hgr; (have k4 : Below w.heap.size w w5 := x5.grown hgr HBZ.out (fun r hr => (OwnR.lt HO2.out r hr).2)); (have hrb5 : RB4 w5 b a ev (.slice (some ⟨G, 0, none⟩) ats.length cap) g := (k4.block _ (row_lt HRB.out)).trans HRB.out); obtain ⟨⟨k0, k1, k2, k3⟩, -⟩ := hrb5.facts; (have k5 : w5.cell? ⟨G, I, none⟩ = some (.int .i64 (at_ : Int)) := (k4.cell (p := ⟨G, I, none⟩) HGL.out).trans HD0.out); (have HOW := Lib.hid hown); clear hown hgr hrb5))
        all_goals
          clear g0 g1 g2 g3 g4 x0 x2 x4 x5 d1 c0 c1 c2 c3
          have HB5 := Lib.hid k4
          clear k4 k5
          go_wp2_with fail
          go_roundw
          case rel => exact ⟨k + 1, v', HLT.out, rfl, by rw [HW2.out], Lib.hid (by rw [HT.out]; exact HOW.out), HB5⟩
          case measure =>
            rw [HW2.out]
            show ats.length + 64 - (((k + 1) * ev : Nat) : Int).toNat < ats.length + 64 - (I : Int).toNat
            have h1 := HEV.out
            have h2 := HIL.out
            have h3 := HII.out
            rw [Nat.succ_mul, h3]
            omega
    · as_aux_lemma =>
        obtain rfl : k = n := by omega
        have hge := nm_ge (n := ats.length) HEV.out.1
        rw [HN.out, hI] at hge
        have e1 : decide ((I : Int) < (ats.length : Int)) = false := decide_eq_false (by omega)
        have e2 : ¬ I < ats.length := by omega
        have HF := HO.out
        rw [List.take_of_length_le (by rw [mks_len, HN.out]; exact Nat.le_refl _)] at HF
        have HFF := Lib.hid HF
        clear hge hk HF hrb
        go_wp2_with fail
        go_ret
        exact ⟨_, rfl, HFF.out, HB.out⟩
end Go.Proofs.Ytkjnddgjnlbopaa.Index
