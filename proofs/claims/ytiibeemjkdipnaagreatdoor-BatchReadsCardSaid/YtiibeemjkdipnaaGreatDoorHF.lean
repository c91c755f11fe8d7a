import Derived.Test.YtiibeemjkdipnaaGreatDoorHE
import Derived.Deep.RegionWith
import Derived.Deep.RegionHeld3
/-
  What keeps events from being a batch: refusal; May.
-/
namespace Go.Proofs.YtiibeemjkdipnaaGreatDoor.Batch
open Go Go.RowKit
open Go.Proofs.YtiibeemjkdipnaaGreatDoor.Schema
open Go.Proofs.YtiibeemjkdipnaaGreatDoor.Upcast (ev0)

/-- an event that is of another version, or may not be -/
def strayB (v : Nat) (e : Ev) : Bool := !(decide (e.v = v)) || !(may e)

set_option maxRecDepth 100000 in
set_option maxHeartbeats 4000000 in
theorem stray_any (A : Option Addr) (ca : Nat) (C : Option Addr) (cc : Nat) (e : Ev) (D : Option Addr) (cap : Nat) (xs : List Lx) (q : Nat) (hl : e.ns.length ≤ 140737488355328) (h1 : 0 < xs.length) (w : World) (hA : EvAt w A ca C cc e) (hX : Row w D xs) (hq : w.cell? ⟨q, 0, none⟩ = some (.slice D xs.length cap)) (E : Env w) :
    Calls Tryz.prog 41 #[evV A ca C cc e, .pointer (some ⟨q, 0, none⟩)] w fun z w' => z = .returned (.bool (strayB (vOf (xs.map (·.e))) e)) ∧ Below w.heap.size w w' := by
  have HE := Lib.hid E
  have HA := Lib.hid hA
  have HX := Lib.hid hX
  have HQ := Lib.hid hq
  obtain ⟨v0, hv0⟩ : ∃ v0, xs[0].e.v = v0 := ⟨_, rfl⟩
  rw [show vOf (xs.map (·.e)) = v0 by unfold vOf; rw [Upcast.getD_map xs 0 h1, hv0]]
  have HV0 := Lib.hid hv0
  clear hv0
  have HLN := Lib.hid hl
  clear E hA hX hq hl
  unfold evV
  have hb := (Below.refl w.heap.size w).alloc (Nat.le_refl _) (.cells #[.int .u8 e.v, .int .u8 e.k, .slice A e.ns.length ca, .slice C e.ts.length cc] 39)
  have HP := Lib.hid (show Four _ w.heap.size _ _ _ _ from box4 w (.int .u8 e.v) (.int .u8 e.k) (.slice A e.ns.length ca) (.slice C e.ts.length cc) 39)
  replace HE := Lib.hid (HE.out.below hb)
  replace HA := Lib.hid (HA.out.below hb)
  replace HX := Lib.hid (HX.out.below hb)
  replace HQ := Lib.hid (Schema.cell_kept HQ.out hb)
  have HB := Lib.hid hb
  clear hb
  go_enter Tryz.func41, Tryz.ntmps41
  go_upto_region 1 with (fail)
  generalize w.alloc (.cells #[.int .u8 e.v, .int .u8 e.k, .slice A e.ns.length ca, .slice C e.ts.length cc] 39) = W at HE HA HX HQ HP HB ⊢
  obtain ⟨b, o, rfl, hbl, c0, c1, c2, c3, -⟩ := HX.out.at 0 h1
  obtain ⟨p0, p1, p2, p3⟩ := HP.out
  have q0 := HQ.out
  have z0 : (0 : Int) < (xs.length : Int) := by omega
  rw [Nat.zero_mul, Nat.add_zero] at c0
  rw [HV0.out] at c0
  clear c1 c2 c3 hbl HV0
  have HMAY := Lib.hid (fun V (hV : Below W.heap.size W V) => may_big A ca C cc e HLN.out V (HE.out.below hV) (HA.out.below hV))
  by_cases hv : e.v = v0
  · have y1 : ((e.v : Int) != (v0 : Int)) = false := by rw [hv]; simp
    have HS := Lib.hid (show strayB v0 e = !(may e) by unfold strayB; rw [decide_eq_true hv]; rfl)
    subst hv
    go_region_with (refine (HMAY.out _ (below_drew _ _)).mono ?_; rintro z V ⟨rfl, hbV⟩; have HBV := Lib.hid hbV; clear hbV)
    all_goals (go_wp2_with fail; go_ret; exact ⟨by rw [HS.out]; rfl, HB.out.trans (((below_drew _ W).trans (HBV.out.mono (Nat.le_refl _))).mono HB.out.size)⟩)
  · have y1 : ((e.v : Int) != (v0 : Int)) = true := bne_iff_ne.2 (by omega)
    have HS := Lib.hid (show strayB v0 e = true by unfold strayB; rw [decide_eq_false hv]; rfl)
    go_region_with (fail)
    all_goals (go_wp2_with fail; go_ret; exact ⟨by rw [HS.out]; rfl, HB.out.trans (below_drew _ W)⟩)
end Go.Proofs.YtiibeemjkdipnaaGreatDoor.Batch
