/-
  behind: what the Errors at the front wrap at last.
-/
import Derived.Test.YtdaeiapogipjbaaDoorD2
namespace Go.Proofs.YtdaeiapogipjbaaDoor.Fault
open Go Go.RowKit
attribute [local go_sem] Oper.semAt_some

set_option maxRecDepth 100000 in
set_option maxHeartbeats 4000000 in
theorem behind_in (p : Nat → Nat) (e : Nat → Value) (xs : List Wr) (w : World) (C : Chain w.heap.size w p e xs) (hP : Plain (e xs.length)) (hlast : Ifc (e xs.length)) (hlen : xs.length < 1099511627776) :
    CallsIn Fence.wide 0 Tryd.prog 25 #[e 0] w fun ev w' => ev = .returned (e xs.length) ∧ Below w.heap.size w w' := by
  have h0 : Ifc (e 0) := C.ifc hlast 0 (Nat.zero_le _)
  have aE := asserted
  refine callsIn_of_wp_marks Tryd.func25 rfl trivial ?_ rfl
  simp only [Tryd.ntmps25, List.size_toArray, List.length_cons, List.length_nil, Nat.reduceAdd, Nat.reduceSub, Array.replicate_succ, Array.replicate_zero, List.push_toArray, List.append_toArray, List.nil_append, List.cons_append]
  have hfr := fun W => front_in 0 (e 0) h0 W
  have hP' := hP
  unfold Plain at hP'
  obtain ⟨W0, hW0⟩ : ∃ W0, (w.alloc (.cells #[e 0] 29)).alloc (.cells #[e 0] 29) = W0 := ⟨_, rfl⟩
  have hsz : W0.heap.size = w.heap.size + 2 := by rw [← hW0]; simp
  have bC : Boxed W0 w.heap.size 29 (e 0) := by rw [← hW0]; exact (Boxed.new w _ _).alloc _
  have bB : Boxed W0 (w.heap.size + 1) 29 (e 0) := by rw [← hW0]; have := Boxed.new (w.alloc (.cells #[e 0] 29)) 29 (e 0); rwa [World.size_alloc] at this
  have hB0 : Below w.heap.size w W0 := by rw [← hW0]; exact ((Below.refl _ w).alloc (Nat.le_refl _) _).alloc (by simp) _
  obtain ⟨v, hv⟩ : ∃ v, e 0 = v := ⟨_, rfl⟩
  rw [hv] at h0 hfr hW0 ⊢
  rcases h0 with rfl | ⟨t, x, rfl⟩
  all_goals
    gi_wp2_with (refine ⟨trivial, rfl, ?_⟩; gi_at_call 38; refine (hfr _).mono ?_; rintro ev w' ⟨rfl, rfl⟩)
    try rw [hW0]
    clear hfr; try clear hW0
    refine ranged (gf := 46) (lb := #[.pointer (some ⟨w.heap.size + 1, 0, none⟩)]) (N := xs.length) (o := w.heap.size) (b := w.heap.size + 1) rfl (enters_of Tryd.func46 (by kernel_rfl) rfl) (by omega) (by omega) rfl
      (front_seq w.heap.size (w.heap.size + 1) p e xs W0 bB (C.below hB0 (Nat.le_refl _)) (by omega) hP hlast hlen)
      (fun hi i W => Boxed W w.heap.size 29 (e i) ∧ Below w.heap.size w W) (fun _ _ _ => False)
      (fun hi i _ => (stays_boxed (by omega) _ _).and (stays_below (Nat.le_refl _) (by omega))) (fun _ _ _ => stays_pure _ _)
      (fun W' hb _ => ⟨(hb.block _ (by omega)).trans bC, hB0.trans (hb.mono (by omega))⟩) ?_ ?assign ?body ?done ?stop
    case assign =>
      intro l i W K hi hK
      gi_wp2
      exact hK
    case body =>
      rintro l hi i W hh1 hh2 hi' ⟨hb, hB⟩
      have C2 : Chain w.heap.size W p e xs := C.below hB (Nat.le_refl _)
      have hc3 := C2.c3 i hi'
      have hcb := hb.cell
      have hfb := hb.frozen
      have K1 := Lib.hid (Kp.set (B := W0.heap.size) (b := w.heap.size + 1) (c := w.heap.size) hh2 (Nat.le_refl _) (by omega) (by omega) (e (i + 1)))
      have K2 := Lib.hid (hb.set (e (i + 1)))
      have K3 := Lib.hid (hB.setCell (p := ⟨w.heap.size, 0, none⟩) (Nat.le_refl _) (e (i + 1)))
      rcases C2.ifc hlast (i + 1) (by omega) with hn | ⟨nt, nv, hn⟩
      all_goals
        rw [hn] at hc3 K1 K2 K3
        gi_wp2
        exact ⟨K1.out, hn.symm ▸ K2.out, K3.out⟩
    case done =>
      rintro hi W hh1 hh2 ⟨hb, hB⟩ hK
      have hcb := hb.cell
      have hfb := hb.frozen
      gi_wp2
      refine ⟨by simp, .inl ⟨_, _, rfl, run_takeDeferred hK, ?_⟩⟩
      exact ⟨_, results_tmp rfl _ _ _, rfl, hB.trans (belowK_b (w := w) (Nat.le_refl _) W _ _ _ (by omega) hK rfl rfl)⟩
    case stop =>
      rintro hi c W _ _ h _
      exact h.elim

end Go.Proofs.YtdaeiapogipjbaaDoor.Fault
