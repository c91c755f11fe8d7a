/-
  The document's own May, Same.
-/
import Derived.Test.YtefkfjbdmglkjaaDoorE24
import Derived.Test.YtefkfjbdmglkjaaDoorE25
import Derived.Deep.RegionHeld3
import Derived.Deep.DeepCutAuto
namespace Go.Proofs.YtefkfjbdmglkjaaDoor.Schema
open Go Go.RowKit

set_option maxRecDepth 100000 in
set_option maxHeartbeats 1000000 in
theorem rMay_any (A : Option Addr) (ca : Nat) (B : Option Addr) (cb : Nat) (e : Ev) (w : World) (hA : EvAt w A ca B cb e) :
    Calls Tryd.prog 45 #[evV A ca B cb e] w fun z w' => z = .returned (.bool (may e)) ∧ Below w.heap.size w w' := by
  have HM := Lib.hid (show may e = (tall e.v e.k && fitB e.v (lets e.v e.k) e.ns && mayT e.k e.ts) from rfl)
  have HG := Lib.hid (fun W (hW : VAt W A (nums e.ns)) => rAll_any e.v (lets e.v e.k) (good_lets e.v e.k) A ca e.ns hA.fit W hW)
  have hv := hA.v
  have hk := hA.k
  have HTx := Lib.hid hA.txt
  have HNs := Lib.hid hA.ns
  have HTs := Lib.hid hA.ts
  have HF := Lib.hid (fun W => show Calls Tryd.prog 51 #[.int .u8 e.v, .int .u8 e.k] W (fun z w' => z = .returned (.tuple #[.string (lets e.v e.k), .bool (tall e.v e.k && tru e.k), .bool (tall e.v e.k)]) ∧ W = w') from rFields_any e.v e.k hv hk W)
  have HTT := Lib.hid (show mayT e.k e.ts = if tru e.k then decide (e.ts.length = 1) && mayName (e.ts.getD 0 ByteArray.empty) else decide (e.ts.length = 0) from rfl)
  obtain ⟨v, k, ns, ts⟩ := e
  simp only [evV] at *
  have HA0 := Lib.hid ((Below.refl w.heap.size w).alloc (Nat.le_refl _) (.cells #[.int .u8 v, .int .u8 k, .slice A ns.length ca, .slice B ts.length cb] 26))
  have HB4 := Lib.hid (show Four _ w.heap.size _ _ _ _ from box4 w (.int .u8 v) (.int .u8 k) (.slice A ns.length ca) (.slice B ts.length cb) 26)
  clear hA
  generalize lets v k = s at HM HG HF
  generalize tall v k = ta at HM HF
  generalize tru k = tr at HF HTT
  generalize fitB v s ns = fb at HM HG
  go_enter Tryd.func45, Tryd.ntmps45
  go_wp2_with fail
  generalize w.alloc (.cells #[.int .u8 v, .int .u8 k, .slice A ns.length ca, .slice B ts.length cb] 26) = W at HA0 HB4 ⊢
  obtain ⟨p0, p1, p2, p3⟩ := HB4.out
  cases ta with
  | false =>
    have HR : Hid (may ⟨v, k, ns, ts⟩ = false) := by rw [HM.out]; rfl
    simp only [Bool.false_and] at HF
    go_wp2_with (go_at_call 51; refine (HF.out _).mono ?_; rintro z w' ⟨rfl, rfl⟩)
    go_ret
    exact ⟨ret_bool HR.out.symm, HA0.out⟩
  | true =>
    have HM2 : Hid (may ⟨v, k, ns, ts⟩ = (fb && mayT k ts)) := by rw [HM.out]; rfl
    simp only [Bool.true_and] at HF
    clear HM
    cases fb with
    | false =>
      have HR : Hid (may ⟨v, k, ns, ts⟩ = false) := by rw [HM2.out]; rfl
      go_wp2_with (first
        | (go_at_call 51; refine (HF.out _).mono ?_; rintro z w' ⟨rfl, rfl⟩)
        | (go_at_call 74; refine (HG.out _ (HNs.out.below HA0.out)).mono ?_; rintro z w' ⟨rfl, rfl⟩))
      go_ret
      exact ⟨ret_bool HR.out.symm, HA0.out⟩
    | true =>
      have HM3 : Hid (may ⟨v, k, ns, ts⟩ = mayT k ts) := by rw [HM2.out]; rfl
      clear HM2
      cases tr with
      | false =>
        have HR : Hid (may ⟨v, k, ns, ts⟩ = decide (ts.length = 0)) := by rw [HM3.out, HTT.out]; rfl
        go_wp2_with (first
          | (go_at_call 51; refine (HF.out _).mono ?_; rintro z w' ⟨rfl, rfl⟩)
          | (go_at_call 74; refine (HG.out _ (HNs.out.below HA0.out)).mono ?_; rintro z w' ⟨rfl, rfl⟩))
        go_ret
        exact ⟨ret_bool (by rw [HR.out]; exact int_beq _ 0), HA0.out⟩
      | true =>
        have HR : Hid (may ⟨v, k, ns, ts⟩ = (decide (ts.length = 1) && mayName (ts.getD 0 ByteArray.empty))) := by rw [HM3.out, HTT.out]; rfl
        clear HM3 HTT
        by_cases h1 : ts.length = 1
        · obtain ⟨b', o', rfl, c0⟩ := HTs.out 0 _ (texts_at ts 0 (by omega))
          have HNm := Lib.hid (fun W => rMayName_any (ts.getD 0 ByteArray.empty) (mem_getD HTx.out 0) W)
          have HR2 : Hid (may ⟨v, k, ns, ts⟩ = mayName (ts.getD 0 ByteArray.empty)) := by rw [HR.out, decide_eq_true h1]; rfl
          have c0' : W.cell? ⟨b', o', none⟩ = some (.string (ts.getD 0 ByteArray.empty)) := cell_kept c0 HA0.out
          generalize ts.getD 0 ByteArray.empty = t at c0' HNm HR2
          have e5 : ((ts.length : Int) == 1) = true := by rw [h1]; rfl
          have z2 : (0 : Int) < (ts.length : Int) := by omega
          clear c0 h1 HR
          go_wp2_with (first
            | (go_at_call 51; refine (HF.out _).mono ?_; rintro z w' ⟨rfl, rfl⟩)
            | (go_at_call 74; refine (HG.out _ (HNs.out.below HA0.out)).mono ?_; rintro z w' ⟨rfl, rfl⟩)
            | (go_at_call 55; refine (HNm.out _).mono ?_; rintro z w4 ⟨rfl, rfl⟩))
          go_ret
          exact ⟨ret_bool HR2.out.symm, HA0.out⟩
        · have HR2 : Hid (may ⟨v, k, ns, ts⟩ = false) := by rw [HR.out, decide_eq_false h1]; rfl
          have e5 : ((ts.length : Int) == 1) = false := by simp; omega
          clear h1 HR
          go_wp2_with (first
            | (go_at_call 51; refine (HF.out _).mono ?_; rintro z w' ⟨rfl, rfl⟩)
            | (go_at_call 74; refine (HG.out _ (HNs.out.below HA0.out)).mono ?_; rintro z w' ⟨rfl, rfl⟩))
          go_ret
          exact ⟨ret_bool HR2.out.symm, HA0.out⟩

theorem same_len {a b : Ev} (h : ¬ a.ns.length = b.ns.length) : same a b = false := by
  unfold same; rw [decide_eq_false (show ¬ a.ns = b.ns from fun e => h (by rw [e]))]; simp
theorem same_lenT {a b : Ev} (h : ¬ a.ts.length = b.ts.length) : same a b = false := by
  unfold same; rw [decide_eq_false (show ¬ a.ts = b.ts from fun e => h (by rw [e]))]; simp
theorem same_noN {a b : Ev} {k : Nat} (h : ¬ a.ns.getD k 0 = b.ns.getD k 0) : same a b = false := by
  unfold same; rw [decide_eq_false (show ¬ a.ns = b.ns from fun e => h (by rw [e]))]; simp
theorem same_noS {a b : Ev} {k : Nat} (h : ¬ a.ts.getD k ByteArray.empty = b.ts.getD k ByteArray.empty) : same a b = false := by
  unfold same; rw [decide_eq_false (show ¬ a.ts = b.ts from fun e => h (by rw [e]))]; simp
theorem same_yes {a b : Ev} (h1 : a.v = b.v) (h2 : a.k = b.k) (h3 : a.ns = b.ns) (h4 : a.ts = b.ts) : same a b = true := by
  unfold same; rw [decide_eq_true h1, decide_eq_true h2, decide_eq_true h3, decide_eq_true h4]; rfl
theorem hid_step {p : Nat → Prop} {k : Nat} (h : Hid (∀ j, j < k → p j)) (hk : p k) : Hid (∀ j, j < k + 1 → p j) := fun j hj => by
  by_cases e : j = k
  · exact e ▸ hk
  · exact h j (by omega)

end Go.Proofs.YtefkfjbdmglkjaaDoor.Schema
