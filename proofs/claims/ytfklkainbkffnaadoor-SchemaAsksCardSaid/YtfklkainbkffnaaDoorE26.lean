/-
  The document's own May, Same.
-/
import Derived.Test.YtfklkainbkffnaaDoorE24
import Derived.Test.YtfklkainbkffnaaDoorE25
import Derived.Deep.RegionHeld3
import Derived.Deep.DeepCutAuto
namespace Go.Proofs.YtfklkainbkffnaaDoor.Schema
open Go Go.RowKit

set_option maxRecDepth 100000 in
set_option maxHeartbeats 1000000 in
theorem rMay_any (A : Option Addr) (ca : Nat) (B : Option Addr) (cb : Nat) (e : Ev) (w : World) (hA : EvAt w A ca B cb e) :
    Calls Tryd.prog 26 #[evV A ca B cb e] w fun z w' => z = .returned (.bool (may e)) ∧ Below w.heap.size w w' := by
  have HM := Lib.hid (show may e = (tall e.v e.k && fitB e.v (lets e.v e.k) e.ns && mayT e.k e.ts) from rfl)
  have HG := Lib.hid (fun W (hW : VAt W A (nums e.ns)) => rAll_any e.v (lets e.v e.k) (good_lets e.v e.k) A ca e.ns hA.fit W hW)
  have hv := hA.v
  have hk := hA.k
  have HTx := Lib.hid hA.txt
  have HNs := Lib.hid hA.ns
  have HTs := Lib.hid hA.ts
  have HF := Lib.hid (fun W => show Calls Tryd.prog 12 #[.int .u8 e.v, .int .u8 e.k] W (fun z w' => z = .returned (.tuple #[.string (lets e.v e.k), .bool (tall e.v e.k && tru e.k), .bool (tall e.v e.k)]) ∧ W = w') from rFields_any e.v e.k hv hk W)
  have HTT := Lib.hid (show mayT e.k e.ts = if tru e.k then decide (e.ts.length = 1) && mayName (e.ts.getD 0 ByteArray.empty) else decide (e.ts.length = 0) from rfl)
  obtain ⟨v, k, ns, ts⟩ := e
  simp only [evV] at *
  have HA0 := Lib.hid ((Below.refl w.heap.size w).alloc (Nat.le_refl _) (.cells #[.int .u8 v, .int .u8 k, .slice A ns.length ca, .slice B ts.length cb] 44))
  have HB4 := Lib.hid (show Four _ w.heap.size _ _ _ _ from box4 w (.int .u8 v) (.int .u8 k) (.slice A ns.length ca) (.slice B ts.length cb) 44)
  clear hA
  generalize lets v k = s at HM HG HF
  generalize tall v k = ta at HM HF
  generalize tru k = tr at HF HTT
  generalize fitB v s ns = fb at HM HG
  go_enter Tryd.func26, Tryd.ntmps26
  go_wp2_with fail
  generalize w.alloc (.cells #[.int .u8 v, .int .u8 k, .slice A ns.length ca, .slice B ts.length cb] 44) = W at HA0 HB4 ⊢
  obtain ⟨p0, p1, p2, p3⟩ := HB4.out
  cases ta with
  | false =>
    have HR : Hid (may ⟨v, k, ns, ts⟩ = false) := by rw [HM.out]; rfl
    simp only [Bool.false_and] at HF
    go_wp2_with (go_at_call 12; refine (HF.out _).mono ?_; rintro z w' ⟨rfl, rfl⟩)
    go_ret
    exact ⟨ret_bool HR.out.symm, HA0.out⟩
  | true =>
    have HM2 : Hid (may ⟨v, k, ns, ts⟩ = (fb && mayT k ts)) := by rw [HM.out]; rfl
    simp only [Bool.true_and] at HF
    clear HM
    cases fb with
    | false =>
      have HR : Hid (may ⟨v, k, ns, ts⟩ = false) := by rw [HM2.out]; rfl
      go_wp2_with (first
        | (go_at_call 12; refine (HF.out _).mono ?_; rintro z w' ⟨rfl, rfl⟩)
        | (go_at_call 43; refine (HG.out _ (HNs.out.below HA0.out)).mono ?_; rintro z w' ⟨rfl, rfl⟩))
      go_ret
      exact ⟨ret_bool HR.out.symm, HA0.out⟩
    | true =>
      have HM3 : Hid (may ⟨v, k, ns, ts⟩ = mayT k ts) := by rw [HM2.out]; rfl
      clear HM2
      cases tr with
      | false =>
        have HR : Hid (may ⟨v, k, ns, ts⟩ = decide (ts.length = 0)) := by rw [HM3.out, HTT.out]; rfl
        go_wp2_with (first
          | (go_at_call 12; refine (HF.out _).mono ?_; rintro z w' ⟨rfl, rfl⟩)
          | (go_at_call 43; refine (HG.out _ (HNs.out.below HA0.out)).mono ?_; rintro z w' ⟨rfl, rfl⟩))
        go_ret
        exact ⟨ret_bool (by rw [HR.out]; exact int_beq _ 0), HA0.out⟩
      | true =>
        have HR : Hid (may ⟨v, k, ns, ts⟩ = (decide (ts.length = 1) && mayName (ts.getD 0 ByteArray.empty))) := by rw [HM3.out, HTT.out]; rfl
        clear HM3 HTT
        by_cases h1 : ts.length = 1
        · obtain ⟨b', o', rfl, c0⟩ := HTs.out 0 _ (texts_at ts 0 (by omega))
          have HNm := Lib.hid (fun W => rMayName_any (ts.getD 0 ByteArray.empty) (mem_getD HTx.out 0) W)
          have HR2 : Hid (may ⟨v, k, ns, ts⟩ = mayName (ts.getD 0 ByteArray.empty)) := by rw [HR.out, decide_eq_true h1]; rfl
          have c0' : W.cell? ⟨b', o', none⟩ = some (.string (ts.getD 0 ByteArray.empty)) := cell_kept c0 HA0.out
          generalize ts.getD 0 ByteArray.empty = t at c0' HNm HR2
          have e5 : ((ts.length : Int) == 1) = true := by rw [h1]; rfl
          have z2 : (0 : Int) < (ts.length : Int) := by omega
          clear c0 h1 HR
          go_wp2_with (first
            | (go_at_call 12; refine (HF.out _).mono ?_; rintro z w' ⟨rfl, rfl⟩)
            | (go_at_call 43; refine (HG.out _ (HNs.out.below HA0.out)).mono ?_; rintro z w' ⟨rfl, rfl⟩)
            | (go_at_call 28; refine (HNm.out _).mono ?_; rintro z w4 ⟨rfl, rfl⟩))
          go_ret
          exact ⟨ret_bool HR2.out.symm, HA0.out⟩
        · have HR2 : Hid (may ⟨v, k, ns, ts⟩ = false) := by rw [HR.out, decide_eq_false h1]; rfl
          have e5 : ((ts.length : Int) == 1) = false := by simp; omega
          clear h1 HR
          go_wp2_with (first
            | (go_at_call 12; refine (HF.out _).mono ?_; rintro z w' ⟨rfl, rfl⟩)
            | (go_at_call 43; refine (HG.out _ (HNs.out.below HA0.out)).mono ?_; rintro z w' ⟨rfl, rfl⟩))
          go_ret
          exact ⟨ret_bool HR2.out.symm, HA0.out⟩

theorem same_len {a b : Ev} (h : ¬ a.ns.length = b.ns.length) : same a b = false := by
  unfold same; rw [decide_eq_false (show ¬ a.ns = b.ns from fun e => h (by rw [e]))]; simp
theorem same_lenT {a b : Ev} (h : ¬ a.ts.length = b.ts.length) : same a b = false := by
  unfold same; rw [decide_eq_false (show ¬ a.ts = b.ts from fun e => h (by rw [e]))]; simp
theorem same_noN {a b : Ev} {k : Nat} (h : ¬ a.ns.getD k 0 = b.ns.getD k 0) : same a b = false := by
  unfold same; rw [decide_eq_false (show ¬ a.ns = b.ns from fun e => h (by rw [e]))]; simp
theorem same_noS {a b : Ev} {k : Nat} (h : ¬ a.ts.getD k ByteArray.empty = b.ts.getD k ByteArray.empty) : same a b = false := by
  unfold same; rw [decide_eq_false (show ¬ a.ts = b.ts from fun e => h (by rw [e]))]; simp
theorem same_yes {a b : Ev} (h1 : a.v = b.v) (h2 : a.k = b.k) (h3 : a.ns = b.ns) (h4 : a.ts = b.ts) : same a b = true := by
  unfold same; rw [decide_eq_true h1, decide_eq_true h2, decide_eq_true h3, decide_eq_true h4]; rfl
theorem hid_step {p : Nat → Prop} {k : Nat} (h : Hid (∀ j, j < k → p j)) (hk : p k) : Hid (∀ j, j < k + 1 → p j) := fun j hj => by
  by_cases e : j = k
  · exact e ▸ hk
  · exact h j (by omega)

set_option maxRecDepth 100000 in
set_option maxHeartbeats 1000000 in
theorem rSame_any (A : Option Addr) (ca : Nat) (B : Option Addr) (cb : Nat) (e : Ev) (C : Option Addr) (cc : Nat) (D : Option Addr) (cd : Nat) (f : Ev) (hl : e.ns.length ≤ 1000000) (hl2 : e.ts.length ≤ 1000000) (w : World) (hA : EvAt w A ca B cb e) (hC : EvAt w C cc D cd f) :
    Calls Tryd.prog 30 #[evV A ca B cb e, evV C cc D cd f] w fun z w' => z = .returned (.bool (same e f)) ∧ Below w.heap.size w w' := by
  have q1 := Lib.hid hA.ns
  have q2 := Lib.hid hC.ns
  have q3 := Lib.hid hA.ts
  have q4 := Lib.hid hC.ts
  clear hA hC
  obtain ⟨v, k, ns, ts⟩ := e
  obtain ⟨v', k', ns', ts'⟩ := f
  simp only [evV] at *
  have HA0 := (Below.refl w.heap.size w).alloc (Nat.le_refl _) (.cells #[.int .u8 v, .int .u8 k, .slice A ns.length ca, .slice B ts.length cb] 44)
  have HB4 : Four _ w.heap.size _ _ _ _ := box4 w (.int .u8 v) (.int .u8 k) (.slice A ns.length ca) (.slice B ts.length cb) 44
  have HC0 := (Below.refl (w.alloc (.cells #[.int .u8 v, .int .u8 k, .slice A ns.length ca, .slice B ts.length cb] 44)).heap.size (w.alloc (.cells #[.int .u8 v, .int .u8 k, .slice A ns.length ca, .slice B ts.length cb] 44))).alloc (Nat.le_refl _) (.cells #[.int .u8 v', .int .u8 k', .slice C ns'.length cc, .slice D ts'.length cd] 44)
  have HC4 : Four _ (w.alloc (.cells #[.int .u8 v, .int .u8 k, .slice A ns.length ca, .slice B ts.length cb] 44)).heap.size _ _ _ _ := box4 (w.alloc (.cells #[.int .u8 v, .int .u8 k, .slice A ns.length ca, .slice B ts.length cb] 44)) (.int .u8 v') (.int .u8 k') (.slice C ns'.length cc) (.slice D ts'.length cd) 44
  have hs : (w.alloc (.cells #[.int .u8 v, .int .u8 k, .slice A ns.length ca, .slice B ts.length cb] 44)).heap.size = w.heap.size + 1 := by simp
  have HP4 := Lib.hid (HB4.below HC0)
  rw [hs] at HC4
  have HP5 := Lib.hid HC4
  have HB := Lib.hid (below_step HA0 HC0)
  clear HA0 HB4 HC0 HC4 hs
  go_enter Tryd.func30, Tryd.ntmps30
  go_upto_region 1 with (fail)
  generalize (w.alloc (.cells #[.int .u8 v, .int .u8 k, .slice A ns.length ca, .slice B ts.length cb] 44)).alloc (.cells #[.int .u8 v', .int .u8 k', .slice C ns'.length cc, .slice D ts'.length cd] 44) = W at HP4 HP5 HB ⊢
  by_cases h : v = v'
  case neg =>
    have e1 : ((v : Int) != (v' : Int)) = true := by simp <;> omega
    have e1' : (v != v') = true := by simp <;> omega
    have HR := Lib.hid (show same ⟨v, k, ns, ts⟩ ⟨v', k', ns', ts'⟩ = false from by unfold same; rw [decide_eq_false h]; simp)
    obtain ⟨p0, p1, p2, p3⟩ := HP4.out
    obtain ⟨r0, r1, r2, r3⟩ := HP5.out
    clear h
    go_wp2_with fail
    go_ret
    exact ⟨ret_bool HR.out.symm, HB.out⟩
  have e1 : ((v : Int) != (v' : Int)) = false := by rw [h]; simp
  have e1' : (v != v') = false := by rw [h]; simp
  have H1 := Lib.hid h
  clear h
  by_cases h : k = k'
  case neg =>
    have e2 : ((k : Int) != (k' : Int)) = true := by simp <;> omega
    have e2' : (k != k') = true := by simp <;> omega
    have HR := Lib.hid (show same ⟨v, k, ns, ts⟩ ⟨v', k', ns', ts'⟩ = false from by unfold same; rw [decide_eq_false h]; simp)
    obtain ⟨p0, p1, p2, p3⟩ := HP4.out
    obtain ⟨r0, r1, r2, r3⟩ := HP5.out
    clear h
    go_wp2_with fail
    go_ret
    exact ⟨ret_bool HR.out.symm, HB.out⟩
  have e2 : ((k : Int) != (k' : Int)) = false := by rw [h]; simp
  have e2' : (k != k') = false := by rw [h]; simp
  have H2 := Lib.hid h
  clear h
  by_cases h : ns.length = ns'.length
  case neg =>
    have e3 : ((ns.length : Int) != (ns'.length : Int)) = true := by simp <;> omega
    have e3' : (ns.length != ns'.length) = true := by simp <;> omega
    have HR := Lib.hid (show same ⟨v, k, ns, ts⟩ ⟨v', k', ns', ts'⟩ = false from same_len h)
    obtain ⟨p0, p1, p2, p3⟩ := HP4.out
    obtain ⟨r0, r1, r2, r3⟩ := HP5.out
    clear h
    go_wp2_with fail
    go_ret
    exact ⟨ret_bool HR.out.symm, HB.out⟩
  have e3 : ((ns.length : Int) != (ns'.length : Int)) = false := by rw [h]; simp
  have e3' : (ns.length != ns'.length) = false := by rw [h]; simp
  have H3 := Lib.hid h
  clear h
  by_cases h : ts.length = ts'.length
  case neg =>
    have e4 : ((ts.length : Int) != (ts'.length : Int)) = true := by simp <;> omega
    have e4' : (ts.length != ts'.length) = true := by simp <;> omega
    have HR := Lib.hid (show same ⟨v, k, ns, ts⟩ ⟨v', k', ns', ts'⟩ = false from same_lenT h)
    obtain ⟨p0, p1, p2, p3⟩ := HP4.out
    obtain ⟨r0, r1, r2, r3⟩ := HP5.out
    clear h
    go_wp2_with fail
    go_ret
    exact ⟨ret_bool HR.out.symm, HB.out⟩
  have e4 : ((ts.length : Int) != (ts'.length : Int)) = false := by rw [h]; simp
  have e4' : (ts.length != ts'.length) = false := by rw [h]; simp
  have H4 := Lib.hid h
  clear h
  obtain ⟨p0, p1, p2, p3⟩ := HP4.out
  obtain ⟨r0, r1, r2, r3⟩ := HP5.out
  go_wp2_with fail
  clear e1 e1' e2 e2' e3 e3' e4 e4' p0 p1 p2 p3 r0 r1 r2 r3
  go_loopw [5] (fun i wr => ∃ (j z : Nat), j ≤ ns.length ∧ i = .int .i64 j ∧ wr = W.drewN z ∧ Hid (∀ m, m < j → ns.getD m 0 = ns'.getD m 0)) (fun i _ => ns.length - (intOf i).toNat)
  case atStart => exact ⟨0, 0, Nat.zero_le _, rfl, rfl, fun m hm => absurd hm (by omega)⟩
  case round =>
    obtain ⟨j, z, hj, rfl, rfl, HY⟩ := hrel
    by_cases hlt : j < ns.length
    · have z0 : (0 : Int) ≤ (j : Int) := by omega
      have z1 : (j : Int) < (ns.length : Int) := by omega
      have z2 : (j : Int) < (ns'.length : Int) := by have := H3.out; omega
      obtain ⟨b, o, rfl, c0⟩ := (q1.out.below HB.out) j _ (nums_at ns j hlt)
      obtain ⟨b2, o2, rfl, c1⟩ := (q2.out.below HB.out) j _ (nums_at ns' j (by have := H3.out; omega))
      obtain ⟨p0, p1, p2, p3⟩ := HP4.out
      obtain ⟨r0, r1, r2, r3⟩ := HP5.out
      by_cases h : ns.getD j 0 = ns'.getD j 0
      · have HK := Lib.hid h
        rw [← h] at c1
        clear h
        generalize ns.getD j 0 = x at c0 c1
        go_wp2_with fail
        go_quiet (fail)
        go_wp2_with fail
        go_roundw
        case rel => exact ⟨j + 1, _, by omega, by go_num, rfl, hid_step HY HK.out⟩
        case measure => simp [intOf] <;> omega
      · have HR := Lib.hid (same_noN (a := ⟨v, k, ns, ts⟩) (b := ⟨v', k', ns', ts'⟩) h)
        generalize ns.getD j 0 = x at c0 h
        generalize ns'.getD j 0 = y at c1 h
        have e1 : (x != y) = true := by simpa using h
        clear h
        go_wp2_with fail
        go_quiet (fail)
        go_wp2_with fail
        go_ret
        exact ⟨ret_bool HR.out.symm, (HB.out.trans (below_dn _ _ _)).trans (below_dn _ _ _)⟩
    · have z1 : ¬ (j : Int) < (ns.length : Int) := by omega
      have HN := Lib.hid (eq_of_getD (0 : Int) H3.out (fun m hm => HY.out m (by omega)))
      obtain ⟨p0, p1, p2, p3⟩ := HP4.out
      obtain ⟨r0, r1, r2, r3⟩ := HP5.out
      go_wp2_with fail
      clear p0 p1 p2 p3 r0 r1 r2 r3 z1
      clear HY
      go_loopw [6] (fun i wr => ∃ (j z : Nat), j ≤ ts.length ∧ i = .int .i64 j ∧ wr = W.drewN z ∧ Hid (∀ m, m < j → ts.getD m ByteArray.empty = ts'.getD m ByteArray.empty)) (fun i _ => ts.length - (intOf i).toNat)
      case atStart => exact ⟨0, z, Nat.zero_le _, rfl, rfl, fun m hm => absurd hm (by omega)⟩
      case round =>
        obtain ⟨j, z, hj, rfl, rfl, HY⟩ := hrel
        by_cases hlt : j < ts.length
        · have z0 : (0 : Int) ≤ (j : Int) := by omega
          have z1 : (j : Int) < (ts.length : Int) := by omega
          have z2 : (j : Int) < (ts'.length : Int) := by have := H4.out; omega
          obtain ⟨b, o, rfl, c0⟩ := (q3.out.below HB.out) j _ (texts_at ts j hlt)
          obtain ⟨b2, o2, rfl, c1⟩ := (q4.out.below HB.out) j _ (texts_at ts' j (by have := H4.out; omega))
          obtain ⟨p0, p1, p2, p3⟩ := HP4.out
          obtain ⟨r0, r1, r2, r3⟩ := HP5.out
          by_cases h : ts.getD j ByteArray.empty = ts'.getD j ByteArray.empty
          · have HK := Lib.hid h
            rw [← h] at c1
            clear h
            generalize ts.getD j ByteArray.empty = x at c0 c1
            go_wp2_with fail
            go_quiet (fail)
            go_wp2_with fail
            go_roundw
            case rel => exact ⟨j + 1, _, by omega, by go_num, rfl, hid_step HY HK.out⟩
            case measure => simp [intOf] <;> omega
          · have HR := Lib.hid (same_noS (a := ⟨v, k, ns, ts⟩) (b := ⟨v', k', ns', ts'⟩) h)
            generalize ts.getD j ByteArray.empty = x at c0 h
            generalize ts'.getD j ByteArray.empty = y at c1 h
            have e1 : (x.toList == y.toList) = false := by rw [str_eq]; exact decide_eq_false h
            have e2 : (x.toList != y.toList) = true := by simp [bne, e1]
            clear h
            go_wp2_with fail
            go_quiet (fail)
            go_wp2_with fail
            go_ret
            exact ⟨ret_bool HR.out.symm, (HB.out.trans (below_dn _ _ _)).trans (below_dn _ _ _)⟩
        · have z1 : ¬ (j : Int) < (ts.length : Int) := by omega
          have HT := Lib.hid (eq_of_getD ByteArray.empty H4.out (fun m hm => HY.out m (by omega)))
          have HR := Lib.hid (same_yes (a := ⟨v, k, ns, ts⟩) (b := ⟨v', k', ns', ts'⟩) H1.out H2.out HN.out HT.out)
          obtain ⟨p0, p1, p2, p3⟩ := HP4.out
          obtain ⟨r0, r1, r2, r3⟩ := HP5.out
          go_wp2_with fail
          go_ret
          exact ⟨ret_bool HR.out.symm, HB.out.trans (below_dn _ _ _)⟩

end Go.Proofs.YtfklkainbkffnaaDoor.Schema
