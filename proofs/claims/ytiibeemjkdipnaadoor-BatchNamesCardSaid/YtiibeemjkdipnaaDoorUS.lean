import Derived.Test.YtiibeemjkdipnaaDoorUK
/-
  The walks of slices.Equal, at numbers and at texts, and of Same.
-/
namespace Go.Proofs.YtiibeemjkdipnaaDoor.Schema
open Go Go.RowKit


set_option maxRecDepth 100000 in
set_option maxHeartbeats 400000 in
theorem equal_nums (A B : Option Addr) (ca cb : Nat) (xs ys : List Int) (hl : xs.length ≤ 140737488355328) (hm : ys.length ≤ 140737488355328) (w : World) (hA : VAt w A (nums xs)) (hB : VAt w B (nums ys)) :
    Calls Tryd.prog 47 #[.slice A xs.length ca, .slice B ys.length cb] w fun e w' => e = .returned (.bool (decide (xs = ys))) ∧ Below w.heap.size w w' := by
  have HA := Lib.hid hA
  have HB := Lib.hid hB
  clear hA hB
  by_cases hn : xs.length = ys.length
  · have e1 : ((xs.length : Int) != (ys.length : Int)) = false := by rw [hn]; simp
    have e2 : (xs.length != ys.length) = false := by rw [hn]; simp
    have HN := Lib.hid hn
    have hn1 : xs.length ≤ ys.length := by omega
    have hn2 : ys.length ≤ xs.length := by omega
    clear hn
    go_enter Tryd.func47, Tryd.ntmps47
    go_wp2
    go_loopw [13] (fun i wr => ∃ k z : Nat, k ≤ xs.length ∧ i = .int .i64 k ∧ Hid (∀ j, j < k → xs.getD j 0 = ys.getD j 0) ∧ wr = w.drewN z) (fun i _ => xs.length - (intOf i).toNat)
    case atStart => exact ⟨0, 0, Nat.zero_le _, rfl, fun j hj => absurd hj (by omega), rfl⟩
    case round =>
      obtain ⟨k, z, hk, rfl, HY, rfl⟩ := hrel
      by_cases hp : k < xs.length
      · obtain ⟨b, o, rfl, c0⟩ := HA.out k _ (nums_at xs k hp)
        obtain ⟨b', o', rfl, c1⟩ := HB.out k _ (nums_at ys k (by omega))
        have HQ := Lib.hid (all_step (p := fun j => xs.getD j 0 = ys.getD j 0) HY)
        have HR := Lib.hid (ne_of_getD 0 (xs := xs) (ys := ys) k)
        generalize xs.getD k 0 = x at c0 HQ HR
        generalize ys.getD k 0 = y at c1 HQ HR
        have z0 : (0 : Int) ≤ (k : Int) := by omega
        have z1 : (k : Int) < (xs.length : Int) := by omega
        have z2 : (k : Int) < (ys.length : Int) := by omega
        clear HY
        by_cases hq : x = y
        · have HQ2 := Lib.hid (HQ.out hq)
          have e3 : (x != y) = false := by rw [hq]; simp
          clear hq HQ HR
          go_wp2_with fail
          go_quiet (fail)
          go_wp2_with fail
          go_roundw
          case rel => exact ⟨k + 1, _, by omega, by go_num, HQ2.out, rfl⟩
          case measure => simp [intOf] <;> omega
        · have HR2 := Lib.hid (decide_eq_false (HR.out hq))
          have e3 : (x != y) = true := by simpa using hq
          clear hq HQ HR
          go_wp2_with fail
          go_quiet (fail)
          go_wp2_with fail
          go_ret
          exact ⟨by rw [HR2.out]; rfl, (below_dn _ w _).trans (below_dn _ _ _)⟩
      · have HR := Lib.hid (decide_eq_true (eq_of_getD 0 HN.out (fun j hj => HY.out j (by omega))))
        go_wp2
        go_ret
        exact ⟨by rw [HR.out]; rfl, below_dn _ _ _⟩
  · have e1 : ((xs.length : Int) != (ys.length : Int)) = true := by simp; omega
    have e2 : (xs.length != ys.length) = true := by simpa using hn
    have HR := Lib.hid (decide_eq_false (show ¬ xs = ys from fun e => hn (by rw [e])))
    clear hn
    go_enter Tryd.func47, Tryd.ntmps47
    go_wp2
    go_ret
    exact ⟨by rw [HR.out]; rfl, Below.refl _ _⟩

set_option maxRecDepth 100000 in
set_option maxHeartbeats 400000 in
theorem equal_texts (A B : Option Addr) (ca cb : Nat) (xs ys : List ByteArray) (hl : xs.length ≤ 140737488355328) (hm : ys.length ≤ 140737488355328) (w : World) (hA : VAt w A (texts xs)) (hB : VAt w B (texts ys)) :
    Calls Tryd.prog 48 #[.slice A xs.length ca, .slice B ys.length cb] w fun e w' => e = .returned (.bool (decide (xs = ys))) ∧ Below w.heap.size w w' := by
  have HA := Lib.hid hA
  have HB := Lib.hid hB
  clear hA hB
  by_cases hn : xs.length = ys.length
  · have e1 : ((xs.length : Int) != (ys.length : Int)) = false := by rw [hn]; simp
    have e2 : (xs.length != ys.length) = false := by rw [hn]; simp
    have HN := Lib.hid hn
    have hn1 : xs.length ≤ ys.length := by omega
    have hn2 : ys.length ≤ xs.length := by omega
    clear hn
    go_enter Tryd.func48, Tryd.ntmps48
    go_wp2
    go_loopw [13] (fun i wr => ∃ k z : Nat, k ≤ xs.length ∧ i = .int .i64 k ∧ Hid (∀ j, j < k → xs.getD j ByteArray.empty = ys.getD j ByteArray.empty) ∧ wr = w.drewN z) (fun i _ => xs.length - (intOf i).toNat)
    case atStart => exact ⟨0, 0, Nat.zero_le _, rfl, fun j hj => absurd hj (by omega), rfl⟩
    case round =>
      obtain ⟨k, z, hk, rfl, HY, rfl⟩ := hrel
      by_cases hp : k < xs.length
      · obtain ⟨b, o, rfl, c0⟩ := HA.out k _ (texts_at xs k hp)
        obtain ⟨b', o', rfl, c1⟩ := HB.out k _ (texts_at ys k (by omega))
        have HQ := Lib.hid (all_step (p := fun j => xs.getD j ByteArray.empty = ys.getD j ByteArray.empty) HY)
        have HR := Lib.hid (ne_of_getD ByteArray.empty (xs := xs) (ys := ys) k)
        generalize xs.getD k ByteArray.empty = x at c0 HQ HR
        generalize ys.getD k ByteArray.empty = y at c1 HQ HR
        have z0 : (0 : Int) ≤ (k : Int) := by omega
        have z1 : (k : Int) < (xs.length : Int) := by omega
        have z2 : (k : Int) < (ys.length : Int) := by omega
        clear HY
        by_cases hq : x = y
        · have HQ2 := Lib.hid (HQ.out hq)
          have e3 : (x.toList != y.toList) = false := by rw [hq]; simp
          have e4 : (x.toList == y.toList) = true := by rw [hq]; simp
          clear hq HQ HR
          go_wp2_with fail
          go_quiet (fail)
          go_wp2_with fail
          go_roundw
          case rel => exact ⟨k + 1, _, by omega, by go_num, HQ2.out, rfl⟩
          case measure => simp [intOf] <;> omega
        · have HR2 := Lib.hid (decide_eq_false (HR.out hq))
          have e4 : (x.toList == y.toList) = false := by rw [str_eq]; exact decide_eq_false hq
          have e3 : (x.toList != y.toList) = true := by unfold bne; rw [e4]; rfl
          clear hq HQ HR
          go_wp2_with fail
          go_quiet (fail)
          go_wp2_with fail
          go_ret
          exact ⟨by rw [HR2.out]; rfl, (below_dn _ w _).trans (below_dn _ _ _)⟩
      · have HR := Lib.hid (decide_eq_true (eq_of_getD ByteArray.empty HN.out (fun j hj => HY.out j (by omega))))
        go_wp2
        go_ret
        exact ⟨by rw [HR.out]; rfl, below_dn _ _ _⟩
  · have e1 : ((xs.length : Int) != (ys.length : Int)) = true := by simp; omega
    have e2 : (xs.length != ys.length) = true := by simpa using hn
    have HR := Lib.hid (decide_eq_false (show ¬ xs = ys from fun e => hn (by rw [e])))
    clear hn
    go_enter Tryd.func48, Tryd.ntmps48
    go_wp2
    go_ret
    exact ⟨by rw [HR.out]; rfl, Below.refl _ _⟩



set_option maxRecDepth 100000 in
set_option maxHeartbeats 1000000 in
theorem same_big (A : Option Addr) (ca : Nat) (B : Option Addr) (cb : Nat) (e : Ev) (C : Option Addr) (cc : Nat) (D : Option Addr) (cd : Nat) (f : Ev) (hl : e.ns.length ≤ 140737488355328) (hm : f.ns.length ≤ 140737488355328) (hl2 : e.ts.length ≤ 140737488355328) (hm2 : f.ts.length ≤ 140737488355328) (w : World) (hA : EvAt w A ca B cb e) (hC : EvAt w C cc D cd f) :
    Calls Tryd.prog 27 #[evV A ca B cb e, evV C cc D cd f] w fun z w' => z = .returned (.bool (same e f)) ∧ Below w.heap.size w w' := by
  have HN := Lib.hid (fun W (h1 : VAt W A (nums e.ns)) (h2 : VAt W C (nums f.ns)) => equal_nums A C ca cc e.ns f.ns hl hm W h1 h2)
  have HT := Lib.hid (fun W (h1 : VAt W B (texts e.ts)) (h2 : VAt W D (texts f.ts)) => equal_texts B D cb cd e.ts f.ts hl2 hm2 W h1 h2)
  have HM := Lib.hid (show same e f = (decide (e.v = f.v) && decide (e.k = f.k) && decide (e.ns = f.ns) && decide (e.ts = f.ts)) from rfl)
  have q1 := Lib.hid hA.ns
  have q2 := Lib.hid hC.ns
  have q3 := Lib.hid hA.ts
  have q4 := Lib.hid hC.ts
  clear hA hC hl hm hl2 hm2
  obtain ⟨v, k, ns, ts⟩ := e
  obtain ⟨v', k', ns', ts'⟩ := f
  simp only [evV] at *
  have HA0 := (Below.refl w.heap.size w).alloc (Nat.le_refl _) (.cells #[.int .u8 v, .int .u8 k, .slice A ns.length ca, .slice B ts.length cb] 27)
  have HB4 := box4 w (.int .u8 v) (.int .u8 k) (.slice A ns.length ca) (.slice B ts.length cb) 27
  have HC0 := (Below.refl (w.alloc (.cells #[.int .u8 v, .int .u8 k, .slice A ns.length ca, .slice B ts.length cb] 27)).heap.size (w.alloc (.cells #[.int .u8 v, .int .u8 k, .slice A ns.length ca, .slice B ts.length cb] 27))).alloc (Nat.le_refl _) (.cells #[.int .u8 v', .int .u8 k', .slice C ns'.length cc, .slice D ts'.length cd] 27)
  have HC4 := box4 (w.alloc (.cells #[.int .u8 v, .int .u8 k, .slice A ns.length ca, .slice B ts.length cb] 27)) (.int .u8 v') (.int .u8 k') (.slice C ns'.length cc) (.slice D ts'.length cd) 27
  have hs : (w.alloc (.cells #[.int .u8 v, .int .u8 k, .slice A ns.length ca, .slice B ts.length cb] 27)).heap.size = w.heap.size + 1 := by simp
  rw [hs] at HC4
  have HBW := Lib.hid (below_step HA0 HC0)
  have HX3 := Lib.hid (cell_kept HB4.2.2.2 HC0)
  have HY3 := Lib.hid HC4.2.2.2
  clear HA0 HB4 HC0 HC4 hs
  by_cases h1 : v = v'
  · have e1 : ((v : Int) == (v' : Int)) = true := by rw [h1]; simp
    by_cases h2 : k = k'
    · have e2 : ((k : Int) == (k' : Int)) = true := by rw [h2]; simp
      have HR : Hid (same ⟨v, k, ns, ts⟩ ⟨v', k', ns', ts'⟩ = (decide (ns = ns') && decide (ts = ts'))) := by rw [HM.out, decide_eq_true h1, decide_eq_true h2]; simp [Hid]
      clear h1 h2 HM
      cases h3 : decide (ns = ns') with
      | true =>
        have H3 := Lib.hid h3
        have HR2 : Hid (same ⟨v, k, ns, ts⟩ ⟨v', k', ns', ts'⟩ = decide (ts = ts')) := by rw [HR.out, h3]; simp [Hid]
        clear h3 HR
        go_enter Tryd.func27, Tryd.ntmps27
        go_wp2_with (first
          | (go_at_call 47; refine (HN.out _ (q1.out.below HBW.out) (q2.out.below HBW.out)).mono ?_; rintro z w3 ⟨rfl, hb⟩; rw [H3.out]; have HB := Lib.hid (below_step HBW.out hb); have x3 := cell_kept HX3.out hb; have y3 := cell_kept HY3.out hb; clear hb)
          | (go_at_call 48; refine (HT.out _ (q3.out.below HB.out) (q4.out.below HB.out)).mono ?_; rintro z w4 ⟨rfl, hb⟩; have HB2 := Lib.hid (below_step HB.out hb); clear hb))
        go_ret
        exact ⟨ret_bool (by rw [HR2.out]), HB2.out⟩
      | false =>
        have H3 := Lib.hid h3
        have HR2 : Hid (same ⟨v, k, ns, ts⟩ ⟨v', k', ns', ts'⟩ = false) := by rw [HR.out, h3]; simp [Hid]
        clear h3 HR
        go_enter Tryd.func27, Tryd.ntmps27
        go_wp2_with (go_at_call 47; refine (HN.out _ (q1.out.below HBW.out) (q2.out.below HBW.out)).mono ?_; rintro z w3 ⟨rfl, hb⟩; rw [H3.out]; have HB := Lib.hid (below_step HBW.out hb); clear hb)
        go_ret
        exact ⟨ret_bool (by rw [HR2.out]), HB.out⟩
    · have e2 : ((k : Int) == (k' : Int)) = false := by simp; omega
      have HR2 : Hid (same ⟨v, k, ns, ts⟩ ⟨v', k', ns', ts'⟩ = false) := by rw [HM.out, decide_eq_false h2]; simp [Hid]
      clear h1 h2 HM
      go_enter Tryd.func27, Tryd.ntmps27
      go_wp2
      go_ret
      exact ⟨ret_bool (by rw [HR2.out]), HBW.out⟩
  · have e1 : ((v : Int) == (v' : Int)) = false := by simp; omega
    have HR2 : Hid (same ⟨v, k, ns, ts⟩ ⟨v', k', ns', ts'⟩ = false) := by rw [HM.out, decide_eq_false h1]; simp [Hid]
    clear h1 HM
    go_enter Tryd.func27, Tryd.ntmps27
    go_wp2
    go_ret
    exact ⟨ret_bool (by rw [HR2.out]), HBW.out⟩

theorem same_any (A : Option Addr) (ca : Nat) (B : Option Addr) (cb : Nat) (e : Ev) (C : Option Addr) (cc : Nat) (D : Option Addr) (cd : Nat) (f : Ev) (hl : e.ns.length ≤ 1000000) (hm : f.ns.length ≤ 1000000) (hl2 : e.ts.length ≤ 1000000) (hm2 : f.ts.length ≤ 1000000) (w : World) (hA : EvAt w A ca B cb e) (hC : EvAt w C cc D cd f) :
    Calls Tryd.prog 27 #[evV A ca B cb e, evV C cc D cd f] w fun z w' => z = .returned (.bool (same e f)) ∧ Below w.heap.size w w' := same_big A ca B cb e C cc D cd f (by omega) (by omega) (by omega) (by omega) w hA hC
end Go.Proofs.YtiibeemjkdipnaaDoor.Schema
