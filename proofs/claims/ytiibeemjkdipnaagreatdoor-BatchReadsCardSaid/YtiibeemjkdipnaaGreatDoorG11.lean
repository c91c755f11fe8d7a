import Derived.Test.YtiibeemjkdipnaaGreatDoorG9
import Derived.Test.YtiibeemjkdipnaaGreatDoorB18
import Derived.Test.YtiibeemjkdipnaaGreatDoorEF
/-
  The walk of Decode.
-/
namespace Go.Proofs.YtiibeemjkdipnaaGreatDoor.Codec
open Go Go.RowKit
open Go.Proofs.YtiibeemjkdipnaaGreatDoor.Wire (Wr Only Rd Step U cell_row rdS fxV shR txR tkI tkE tkT ru8_any err_any end_any endE new_any)
open Go.Proofs.YtiibeemjkdipnaaGreatDoor.Schema


/-- what Decode tells -/
def ver (s : ByteArray) : Nat := fxV s 0 0 1
def decW (s : ByteArray) : Nat := if tkE s 0 0 1 = 0 then (if getW s (tkI s 0 0 1) 0 (ver s) = 0 then endE s (getI s (tkI s 0 0 1) 0 (ver s)) (getF s (tkI s 0 0 1) 0 (ver s)) else getW s (tkI s 0 0 1) 0 (ver s)) else tkE s 0 0 1
def decE (s : ByteArray) : Ev := if decW s = 0 then getE s (tkI s 0 0 1) 0 (ver s) else noEv
def DecRes (s : ByteArray) (w : World) (z : Ending) (w' : World) : Prop := ∃ A ca C cc, z = .returned (.tuple #[evV A ca C cc (decE s), .int .i64 (decW s : Int)]) ∧ OwnE w' w.heap.size 2 (.slice A (decE s).ns.length ca) (nums (decE s).ns) ∧ OwnE w' w.heap.size 9 (.slice C (decE s).ts.length cc) (texts (decE s).ts) ∧ Below w.heap.size w w'
theorem stepR_le (v : Nat) (s : ByteArray) (st : RS) (c : Nat) (h : st.i ≤ s.size) : (stepR v s st c).i ≤ s.size := by
  by_cases hw : st.w = 0
  · rw [stepR_go hw]; exact Wire.shR_le _ _ _ _ h
  · rw [stepR_skip hw]; exact h
theorem foldR_le (v : Nat) (s l : ByteArray) (st : RS) (h : st.i ≤ s.size) : ∀ k, (foldR v s l k st).i ≤ s.size := by
  intro k
  induction k with
  | zero => exact h
  | succ k ih => rw [foldR_succ]; exact stepR_le _ _ _ _ ih
theorem rs1_le (s : ByteArray) (i e v : Nat) (h : i ≤ s.size) : (rs1 s i e v).i ≤ s.size := foldR_le _ _ _ _ (Wire.tkI_le s i e 1 h) _
theorem getI_le (s : ByteArray) (i e v : Nat) (h : i ≤ s.size) : getI s i e v ≤ s.size := by
  have h1 := rs1_le s i e v h
  unfold getI
  split
  · unfold rs2
    split
    · split
      · exact Wire.txR_le _ _ _ _ h1
      · exact h1
    · exact h1
  · exact h

end Go.Proofs.YtiibeemjkdipnaaGreatDoor.Codec

/-
  sameEvent, weight; the examples' own calls.
-/
namespace Go.Proofs.YtiibeemjkdipnaaGreatDoor.Schema
open Go Go.RowKit

set_option maxRecDepth 100000 in
set_option maxHeartbeats 1000000 in
theorem sameE_big (A : Option Addr) (ca : Nat) (B : Option Addr) (cb : Nat) (e : Ev) (C : Option Addr) (cc : Nat) (D : Option Addr) (cd : Nat) (f : Ev) (hl : e.ns.length ≤ 140737488355328) (hl2 : e.ts.length ≤ 140737488355328) (w : World) (hA : EvAt w A ca B cb e) (hC : EvAt w C cc D cd f) :
    Calls Tryz.prog 36 #[evV A ca B cb e, evV C cc D cd f] w fun z w' => z = .returned (.bool (same e f)) ∧ Below w.heap.size w w' := by
  have q1 := Lib.hid hA.ns
  have q2 := Lib.hid hC.ns
  have q3 := Lib.hid hA.ts
  have q4 := Lib.hid hC.ts
  clear hA hC
  obtain ⟨v, k, ns, ts⟩ := e
  obtain ⟨v', k', ns', ts'⟩ := f
  simp only [evV] at *
  have HA0 := (Below.refl w.heap.size w).alloc (Nat.le_refl _) (.cells #[.int .u8 v, .int .u8 k, .slice A ns.length ca, .slice B ts.length cb] 39)
  have HB4 : Four _ w.heap.size _ _ _ _ := box4 w (.int .u8 v) (.int .u8 k) (.slice A ns.length ca) (.slice B ts.length cb) 39
  have HC0 := (Below.refl (w.alloc (.cells #[.int .u8 v, .int .u8 k, .slice A ns.length ca, .slice B ts.length cb] 39)).heap.size (w.alloc (.cells #[.int .u8 v, .int .u8 k, .slice A ns.length ca, .slice B ts.length cb] 39))).alloc (Nat.le_refl _) (.cells #[.int .u8 v', .int .u8 k', .slice C ns'.length cc, .slice D ts'.length cd] 39)
  have HC4 : Four _ (w.alloc (.cells #[.int .u8 v, .int .u8 k, .slice A ns.length ca, .slice B ts.length cb] 39)).heap.size _ _ _ _ := box4 (w.alloc (.cells #[.int .u8 v, .int .u8 k, .slice A ns.length ca, .slice B ts.length cb] 39)) (.int .u8 v') (.int .u8 k') (.slice C ns'.length cc) (.slice D ts'.length cd) 39
  have hs : (w.alloc (.cells #[.int .u8 v, .int .u8 k, .slice A ns.length ca, .slice B ts.length cb] 39)).heap.size = w.heap.size + 1 := by simp
  have HP4 := Lib.hid (HB4.below HC0)
  rw [hs] at HC4
  have HP5 := Lib.hid HC4
  have HB := Lib.hid (below_step HA0 HC0)
  clear HA0 HB4 HC0 HC4 hs
  go_enter Tryz.func36, Tryz.ntmps36
  go_upto_region 1 with (fail)
  generalize (w.alloc (.cells #[.int .u8 v, .int .u8 k, .slice A ns.length ca, .slice B ts.length cb] 39)).alloc (.cells #[.int .u8 v', .int .u8 k', .slice C ns'.length cc, .slice D ts'.length cd] 39) = W at HP4 HP5 HB ⊢
  by_cases h : v = v'
  case neg =>
    have e1 : ((v : Int) != (v' : Int)) = true := by simp <;> omega
    have e1' : (v != v') = true := by simp <;> omega
    have HR := Lib.hid (show same ⟨v, k, ns, ts⟩ ⟨v', k', ns', ts'⟩ = false from by unfold same; rw [decide_eq_false h]; simp)
    obtain ⟨p0, p1, p2, p3⟩ := HP4.out
    obtain ⟨r0, r1, r2, r3⟩ := HP5.out
    clear h
    go_wp2_with fail
    go_ret
    exact ⟨ret_bool HR.out.symm, HB.out⟩
  have e1 : ((v : Int) != (v' : Int)) = false := by rw [h]; simp
  have e1' : (v != v') = false := by rw [h]; simp
  have H1 := Lib.hid h
  clear h
  by_cases h : k = k'
  case neg =>
    have e2 : ((k : Int) != (k' : Int)) = true := by simp <;> omega
    have e2' : (k != k') = true := by simp <;> omega
    have HR := Lib.hid (show same ⟨v, k, ns, ts⟩ ⟨v', k', ns', ts'⟩ = false from by unfold same; rw [decide_eq_false h]; simp)
    obtain ⟨p0, p1, p2, p3⟩ := HP4.out
    obtain ⟨r0, r1, r2, r3⟩ := HP5.out
    clear h
    go_wp2_with fail
    go_ret
    exact ⟨ret_bool HR.out.symm, HB.out⟩
  have e2 : ((k : Int) != (k' : Int)) = false := by rw [h]; simp
  have e2' : (k != k') = false := by rw [h]; simp
  have H2 := Lib.hid h
  clear h
  by_cases h : ns.length = ns'.length
  case neg =>
    have e3 : ((ns.length : Int) != (ns'.length : Int)) = true := by simp <;> omega
    have e3' : (ns.length != ns'.length) = true := by simp <;> omega
    have HR := Lib.hid (show same ⟨v, k, ns, ts⟩ ⟨v', k', ns', ts'⟩ = false from same_len h)
    obtain ⟨p0, p1, p2, p3⟩ := HP4.out
    obtain ⟨r0, r1, r2, r3⟩ := HP5.out
    clear h
    go_wp2_with fail
    go_ret
    exact ⟨ret_bool HR.out.symm, HB.out⟩
  have e3 : ((ns.length : Int) != (ns'.length : Int)) = false := by rw [h]; simp
  have e3' : (ns.length != ns'.length) = false := by rw [h]; simp
  have H3 := Lib.hid h
  clear h
  by_cases h : ts.length = ts'.length
  case neg =>
    have e4 : ((ts.length : Int) != (ts'.length : Int)) = true := by simp <;> omega
    have e4' : (ts.length != ts'.length) = true := by simp <;> omega
    have HR := Lib.hid (show same ⟨v, k, ns, ts⟩ ⟨v', k', ns', ts'⟩ = false from same_lenT h)
    obtain ⟨p0, p1, p2, p3⟩ := HP4.out
    obtain ⟨r0, r1, r2, r3⟩ := HP5.out
    clear h
    go_wp2_with fail
    go_ret
    exact ⟨ret_bool HR.out.symm, HB.out⟩
  have e4 : ((ts.length : Int) != (ts'.length : Int)) = false := by rw [h]; simp
  have e4' : (ts.length != ts'.length) = false := by rw [h]; simp
  have H4 := Lib.hid h
  clear h
  obtain ⟨p0, p1, p2, p3⟩ := HP4.out
  obtain ⟨r0, r1, r2, r3⟩ := HP5.out
  go_wp2_with fail
  clear e1 e1' e2 e2' e3 e3' e4 e4' p0 p1 p2 p3 r0 r1 r2 r3
  go_loopw [5] (fun i wr => ∃ (j z : Nat), j ≤ ns.length ∧ i = .int .i64 j ∧ wr = W.drewN z ∧ Hid (∀ m, m < j → ns.getD m 0 = ns'.getD m 0)) (fun i _ => ns.length - (intOf i).toNat)
  case atStart => exact ⟨0, 0, Nat.zero_le _, rfl, rfl, fun m hm => absurd hm (by omega)⟩
  case round =>
    obtain ⟨j, z, hj, rfl, rfl, HY⟩ := hrel
    by_cases hlt : j < ns.length
    · have z0 : (0 : Int) ≤ (j : Int) := by omega
      have z1 : (j : Int) < (ns.length : Int) := by omega
      have z2 : (j : Int) < (ns'.length : Int) := by have := H3.out; omega
      obtain ⟨b, o, rfl, c0⟩ := (q1.out.below HB.out) j _ (nums_at ns j hlt)
      obtain ⟨b2, o2, rfl, c1⟩ := (q2.out.below HB.out) j _ (nums_at ns' j (by have := H3.out; omega))
      obtain ⟨p0, p1, p2, p3⟩ := HP4.out
      obtain ⟨r0, r1, r2, r3⟩ := HP5.out
      by_cases h : ns.getD j 0 = ns'.getD j 0
      · have HK := Lib.hid h
        rw [← h] at c1
        clear h
        generalize ns.getD j 0 = x at c0 c1
        go_wp2_with fail
        go_quiet (fail)
        go_wp2_with fail
        go_roundw
        case rel => exact ⟨j + 1, _, by omega, by go_num, rfl, hid_step HY HK.out⟩
        case measure => simp [intOf] <;> omega
      · have HR := Lib.hid (same_noN (a := ⟨v, k, ns, ts⟩) (b := ⟨v', k', ns', ts'⟩) h)
        generalize ns.getD j 0 = x at c0 h
        generalize ns'.getD j 0 = y at c1 h
        have e1 : (x != y) = true := by simpa using h
        clear h
        go_wp2_with fail
        go_quiet (fail)
        go_wp2_with fail
        go_ret
        exact ⟨ret_bool HR.out.symm, (HB.out.trans (below_dn _ _ _)).trans (below_dn _ _ _)⟩
    · have z1 : ¬ (j : Int) < (ns.length : Int) := by omega
      have HN := Lib.hid (eq_of_getD (0 : Int) H3.out (fun m hm => HY.out m (by omega)))
      obtain ⟨p0, p1, p2, p3⟩ := HP4.out
      obtain ⟨r0, r1, r2, r3⟩ := HP5.out
      go_wp2_with fail
      clear p0 p1 p2 p3 r0 r1 r2 r3 z1
      clear HY
      go_loopw [6] (fun i wr => ∃ (j z : Nat), j ≤ ts.length ∧ i = .int .i64 j ∧ wr = W.drewN z ∧ Hid (∀ m, m < j → ts.getD m ByteArray.empty = ts'.getD m ByteArray.empty)) (fun i _ => ts.length - (intOf i).toNat)
      case atStart => exact ⟨0, z, Nat.zero_le _, rfl, rfl, fun m hm => absurd hm (by omega)⟩
      case round =>
        obtain ⟨j, z, hj, rfl, rfl, HY⟩ := hrel
        by_cases hlt : j < ts.length
        · have z0 : (0 : Int) ≤ (j : Int) := by omega
          have z1 : (j : Int) < (ts.length : Int) := by omega
          have z2 : (j : Int) < (ts'.length : Int) := by have := H4.out; omega
          obtain ⟨b, o, rfl, c0⟩ := (q3.out.below HB.out) j _ (texts_at ts j hlt)
          obtain ⟨b2, o2, rfl, c1⟩ := (q4.out.below HB.out) j _ (texts_at ts' j (by have := H4.out; omega))
          obtain ⟨p0, p1, p2, p3⟩ := HP4.out
          obtain ⟨r0, r1, r2, r3⟩ := HP5.out
          by_cases h : ts.getD j ByteArray.empty = ts'.getD j ByteArray.empty
          · have HK := Lib.hid h
            rw [← h] at c1
            clear h
            generalize ts.getD j ByteArray.empty = x at c0 c1
            go_wp2_with fail
            go_quiet (fail)
            go_wp2_with fail
            go_roundw
            case rel => exact ⟨j + 1, _, by omega, by go_num, rfl, hid_step HY HK.out⟩
            case measure => simp [intOf] <;> omega
          · have HR := Lib.hid (same_noS (a := ⟨v, k, ns, ts⟩) (b := ⟨v', k', ns', ts'⟩) h)
            generalize ts.getD j ByteArray.empty = x at c0 h
            generalize ts'.getD j ByteArray.empty = y at c1 h
            have e1 : (x.toList == y.toList) = false := by rw [str_eq]; exact decide_eq_false h
            have e2 : (x.toList != y.toList) = true := by simp [bne, e1]
            clear h
            go_wp2_with fail
            go_quiet (fail)
            go_wp2_with fail
            go_ret
            exact ⟨ret_bool HR.out.symm, (HB.out.trans (below_dn _ _ _)).trans (below_dn _ _ _)⟩
        · have z1 : ¬ (j : Int) < (ts.length : Int) := by omega
          have HT := Lib.hid (eq_of_getD ByteArray.empty H4.out (fun m hm => HY.out m (by omega)))
          have HR := Lib.hid (same_yes (a := ⟨v, k, ns, ts⟩) (b := ⟨v', k', ns', ts'⟩) H1.out H2.out HN.out HT.out)
          obtain ⟨p0, p1, p2, p3⟩ := HP4.out
          obtain ⟨r0, r1, r2, r3⟩ := HP5.out
          go_wp2_with fail
          go_ret
          exact ⟨ret_bool HR.out.symm, HB.out.trans (below_dn _ _ _)⟩

theorem sameE_any (A : Option Addr) (ca : Nat) (B : Option Addr) (cb : Nat) (e : Ev) (C : Option Addr) (cc : Nat) (D : Option Addr) (cd : Nat) (f : Ev) (hl : e.ns.length ≤ 1000000) (hl2 : e.ts.length ≤ 1000000) (w : World) (hA : EvAt w A ca B cb e) (hC : EvAt w C cc D cd f) :
    Calls Tryz.prog 36 #[evV A ca B cb e, evV C cc D cd f] w fun z w' => z = .returned (.bool (same e f)) ∧ Below w.heap.size w w' := sameE_big A ca B cb e C cc D cd f (by omega) (by omega) w hA hC
end Go.Proofs.YtiibeemjkdipnaaGreatDoor.Schema
namespace Go.Proofs.YtiibeemjkdipnaaGreatDoor.Codec
open Go Go.RowKit
open Go.Proofs.YtiibeemjkdipnaaGreatDoor.Wire (Wr Only Rd Step U cell_row rdS fxV shR txR tkI tkE tkT)
open Go.Proofs.YtiibeemjkdipnaaGreatDoor.Schema

/-- what weight says: below 2000 all of it is short -/
def WeightRes (w : World) (e : Ev) (z : Ending) (w' : World) : Prop := ∃ n : Nat, z = .returned (.int .i64 (n : Int)) ∧ (1 ≤ n ∧ n ≤ 2000) ∧ (n < 2000 → e.ns.length < 2000 ∧ e.ts.length < 2000) ∧ Below w.heap.size w w'

set_option maxRecDepth 100000 in
set_option maxHeartbeats 1000000 in
theorem weight_any (A : Option Addr) (ca : Nat) (B : Option Addr) (cb : Nat) (e : Ev) (hl : e.ns.length ≤ 140737488355328) (hm : e.ts.length ≤ 140737488355328) (w : World) (hA : EvAt w A ca B cb e) :
    Calls Tryz.prog 21 #[evV A ca B cb e] w (WeightRes w e) := by
  have HTs := Lib.hid hA.ts
  have HTx := Lib.hid hA.txt
  clear hA
  obtain ⟨v, k, ns, ts⟩ := e
  simp only [evV] at *
  have hb := (Below.refl w.heap.size w).alloc (Nat.le_refl _) (.cells #[.int .u8 v, .int .u8 k, .slice A ns.length ca, .slice B ts.length cb] 39)
  have HB := Lib.hid hb
  have HP4 := Lib.hid (show Four _ w.heap.size _ _ _ _ from box4 w (.int .u8 v) (.int .u8 k) (.slice A ns.length ca) (.slice B ts.length cb) 39)
  clear hb
  have hmin1 : min (2000 : Int) (ns.length : Int) = ((min 2000 ns.length : Nat) : Int) := by omega
  have hmin2 : min (2000 : Int) (ts.length : Int) = ((min 2000 ts.length : Nat) : Int) := by omega
  obtain ⟨m1, hm1⟩ : ∃ m, min 2000 ns.length = m := ⟨_, rfl⟩
  obtain ⟨m2, hm2⟩ : ∃ m, min 2000 ts.length = m := ⟨_, rfl⟩
  rw [hm1] at hmin1
  rw [hm2] at hmin2
  have hq1 : m1 ≤ 2000 := by omega
  have hq2 : m2 ≤ 2000 := by omega
  have HM1 := Lib.hid (show m1 < 2000 → ns.length < 2000 from by omega)
  have HM2 := Lib.hid (show m2 < 2000 → ts.length < 2000 from by omega)
  clear hm1 hm2
  go_enter Tryz.func21, Tryz.ntmps21
  go_upto_region 1 with (fail)
  generalize w.alloc (.cells #[.int .u8 v, .int .u8 k, .slice A ns.length ca, .slice B ts.length cb] 39) = W at HB HP4 ⊢
  obtain ⟨p0, p1, p2, p3⟩ := HP4.out
  go_wp2_with fail
  clear hmin1 hmin2 p0 p1 p2 p3
  go_loop [3, 4] (fun x i => ∃ j n : Nat, j ≤ ts.length ∧ i = .int .i64 j ∧ x = .int .i64 n ∧ (1 ≤ n ∧ n ≤ 4001) ∧ Hid (m1 + m2 ≤ n)) (fun _ i => ts.length - (intOf i).toNat)
  case atStart => exact ⟨0, 1 + m1 + m2, Nat.zero_le _, rfl, by congr 1 <;> omega, by omega, Lib.hid (by omega)⟩
  case round =>
    obtain ⟨j, n, hj, rfl, rfl, hn, HN⟩ := hrel
    obtain ⟨p0, p1, p2, p3⟩ := HP4.out
    by_cases hlt : j < ts.length
    · have z0 : (0 : Int) ≤ (j : Int) := by omega
      have z1 : (j : Int) < (ts.length : Int) := by omega
      by_cases hq : n < 2000
      · have z2 : (n : Int) < 2000 := by omega
        obtain ⟨b, o, rfl, c0⟩ := (HTs.out.below HB.out) j _ (texts_at ts j hlt)
        have hsz := mem_getD HTx.out j
        generalize ts.getD j ByteArray.empty = x at c0 hsz
        unfold maxLen at hsz
        have hmin : min (2000 : Int) (x.size : Int) = ((min 2000 x.size : Nat) : Int) := by omega
        obtain ⟨m, hm⟩ : ∃ m, min 2000 x.size = m := ⟨_, rfl⟩
        rw [hm] at hmin
        have hmm : m ≤ 2000 := by omega
        clear hm
        go_wp2_with fail
        go_round
        case rel => exact ⟨j + 1, n + m, by omega, by go_num, by congr 1 <;> omega, by omega, Lib.hid (by have := HN.out; omega)⟩
        case measure => simp [intOf] <;> omega
      · have z2 : decide ((n : Int) < 2000) = false := decide_eq_false (by omega)
        have hmin : min (n : Int) 2000 = ((min n 2000 : Nat) : Int) := by omega
        obtain ⟨m, hm⟩ : ∃ m, min n 2000 = m := ⟨_, rfl⟩
        rw [hm] at hmin
        have HMM := Lib.hid hm
        clear hm
        go_wp2_with fail
        go_ret
        exact ⟨m, rfl, by have := HMM.out; omega, fun h => ⟨HM1.out (by have := HMM.out; have := HN.out; omega), HM2.out (by have := HMM.out; have := HN.out; omega)⟩, HB.out⟩
    · have z1 : decide ((j : Int) < (ts.length : Int)) = false := decide_eq_false (by omega)
      have z3 : ¬ (j : Int) < (ts.length : Int) := by omega
      have hmin : min (n : Int) 2000 = ((min n 2000 : Nat) : Int) := by omega
      obtain ⟨m, hm⟩ : ∃ m, min n 2000 = m := ⟨_, rfl⟩
      rw [hm] at hmin
      have HMM := Lib.hid hm
      clear hm
      go_wp2_with fail
      go_ret
      exact ⟨m, rfl, by have := HMM.out; omega, fun h => ⟨HM1.out (by have := HMM.out; have := HN.out; omega), HM2.out (by have := HMM.out; have := HN.out; omega)⟩, HB.out⟩

/-- the examples' calls: what both says -/
def bothB (e : Ev) (s : ByteArray) : Bool := decide (putE e = 0) && decide (Wire.S (encB e) = s) && decide (decW s = 0) && same (decE s) e && decide ((encB e).length = s.size)

end Go.Proofs.YtiibeemjkdipnaaGreatDoor.Codec
