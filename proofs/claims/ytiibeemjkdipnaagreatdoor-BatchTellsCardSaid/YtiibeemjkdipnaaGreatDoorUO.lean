import Derived.Test.YtiibeemjkdipnaaGreatDoorUK
/-
  The walks of slices.Equal, at numbers and at texts, and of Same.
-/
namespace Go.Proofs.YtiibeemjkdipnaaGreatDoor.Schema
open Go Go.RowKit


set_option maxRecDepth 100000 in
set_option maxHeartbeats 400000 in
theorem equal_nums (A B : Option Addr) (ca cb : Nat) (xs ys : List Int) (hl : xs.length ≤ 140737488355328) (hm : ys.length ≤ 140737488355328) (w : World) (hA : VAt w A (nums xs)) (hB : VAt w B (nums ys)) :
    Calls Tryz.prog 58 #[.slice A xs.length ca, .slice B ys.length cb] w fun e w' => e = .returned (.bool (decide (xs = ys))) ∧ Below w.heap.size w w' := by
  have HA := Lib.hid hA
  have HB := Lib.hid hB
  clear hA hB
  by_cases hn : xs.length = ys.length
  · have e1 : ((xs.length : Int) != (ys.length : Int)) = false := by rw [hn]; simp
    have e2 : (xs.length != ys.length) = false := by rw [hn]; simp
    have HN := Lib.hid hn
    have hn1 : xs.length ≤ ys.length := by omega
    have hn2 : ys.length ≤ xs.length := by omega
    clear hn
    go_enter Tryz.func58, Tryz.ntmps58
    go_wp2
    go_loopw [13] (fun i wr => ∃ k z : Nat, k ≤ xs.length ∧ i = .int .i64 k ∧ Hid (∀ j, j < k → xs.getD j 0 = ys.getD j 0) ∧ wr = w.drewN z) (fun i _ => xs.length - (intOf i).toNat)
    case atStart => exact ⟨0, 0, Nat.zero_le _, rfl, fun j hj => absurd hj (by omega), rfl⟩
    case round =>
      obtain ⟨k, z, hk, rfl, HY, rfl⟩ := hrel
      by_cases hp : k < xs.length
      · obtain ⟨b, o, rfl, c0⟩ := HA.out k _ (nums_at xs k hp)
        obtain ⟨b', o', rfl, c1⟩ := HB.out k _ (nums_at ys k (by omega))
        have HQ := Lib.hid (all_step (p := fun j => xs.getD j 0 = ys.getD j 0) HY)
        have HR := Lib.hid (ne_of_getD 0 (xs := xs) (ys := ys) k)
        generalize xs.getD k 0 = x at c0 HQ HR
        generalize ys.getD k 0 = y at c1 HQ HR
        have z0 : (0 : Int) ≤ (k : Int) := by omega
        have z1 : (k : Int) < (xs.length : Int) := by omega
        have z2 : (k : Int) < (ys.length : Int) := by omega
        clear HY
        by_cases hq : x = y
        · have HQ2 := Lib.hid (HQ.out hq)
          have e3 : (x != y) = false := by rw [hq]; simp
          clear hq HQ HR
          go_wp2_with fail
          go_quiet (fail)
          go_wp2_with fail
          go_roundw
          case rel => exact ⟨k + 1, _, by omega, by go_num, HQ2.out, rfl⟩
          case measure => simp [intOf] <;> omega
        · have HR2 := Lib.hid (decide_eq_false (HR.out hq))
          have e3 : (x != y) = true := by simpa using hq
          clear hq HQ HR
          go_wp2_with fail
          go_quiet (fail)
          go_wp2_with fail
          go_ret
          exact ⟨by rw [HR2.out]; rfl, (below_dn _ w _).trans (below_dn _ _ _)⟩
      · have HR := Lib.hid (decide_eq_true (eq_of_getD 0 HN.out (fun j hj => HY.out j (by omega))))
        go_wp2
        go_ret
        exact ⟨by rw [HR.out]; rfl, below_dn _ _ _⟩
  · have e1 : ((xs.length : Int) != (ys.length : Int)) = true := by simp; omega
    have e2 : (xs.length != ys.length) = true := by simpa using hn
    have HR := Lib.hid (decide_eq_false (show ¬ xs = ys from fun e => hn (by rw [e])))
    clear hn
    go_enter Tryz.func58, Tryz.ntmps58
    go_wp2
    go_ret
    exact ⟨by rw [HR.out]; rfl, Below.refl _ _⟩

set_option maxRecDepth 100000 in
set_option maxHeartbeats 400000 in
theorem equal_texts (A B : Option Addr) (ca cb : Nat) (xs ys : List ByteArray) (hl : xs.length ≤ 140737488355328) (hm : ys.length ≤ 140737488355328) (w : World) (hA : VAt w A (texts xs)) (hB : VAt w B (texts ys)) :
    Calls Tryz.prog 59 #[.slice A xs.length ca, .slice B ys.length cb] w fun e w' => e = .returned (.bool (decide (xs = ys))) ∧ Below w.heap.size w w' := by
  have HA := Lib.hid hA
  have HB := Lib.hid hB
  clear hA hB
  by_cases hn : xs.length = ys.length
  · have e1 : ((xs.length : Int) != (ys.length : Int)) = false := by rw [hn]; simp
    have e2 : (xs.length != ys.length) = false := by rw [hn]; simp
    have HN := Lib.hid hn
    have hn1 : xs.length ≤ ys.length := by omega
    have hn2 : ys.length ≤ xs.length := by omega
    clear hn
    go_enter Tryz.func59, Tryz.ntmps59
    go_wp2
    go_loopw [13] (fun i wr => ∃ k z : Nat, k ≤ xs.length ∧ i = .int .i64 k ∧ Hid (∀ j, j < k → xs.getD j ByteArray.empty = ys.getD j ByteArray.empty) ∧ wr = w.drewN z) (fun i _ => xs.length - (intOf i).toNat)
    case atStart => exact ⟨0, 0, Nat.zero_le _, rfl, fun j hj => absurd hj (by omega), rfl⟩
    case round =>
      obtain ⟨k, z, hk, rfl, HY, rfl⟩ := hrel
      by_cases hp : k < xs.length
      · obtain ⟨b, o, rfl, c0⟩ := HA.out k _ (texts_at xs k hp)
        obtain ⟨b', o', rfl, c1⟩ := HB.out k _ (texts_at ys k (by omega))
        have HQ := Lib.hid (all_step (p := fun j => xs.getD j ByteArray.empty = ys.getD j ByteArray.empty) HY)
        have HR := Lib.hid (ne_of_getD ByteArray.empty (xs := xs) (ys := ys) k)
        generalize xs.getD k ByteArray.empty = x at c0 HQ HR
        generalize ys.getD k ByteArray.empty = y at c1 HQ HR
        have z0 : (0 : Int) ≤ (k : Int) := by omega
        have z1 : (k : Int) < (xs.length : Int) := by omega
        have z2 : (k : Int) < (ys.length : Int) := by omega
        clear HY
        by_cases hq : x = y
        · have HQ2 := Lib.hid (HQ.out hq)
          have e3 : (x.toList != y.toList) = false := by rw [hq]; simp
          have e4 : (x.toList == y.toList) = true := by rw [hq]; simp
          clear hq HQ HR
          go_wp2_with fail
          go_quiet (fail)
          go_wp2_with fail
          go_roundw
          case rel => exact ⟨k + 1, _, by omega, by go_num, HQ2.out, rfl⟩
          case measure => simp [intOf] <;> omega
        · have HR2 := Lib.hid (decide_eq_false (HR.out hq))
          have e4 : (x.toList == y.toList) = false := by rw [str_eq]; exact decide_eq_false hq
          have e3 : (x.toList != y.toList) = true := by unfold bne; rw [e4]; rfl
          clear hq HQ HR
          go_wp2_with fail
          go_quiet (fail)
          go_wp2_with fail
          go_ret
          exact ⟨by rw [HR2.out]; rfl, (below_dn _ w _).trans (below_dn _ _ _)⟩
      · have HR := Lib.hid (decide_eq_true (eq_of_getD ByteArray.empty HN.out (fun j hj => HY.out j (by omega))))
        go_wp2
        go_ret
        exact ⟨by rw [HR.out]; rfl, below_dn _ _ _⟩
  · have e1 : ((xs.length : Int) != (ys.length : Int)) = true := by simp; omega
    have e2 : (xs.length != ys.length) = true := by simpa using hn
    have HR := Lib.hid (decide_eq_false (show ¬ xs = ys from fun e => hn (by rw [e])))
    clear hn
    go_enter Tryz.func59, Tryz.ntmps59
    go_wp2
    go_ret
    exact ⟨by rw [HR.out]; rfl, Below.refl _ _⟩



set_option maxRecDepth 100000 in
set_option maxHeartbeats 1000000 in
theorem same_big (A : Option Addr) (ca : Nat) (B : Option Addr) (cb : Nat) (e : Ev) (C : Option Addr) (cc : Nat) (D : Option Addr) (cd : Nat) (f : Ev) (hl : e.ns.length ≤ 140737488355328) (hm : f.ns.length ≤ 140737488355328) (hl2 : e.ts.length ≤ 140737488355328) (hm2 : f.ts.length ≤ 140737488355328) (w : World) (hA : EvAt w A ca B cb e) (hC : EvAt w C cc D cd f) :
    Calls Tryz.prog 35 #[evV A ca B cb e, evV C cc D cd f] w fun z w' => z = .returned (.bool (same e f)) ∧ Below w.heap.size w w' := by
  have HN := Lib.hid (fun W (h1 : VAt W A (nums e.ns)) (h2 : VAt W C (nums f.ns)) => equal_nums A C ca cc e.ns f.ns hl hm W h1 h2)
  have HT := Lib.hid (fun W (h1 : VAt W B (texts e.ts)) (h2 : VAt W D (texts f.ts)) => equal_texts B D cb cd e.ts f.ts hl2 hm2 W h1 h2)
  have HM := Lib.hid (show same e f = (decide (e.v = f.v) && decide (e.k = f.k) && decide (e.ns = f.ns) && decide (e.ts = f.ts)) from rfl)
  have q1 := Lib.hid hA.ns
  have q2 := Lib.hid hC.ns
  have q3 := Lib.hid hA.ts
  have q4 := Lib.hid hC.ts
  clear hA hC hl hm hl2 hm2
  obtain ⟨v, k, ns, ts⟩ := e
  obtain ⟨v', k', ns', ts'⟩ := f
  simp only [evV] at *
  have HA0 := (Below.refl w.heap.size w).alloc (Nat.le_refl _) (.cells #[.int .u8 v, .int .u8 k, .slice A ns.length ca, .slice B ts.length cb] 39)
  have HB4 := box4 w (.int .u8 v) (.int .u8 k) (.slice A ns.length ca) (.slice B ts.length cb) 39
  have HC0 := (Below.refl (w.alloc (.cells #[.int .u8 v, .int .u8 k, .slice A ns.length ca, .slice B ts.length cb] 39)).heap.size (w.alloc (.cells #[.int .u8 v, .int .u8 k, .slice A ns.length ca, .slice B ts.length cb] 39))).alloc (Nat.le_refl _) (.cells #[.int .u8 v', .int .u8 k', .slice C ns'.length cc, .slice D ts'.length cd] 39)
  have HC4 := box4 (w.alloc (.cells #[.int .u8 v, .int .u8 k, .slice A ns.length ca, .slice B ts.length cb] 39)) (.int .u8 v') (.int .u8 k') (.slice C ns'.length cc) (.slice D ts'.length cd) 39
  have hs : (w.alloc (.cells #[.int .u8 v, .int .u8 k, .slice A ns.length ca, .slice B ts.length cb] 39)).heap.size = w.heap.size + 1 := by simp
  rw [hs] at HC4
  have HBW := Lib.hid (below_step HA0 HC0)
  have HX3 := Lib.hid (cell_kept HB4.2.2.2 HC0)
  have HY3 := Lib.hid HC4.2.2.2
  clear HA0 HB4 HC0 HC4 hs
  by_cases h1 : v = v'
  · have e1 : ((v : Int) == (v' : Int)) = true := by rw [h1]; simp
    by_cases h2 : k = k'
    · have e2 : ((k : Int) == (k' : Int)) = true := by rw [h2]; simp
      have HR : Hid (same ⟨v, k, ns, ts⟩ ⟨v', k', ns', ts'⟩ = (decide (ns = ns') && decide (ts = ts'))) := by rw [HM.out, decide_eq_true h1, decide_eq_true h2]; simp [Hid]
      clear h1 h2 HM
      cases h3 : decide (ns = ns') with
      | true =>
        have H3 := Lib.hid h3
        have HR2 : Hid (same ⟨v, k, ns, ts⟩ ⟨v', k', ns', ts'⟩ = decide (ts = ts')) := by rw [HR.out, h3]; simp [Hid]
        clear h3 HR
        go_enter Tryz.func35, Tryz.ntmps35
        go_wp2_with (first
          | (go_at_call 58; refine (HN.out _ (q1.out.below HBW.out) (q2.out.below HBW.out)).mono ?_; rintro z w3 ⟨rfl, hb⟩; rw [H3.out]; have HB := Lib.hid (below_step HBW.out hb); have x3 := cell_kept HX3.out hb; have y3 := cell_kept HY3.out hb; clear hb)
          | (go_at_call 59; refine (HT.out _ (q3.out.below HB.out) (q4.out.below HB.out)).mono ?_; rintro z w4 ⟨rfl, hb⟩; have HB2 := Lib.hid (below_step HB.out hb); clear hb))
        go_ret
        exact ⟨ret_bool (by rw [HR2.out]), HB2.out⟩
      | false =>
        have H3 := Lib.hid h3
        have HR2 : Hid (same ⟨v, k, ns, ts⟩ ⟨v', k', ns', ts'⟩ = false) := by rw [HR.out, h3]; simp [Hid]
        clear h3 HR
        go_enter Tryz.func35, Tryz.ntmps35
        go_wp2_with (go_at_call 58; refine (HN.out _ (q1.out.below HBW.out) (q2.out.below HBW.out)).mono ?_; rintro z w3 ⟨rfl, hb⟩; rw [H3.out]; have HB := Lib.hid (below_step HBW.out hb); clear hb)
        go_ret
        exact ⟨ret_bool (by rw [HR2.out]), HB.out⟩
    · have e2 : ((k : Int) == (k' : Int)) = false := by simp; omega
      have HR2 : Hid (same ⟨v, k, ns, ts⟩ ⟨v', k', ns', ts'⟩ = false) := by rw [HM.out, decide_eq_false h2]; simp [Hid]
      clear h1 h2 HM
      go_enter Tryz.func35, Tryz.ntmps35
      go_wp2
      go_ret
      exact ⟨ret_bool (by rw [HR2.out]), HBW.out⟩
  · have e1 : ((v : Int) == (v' : Int)) = false := by simp; omega
    have HR2 : Hid (same ⟨v, k, ns, ts⟩ ⟨v', k', ns', ts'⟩ = false) := by rw [HM.out, decide_eq_false h1]; simp [Hid]
    clear h1 HM
    go_enter Tryz.func35, Tryz.ntmps35
    go_wp2
    go_ret
    exact ⟨ret_bool (by rw [HR2.out]), HBW.out⟩

theorem same_any (A : Option Addr) (ca : Nat) (B : Option Addr) (cb : Nat) (e : Ev) (C : Option Addr) (cc : Nat) (D : Option Addr) (cd : Nat) (f : Ev) (hl : e.ns.length ≤ 1000000) (hm : f.ns.length ≤ 1000000) (hl2 : e.ts.length ≤ 1000000) (hm2 : f.ts.length ≤ 1000000) (w : World) (hA : EvAt w A ca B cb e) (hC : EvAt w C cc D cd f) :
    Calls Tryz.prog 35 #[evV A ca B cb e, evV C cc D cd f] w fun z w' => z = .returned (.bool (same e f)) ∧ Below w.heap.size w w' := same_big A ca B cb e C cc D cd f (by omega) (by omega) (by omega) (by omega) w hA hC
end Go.Proofs.YtiibeemjkdipnaaGreatDoor.Schema

/-
  What the laws of layer 7 call: event, told.
-/
namespace Go.Proofs.YtiibeemjkdipnaaGreatDoor.Upcast
open Go Go.RowKit
open Go.Proofs.YtiibeemjkdipnaaGreatDoor.Schema

set_option maxRecDepth 100000 in
set_option maxHeartbeats 1000000 in
theorem event_any (v k : Nat) (A : Option Addr) (n c : Nat) (w : World) :
    Calls Tryz.prog 23 #[.int .u8 (v : Int), .int .u8 (k : Int), .slice A n c] w (fun z w' => z = .returned (.agg #[.int .u8 (v : Int), .int .u8 (k : Int), .slice A n c, .slice none 0 0]) ∧ Below w.heap.size w w') := by
  have HN := Lib.hid (box4 w (.int .u8 0) (.int .u8 0) (.slice none 0 0) (.slice none 0 0) 39)
  have HF := Lib.hid (free_new w #[.int .u8 0, .int .u8 0, .slice none 0 0, .slice none 0 0] 39)
  have HB := Lib.hid ((Below.refl w.heap.size w).alloc (Nat.le_refl _) (.cells #[.int .u8 0, .int .u8 0, .slice none 0 0, .slice none 0 0] 39))
  go_enter Tryz.func23, Tryz.ntmps23
  go_upto_region 1 with (fail)
  generalize w.alloc (.cells #[.int .u8 0, .int .u8 0, .slice none 0 0, .slice none 0 0] 39) = W at HN HF HB ⊢
  obtain ⟨x0, x1, x2, x3⟩ := HN.out
  have f0 := HF.out.2 0
  have f1 := HF.out.2 1
  have f2 := HF.out.2 2
  have f3 := HF.out.2 3
  go_wp2_with fail
  clear x0 x1 x2 x3 f0 f1 f2 f3
  obtain ⟨e0, e1, e2, e3⟩ := Four.set4 (show Four W w.heap.size _ _ _ _ from HN.out) (.int .u8 (v : Int)) (.int .u8 (k : Int)) (.slice A n c) (.slice none 0 0)
  refine bodyPost_ret (v := .agg #[.int .u8 (v : Int), .int .u8 (k : Int), .slice A n c, .slice none 0 0]) (by simp [results, Tryz.results23, go_sem, e0, e1, e2, e3]) rfl ⟨rfl, ?_⟩
  exact HB.out.trans ((touch4 W w.heap.size _ _ _ _).below (Nat.le_refl _) HB.out.size)

end Go.Proofs.YtiibeemjkdipnaaGreatDoor.Upcast

/-
  What Up, Down, Newest and To tell, in one form: an event and a number.
-/
namespace Go.Proofs.YtiibeemjkdipnaaGreatDoor.Upcast
open Go Go.RowKit
open Go.Proofs.YtiibeemjkdipnaaGreatDoor.Schema

theorem same_iff (a b : Ev) : same a b = true ↔ a = b := by
  unfold same
  simp only [Bool.and_eq_true, decide_eq_true_eq]
  constructor
  · rintro ⟨⟨⟨h1, h2⟩, h3⟩, h4⟩
    cases a; cases b
    simp only at h1 h2 h3 h4
    subst h1 h2 h3 h4
    rfl
  · rintro rfl; exact ⟨⟨⟨rfl, rfl⟩, rfl⟩, rfl⟩
theorem same_self (a : Ev) : same a a = true := (same_iff a a).2 rfl
theorem same_no {a b : Ev} (h : ¬ a = b) : same a b = false := by
  cases hs : same a b with
  | false => rfl
  | true => exact absurd ((same_iff a b).1 hs) h
/-- an event is told, or an error, and then none -/
def Got (o : Except Nat Ev) (u : Ev) (n : Nat) : Prop := (n = 0 ∧ o = .ok u) ∨ (1 ≤ n ∧ n ≤ 100 ∧ o = .error n ∧ u = ev0)
theorem Got.ok {o : Except Nat Ev} {u : Ev} {n : Nat} (h : Got o u n) (hn : n = 0) : o = .ok u := by
  rcases h with h | h
  · exact h.2
  · omega
theorem Got.bad {o : Except Nat Ev} {u : Ev} {n : Nat} (h : Got o u n) (hn : ¬ n = 0) : o = .error n ∧ u = ev0 := by
  rcases h with h | h
  · exact absurd h.1 hn
  · exact h.2.2
theorem Got.of {o : Except Nat Ev} {u v : Ev} {n : Nat} (h : Got o u n) (ho : o = .ok v) : n = 0 ∧ u = v := by
  rcases h with h | h
  · rw [ho] at h; exact ⟨h.1, by injection h.2 with h; exact h.symm⟩
  · rw [ho] at h; cases h.2.2.1
theorem Got.err {o : Except Nat Ev} {u : Ev} {n m : Nat} (h : Got o u n) (ho : o = .error m) : n = m ∧ u = ev0 := by
  rcases h with h | h
  · rw [ho] at h; cases h.2
  · rw [ho] at h; exact ⟨by injection h.2.2.1 with h; exact h.symm, h.2.2.2⟩
def EvN (o : Except Nat Ev) (w : World) (z : Ending) (w' : World) : Prop :=
  ∃ (u : Ev) (n : Nat) (A : Option Addr) (c : Nat) (C : Option Addr) (d : Nat), z = .returned (.tuple #[evV A c C d u, .int .i64 (n : Int)]) ∧ EvAt w' A c C d u ∧ (u.ns.length ≤ 20 ∧ u.ts.length ≤ 1) ∧ Got o u n ∧ Below w.heap.size w w'
theorem lets_few (v k : Nat) : (lets v k).size ≤ 10 := (lets_ok v k).1
theorem evN_of {o : Except Nat Ev} {w : World} {z : Ending} {w' : World} (h : ExV o w z w') (hm : ∀ u, o = .ok u → may u = true ∧ ∀ t ∈ u.ts, t.size ≤ maxLen) (he : ∀ n, o = .error n → 1 ≤ n ∧ n ≤ 100) : EvN o w z w' := by
  cases ho : o with
  | ok u =>
    subst ho
    obtain ⟨A, c, C, d, hz, o1, o2, hb⟩ := h
    have hu := hm u rfl
    have hmo := may_out hu.1
    exact ⟨u, 0, A, c, C, d, hz, evAt_of hu.1 hu.2 o1 o2, ⟨by rw [hmo.ln]; have := lets_few u.v u.k; omega, hmo.tx⟩, Or.inl ⟨rfl, rfl⟩, hb⟩
  | error n =>
    subst ho
    obtain ⟨hz, hb⟩ := h
    have hn := he n rfl
    exact ⟨ev0, n, none, 0, none, 0, hz, ⟨by decide, by decide, fun x hx => (by cases hx), fun t ht => (by cases ht), VAt.nil _ _, VAt.nil _ _, fun _ => rfl, fun _ => rfl, Nat.le_refl _, Nat.le_refl _⟩, ⟨by decide, by decide⟩, Or.inr ⟨hn.1, hn.2, rfl, rfl⟩, hb⟩
theorem up_out {e u : Ev} (h : upX e = .ok u) : may e = true ∧ e.v < 3 ∧ u = upE e := by
  unfold upX at h
  split at h
  · rename_i hm
    split at h
    · cases h
    · injection h with h
      have := (may_out hm).v3
      exact ⟨hm, by omega, h.symm⟩
  · cases h
theorem up_err {e : Ev} {n : Nat} (h : upX e = .error n) : 1 ≤ n ∧ n ≤ 100 := by
  unfold upX at h
  split at h
  · split at h
    · injection h with h; omega
    · cases h
  · injection h with h; omega
theorem dn_out {e u : Ev} (h : dnX e = .ok u) : may e = true ∧ downX e = .ok u := by
  unfold dnX at h
  split at h
  · rename_i hm; exact ⟨hm, h⟩
  · cases h
theorem dn_err {e : Ev} {n : Nat} (h : dnX e = .error n) : 1 ≤ n ∧ n ≤ 100 := by
  unfold dnX at h
  split at h
  · have := down_err h; omega
  · injection h with h; omega
theorem new_out {e u : Ev} (h : nwX e = .ok u) : may e = true ∧ u = newE e := by
  unfold nwX at h
  split at h
  · rename_i hm; injection h with h; exact ⟨hm, h.symm⟩
  · cases h
theorem to_out {e u : Ev} {v : Nat} (h : toX e v = .ok u) : may e = true ∧ isV v = true ∧ dto (newE e) v = .ok u := by
  unfold toX at h
  split at h
  · rename_i hm
    split at h
    · rename_i hv; exact ⟨hm, hv, h⟩
    · cases h
  · cases h
theorem to_err {e : Ev} {v n : Nat} (h : toX e v = .error n) : 1 ≤ n ∧ n ≤ 100 := by
  unfold toX at h
  split at h
  · split at h
    · have := dtX_err _ _ _ _ h; omega
    · injection h with h; omega
  · injection h with h; omega
theorem Newest_ev {A : Option Addr} {ca : Nat} {C : Option Addr} {cc : Nat} {e : Ev} (hl : e.ns.length ≤ 1000000) {w : World} (hA : EvAt w A ca C cc e) (E : Env w) :
    Calls Tryz.prog 50 #[evV A ca C cc e] w (EvN (nwX e) w) :=
  (Newest_any A ca C cc e hl w hA E).mono fun z w' h => evN_of h (fun u hu => by
    refine ⟨new_may' hu, ?_⟩
    rw [new_ts' hu]; exact hA.txt) (fun n hn => by have := new_err hn; omega)
theorem to_may {e u : Ev} {v : Nat} (h : toX e v = .ok u) : may u = true ∧ u.ts = e.ts := by
  obtain ⟨h1, h2, h3⟩ := to_out h
  have := dtX_out _ _ _ _ (new_may h1) (Nat.le_refl _) h3
  exact ⟨this.1, by rw [this.2.1, new_ts]⟩
/-! ### there and back -/
theorem back_up {e u : Ev} (h : upX e = .ok u) : dnX u = .ok e := by
  obtain ⟨h1, h2, rfl⟩ := up_out h
  rw [down_is (up_may h1 h2)]
  exact up_down h1 h2
theorem back_down {f d : Ev} (h : dnX f = .ok d) : upX d = .ok f ∧ f.v = d.v + 1 := by
  obtain ⟨h1, h2⟩ := dn_out h
  have ho := down_out (may_out h1).v1 h2
  have hm := down_may h1 h2
  rw [up_is hm ho.v3, down_up (may_out h1).ln ho]
  exact ⟨rfl, ho.ev⟩
theorem back_not {e f u d : Ev} {a b : Nat} (h1 : Got (upX e) u a) (ha : a = 0) (h2 : Got (dnX f) d b) (hb : ¬ b = 0) : same u f = false := same_no fun h => by
  subst h
  have h3 := back_up (h1.ok ha)
  rw [(h2.bad hb).1] at h3
  cases h3
end Go.Proofs.YtiibeemjkdipnaaGreatDoor.Upcast
