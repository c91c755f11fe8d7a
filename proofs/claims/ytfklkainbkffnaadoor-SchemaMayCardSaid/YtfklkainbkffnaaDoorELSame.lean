/-
  The walk of the statement SchemaSame.
-/
import Derived.Test.YtfklkainbkffnaaDoorE19
import Derived.Deep.DeepCutAuto
namespace Go.Proofs.YtfklkainbkffnaaDoor.Schema
open Go Go.RowKit

theorem same_iff (a b : Ev) : same a b = true ↔ a = b := by
  obtain ⟨v, k, ns, ts⟩ := a
  obtain ⟨v', k', ns', ts'⟩ := b
  unfold same
  simp only [Bool.and_eq_true, decide_eq_true_eq, Ev.mk.injEq]
  exact ⟨fun h => ⟨h.1.1.1, h.1.1.2, h.1.2, h.2⟩, fun h => ⟨⟨⟨h.1, h.2.1⟩, h.2.2.1⟩, h.2.2.2⟩⟩
theorem same_self (a : Ev) : same a a = true := (same_iff a a).2 rfl
theorem same_comm (a b : Ev) : same a b = same b a := by
  rw [Bool.eq_iff_iff, same_iff, same_iff]; exact ⟨Eq.symm, Eq.symm⟩
theorem same_no {a b : Ev} (h : ¬ a = b) : same a b = false := by
  cases hs : same a b with
  | false => rfl
  | true => exact absurd ((same_iff a b).1 hs) h
theorem Four.set0 {w : World} {b : Nat} {a0 a1 a2 a3 : Value} (h : Four w b a0 a1 a2 a3) (x : Value) : Four (w.setCell ⟨b, 0, none⟩ x) b x a1 a2 a3 :=
  ⟨World.cell?_setCell_same _ _ _ h.1, (World.cell?_setCell_other _ _ _ _ (by simp)).trans h.2.1, (World.cell?_setCell_other _ _ _ _ (by simp)).trans h.2.2.1, (World.cell?_setCell_other _ _ _ _ (by simp)).trans h.2.2.2⟩
theorem Four.set1 {w : World} {b : Nat} {a0 a1 a2 a3 : Value} (h : Four w b a0 a1 a2 a3) (x : Value) : Four (w.setCell ⟨b, 1, none⟩ x) b a0 x a2 a3 :=
  ⟨(World.cell?_setCell_other _ _ _ _ (by simp)).trans h.1, World.cell?_setCell_same _ _ _ h.2.1, (World.cell?_setCell_other _ _ _ _ (by simp)).trans h.2.2.1, (World.cell?_setCell_other _ _ _ _ (by simp)).trans h.2.2.2⟩
theorem Four.set2 {w : World} {b : Nat} {a0 a1 a2 a3 : Value} (h : Four w b a0 a1 a2 a3) (x : Value) : Four (w.setCell ⟨b, 2, none⟩ x) b a0 a1 x a3 :=
  ⟨(World.cell?_setCell_other _ _ _ _ (by simp)).trans h.1, (World.cell?_setCell_other _ _ _ _ (by simp)).trans h.2.1, World.cell?_setCell_same _ _ _ h.2.2.1, (World.cell?_setCell_other _ _ _ _ (by simp)).trans h.2.2.2⟩
theorem Four.set3 {w : World} {b : Nat} {a0 a1 a2 a3 : Value} (h : Four w b a0 a1 a2 a3) (x : Value) : Four (w.setCell ⟨b, 3, none⟩ x) b a0 a1 a2 x :=
  ⟨(World.cell?_setCell_other _ _ _ _ (by simp)).trans h.1, (World.cell?_setCell_other _ _ _ _ (by simp)).trans h.2.1, (World.cell?_setCell_other _ _ _ _ (by simp)).trans h.2.2.1, World.cell?_setCell_same _ _ _ h.2.2.2⟩
def upK (a : Ev) : Ev := ⟨a.v, (a.k + 1) % 256, a.ns, a.ts⟩
def upV (a : Ev) : Ev := ⟨(a.v + 1) % 256, a.k, a.ns, a.ts⟩
def upN (a : Ev) (n : Int) : Ev := ⟨a.v, a.k, a.ns ++ [n], a.ts⟩
def upT (a : Ev) : Ev := ⟨a.v, a.k, a.ns, a.ts ++ [⟨#[120]⟩]⟩
def upS (a : Ev) (k : Nat) (n : Int) : Ev := ⟨a.v, a.k, a.ns.set k n, a.ts⟩
theorem no_upK {a : Ev} (h : a.k < 256) : same a (upK a) = false := same_no fun e => by
  have := congrArg Ev.k e
  simp only [upK] at this
  omega
theorem no_upV {a : Ev} (h : a.v < 256) : same a (upV a) = false := same_no fun e => by
  have := congrArg Ev.v e
  simp only [upV] at this
  omega
theorem no_upN (a : Ev) (n : Int) : same a (upN a n) = false := same_no fun e => by
  have := congrArg (fun x => x.ns.length) e
  simp [upN] at this
theorem no_upT (a : Ev) : same (upT a) a = false := same_no fun e => by
  have := congrArg (fun x => x.ts.length) e
  simp [upT] at this
theorem same_upS (a : Ev) (k : Nat) (n : Int) (hk : k < a.ns.length) : same a (upS a k n) = (n == a.ns.getD k 0) := by
  rw [Bool.eq_iff_iff, same_iff, beq_iff_eq]
  constructor
  · intro e
    have h1 := congrArg (fun x => x.ns.getD k 0) e
    simp only [upS] at h1
    rw [h1, List.getD_eq_getElem?_getD, List.getElem?_set_self (by simpa using hk)]; rfl
  · intro e
    have h2 : a.ns.set k n = a.ns := by
      rw [e, List.getD_eq_getElem?_getD, List.getElem?_eq_getElem hk]
      exact List.set_getElem_self hk
    obtain ⟨v, k', ns, ts⟩ := a
    simp only [upS] at h2 ⊢
    rw [h2]
theorem k_lt (v : Int) (n : Nat) (h0 : 0 < n) (h : n ≤ 1000) : ∃ k : Nat, wrap64 ((IntKind.u64.wrap v).tmod (n : Int)) = (k : Int) ∧ k < n ∧ (n : Int) ≠ 0 := by
  have h3 : 0 ≤ IntKind.u64.wrap v := by rw [IntKind.wrap_u64]; omega
  rw [Int.tmod_eq_emod_of_nonneg h3]
  have h4 := Int.emod_nonneg (IntKind.u64.wrap v) (b := (n : Int)) (by omega)
  have h5 := Int.emod_lt_of_pos (IntKind.u64.wrap v) (b := (n : Int)) (by omega)
  refine ⟨(IntKind.u64.wrap v % (n : Int)).toNat, ?_, by omega, by omega⟩
  have h6 : wrap64 (IntKind.u64.wrap v % (n : Int)) = IntKind.u64.wrap v % (n : Int) := by unfold RowKit.wrap64; omega
  rw [h6]; omega
theorem wrap_u8 (k : Nat) (h : k < 256) : IntKind.u8.wrap ((k : Int) + 1) = (((k + 1) % 256 : Nat) : Int) := by
  rw [show IntKind.u8.wrap ((k : Int) + 1) = ((k : Int) + 1) % 256 from by simp [IntKind.wrap, IntKind.signed, IntKind.bits]]; omega

set_option maxRecDepth 100000 in
set_option maxHeartbeats 2000000 in
theorem schemaSame_walk (A0 : Option Addr) (c0 : Nat) (B0 : Option Addr) (g0 : Nat) (e0 : Ev) (A1 : Option Addr) (c1 : Nat) (B1 : Option Addr) (g1 : Nat) (e1 : Ev) (pl n : Int) (w : World)
    (y0 : EvAt w A0 c0 B0 g0 e0) (r0 : e0.ns.length ≤ 140737488355328 ∧ e0.ts.length ≤ 140737488355328) (y1 : EvAt w A1 c1 B1 g1 e1) (r1 : e1.ns.length ≤ 140737488355328 ∧ e1.ts.length ≤ 140737488355328)
    (hpl : (Lit.int .i64 pl).wf = true) (hnw : (Lit.int .i64 n).wf = true) (E : Env w) :
    Calls Tryd.prog 10 #[evV A0 c0 B0 g0 e0, evV A1 c1 B1 g1 e1, .int .i64 pl, .int .i64 n] w fun z w' => z = .returned (.bool true) ∧ Below w.heap.size w w' := by
  have HY0 := Lib.hid y0
  have HY1 := Lib.hid y1
  have HE := Lib.hid E
  have HR0 := Lib.hid r0
  have HR1 := Lib.hid r1
  have HPL := Lib.hid (bounds_i64 hpl)
  have HNW := Lib.hid (bounds_i64 hnw)
  clear y0 y1 E r0 r1 hpl hnw
  unfold evV
  have ha := (Below.refl w.heap.size w).alloc (Nat.le_refl _) (.cells #[.int .u8 e0.v, .int .u8 e0.k, .slice A0 e0.ns.length c0, .slice B0 e0.ts.length g0] 44)
  have hp4 := box4 w (.int .u8 e0.v) (.int .u8 e0.k) (.slice A0 e0.ns.length c0) (.slice B0 e0.ts.length g0) 44
  have hs : (w.alloc (.cells #[.int .u8 e0.v, .int .u8 e0.k, .slice A0 e0.ns.length c0, .slice B0 e0.ts.length g0] 44)).heap.size = w.heap.size + 1 := by simp
  have hc := (Below.refl (w.alloc (.cells #[.int .u8 e0.v, .int .u8 e0.k, .slice A0 e0.ns.length c0, .slice B0 e0.ts.length g0] 44)).heap.size (w.alloc (.cells #[.int .u8 e0.v, .int .u8 e0.k, .slice A0 e0.ns.length c0, .slice B0 e0.ts.length g0] 44))).alloc (Nat.le_refl _) (.cells #[.int .u8 e1.v, .int .u8 e1.k, .slice A1 e1.ns.length c1, .slice B1 e1.ts.length g1] 44)
  have hp5 := box4 (w.alloc (.cells #[.int .u8 e0.v, .int .u8 e0.k, .slice A0 e0.ns.length c0, .slice B0 e0.ts.length g0] 44)) (.int .u8 e1.v) (.int .u8 e1.k) (.slice A1 e1.ns.length c1) (.slice B1 e1.ts.length g1) 44
  rw [hs] at hp5
  have HP4 := Lib.hid (show Four _ w.heap.size _ _ _ _ from Four.below hp4 hc)
  have HP5 := Lib.hid (show Four _ (w.heap.size + 1) _ _ _ _ from hp5)
  have HB := Lib.hid (below_step ha hc)
  have HSZ := Lib.hid (show w.heap.size + 2 ≤ ((w.alloc (.cells #[.int .u8 e0.v, .int .u8 e0.k, .slice A0 e0.ns.length c0, .slice B0 e0.ts.length g0] 44)).alloc (.cells #[.int .u8 e1.v, .int .u8 e1.k, .slice A1 e1.ns.length c1, .slice B1 e1.ts.length g1] 44)).heap.size from by simp)
  clear ha hp4 hs hc hp5
  go_enter Tryd.func10, Tryd.ntmps10
  go_wp2_with fail
  generalize (w.alloc (.cells #[.int .u8 e0.v, .int .u8 e0.k, .slice A0 e0.ns.length c0, .slice B0 e0.ts.length g0] 44)).alloc (.cells #[.int .u8 e1.v, .int .u8 e1.k, .slice A1 e1.ns.length c1, .slice B1 e1.ts.length g1] 44) = W0 at HP4 HP5 HB HSZ ⊢
  refine (long_any A0 c0 B0 g0 e0 HR0.out.1 HR0.out.2 W0 (HY0.out.below HB.out)).mono ?_; rintro z W1 ⟨b1, rfl, hl1, hb⟩
  have HS1 := Lib.hid (Nat.le_trans HSZ.out hb.size)
  replace HP4 := Lib.hid (HP4.out.below hb)
  replace HP5 := Lib.hid (HP5.out.below hb)
  replace HB := Lib.hid (below_step HB.out hb)
  clear hb HSZ
  cases b1 with
  | true =>
    clear hl1
    go_wp2_with (go_at_call 11; refine (awake_any _ (HE.out.below HB.out)).mono ?_; rintro z Wz ⟨rfl, hb⟩; have HZ := Lib.hid (below_step HB.out hb); clear hb)
    go_ret
    exact ⟨rfl, HZ.out⟩
  | false =>
    have HL0 := Lib.hid (hl1 rfl)
    clear hl1
    obtain ⟨hp5_0, hp5_1, hp5_2, hp5_3⟩ := HP5.out
    go_wp2_with fail
    clear hp5_0 hp5_1 hp5_2 hp5_3
    refine (long_any A1 c1 B1 g1 e1 HR1.out.1 HR1.out.2 W1 (HY1.out.below HB.out)).mono ?_; rintro z W2 ⟨b2, rfl, hl2, hb⟩
    have HS2 := Lib.hid (Nat.le_trans HS1.out hb.size)
    replace HP4 := Lib.hid (HP4.out.below hb)
    replace HP5 := Lib.hid (HP5.out.below hb)
    replace HB := Lib.hid (below_step HB.out hb)
    clear hb HS1
    cases b2 with
    | true =>
      clear hl2
      go_wp2_with (go_at_call 11; refine (awake_any _ (HE.out.below HB.out)).mono ?_; rintro z Wz ⟨rfl, hb⟩; have HZ := Lib.hid (below_step HB.out hb); clear hb)
      go_ret
      exact ⟨rfl, HZ.out⟩
    | false =>
      have HL1 := Lib.hid (hl2 rfl)
      clear hl2
      go_wp2_with fail
      refine (awake_any _ (HE.out.below HB.out)).mono ?_; rintro z W3 ⟨rfl, hb⟩
      have HS3 := Lib.hid (Nat.le_trans HS2.out hb.size)
      replace HP4 := Lib.hid (HP4.out.below hb)
      replace HP5 := Lib.hid (HP5.out.below hb)
      replace HB := Lib.hid (below_step HB.out hb)
      clear hb HS2
      obtain ⟨hp4_0, hp4_1, hp4_2, hp4_3⟩ := HP4.out
      go_wp2_with fail
      clear hp4_0 hp4_1 hp4_2 hp4_3
      refine (own_x A0 c0 B0 g0 e0 (by have := HL0.out; omega) (by have := HL0.out; omega) _ (HY0.out.below HB.out)).mono ?_; rintro z W4 ⟨Ax, cx, Bx, dx, midx, rfl, hm1, hm2, hn, ht, hb⟩
      simp only [evV]
      have HS4 := Lib.hid (Nat.le_trans HS3.out hb.size)
      have HM := Lib.hid (And.intro hm1 hm2)
      replace HP4 := Lib.hid (HP4.out.below hb)
      replace HP5 := Lib.hid (HP5.out.below hb)
      replace HB := Lib.hid (below_step HB.out hb)
      have HXN := Lib.hid hn
      have HXT := Lib.hid ht
      clear hb hm1 hm2 hn ht
      go_wp2_with fail
      have hb := (Below.refl W4.heap.size W4).alloc (Nat.le_refl _) (.cells #[.int .u8 e0.v, .int .u8 e0.k, .slice Ax e0.ns.length cx, .slice Bx e0.ts.length dx] 44)
      have HP9 := Lib.hid (show Four _ W4.heap.size _ _ _ _ from box4 W4 (.int .u8 e0.v) (.int .u8 e0.k) (.slice Ax e0.ns.length cx) (.slice Bx e0.ts.length dx) 44)
      have HF9 := Lib.hid (free_new W4 #[.int .u8 e0.v, .int .u8 e0.k, .slice Ax e0.ns.length cx, .slice Bx e0.ts.length dx] 44)
      replace HP4 := Lib.hid (HP4.out.below hb)
      replace HP5 := Lib.hid (HP5.out.below hb)
      replace HB := Lib.hid (below_step HB.out hb)
      replace HXN := Lib.hid (HXN.out.below hb)
      replace HXT := Lib.hid (HXT.out.below hb)
      clear hb
      generalize hW4 : W4.heap.size = b9 at HP9 HF9 HXT HS4 HM ⊢
      generalize W4.alloc (.cells #[.int .u8 e0.v, .int .u8 e0.k, .slice Ax e0.ns.length cx, .slice Bx e0.ts.length dx] 44) = Y at HP4 HP5 HP9 HF9 HB HXN HXT ⊢
      have HXE := Lib.hid (ev_of HY0.out.v HY0.out.k HY0.out.fit HY0.out.txt HXN.out HXT.out)
      have HK := Lib.hid (fun W (hW : Below Y.heap.size Y W) => show (fun w' => Below Y.heap.size Y w' ∧ w'.cell? ⟨w.heap.size, 0, none⟩ = some (.int .u8 e0.v) ∧ w'.cell? ⟨w.heap.size, 1, none⟩ = some (.int .u8 e0.k) ∧ w'.cell? ⟨w.heap.size, 2, none⟩ = some (.slice A0 e0.ns.length c0) ∧ w'.cell? ⟨w.heap.size, 3, none⟩ = some (.slice B0 e0.ts.length g0) ∧ w'.cell? ⟨(w.heap.size + 1), 0, none⟩ = some (.int .u8 e1.v) ∧ w'.cell? ⟨(w.heap.size + 1), 1, none⟩ = some (.int .u8 e1.k) ∧ w'.cell? ⟨(w.heap.size + 1), 2, none⟩ = some (.slice A1 e1.ns.length c1) ∧ w'.cell? ⟨(w.heap.size + 1), 3, none⟩ = some (.slice B1 e1.ts.length g1) ∧ w'.cell? ⟨b9, 0, none⟩ = some (.int .u8 e0.v) ∧ w'.cell? ⟨b9, 1, none⟩ = some (.int .u8 e0.k) ∧ w'.cell? ⟨b9, 2, none⟩ = some (.slice Ax e0.ns.length cx) ∧ w'.cell? ⟨b9, 3, none⟩ = some (.slice Bx e0.ts.length dx)) W from by
        obtain ⟨p0, p1, p2, p3⟩ := HP4.out.below hW
        obtain ⟨q0, q1, q2, q3⟩ := HP5.out.below hW
        obtain ⟨t0, t1, t2, t3⟩ := HP9.out.below hW
        exact ⟨hW, p0, p1, p2, p3, q0, q1, q2, q3, t0, t1, t2, t3⟩)
      have HC1 := Lib.hid (fun W (hW : Below Y.heap.size Y W) => show Calls Tryd.prog 29 #[.agg #[.int .u8 e0.v, .int .u8 e0.k, .slice A0 e0.ns.length c0, .slice B0 e0.ts.length g0], .agg #[.int .u8 e0.v, .int .u8 e0.k, .slice Ax e0.ns.length cx, .slice Bx e0.ts.length dx]] W fun z w' => z = .returned (.bool true) ∧ Below W.heap.size W w' from by
        have h := same_any _ _ _ _ e0 _ _ _ _ e0 (by have := HL0.out; have := HL1.out; omega) (by have := HL0.out; have := HL1.out; omega) (by have := HL0.out; have := HL1.out; omega) (by have := HL0.out; have := HL1.out; omega) W (HY0.out.below (below_step HB.out hW)) (HXE.out.below hW)
        rw [same_self] at h
        exact h)
      have g3 : Below Y.heap.size Y Y.drew := below_drew _ _
      go_upto_region 4 with (fail)
      go_cut [51] (fun t wx => t = .bool false ∧ Hid (Below Y.heap.size Y wx))
      case first =>
        cases hsm : same e0 e1 with
        | false =>
          have HC2 := Lib.hid (fun W (hW : Below Y.heap.size Y W) => show Calls Tryd.prog 29 #[.agg #[.int .u8 e0.v, .int .u8 e0.k, .slice A0 e0.ns.length c0, .slice B0 e0.ts.length g0], .agg #[.int .u8 e1.v, .int .u8 e1.k, .slice A1 e1.ns.length c1, .slice B1 e1.ts.length g1]] W fun z w' => z = .returned (.bool false) ∧ Below W.heap.size W w' from by
            have h := same_any _ _ _ _ e0 _ _ _ _ e1 (by have := HL0.out; have := HL1.out; omega) (by have := HL0.out; have := HL1.out; omega) (by have := HL0.out; have := HL1.out; omega) (by have := HL0.out; have := HL1.out; omega) W (HY0.out.below (below_step HB.out hW)) (HY1.out.below (below_step HB.out hW))
            rw [hsm] at h
            exact h)
          have HC3 := Lib.hid (fun W (hW : Below Y.heap.size Y W) => show Calls Tryd.prog 29 #[.agg #[.int .u8 e1.v, .int .u8 e1.k, .slice A1 e1.ns.length c1, .slice B1 e1.ts.length g1], .agg #[.int .u8 e0.v, .int .u8 e0.k, .slice A0 e0.ns.length c0, .slice B0 e0.ts.length g0]] W fun z w' => z = .returned (.bool false) ∧ Below W.heap.size W w' from by
            have h := same_any _ _ _ _ e1 _ _ _ _ e0 (by have := HL0.out; have := HL1.out; omega) (by have := HL0.out; have := HL1.out; omega) (by have := HL0.out; have := HL1.out; omega) (by have := HL0.out; have := HL1.out; omega) W (HY1.out.below (below_step HB.out hW)) (HY0.out.below (below_step HB.out hW))
            rw [same_comm e1 e0, hsm] at h
            exact h)
          clear hsm
          refine wp_region_held_drew (S := (fun w' => Below Y.heap.size Y w' ∧ w'.cell? ⟨w.heap.size, 0, none⟩ = some (.int .u8 e0.v) ∧ w'.cell? ⟨w.heap.size, 1, none⟩ = some (.int .u8 e0.k) ∧ w'.cell? ⟨w.heap.size, 2, none⟩ = some (.slice A0 e0.ns.length c0) ∧ w'.cell? ⟨w.heap.size, 3, none⟩ = some (.slice B0 e0.ts.length g0) ∧ w'.cell? ⟨(w.heap.size + 1), 0, none⟩ = some (.int .u8 e1.v) ∧ w'.cell? ⟨(w.heap.size + 1), 1, none⟩ = some (.int .u8 e1.k) ∧ w'.cell? ⟨(w.heap.size + 1), 2, none⟩ = some (.slice A1 e1.ns.length c1) ∧ w'.cell? ⟨(w.heap.size + 1), 3, none⟩ = some (.slice B1 e1.ts.length g1) ∧ w'.cell? ⟨b9, 0, none⟩ = some (.int .u8 e0.v) ∧ w'.cell? ⟨b9, 1, none⟩ = some (.int .u8 e0.k) ∧ w'.cell? ⟨b9, 2, none⟩ = some (.slice Ax e0.ns.length cx) ∧ w'.cell? ⟨b9, 3, none⟩ = some (.slice Bx e0.ts.length dx))) (by kernel_rfl) (HK.out _ g3) (fun hHeld => ?_)
          refine wpAnyH_take (i := 0) (oi := { dst := some 27, op := Go.Op.load 44 (Go.Operand.tmp 4), type := 44, pos := "outright.go:140", after := #[], guard := none }) (v := ?v1) rfl (by kernel_rfl) (by kernel_rfl) (by kernel_rfl) (fun _ _ _ h => h) (Or.inl ⟨by rfl, ?hy1⟩) (by assumption) ?rest1
          case hy1 => (intro w hSw; obtain ⟨s0, s1, s2, s3, s4, s5, s6, s7, s8, s9, s10, s11, s12⟩ := hSw; go_simp; try with_reducible rfl)
          try simp only [Act.put, List.setIfInBounds_toArray, List.set_cons_zero, List.set_cons_succ]
          refine wpAnyH_take (i := 1) (oi := { dst := some 28, op := Go.Op.load 44 (Go.Operand.tmp 9), type := 44, pos := "outright.go:140", after := #[], guard := none }) (v := ?v2) rfl (by kernel_rfl) (by kernel_rfl) (by kernel_rfl) (fun _ _ _ h => h) (Or.inl ⟨by rfl, ?hy2⟩) (by assumption) ?rest2
          case hy2 => (intro w hSw; obtain ⟨s0, s1, s2, s3, s4, s5, s6, s7, s8, s9, s10, s11, s12⟩ := hSw; go_simp; try with_reducible rfl)
          try simp only [Act.put, List.setIfInBounds_toArray, List.set_cons_zero, List.set_cons_succ]
          refine wpAnyH_ready (rs := [2]) (by kernel_rfl) (by simp) ?_
          refine AllReadyH.cons (o := { dst := some 29, op := Go.Op.call { callee := Go.Callee.value (Go.Operand.func 29), args := #[Go.Operand.tmp 27, Go.Operand.tmp 28], argTypes := #[44, 44] }, type := 4, pos := "outright.go:140", after := #[{ on := 0, ground := Go.Ground.data }, { on := 1, ground := Go.Ground.data }], guard := none }) rfl (fun K hK => ?_) AllReadyH.nil
          go_simp
          go_at_call 29
          refine (HC1.out _ g3).mono ?_
          rintro z V4 ⟨rfl, hb⟩
          have g4 := below_step g3 hb
          refine hK.out _ _ (HK.out _ g4) (fun hHeld4 => ?_)
          clear hK K hb
          try simp only [Act.put, List.setIfInBounds_toArray, List.set_cons_zero, List.set_cons_succ]
          refine wpAnyH_take (i := 3) (oi := { dst := some 30, op := Go.Op.unOp Go.UnOp.not 4 (Go.Operand.tmp 29), type := 4, pos := "outright.go:140", after := #[{ on := 2, ground := Go.Ground.data }], guard := none }) (v := ?v3) rfl (by kernel_rfl) (by kernel_rfl) (by kernel_rfl) (fun _ _ _ h => h) (Or.inl ⟨by rfl, ?hy3⟩) (by assumption) ?rest3
          case hy3 => (intro w hSw; obtain ⟨s0, s1, s2, s3, s4, s5, s6, s7, s8, s9, s10, s11, s12⟩ := hSw; go_simp; try with_reducible rfl)
          try simp only [Act.put, List.setIfInBounds_toArray, List.set_cons_zero, List.set_cons_succ]
          refine wpAnyH_take (i := 4) (oi := { dst := some 31, op := Go.Op.move (Go.Operand.tmp 30), type := 4, pos := "outright.go:140", after := #[{ on := 3, ground := Go.Ground.data }, { on := 2, ground := Go.Ground.chain }], guard := none }) (v := ?v4) rfl (by kernel_rfl) (by kernel_rfl) (by kernel_rfl) (fun _ _ _ h => h) (Or.inl ⟨by rfl, ?hy4⟩) (by assumption) ?rest4
          case hy4 => (intro w hSw; obtain ⟨s0, s1, s2, s3, s4, s5, s6, s7, s8, s9, s10, s11, s12⟩ := hSw; go_simp; try with_reducible rfl)
          try simp only [Act.put, List.setIfInBounds_toArray, List.set_cons_zero, List.set_cons_succ]
          refine wpAnyH_take (i := 5) (oi := { dst := some 32, op := Go.Op.load 44 (Go.Operand.tmp 4), type := 44, pos := "outright.go:140", after := #[{ on := 4, ground := Go.Ground.guard }], guard := some (4, false) }) (v := ?v5) rfl (by kernel_rfl) (by kernel_rfl) (by kernel_rfl) (fun _ _ _ h => h) (Or.inl ⟨by rfl, ?hy5⟩) (by assumption) ?rest5
          case hy5 => (intro w hSw; obtain ⟨s0, s1, s2, s3, s4, s5, s6, s7, s8, s9, s10, s11, s12⟩ := hSw; go_simp; try with_reducible rfl)
          try simp only [Act.put, List.setIfInBounds_toArray, List.set_cons_zero, List.set_cons_succ]
          refine wpAnyH_take (i := 6) (oi := { dst := some 33, op := Go.Op.load 44 (Go.Operand.tmp 5), type := 44, pos := "outright.go:140", after := #[{ on := 4, ground := Go.Ground.guard }], guard := some (4, false) }) (v := ?v6) rfl (by kernel_rfl) (by kernel_rfl) (by kernel_rfl) (fun _ _ _ h => h) (Or.inl ⟨by rfl, ?hy6⟩) (by assumption) ?rest6
          case hy6 => (intro w hSw; obtain ⟨s0, s1, s2, s3, s4, s5, s6, s7, s8, s9, s10, s11, s12⟩ := hSw; go_simp; try with_reducible rfl)
          try simp only [Act.put, List.setIfInBounds_toArray, List.set_cons_zero, List.set_cons_succ]
          refine wpAnyH_take (i := 8) (oi := { dst := some 35, op := Go.Op.load 44 (Go.Operand.tmp 5), type := 44, pos := "outright.go:140", after := #[{ on := 4, ground := Go.Ground.guard }], guard := some (4, false) }) (v := ?v7) rfl (by kernel_rfl) (by kernel_rfl) (by kernel_rfl) (fun _ _ _ h => h) (Or.inl ⟨by rfl, ?hy7⟩) (by assumption) ?rest7
          case hy7 => (intro w hSw; obtain ⟨s0, s1, s2, s3, s4, s5, s6, s7, s8, s9, s10, s11, s12⟩ := hSw; go_simp; try with_reducible rfl)
          try simp only [Act.put, List.setIfInBounds_toArray, List.set_cons_zero, List.set_cons_succ]
          refine wpAnyH_take (i := 9) (oi := { dst := some 36, op := Go.Op.load 44 (Go.Operand.tmp 4), type := 44, pos := "outright.go:140", after := #[{ on := 4, ground := Go.Ground.guard }], guard := some (4, false) }) (v := ?v8) rfl (by kernel_rfl) (by kernel_rfl) (by kernel_rfl) (fun _ _ _ h => h) (Or.inl ⟨by rfl, ?hy8⟩) (by assumption) ?rest8
          case hy8 => (intro w hSw; obtain ⟨s0, s1, s2, s3, s4, s5, s6, s7, s8, s9, s10, s11, s12⟩ := hSw; go_simp; try with_reducible rfl)
          try simp only [Act.put, List.setIfInBounds_toArray, List.set_cons_zero, List.set_cons_succ]
          refine wpAnyH_ready (rs := [7]) (by kernel_rfl) (by simp) ?_
          refine AllReadyH.cons (o := { dst := some 34, op := Go.Op.call { callee := Go.Callee.value (Go.Operand.func 29), args := #[Go.Operand.tmp 32, Go.Operand.tmp 33], argTypes := #[44, 44] }, type := 4, pos := "outright.go:140", after := #[{ on := 5, ground := Go.Ground.data }, { on := 6, ground := Go.Ground.data }, { on := 4, ground := Go.Ground.chain }, { on := 4, ground := Go.Ground.guard }], guard := some (4, false) }) rfl (fun K hK => ?_) AllReadyH.nil
          go_simp
          go_at_call 29
          refine (HC2.out _ g4).mono ?_
          rintro z V5 ⟨rfl, hb⟩
          have g5 := below_step g4 hb
          refine hK.out _ _ (HK.out _ g5) (fun hHeld5 => ?_)
          clear hK K hb
          try simp only [Act.put, List.setIfInBounds_toArray, List.set_cons_zero, List.set_cons_succ]
          refine wpAnyH_ready (rs := [10]) (by kernel_rfl) (by simp) ?_
          refine AllReadyH.cons (o := { dst := some 37, op := Go.Op.call { callee := Go.Callee.value (Go.Operand.func 29), args := #[Go.Operand.tmp 35, Go.Operand.tmp 36], argTypes := #[44, 44] }, type := 4, pos := "outright.go:140", after := #[{ on := 8, ground := Go.Ground.data }, { on := 9, ground := Go.Ground.data }, { on := 7, ground := Go.Ground.chain }, { on := 4, ground := Go.Ground.guard }], guard := some (4, false) }) rfl (fun K hK => ?_) AllReadyH.nil
          go_simp
          go_at_call 29
          refine (HC3.out _ g5).mono ?_
          rintro z V6 ⟨rfl, hb⟩
          have g6 := below_step g5 hb
          refine hK.out _ _ (HK.out _ g6) (fun hHeld6 => ?_)
          clear hK K hb
          try simp only [Act.put, List.setIfInBounds_toArray, List.set_cons_zero, List.set_cons_succ]
          refine wpAnyH_take (i := 11) (oi := { dst := some 38, op := Go.Op.binOp Go.BinOp.neq 4 (Go.Operand.tmp 34) (Go.Operand.tmp 37) 4, type := 4, pos := "outright.go:140", after := #[{ on := 7, ground := Go.Ground.data }, { on := 10, ground := Go.Ground.data }, { on := 4, ground := Go.Ground.guard }], guard := some (4, false) }) (v := ?v9) rfl (by kernel_rfl) (by kernel_rfl) (by kernel_rfl) (fun _ _ _ h => h) (Or.inl ⟨by rfl, ?hy9⟩) (by assumption) ?rest9
          case hy9 => (intro w hSw; obtain ⟨s0, s1, s2, s3, s4, s5, s6, s7, s8, s9, s10, s11, s12⟩ := hSw; go_simp; try with_reducible rfl)
          try simp only [Act.put, List.setIfInBounds_toArray, List.set_cons_zero, List.set_cons_succ]
          refine wpAnyH_take (i := 12) (oi := { dst := some 39, op := Go.Op.pick (Go.Operand.tmp 31) (Go.Operand.const (Go.Value.bool true)) (Go.Operand.tmp 38), type := 4, pos := "outright.go:140", after := #[{ on := 4, ground := Go.Ground.data }, { on := 11, ground := Go.Ground.data }], guard := none }) (v := ?v10) rfl (by kernel_rfl) (by kernel_rfl) (by kernel_rfl) (fun _ _ _ h => h) (Or.inl ⟨by rfl, ?hy10⟩) (by assumption) ?rest10
          case hy10 => (intro w hSw; obtain ⟨s0, s1, s2, s3, s4, s5, s6, s7, s8, s9, s10, s11, s12⟩ := hSw; go_simp; try with_reducible rfl)
          try simp only [Act.put, List.setIfInBounds_toArray, List.set_cons_zero, List.set_cons_succ]
          refine wpAnyH_take (i := 13) (oi := { dst := some 40, op := Go.Op.move (Go.Operand.tmp 39), type := 4, pos := "outright.go:140", after := #[{ on := 12, ground := Go.Ground.data }, { on := 10, ground := Go.Ground.chain }], guard := none }) (v := ?v11) rfl (by kernel_rfl) (by kernel_rfl) (by kernel_rfl) (fun _ _ _ h => h) (Or.inl ⟨by rfl, ?hy11⟩) (by assumption) ?rest11
          case hy11 => (intro w hSw; obtain ⟨s0, s1, s2, s3, s4, s5, s6, s7, s8, s9, s10, s11, s12⟩ := hSw; go_simp; try with_reducible rfl)
          try simp only [Act.put, List.setIfInBounds_toArray, List.set_cons_zero, List.set_cons_succ]
          refine wpAnyH_take (i := 14) (oi := { dst := some 41, op := Go.Op.load 44 (Go.Operand.tmp 4), type := 44, pos := "outright.go:140", after := #[{ on := 13, ground := Go.Ground.guard }], guard := some (13, false) }) (v := ?v12) rfl (by kernel_rfl) (by kernel_rfl) (by kernel_rfl) (fun _ _ _ h => h) (Or.inl ⟨by rfl, ?hy12⟩) (by assumption) ?rest12
          case hy12 => (intro w hSw; obtain ⟨s0, s1, s2, s3, s4, s5, s6, s7, s8, s9, s10, s11, s12⟩ := hSw; go_simp; try with_reducible rfl)
          try simp only [Act.put, List.setIfInBounds_toArray, List.set_cons_zero, List.set_cons_succ]
          refine wpAnyH_take (i := 15) (oi := { dst := some 42, op := Go.Op.load 44 (Go.Operand.tmp 5), type := 44, pos := "outright.go:140", after := #[{ on := 13, ground := Go.Ground.guard }], guard := some (13, false) }) (v := ?v13) rfl (by kernel_rfl) (by kernel_rfl) (by kernel_rfl) (fun _ _ _ h => h) (Or.inl ⟨by rfl, ?hy13⟩) (by assumption) ?rest13
          case hy13 => (intro w hSw; obtain ⟨s0, s1, s2, s3, s4, s5, s6, s7, s8, s9, s10, s11, s12⟩ := hSw; go_simp; try with_reducible rfl)
          try simp only [Act.put, List.setIfInBounds_toArray, List.set_cons_zero, List.set_cons_succ]
          refine wpAnyH_ready (rs := [16]) (by kernel_rfl) (by simp) ?_
          refine AllReadyH.cons (o := { dst := some 43, op := Go.Op.call { callee := Go.Callee.value (Go.Operand.func 29), args := #[Go.Operand.tmp 41, Go.Operand.tmp 42], argTypes := #[44, 44] }, type := 4, pos := "outright.go:140", after := #[{ on := 14, ground := Go.Ground.data }, { on := 15, ground := Go.Ground.data }, { on := 13, ground := Go.Ground.chain }, { on := 13, ground := Go.Ground.guard }], guard := some (13, false) }) rfl (fun K hK => ?_) AllReadyH.nil
          go_simp
          go_at_call 29
          refine (HC2.out _ g6).mono ?_
          rintro z V7 ⟨rfl, hb⟩
          have g7 := below_step g6 hb
          refine hK.out _ _ (HK.out _ g7) (fun hHeld7 => ?_)
          clear hK K hb
          try simp only [Act.put, List.setIfInBounds_toArray, List.set_cons_zero, List.set_cons_succ]
          refine wpAnyH_take (i := 17) (oi := { dst := some 44, op := Go.Op.move (Go.Operand.tmp 43), type := 4, pos := "outright.go:140", after := #[{ on := 16, ground := Go.Ground.data }, { on := 16, ground := Go.Ground.chain }, { on := 13, ground := Go.Ground.guard }], guard := some (13, false) }) (v := ?v14) rfl (by kernel_rfl) (by kernel_rfl) (by kernel_rfl) (fun _ _ _ h => h) (Or.inl ⟨by rfl, ?hy14⟩) (by assumption) ?rest14
          case hy14 => (intro w hSw; obtain ⟨s0, s1, s2, s3, s4, s5, s6, s7, s8, s9, s10, s11, s12⟩ := hSw; go_simp; try with_reducible rfl)
          try simp only [Act.put, List.setIfInBounds_toArray, List.set_cons_zero, List.set_cons_succ]
          refine wpAnyH_take (i := 18) (oi := { dst := some 45, op := Go.Op.load 44 (Go.Operand.tmp 4), type := 44, pos := "outright.go:140", after := #[{ on := 17, ground := Go.Ground.guard }], guard := some (17, true) }) (v := undef) rfl (by kernel_rfl) (by kernel_rfl) (by kernel_rfl) (fun _ _ _ h => h) (Or.inr ⟨by rfl, rfl⟩) (by assumption) ?_
          try simp only [Act.put, List.setIfInBounds_toArray, List.set_cons_zero, List.set_cons_succ]
          refine wpAnyH_take (i := 19) (oi := { dst := some 46, op := Go.Op.call { callee := Go.Callee.value (Go.Operand.func 25), args := #[Go.Operand.tmp 45], argTypes := #[44] }, type := 4, pos := "outright.go:140", after := #[{ on := 18, ground := Go.Ground.data }, { on := 17, ground := Go.Ground.chain }, { on := 17, ground := Go.Ground.guard }], guard := some (17, true) }) (v := undef) rfl (by kernel_rfl) (by kernel_rfl) (by kernel_rfl) (fun _ _ _ h => h) (Or.inr ⟨by rfl, rfl⟩) (by assumption) ?_
          try simp only [Act.put, List.setIfInBounds_toArray, List.set_cons_zero, List.set_cons_succ]
          refine wpAnyH_take (i := 20) (oi := { dst := some 47, op := Go.Op.load 44 (Go.Operand.tmp 5), type := 44, pos := "outright.go:140", after := #[{ on := 17, ground := Go.Ground.guard }], guard := some (17, true) }) (v := undef) rfl (by kernel_rfl) (by kernel_rfl) (by kernel_rfl) (fun _ _ _ h => h) (Or.inr ⟨by rfl, rfl⟩) (by assumption) ?_
          try simp only [Act.put, List.setIfInBounds_toArray, List.set_cons_zero, List.set_cons_succ]
          refine wpAnyH_take (i := 21) (oi := { dst := some 48, op := Go.Op.call { callee := Go.Callee.value (Go.Operand.func 25), args := #[Go.Operand.tmp 47], argTypes := #[44] }, type := 4, pos := "outright.go:140", after := #[{ on := 20, ground := Go.Ground.data }, { on := 19, ground := Go.Ground.chain }, { on := 17, ground := Go.Ground.guard }], guard := some (17, true) }) (v := undef) rfl (by kernel_rfl) (by kernel_rfl) (by kernel_rfl) (fun _ _ _ h => h) (Or.inr ⟨by rfl, rfl⟩) (by assumption) ?_
          try simp only [Act.put, List.setIfInBounds_toArray, List.set_cons_zero, List.set_cons_succ]
          refine wpAnyH_take (i := 22) (oi := { dst := some 49, op := Go.Op.binOp Go.BinOp.neq 4 (Go.Operand.tmp 46) (Go.Operand.tmp 48) 4, type := 4, pos := "outright.go:140", after := #[{ on := 19, ground := Go.Ground.data }, { on := 21, ground := Go.Ground.data }, { on := 17, ground := Go.Ground.guard }], guard := some (17, true) }) (v := undef) rfl (by kernel_rfl) (by kernel_rfl) (by kernel_rfl) (fun _ _ _ h => h) (Or.inr ⟨by rfl, rfl⟩) (by assumption) ?_
          try simp only [Act.put, List.setIfInBounds_toArray, List.set_cons_zero, List.set_cons_succ]
          refine wpAnyH_take (i := 23) (oi := { dst := some 50, op := Go.Op.pick (Go.Operand.tmp 44) (Go.Operand.tmp 49) (Go.Operand.const (Go.Value.bool false)), type := 4, pos := "outright.go:140", after := #[{ on := 17, ground := Go.Ground.data }, { on := 22, ground := Go.Ground.data }, { on := 13, ground := Go.Ground.guard }], guard := some (13, false) }) (v := ?v20) rfl (by kernel_rfl) (by kernel_rfl) (by kernel_rfl) (fun _ _ _ h => h) (Or.inl ⟨by rfl, ?hy20⟩) (by assumption) ?rest20
          case hy20 => (intro w hSw; obtain ⟨s0, s1, s2, s3, s4, s5, s6, s7, s8, s9, s10, s11, s12⟩ := hSw; go_simp; try with_reducible rfl)
          try simp only [Act.put, List.setIfInBounds_toArray, List.set_cons_zero, List.set_cons_succ]
          refine wpAnyH_take (i := 24) (oi := { dst := some 51, op := Go.Op.pick (Go.Operand.tmp 40) (Go.Operand.const (Go.Value.bool true)) (Go.Operand.tmp 50), type := 4, pos := "outright.go:140", after := #[{ on := 13, ground := Go.Ground.data }, { on := 23, ground := Go.Ground.data }], guard := none }) (v := ?v21) rfl (by kernel_rfl) (by kernel_rfl) (by kernel_rfl) (fun _ _ _ h => h) (Or.inl ⟨by rfl, ?hy21⟩) (by assumption) ?rest21
          case hy21 => (intro w hSw; obtain ⟨s0, s1, s2, s3, s4, s5, s6, s7, s8, s9, s10, s11, s12⟩ := hSw; go_simp; try with_reducible rfl)
          try simp only [Act.put, List.setIfInBounds_toArray, List.set_cons_zero, List.set_cons_succ]
          refine wpAnyH_done (by kernel_rfl) ?_ _
          have HG := Lib.hid g7
          go_wp2_with fail
          go_meet
          exact ⟨rfl, HG⟩
        | true =>
          have HC2 := Lib.hid (fun W (hW : Below Y.heap.size Y W) => show Calls Tryd.prog 29 #[.agg #[.int .u8 e0.v, .int .u8 e0.k, .slice A0 e0.ns.length c0, .slice B0 e0.ts.length g0], .agg #[.int .u8 e1.v, .int .u8 e1.k, .slice A1 e1.ns.length c1, .slice B1 e1.ts.length g1]] W fun z w' => z = .returned (.bool true) ∧ Below W.heap.size W w' from by
            have h := same_any _ _ _ _ e0 _ _ _ _ e1 (by have := HL0.out; have := HL1.out; omega) (by have := HL0.out; have := HL1.out; omega) (by have := HL0.out; have := HL1.out; omega) (by have := HL0.out; have := HL1.out; omega) W (HY0.out.below (below_step HB.out hW)) (HY1.out.below (below_step HB.out hW))
            rw [hsm] at h
            exact h)
          have HC3 := Lib.hid (fun W (hW : Below Y.heap.size Y W) => show Calls Tryd.prog 29 #[.agg #[.int .u8 e1.v, .int .u8 e1.k, .slice A1 e1.ns.length c1, .slice B1 e1.ts.length g1], .agg #[.int .u8 e0.v, .int .u8 e0.k, .slice A0 e0.ns.length c0, .slice B0 e0.ts.length g0]] W fun z w' => z = .returned (.bool true) ∧ Below W.heap.size W w' from by
            have h := same_any _ _ _ _ e1 _ _ _ _ e0 (by have := HL0.out; have := HL1.out; omega) (by have := HL0.out; have := HL1.out; omega) (by have := HL0.out; have := HL1.out; omega) (by have := HL0.out; have := HL1.out; omega) W (HY1.out.below (below_step HB.out hW)) (HY0.out.below (below_step HB.out hW))
            rw [same_comm e1 e0, hsm] at h
            exact h)
          have hef := (same_iff e0 e1).1 hsm
          have HM0 := Lib.hid (fun W (hW : Below Y.heap.size Y W) => show Calls Tryd.prog 25 #[.agg #[.int .u8 e0.v, .int .u8 e0.k, .slice A0 e0.ns.length c0, .slice B0 e0.ts.length g0]] W fun z w' => z = .returned (.bool (may e0)) ∧ Below W.heap.size W w' from may_any _ _ _ _ e0 (by have := HL0.out; omega) W (HE.out.below (below_step HB.out hW)) (HY0.out.below (below_step HB.out hW)))
          have HM1 := Lib.hid (fun W (hW : Below Y.heap.size Y W) => show Calls Tryd.prog 25 #[.agg #[.int .u8 e1.v, .int .u8 e1.k, .slice A1 e1.ns.length c1, .slice B1 e1.ts.length g1]] W fun z w' => z = .returned (.bool (may e0)) ∧ Below W.heap.size W w' from by
            have h := may_any _ _ _ _ e1 (by have := HL1.out; omega) W (HE.out.below (below_step HB.out hW)) (HY1.out.below (below_step HB.out hW))
            rw [show may e1 = may e0 from by rw [hef]] at h
            exact h)
          generalize may e0 = m at HM0 HM1
          have hmm : (m != m) = false := by cases m <;> rfl
          clear hef
          clear hsm
          refine wp_region_held_drew (S := (fun w' => Below Y.heap.size Y w' ∧ w'.cell? ⟨w.heap.size, 0, none⟩ = some (.int .u8 e0.v) ∧ w'.cell? ⟨w.heap.size, 1, none⟩ = some (.int .u8 e0.k) ∧ w'.cell? ⟨w.heap.size, 2, none⟩ = some (.slice A0 e0.ns.length c0) ∧ w'.cell? ⟨w.heap.size, 3, none⟩ = some (.slice B0 e0.ts.length g0) ∧ w'.cell? ⟨(w.heap.size + 1), 0, none⟩ = some (.int .u8 e1.v) ∧ w'.cell? ⟨(w.heap.size + 1), 1, none⟩ = some (.int .u8 e1.k) ∧ w'.cell? ⟨(w.heap.size + 1), 2, none⟩ = some (.slice A1 e1.ns.length c1) ∧ w'.cell? ⟨(w.heap.size + 1), 3, none⟩ = some (.slice B1 e1.ts.length g1) ∧ w'.cell? ⟨b9, 0, none⟩ = some (.int .u8 e0.v) ∧ w'.cell? ⟨b9, 1, none⟩ = some (.int .u8 e0.k) ∧ w'.cell? ⟨b9, 2, none⟩ = some (.slice Ax e0.ns.length cx) ∧ w'.cell? ⟨b9, 3, none⟩ = some (.slice Bx e0.ts.length dx))) (by kernel_rfl) (HK.out _ g3) (fun hHeld => ?_)
          refine wpAnyH_take (i := 0) (oi := { dst := some 27, op := Go.Op.load 44 (Go.Operand.tmp 4), type := 44, pos := "outright.go:140", after := #[], guard := none }) (v := ?v22) rfl (by kernel_rfl) (by kernel_rfl) (by kernel_rfl) (fun _ _ _ h => h) (Or.inl ⟨by rfl, ?hy22⟩) (by assumption) ?rest22
          case hy22 => (intro w hSw; obtain ⟨s0, s1, s2, s3, s4, s5, s6, s7, s8, s9, s10, s11, s12⟩ := hSw; go_simp; try with_reducible rfl)
          try simp only [Act.put, List.setIfInBounds_toArray, List.set_cons_zero, List.set_cons_succ]
          refine wpAnyH_take (i := 1) (oi := { dst := some 28, op := Go.Op.load 44 (Go.Operand.tmp 9), type := 44, pos := "outright.go:140", after := #[], guard := none }) (v := ?v23) rfl (by kernel_rfl) (by kernel_rfl) (by kernel_rfl) (fun _ _ _ h => h) (Or.inl ⟨by rfl, ?hy23⟩) (by assumption) ?rest23
          case hy23 => (intro w hSw; obtain ⟨s0, s1, s2, s3, s4, s5, s6, s7, s8, s9, s10, s11, s12⟩ := hSw; go_simp; try with_reducible rfl)
          try simp only [Act.put, List.setIfInBounds_toArray, List.set_cons_zero, List.set_cons_succ]
          refine wpAnyH_ready (rs := [2]) (by kernel_rfl) (by simp) ?_
          refine AllReadyH.cons (o := { dst := some 29, op := Go.Op.call { callee := Go.Callee.value (Go.Operand.func 29), args := #[Go.Operand.tmp 27, Go.Operand.tmp 28], argTypes := #[44, 44] }, type := 4, pos := "outright.go:140", after := #[{ on := 0, ground := Go.Ground.data }, { on := 1, ground := Go.Ground.data }], guard := none }) rfl (fun K hK => ?_) AllReadyH.nil
          go_simp
          go_at_call 29
          refine (HC1.out _ g3).mono ?_
          rintro z V4 ⟨rfl, hb⟩
          have g4 := below_step g3 hb
          refine hK.out _ _ (HK.out _ g4) (fun hHeld4 => ?_)
          clear hK K hb
          try simp only [Act.put, List.setIfInBounds_toArray, List.set_cons_zero, List.set_cons_succ]
          refine wpAnyH_take (i := 3) (oi := { dst := some 30, op := Go.Op.unOp Go.UnOp.not 4 (Go.Operand.tmp 29), type := 4, pos := "outright.go:140", after := #[{ on := 2, ground := Go.Ground.data }], guard := none }) (v := ?v24) rfl (by kernel_rfl) (by kernel_rfl) (by kernel_rfl) (fun _ _ _ h => h) (Or.inl ⟨by rfl, ?hy24⟩) (by assumption) ?rest24
          case hy24 => (intro w hSw; obtain ⟨s0, s1, s2, s3, s4, s5, s6, s7, s8, s9, s10, s11, s12⟩ := hSw; go_simp; try with_reducible rfl)
          try simp only [Act.put, List.setIfInBounds_toArray, List.set_cons_zero, List.set_cons_succ]
          refine wpAnyH_take (i := 4) (oi := { dst := some 31, op := Go.Op.move (Go.Operand.tmp 30), type := 4, pos := "outright.go:140", after := #[{ on := 3, ground := Go.Ground.data }, { on := 2, ground := Go.Ground.chain }], guard := none }) (v := ?v25) rfl (by kernel_rfl) (by kernel_rfl) (by kernel_rfl) (fun _ _ _ h => h) (Or.inl ⟨by rfl, ?hy25⟩) (by assumption) ?rest25
          case hy25 => (intro w hSw; obtain ⟨s0, s1, s2, s3, s4, s5, s6, s7, s8, s9, s10, s11, s12⟩ := hSw; go_simp; try with_reducible rfl)
          try simp only [Act.put, List.setIfInBounds_toArray, List.set_cons_zero, List.set_cons_succ]
          refine wpAnyH_take (i := 5) (oi := { dst := some 32, op := Go.Op.load 44 (Go.Operand.tmp 4), type := 44, pos := "outright.go:140", after := #[{ on := 4, ground := Go.Ground.guard }], guard := some (4, false) }) (v := ?v26) rfl (by kernel_rfl) (by kernel_rfl) (by kernel_rfl) (fun _ _ _ h => h) (Or.inl ⟨by rfl, ?hy26⟩) (by assumption) ?rest26
          case hy26 => (intro w hSw; obtain ⟨s0, s1, s2, s3, s4, s5, s6, s7, s8, s9, s10, s11, s12⟩ := hSw; go_simp; try with_reducible rfl)
          try simp only [Act.put, List.setIfInBounds_toArray, List.set_cons_zero, List.set_cons_succ]
          refine wpAnyH_take (i := 6) (oi := { dst := some 33, op := Go.Op.load 44 (Go.Operand.tmp 5), type := 44, pos := "outright.go:140", after := #[{ on := 4, ground := Go.Ground.guard }], guard := some (4, false) }) (v := ?v27) rfl (by kernel_rfl) (by kernel_rfl) (by kernel_rfl) (fun _ _ _ h => h) (Or.inl ⟨by rfl, ?hy27⟩) (by assumption) ?rest27
          case hy27 => (intro w hSw; obtain ⟨s0, s1, s2, s3, s4, s5, s6, s7, s8, s9, s10, s11, s12⟩ := hSw; go_simp; try with_reducible rfl)
          try simp only [Act.put, List.setIfInBounds_toArray, List.set_cons_zero, List.set_cons_succ]
          refine wpAnyH_take (i := 8) (oi := { dst := some 35, op := Go.Op.load 44 (Go.Operand.tmp 5), type := 44, pos := "outright.go:140", after := #[{ on := 4, ground := Go.Ground.guard }], guard := some (4, false) }) (v := ?v28) rfl (by kernel_rfl) (by kernel_rfl) (by kernel_rfl) (fun _ _ _ h => h) (Or.inl ⟨by rfl, ?hy28⟩) (by assumption) ?rest28
          case hy28 => (intro w hSw; obtain ⟨s0, s1, s2, s3, s4, s5, s6, s7, s8, s9, s10, s11, s12⟩ := hSw; go_simp; try with_reducible rfl)
          try simp only [Act.put, List.setIfInBounds_toArray, List.set_cons_zero, List.set_cons_succ]
          refine wpAnyH_take (i := 9) (oi := { dst := some 36, op := Go.Op.load 44 (Go.Operand.tmp 4), type := 44, pos := "outright.go:140", after := #[{ on := 4, ground := Go.Ground.guard }], guard := some (4, false) }) (v := ?v29) rfl (by kernel_rfl) (by kernel_rfl) (by kernel_rfl) (fun _ _ _ h => h) (Or.inl ⟨by rfl, ?hy29⟩) (by assumption) ?rest29
          case hy29 => (intro w hSw; obtain ⟨s0, s1, s2, s3, s4, s5, s6, s7, s8, s9, s10, s11, s12⟩ := hSw; go_simp; try with_reducible rfl)
          try simp only [Act.put, List.setIfInBounds_toArray, List.set_cons_zero, List.set_cons_succ]
          refine wpAnyH_ready (rs := [7]) (by kernel_rfl) (by simp) ?_
          refine AllReadyH.cons (o := { dst := some 34, op := Go.Op.call { callee := Go.Callee.value (Go.Operand.func 29), args := #[Go.Operand.tmp 32, Go.Operand.tmp 33], argTypes := #[44, 44] }, type := 4, pos := "outright.go:140", after := #[{ on := 5, ground := Go.Ground.data }, { on := 6, ground := Go.Ground.data }, { on := 4, ground := Go.Ground.chain }, { on := 4, ground := Go.Ground.guard }], guard := some (4, false) }) rfl (fun K hK => ?_) AllReadyH.nil
          go_simp
          go_at_call 29
          refine (HC2.out _ g4).mono ?_
          rintro z V5 ⟨rfl, hb⟩
          have g5 := below_step g4 hb
          refine hK.out _ _ (HK.out _ g5) (fun hHeld5 => ?_)
          clear hK K hb
          try simp only [Act.put, List.setIfInBounds_toArray, List.set_cons_zero, List.set_cons_succ]
          refine wpAnyH_ready (rs := [10]) (by kernel_rfl) (by simp) ?_
          refine AllReadyH.cons (o := { dst := some 37, op := Go.Op.call { callee := Go.Callee.value (Go.Operand.func 29), args := #[Go.Operand.tmp 35, Go.Operand.tmp 36], argTypes := #[44, 44] }, type := 4, pos := "outright.go:140", after := #[{ on := 8, ground := Go.Ground.data }, { on := 9, ground := Go.Ground.data }, { on := 7, ground := Go.Ground.chain }, { on := 4, ground := Go.Ground.guard }], guard := some (4, false) }) rfl (fun K hK => ?_) AllReadyH.nil
          go_simp
          go_at_call 29
          refine (HC3.out _ g5).mono ?_
          rintro z V6 ⟨rfl, hb⟩
          have g6 := below_step g5 hb
          refine hK.out _ _ (HK.out _ g6) (fun hHeld6 => ?_)
          clear hK K hb
          try simp only [Act.put, List.setIfInBounds_toArray, List.set_cons_zero, List.set_cons_succ]
          refine wpAnyH_take (i := 11) (oi := { dst := some 38, op := Go.Op.binOp Go.BinOp.neq 4 (Go.Operand.tmp 34) (Go.Operand.tmp 37) 4, type := 4, pos := "outright.go:140", after := #[{ on := 7, ground := Go.Ground.data }, { on := 10, ground := Go.Ground.data }, { on := 4, ground := Go.Ground.guard }], guard := some (4, false) }) (v := ?v30) rfl (by kernel_rfl) (by kernel_rfl) (by kernel_rfl) (fun _ _ _ h => h) (Or.inl ⟨by rfl, ?hy30⟩) (by assumption) ?rest30
          case hy30 => (intro w hSw; obtain ⟨s0, s1, s2, s3, s4, s5, s6, s7, s8, s9, s10, s11, s12⟩ := hSw; go_simp; try with_reducible rfl)
          try simp only [Act.put, List.setIfInBounds_toArray, List.set_cons_zero, List.set_cons_succ]
          refine wpAnyH_take (i := 12) (oi := { dst := some 39, op := Go.Op.pick (Go.Operand.tmp 31) (Go.Operand.const (Go.Value.bool true)) (Go.Operand.tmp 38), type := 4, pos := "outright.go:140", after := #[{ on := 4, ground := Go.Ground.data }, { on := 11, ground := Go.Ground.data }], guard := none }) (v := ?v31) rfl (by kernel_rfl) (by kernel_rfl) (by kernel_rfl) (fun _ _ _ h => h) (Or.inl ⟨by rfl, ?hy31⟩) (by assumption) ?rest31
          case hy31 => (intro w hSw; obtain ⟨s0, s1, s2, s3, s4, s5, s6, s7, s8, s9, s10, s11, s12⟩ := hSw; go_simp; try with_reducible rfl)
          try simp only [Act.put, List.setIfInBounds_toArray, List.set_cons_zero, List.set_cons_succ]
          refine wpAnyH_take (i := 13) (oi := { dst := some 40, op := Go.Op.move (Go.Operand.tmp 39), type := 4, pos := "outright.go:140", after := #[{ on := 12, ground := Go.Ground.data }, { on := 10, ground := Go.Ground.chain }], guard := none }) (v := ?v32) rfl (by kernel_rfl) (by kernel_rfl) (by kernel_rfl) (fun _ _ _ h => h) (Or.inl ⟨by rfl, ?hy32⟩) (by assumption) ?rest32
          case hy32 => (intro w hSw; obtain ⟨s0, s1, s2, s3, s4, s5, s6, s7, s8, s9, s10, s11, s12⟩ := hSw; go_simp; try with_reducible rfl)
          try simp only [Act.put, List.setIfInBounds_toArray, List.set_cons_zero, List.set_cons_succ]
          refine wpAnyH_take (i := 14) (oi := { dst := some 41, op := Go.Op.load 44 (Go.Operand.tmp 4), type := 44, pos := "outright.go:140", after := #[{ on := 13, ground := Go.Ground.guard }], guard := some (13, false) }) (v := ?v33) rfl (by kernel_rfl) (by kernel_rfl) (by kernel_rfl) (fun _ _ _ h => h) (Or.inl ⟨by rfl, ?hy33⟩) (by assumption) ?rest33
          case hy33 => (intro w hSw; obtain ⟨s0, s1, s2, s3, s4, s5, s6, s7, s8, s9, s10, s11, s12⟩ := hSw; go_simp; try with_reducible rfl)
          try simp only [Act.put, List.setIfInBounds_toArray, List.set_cons_zero, List.set_cons_succ]
          refine wpAnyH_take (i := 15) (oi := { dst := some 42, op := Go.Op.load 44 (Go.Operand.tmp 5), type := 44, pos := "outright.go:140", after := #[{ on := 13, ground := Go.Ground.guard }], guard := some (13, false) }) (v := ?v34) rfl (by kernel_rfl) (by kernel_rfl) (by kernel_rfl) (fun _ _ _ h => h) (Or.inl ⟨by rfl, ?hy34⟩) (by assumption) ?rest34
          case hy34 => (intro w hSw; obtain ⟨s0, s1, s2, s3, s4, s5, s6, s7, s8, s9, s10, s11, s12⟩ := hSw; go_simp; try with_reducible rfl)
          try simp only [Act.put, List.setIfInBounds_toArray, List.set_cons_zero, List.set_cons_succ]
          refine wpAnyH_ready (rs := [16]) (by kernel_rfl) (by simp) ?_
          refine AllReadyH.cons (o := { dst := some 43, op := Go.Op.call { callee := Go.Callee.value (Go.Operand.func 29), args := #[Go.Operand.tmp 41, Go.Operand.tmp 42], argTypes := #[44, 44] }, type := 4, pos := "outright.go:140", after := #[{ on := 14, ground := Go.Ground.data }, { on := 15, ground := Go.Ground.data }, { on := 13, ground := Go.Ground.chain }, { on := 13, ground := Go.Ground.guard }], guard := some (13, false) }) rfl (fun K hK => ?_) AllReadyH.nil
          go_simp
          go_at_call 29
          refine (HC2.out _ g6).mono ?_
          rintro z V7 ⟨rfl, hb⟩
          have g7 := below_step g6 hb
          refine hK.out _ _ (HK.out _ g7) (fun hHeld7 => ?_)
          clear hK K hb
          try simp only [Act.put, List.setIfInBounds_toArray, List.set_cons_zero, List.set_cons_succ]
          refine wpAnyH_take (i := 17) (oi := { dst := some 44, op := Go.Op.move (Go.Operand.tmp 43), type := 4, pos := "outright.go:140", after := #[{ on := 16, ground := Go.Ground.data }, { on := 16, ground := Go.Ground.chain }, { on := 13, ground := Go.Ground.guard }], guard := some (13, false) }) (v := ?v35) rfl (by kernel_rfl) (by kernel_rfl) (by kernel_rfl) (fun _ _ _ h => h) (Or.inl ⟨by rfl, ?hy35⟩) (by assumption) ?rest35
          case hy35 => (intro w hSw; obtain ⟨s0, s1, s2, s3, s4, s5, s6, s7, s8, s9, s10, s11, s12⟩ := hSw; go_simp; try with_reducible rfl)
          try simp only [Act.put, List.setIfInBounds_toArray, List.set_cons_zero, List.set_cons_succ]
          refine wpAnyH_take (i := 18) (oi := { dst := some 45, op := Go.Op.load 44 (Go.Operand.tmp 4), type := 44, pos := "outright.go:140", after := #[{ on := 17, ground := Go.Ground.guard }], guard := some (17, true) }) (v := ?v36) rfl (by kernel_rfl) (by kernel_rfl) (by kernel_rfl) (fun _ _ _ h => h) (Or.inl ⟨by rfl, ?hy36⟩) (by assumption) ?rest36
          case hy36 => (intro w hSw; obtain ⟨s0, s1, s2, s3, s4, s5, s6, s7, s8, s9, s10, s11, s12⟩ := hSw; go_simp; try with_reducible rfl)
          try simp only [Act.put, List.setIfInBounds_toArray, List.set_cons_zero, List.set_cons_succ]
          refine wpAnyH_take (i := 20) (oi := { dst := some 47, op := Go.Op.load 44 (Go.Operand.tmp 5), type := 44, pos := "outright.go:140", after := #[{ on := 17, ground := Go.Ground.guard }], guard := some (17, true) }) (v := ?v37) rfl (by kernel_rfl) (by kernel_rfl) (by kernel_rfl) (fun _ _ _ h => h) (Or.inl ⟨by rfl, ?hy37⟩) (by assumption) ?rest37
          case hy37 => (intro w hSw; obtain ⟨s0, s1, s2, s3, s4, s5, s6, s7, s8, s9, s10, s11, s12⟩ := hSw; go_simp; try with_reducible rfl)
          try simp only [Act.put, List.setIfInBounds_toArray, List.set_cons_zero, List.set_cons_succ]
          refine wpAnyH_ready (rs := [19]) (by kernel_rfl) (by simp) ?_
          refine AllReadyH.cons (o := { dst := some 46, op := Go.Op.call { callee := Go.Callee.value (Go.Operand.func 25), args := #[Go.Operand.tmp 45], argTypes := #[44] }, type := 4, pos := "outright.go:140", after := #[{ on := 18, ground := Go.Ground.data }, { on := 17, ground := Go.Ground.chain }, { on := 17, ground := Go.Ground.guard }], guard := some (17, true) }) rfl (fun K hK => ?_) AllReadyH.nil
          go_simp
          go_at_call 25
          refine (HM0.out _ g7).mono ?_
          rintro z V8 ⟨rfl, hb⟩
          have g8 := below_step g7 hb
          refine hK.out _ _ (HK.out _ g8) (fun hHeld8 => ?_)
          clear hK K hb
          try simp only [Act.put, List.setIfInBounds_toArray, List.set_cons_zero, List.set_cons_succ]
          refine wpAnyH_ready (rs := [21]) (by kernel_rfl) (by simp) ?_
          refine AllReadyH.cons (o := { dst := some 48, op := Go.Op.call { callee := Go.Callee.value (Go.Operand.func 25), args := #[Go.Operand.tmp 47], argTypes := #[44] }, type := 4, pos := "outright.go:140", after := #[{ on := 20, ground := Go.Ground.data }, { on := 19, ground := Go.Ground.chain }, { on := 17, ground := Go.Ground.guard }], guard := some (17, true) }) rfl (fun K hK => ?_) AllReadyH.nil
          go_simp
          go_at_call 25
          refine (HM1.out _ g8).mono ?_
          rintro z V9 ⟨rfl, hb⟩
          have g9 := below_step g8 hb
          refine hK.out _ _ (HK.out _ g9) (fun hHeld9 => ?_)
          clear hK K hb
          try simp only [Act.put, List.setIfInBounds_toArray, List.set_cons_zero, List.set_cons_succ]
          refine wpAnyH_take (i := 22) (oi := { dst := some 49, op := Go.Op.binOp Go.BinOp.neq 4 (Go.Operand.tmp 46) (Go.Operand.tmp 48) 4, type := 4, pos := "outright.go:140", after := #[{ on := 19, ground := Go.Ground.data }, { on := 21, ground := Go.Ground.data }, { on := 17, ground := Go.Ground.guard }], guard := some (17, true) }) (v := ?v38) rfl (by kernel_rfl) (by kernel_rfl) (by kernel_rfl) (fun _ _ _ h => h) (Or.inl ⟨by rfl, ?hy38⟩) (by assumption) ?rest38
          case hy38 => (intro w hSw; obtain ⟨s0, s1, s2, s3, s4, s5, s6, s7, s8, s9, s10, s11, s12⟩ := hSw; go_simp; try with_reducible rfl)
          try simp only [Act.put, List.setIfInBounds_toArray, List.set_cons_zero, List.set_cons_succ]
          refine wpAnyH_take (i := 23) (oi := { dst := some 50, op := Go.Op.pick (Go.Operand.tmp 44) (Go.Operand.tmp 49) (Go.Operand.const (Go.Value.bool false)), type := 4, pos := "outright.go:140", after := #[{ on := 17, ground := Go.Ground.data }, { on := 22, ground := Go.Ground.data }, { on := 13, ground := Go.Ground.guard }], guard := some (13, false) }) (v := ?v39) rfl (by kernel_rfl) (by kernel_rfl) (by kernel_rfl) (fun _ _ _ h => h) (Or.inl ⟨by rfl, ?hy39⟩) (by assumption) ?rest39
          case hy39 => (intro w hSw; obtain ⟨s0, s1, s2, s3, s4, s5, s6, s7, s8, s9, s10, s11, s12⟩ := hSw; go_simp; try with_reducible rfl)
          try simp only [Act.put, List.setIfInBounds_toArray, List.set_cons_zero, List.set_cons_succ]
          refine wpAnyH_take (i := 24) (oi := { dst := some 51, op := Go.Op.pick (Go.Operand.tmp 40) (Go.Operand.const (Go.Value.bool true)) (Go.Operand.tmp 50), type := 4, pos := "outright.go:140", after := #[{ on := 13, ground := Go.Ground.data }, { on := 23, ground := Go.Ground.data }], guard := none }) (v := ?v40) rfl (by kernel_rfl) (by kernel_rfl) (by kernel_rfl) (fun _ _ _ h => h) (Or.inl ⟨by rfl, ?hy40⟩) (by assumption) ?rest40
          case hy40 => (intro w hSw; obtain ⟨s0, s1, s2, s3, s4, s5, s6, s7, s8, s9, s10, s11, s12⟩ := hSw; go_simp; try with_reducible rfl)
          try simp only [Act.put, List.setIfInBounds_toArray, List.set_cons_zero, List.set_cons_succ]
          refine wpAnyH_done (by kernel_rfl) ?_ _
          have HG := Lib.hid g9
          go_wp2_with fail
          go_meet
          exact ⟨rfl, HG⟩
      case rest =>
        obtain ⟨rfl, HG⟩ := hcut
        clear HK HC1 HXE g3
        replace HP4 := Lib.hid (HP4.out.below HG.out)
        replace HP5 := Lib.hid (HP5.out.below HG.out)
        replace HB := Lib.hid (below_step HB.out HG.out)
        replace HXN := Lib.hid (HXN.out.below HG.out)
        replace HXT := Lib.hid (HXT.out.below HG.out)
        replace HP9 := Lib.hid (HP9.out.below HG.out)
        replace HF9 := Lib.hid (HF9.out.below HG.out)
        clear HG
        have HORD := Lib.hid (And.intro HS3.out HM.out)
        clear HS4 HM HS3
        have hzz := HF9.out.2 1
        obtain ⟨hp9_0, hp9_1, hp9_2, hp9_3⟩ := HP9.out
        go_upto_region 7 with (fail)
        clear hp9_0 hp9_1 hp9_2 hp9_3
        have ht := Touch.set wc b9 1 (.int .u8 (((e0.k : Int) + 1) % 256))
        have hp := HP9.out.set1 (.int .u8 (((e0.k : Int) + 1) % 256))
        have hf := HF9.out.set b9 1 (.int .u8 (((e0.k : Int) + 1) % 256))
        replace HP4 := Lib.hid (HP4.out.touch ht (by have hord := HORD.out; omega))
        replace HP5 := Lib.hid (HP5.out.touch ht (by have hord := HORD.out; omega))
        replace HB := Lib.hid (Touch.step HB.out ht (by have hord := HORD.out; omega))
        replace HXN := Lib.hid (HXN.out.touch ht (by have hord := HORD.out; omega))
        replace HXT := Lib.hid (HXT.out.touch ht (by have hord := HORD.out; omega))
        have HO2 := Lib.hid (And.intro HORD.out ht.size)
        clear HORD
        have HORD := HO2
        clear HO2
        replace HP9 := Lib.hid hp
        replace HF9 := Lib.hid hf
        clear ht hp hf hzz
        generalize wc.setCell ⟨b9, 1, none⟩ (.int .u8 (((e0.k : Int) + 1) % 256)) = Y6 at HP4 HP5 HB HXN HXT HP9 HF9 HORD ⊢
        obtain ⟨hp4_0, hp4_1, hp4_2, hp4_3⟩ := HP4.out
        go_wp2_with fail
        clear hp4_0 hp4_1 hp4_2 hp4_3
        have hpf := HF9.out.1
        refine (own_x A0 c0 B0 g0 e0 (by have := HL0.out; omega) (by have := HL0.out; omega) _ (HY0.out.below HB.out)).mono ?_; rintro z W5 ⟨Ay, cy, By, dy, my, rfl, hm1, hm2, hn, ht, hb⟩
        simp only [evV]
        replace HP4 := Lib.hid (HP4.out.below hb)
        replace HP5 := Lib.hid (HP5.out.below hb)
        replace HB := Lib.hid (below_step HB.out hb)
        replace HXN := Lib.hid (HXN.out.below hb)
        replace HXT := Lib.hid (HXT.out.below hb)
        replace HP9 := Lib.hid (HP9.out.below hb)
        replace HF9 := Lib.hid (HF9.out.below hb)
        have HyN := Lib.hid hn
        have HyT := Lib.hid ht
        have HO2 := Lib.hid (And.intro HORD.out (And.intro hpf (And.intro hm1 hm2)))
        clear hb hm1 hm2 hn ht hpf HORD
        have HORD := HO2
        clear HO2
        go_upto_region 8 with (fail)
        have hb := (Below.refl W5.heap.size W5).alloc (Nat.le_refl _) (.cells #[.int .u8 e0.v, .int .u8 e0.k, .slice Ay e0.ns.length cy, .slice By e0.ts.length dy] 44)
        have HPy := Lib.hid (show Four _ W5.heap.size _ _ _ _ from box4 W5 (.int .u8 e0.v) (.int .u8 e0.k) (.slice Ay e0.ns.length cy) (.slice By e0.ts.length dy) 44)
        have HFy := Lib.hid (free_new W5 #[.int .u8 e0.v, .int .u8 e0.k, .slice Ay e0.ns.length cy, .slice By e0.ts.length dy] 44)
        have HKy := Lib.hid (box_new W5 #[.int .u8 e0.v, .int .u8 e0.k, .slice Ay e0.ns.length cy, .slice By e0.ts.length dy])
        replace HP4 := Lib.hid (HP4.out.below hb)
        replace HP5 := Lib.hid (HP5.out.below hb)
        replace HB := Lib.hid (below_step HB.out hb)
        replace HXN := Lib.hid (HXN.out.below hb)
        replace HXT := Lib.hid (HXT.out.below hb)
        replace HP9 := Lib.hid (HP9.out.below hb)
        replace HF9 := Lib.hid (HF9.out.below hb)
        replace HyN := Lib.hid (HyN.out.below hb)
        replace HyT := Lib.hid (HyT.out.below hb)
        clear hb
        generalize hWs : W5.heap.size = b10 at HPy HFy HKy HyT HORD ⊢
        clear hWs
        generalize W5.alloc (.cells #[.int .u8 e0.v, .int .u8 e0.k, .slice Ay e0.ns.length cy, .slice By e0.ts.length dy] 44) = Y7 at HP4 HP5 HB HXN HXT HP9 HF9 HyN HyT HPy HFy HKy ⊢
        clear HKy
        have hzz := HFy.out.2 0
        obtain ⟨hpy_0, hpy_1, hpy_2, hpy_3⟩ := HPy.out
        go_upto_region 9 with (fail)
        clear hpy_0 hpy_1 hpy_2 hpy_3
        have ht := Touch.set Y7 b10 0 (.int .u8 (((e0.v : Int) + 1) % 256))
        have hp := HPy.out.set0 (.int .u8 (((e0.v : Int) + 1) % 256))
        have hf := HFy.out.set b10 0 (.int .u8 (((e0.v : Int) + 1) % 256))
        replace HP4 := Lib.hid (HP4.out.touch ht (by have hord := HORD.out; omega))
        replace HP5 := Lib.hid (HP5.out.touch ht (by have hord := HORD.out; omega))
        replace HB := Lib.hid (Touch.step HB.out ht (by have hord := HORD.out; omega))
        replace HXN := Lib.hid (HXN.out.touch ht (by have hord := HORD.out; omega))
        replace HXT := Lib.hid (HXT.out.touch ht (by have hord := HORD.out; omega))
        replace HP9 := Lib.hid (HP9.out.touch ht (by have hord := HORD.out; omega))
        replace HF9 := Lib.hid (HF9.out.touch ht (by have hord := HORD.out; omega))
        replace HyN := Lib.hid (HyN.out.touch ht (by have hord := HORD.out; omega))
        replace HyT := Lib.hid (HyT.out.touch ht (by have hord := HORD.out; omega))
        have HO2 := Lib.hid (And.intro HORD.out ht.size)
        clear HORD
        have HORD := HO2
        clear HO2
        replace HPy := Lib.hid hp
        replace HFy := Lib.hid hf
        clear ht hp hf hzz
        generalize Y7.setCell ⟨b10, 0, none⟩ (.int .u8 (((e0.v : Int) + 1) % 256)) = Y8 at HP4 HP5 HB HXN HXT HP9 HF9 HyN HyT HPy HFy HORD ⊢
        obtain ⟨hp4_0, hp4_1, hp4_2, hp4_3⟩ := HP4.out
        go_wp2_with fail
        clear hp4_0 hp4_1 hp4_2 hp4_3
        have hpf := HFy.out.1
        refine (own_x A0 c0 B0 g0 e0 (by have := HL0.out; omega) (by have := HL0.out; omega) _ (HY0.out.below HB.out)).mono ?_; rintro z W6 ⟨Aq, cq, Bq, dq, mq, rfl, hm1, hm2, hn, ht, hb⟩
        simp only [evV]
        replace HP4 := Lib.hid (HP4.out.below hb)
        replace HP5 := Lib.hid (HP5.out.below hb)
        replace HB := Lib.hid (below_step HB.out hb)
        replace HXN := Lib.hid (HXN.out.below hb)
        replace HXT := Lib.hid (HXT.out.below hb)
        replace HP9 := Lib.hid (HP9.out.below hb)
        replace HF9 := Lib.hid (HF9.out.below hb)
        replace HyN := Lib.hid (HyN.out.below hb)
        replace HyT := Lib.hid (HyT.out.below hb)
        replace HPy := Lib.hid (HPy.out.below hb)
        replace HFy := Lib.hid (HFy.out.below hb)
        have HqN := Lib.hid hn
        have HqT := Lib.hid ht
        have HO2 := Lib.hid (And.intro HORD.out (And.intro hpf (And.intro hm1 hm2)))
        clear hb hm1 hm2 hn ht hpf HORD
        have HORD := HO2
        clear HO2
        go_upto_region 10 with (fail)
        have hb := (Below.refl W6.heap.size W6).alloc (Nat.le_refl _) (.cells #[.int .u8 e0.v, .int .u8 e0.k, .slice Aq e0.ns.length cq, .slice Bq e0.ts.length dq] 44)
        have HPq := Lib.hid (show Four _ W6.heap.size _ _ _ _ from box4 W6 (.int .u8 e0.v) (.int .u8 e0.k) (.slice Aq e0.ns.length cq) (.slice Bq e0.ts.length dq) 44)
        have HFq := Lib.hid (free_new W6 #[.int .u8 e0.v, .int .u8 e0.k, .slice Aq e0.ns.length cq, .slice Bq e0.ts.length dq] 44)
        have HKq := Lib.hid (box_new W6 #[.int .u8 e0.v, .int .u8 e0.k, .slice Aq e0.ns.length cq, .slice Bq e0.ts.length dq])
        replace HP4 := Lib.hid (HP4.out.below hb)
        replace HP5 := Lib.hid (HP5.out.below hb)
        replace HB := Lib.hid (below_step HB.out hb)
        replace HXN := Lib.hid (HXN.out.below hb)
        replace HXT := Lib.hid (HXT.out.below hb)
        replace HP9 := Lib.hid (HP9.out.below hb)
        replace HF9 := Lib.hid (HF9.out.below hb)
        replace HyN := Lib.hid (HyN.out.below hb)
        replace HyT := Lib.hid (HyT.out.below hb)
        replace HPy := Lib.hid (HPy.out.below hb)
        replace HFy := Lib.hid (HFy.out.below hb)
        replace HqN := Lib.hid (HqN.out.below hb)
        replace HqT := Lib.hid (HqT.out.below hb)
        clear hb
        generalize hWs : W6.heap.size = b11 at HPq HFq HKq HqT HORD ⊢
        clear hWs
        generalize W6.alloc (.cells #[.int .u8 e0.v, .int .u8 e0.k, .slice Aq e0.ns.length cq, .slice Bq e0.ts.length dq] 44) = Y9 at HP4 HP5 HB HXN HXT HP9 HF9 HyN HyT HPy HFy HqN HqT HPq HFq HKq ⊢
        obtain ⟨hpq_0, hpq_1, hpq_2, hpq_3⟩ := HPq.out
        have hb := (Below.refl Y9.heap.size Y9).alloc (Nat.le_refl _) (.cells #[Value.int .i64 n] 2)
        have hzt := HFq.out.2 2
        replace HP4 := Lib.hid (HP4.out.below hb)
        replace HP5 := Lib.hid (HP5.out.below hb)
        replace HB := Lib.hid (below_step HB.out hb)
        replace HXN := Lib.hid (HXN.out.below hb)
        replace HXT := Lib.hid (HXT.out.below hb)
        replace HP9 := Lib.hid (HP9.out.below hb)
        replace HF9 := Lib.hid (HF9.out.below hb)
        replace HyN := Lib.hid (HyN.out.below hb)
        replace HyT := Lib.hid (HyT.out.below hb)
        replace HPy := Lib.hid (HPy.out.below hb)
        replace HFy := Lib.hid (HFy.out.below hb)
        replace HqN := Lib.hid (HqN.out.below hb)
        replace HqT := Lib.hid (HqT.out.below hb)
        replace HPq := Lib.hid (HPq.out.below hb)
        replace HFq := Lib.hid (HFq.out.below hb)
        replace HKq := Lib.hid (HKq.out.below hb)
        go_wp2_with (at_builtin; refine wpList_append_one 41 2 (.int .i64 0) 8 Tryd.underlying41 infoN rfl (by decide) rfl _ _ rfl Y8.heap.size mq _ _ rfl HqN.out (some ⟨Y9.heap.size, 0, none⟩) 1 (Value.int .i64 n) rfl (vat_new Y9 _ _) rfl (by have := HL0.out; have := nums_len e0.ns; have := texts_len e0.ts; omega) (by have h1 := HFq.out.1; have hord := HORD.out; omega) ?_)
        clear hpq_0 hpq_1 hpq_2 hpq_3
        intro v' W7 hO ht
        obtain ⟨Aq', cq', rfl, _⟩ := hO.own.vat
        have hq : (nums e0.ns ++ [Value.int .i64 n]).length = e0.ns.length + 1 := by simp [nums_len, texts_len]
        rw [hq] at hO ⊢
        clear hq
        replace HP4 := Lib.hid (HP4.out.touch ht (by have hord := HORD.out; omega))
        replace HP5 := Lib.hid (HP5.out.touch ht (by have hord := HORD.out; omega))
        replace HB := Lib.hid (Touch.step HB.out ht (by have hord := HORD.out; omega))
        replace HXN := Lib.hid (HXN.out.touch ht (by have hord := HORD.out; omega))
        replace HXT := Lib.hid (HXT.out.touch ht (by have hord := HORD.out; omega))
        replace HP9 := Lib.hid (HP9.out.touch ht (by have hord := HORD.out; omega))
        replace HF9 := Lib.hid (HF9.out.touch ht (by have hord := HORD.out; omega))
        replace HyN := Lib.hid (HyN.out.touch ht (by have hord := HORD.out; omega))
        replace HyT := Lib.hid (HyT.out.touch ht (by have hord := HORD.out; omega))
        replace HPy := Lib.hid (HPy.out.touch ht (by have hord := HORD.out; omega))
        replace HFy := Lib.hid (HFy.out.touch ht (by have hord := HORD.out; omega))
        replace HqT := Lib.hid (HqT.out.touch ht (by have hord := HORD.out; omega))
        replace HPq := Lib.hid (HPq.out.touch ht (by have hord := HORD.out; omega))
        replace HFq := Lib.hid (HFq.out.touch ht (by have hord := HORD.out; omega))
        replace HKq := Lib.hid (HKq.out.touch ht (by have hord := HORD.out; omega))
        replace HqN := Lib.hid hO
        clear hb ht hO hzt
        have hzz := HFq.out.2 2
        obtain ⟨hpq_0, hpq_1, hpq_2, hpq_3⟩ := HPq.out
        go_upto_region 11 with (fail)
        clear hpq_0 hpq_1 hpq_2 hpq_3
        have ht := Touch.set W7 b11 2 (.slice Aq' (e0.ns.length + 1) cq')
        have hp := HPq.out.set2 (.slice Aq' (e0.ns.length + 1) cq')
        have hf := HFq.out.set b11 2 (.slice Aq' (e0.ns.length + 1) cq')
        have hsp := HqN.out.box HKq.out (by decide) 2 (.slice Aq' (e0.ns.length + 1) cq')
        replace HP4 := Lib.hid (HP4.out.touch ht (by have hord := HORD.out; omega))
        replace HP5 := Lib.hid (HP5.out.touch ht (by have hord := HORD.out; omega))
        replace HB := Lib.hid (Touch.step HB.out ht (by have hord := HORD.out; omega))
        replace HXN := Lib.hid (HXN.out.touch ht (by have hord := HORD.out; omega))
        replace HXT := Lib.hid (HXT.out.touch ht (by have hord := HORD.out; omega))
        replace HP9 := Lib.hid (HP9.out.touch ht (by have hord := HORD.out; omega))
        replace HF9 := Lib.hid (HF9.out.touch ht (by have hord := HORD.out; omega))
        replace HyN := Lib.hid (HyN.out.touch ht (by have hord := HORD.out; omega))
        replace HyT := Lib.hid (HyT.out.touch ht (by have hord := HORD.out; omega))
        replace HPy := Lib.hid (HPy.out.touch ht (by have hord := HORD.out; omega))
        replace HFy := Lib.hid (HFy.out.touch ht (by have hord := HORD.out; omega))
        replace HqT := Lib.hid (HqT.out.touch ht (by have hord := HORD.out; omega))
        replace HqN := Lib.hid hsp
        clear HKq hsp
        have HO2 := Lib.hid (And.intro HORD.out ht.size)
        clear HORD
        have HORD := HO2
        clear HO2
        replace HPq := Lib.hid hp
        replace HFq := Lib.hid hf
        clear ht hp hf hzz
        generalize W7.setCell ⟨b11, 2, none⟩ (.slice Aq' (e0.ns.length + 1) cq') = Y10 at HP4 HP5 HB HXN HXT HP9 HF9 HyN HyT HPy HFy HqT HPq HFq HqN HORD ⊢
        obtain ⟨hp4_0, hp4_1, hp4_2, hp4_3⟩ := HP4.out
        go_wp2_with fail
        clear hp4_0 hp4_1 hp4_2 hp4_3
        have hpf := HFq.out.1
        refine (own_x A0 c0 B0 g0 e0 (by have := HL0.out; omega) (by have := HL0.out; omega) _ (HY0.out.below HB.out)).mono ?_; rintro z W8 ⟨Ar, cr, Br, dr, mr, rfl, hm1, hm2, hn, ht, hb⟩
        simp only [evV]
        replace HP4 := Lib.hid (HP4.out.below hb)
        replace HP5 := Lib.hid (HP5.out.below hb)
        replace HB := Lib.hid (below_step HB.out hb)
        replace HXN := Lib.hid (HXN.out.below hb)
        replace HXT := Lib.hid (HXT.out.below hb)
        replace HP9 := Lib.hid (HP9.out.below hb)
        replace HF9 := Lib.hid (HF9.out.below hb)
        replace HyN := Lib.hid (HyN.out.below hb)
        replace HyT := Lib.hid (HyT.out.below hb)
        replace HPy := Lib.hid (HPy.out.below hb)
        replace HFy := Lib.hid (HFy.out.below hb)
        replace HqT := Lib.hid (HqT.out.below hb)
        replace HPq := Lib.hid (HPq.out.below hb)
        replace HFq := Lib.hid (HFq.out.below hb)
        replace HqN := Lib.hid (HqN.out.below hb)
        have HrN := Lib.hid hn
        have HrT := Lib.hid ht
        have HO2 := Lib.hid (And.intro HORD.out (And.intro hpf (And.intro hm1 hm2)))
        clear hb hm1 hm2 hn ht hpf HORD
        have HORD := HO2
        clear HO2
        go_upto_region 12 with (fail)
        have hb := (Below.refl W8.heap.size W8).alloc (Nat.le_refl _) (.cells #[.int .u8 e0.v, .int .u8 e0.k, .slice Ar e0.ns.length cr, .slice Br e0.ts.length dr] 44)
        have HPr := Lib.hid (show Four _ W8.heap.size _ _ _ _ from box4 W8 (.int .u8 e0.v) (.int .u8 e0.k) (.slice Ar e0.ns.length cr) (.slice Br e0.ts.length dr) 44)
        have HFr := Lib.hid (free_new W8 #[.int .u8 e0.v, .int .u8 e0.k, .slice Ar e0.ns.length cr, .slice Br e0.ts.length dr] 44)
        have HKr := Lib.hid (box_new W8 #[.int .u8 e0.v, .int .u8 e0.k, .slice Ar e0.ns.length cr, .slice Br e0.ts.length dr])
        replace HP4 := Lib.hid (HP4.out.below hb)
        replace HP5 := Lib.hid (HP5.out.below hb)
        replace HB := Lib.hid (below_step HB.out hb)
        replace HXN := Lib.hid (HXN.out.below hb)
        replace HXT := Lib.hid (HXT.out.below hb)
        replace HP9 := Lib.hid (HP9.out.below hb)
        replace HF9 := Lib.hid (HF9.out.below hb)
        replace HyN := Lib.hid (HyN.out.below hb)
        replace HyT := Lib.hid (HyT.out.below hb)
        replace HPy := Lib.hid (HPy.out.below hb)
        replace HFy := Lib.hid (HFy.out.below hb)
        replace HqT := Lib.hid (HqT.out.below hb)
        replace HPq := Lib.hid (HPq.out.below hb)
        replace HFq := Lib.hid (HFq.out.below hb)
        replace HqN := Lib.hid (HqN.out.below hb)
        replace HrN := Lib.hid (HrN.out.below hb)
        replace HrT := Lib.hid (HrT.out.below hb)
        clear hb
        generalize hWs : W8.heap.size = b12 at HPr HFr HKr HrT HORD ⊢
        clear hWs
        generalize W8.alloc (.cells #[.int .u8 e0.v, .int .u8 e0.k, .slice Ar e0.ns.length cr, .slice Br e0.ts.length dr] 44) = Y11 at HP4 HP5 HB HXN HXT HP9 HF9 HyN HyT HPy HFy HqT HPq HFq HqN HrN HrT HPr HFr HKr ⊢
        obtain ⟨hpr_0, hpr_1, hpr_2, hpr_3⟩ := HPr.out
        have hb := (Below.refl Y11.heap.size Y11).alloc (Nat.le_refl _) (.cells #[Value.string ⟨#[120]⟩] 9)
        have hzt := HFr.out.2 3
        replace HP4 := Lib.hid (HP4.out.below hb)
        replace HP5 := Lib.hid (HP5.out.below hb)
        replace HB := Lib.hid (below_step HB.out hb)
        replace HXN := Lib.hid (HXN.out.below hb)
        replace HXT := Lib.hid (HXT.out.below hb)
        replace HP9 := Lib.hid (HP9.out.below hb)
        replace HF9 := Lib.hid (HF9.out.below hb)
        replace HyN := Lib.hid (HyN.out.below hb)
        replace HyT := Lib.hid (HyT.out.below hb)
        replace HPy := Lib.hid (HPy.out.below hb)
        replace HFy := Lib.hid (HFy.out.below hb)
        replace HqT := Lib.hid (HqT.out.below hb)
        replace HPq := Lib.hid (HPq.out.below hb)
        replace HFq := Lib.hid (HFq.out.below hb)
        replace HqN := Lib.hid (HqN.out.below hb)
        replace HrN := Lib.hid (HrN.out.below hb)
        replace HrT := Lib.hid (HrT.out.below hb)
        replace HPr := Lib.hid (HPr.out.below hb)
        replace HFr := Lib.hid (HFr.out.below hb)
        replace HKr := Lib.hid (HKr.out.below hb)
        go_wp2_with (at_builtin; refine wpList_append_one 42 9 (.string ByteArray.empty) 16 Tryd.underlying42 infoT rfl (by decide) rfl _ _ rfl mr b12 _ _ rfl HrT.out (some ⟨Y11.heap.size, 0, none⟩) 1 (Value.string ⟨#[120]⟩) rfl (vat_new Y11 _ _) rfl (by have := HL0.out; have := nums_len e0.ns; have := texts_len e0.ts; omega) (by have h1 := HFr.out.1; have hord := HORD.out; omega) ?_)
        clear hpr_0 hpr_1 hpr_2 hpr_3
        intro v' W9 hO ht
        obtain ⟨Ar', cr', rfl, _⟩ := hO.own.vat
        have hq : (texts e0.ts ++ [Value.string ⟨#[120]⟩]).length = e0.ts.length + 1 := by simp [nums_len, texts_len]
        rw [hq] at hO ⊢
        clear hq
        replace HP4 := Lib.hid (HP4.out.touch ht (by have hord := HORD.out; omega))
        replace HP5 := Lib.hid (HP5.out.touch ht (by have hord := HORD.out; omega))
        replace HB := Lib.hid (Touch.step HB.out ht (by have hord := HORD.out; omega))
        replace HXN := Lib.hid (HXN.out.touch ht (by have hord := HORD.out; omega))
        replace HXT := Lib.hid (HXT.out.touch ht (by have hord := HORD.out; omega))
        replace HP9 := Lib.hid (HP9.out.touch ht (by have hord := HORD.out; omega))
        replace HF9 := Lib.hid (HF9.out.touch ht (by have hord := HORD.out; omega))
        replace HyN := Lib.hid (HyN.out.touch ht (by have hord := HORD.out; omega))
        replace HyT := Lib.hid (HyT.out.touch ht (by have hord := HORD.out; omega))
        replace HPy := Lib.hid (HPy.out.touch ht (by have hord := HORD.out; omega))
        replace HFy := Lib.hid (HFy.out.touch ht (by have hord := HORD.out; omega))
        replace HqT := Lib.hid (HqT.out.touch ht (by have hord := HORD.out; omega))
        replace HPq := Lib.hid (HPq.out.touch ht (by have hord := HORD.out; omega))
        replace HFq := Lib.hid (HFq.out.touch ht (by have hord := HORD.out; omega))
        replace HqN := Lib.hid (HqN.out.touch ht (by have hord := HORD.out; omega))
        replace HrN := Lib.hid (HrN.out.touch ht (by have hord := HORD.out; omega))
        replace HPr := Lib.hid (HPr.out.touch ht (by have hord := HORD.out; omega))
        replace HFr := Lib.hid (HFr.out.touch ht (by have hord := HORD.out; omega))
        replace HKr := Lib.hid (HKr.out.touch ht (by have hord := HORD.out; omega))
        replace HrT := Lib.hid hO
        clear hb ht hO hzt
        have hzz := HFr.out.2 3
        obtain ⟨hpr_0, hpr_1, hpr_2, hpr_3⟩ := HPr.out
        go_upto_region 13 with (fail)
        clear hpr_0 hpr_1 hpr_2 hpr_3
        have ht := Touch.set W9 b12 3 (.slice Ar' (e0.ts.length + 1) cr')
        have hp := HPr.out.set3 (.slice Ar' (e0.ts.length + 1) cr')
        have hf := HFr.out.set b12 3 (.slice Ar' (e0.ts.length + 1) cr')
        have hsp := HrT.out.box HKr.out (by decide) 3 (.slice Ar' (e0.ts.length + 1) cr')
        replace HP4 := Lib.hid (HP4.out.touch ht (by have hord := HORD.out; omega))
        replace HP5 := Lib.hid (HP5.out.touch ht (by have hord := HORD.out; omega))
        replace HB := Lib.hid (Touch.step HB.out ht (by have hord := HORD.out; omega))
        replace HXN := Lib.hid (HXN.out.touch ht (by have hord := HORD.out; omega))
        replace HXT := Lib.hid (HXT.out.touch ht (by have hord := HORD.out; omega))
        replace HP9 := Lib.hid (HP9.out.touch ht (by have hord := HORD.out; omega))
        replace HF9 := Lib.hid (HF9.out.touch ht (by have hord := HORD.out; omega))
        replace HyN := Lib.hid (HyN.out.touch ht (by have hord := HORD.out; omega))
        replace HyT := Lib.hid (HyT.out.touch ht (by have hord := HORD.out; omega))
        replace HPy := Lib.hid (HPy.out.touch ht (by have hord := HORD.out; omega))
        replace HFy := Lib.hid (HFy.out.touch ht (by have hord := HORD.out; omega))
        replace HqT := Lib.hid (HqT.out.touch ht (by have hord := HORD.out; omega))
        replace HPq := Lib.hid (HPq.out.touch ht (by have hord := HORD.out; omega))
        replace HFq := Lib.hid (HFq.out.touch ht (by have hord := HORD.out; omega))
        replace HqN := Lib.hid (HqN.out.touch ht (by have hord := HORD.out; omega))
        replace HrN := Lib.hid (HrN.out.touch ht (by have hord := HORD.out; omega))
        replace HrT := Lib.hid hsp
        clear HKr hsp
        have HO2 := Lib.hid (And.intro HORD.out ht.size)
        clear HORD
        have HORD := HO2
        clear HO2
        replace HPr := Lib.hid hp
        replace HFr := Lib.hid hf
        clear ht hp hf hzz
        generalize W9.setCell ⟨b12, 3, none⟩ (.slice Ar' (e0.ts.length + 1) cr') = Y12 at HP4 HP5 HB HXN HXT HP9 HF9 HyN HyT HPy HFy HqT HPq HFq HqN HrN HPr HFr HrT HORD ⊢
        have hk2 : (((e0.k + 1) % 256 : Nat) : Int) = ((e0.k : Int) + 1) % 256 := by omega
        have hv2 : (((e0.v + 1) % 256 : Nat) : Int) = ((e0.v : Int) + 1) % 256 := by omega
        have HK2 := Lib.hid hk2
        have HV2 := Lib.hid hv2
        clear hk2 hv2
        have HFN := Lib.hid (show Fits64 (e0.ns ++ [n]) from fun x hx => by
            rcases List.mem_append.1 hx with h | h
            · exact HY0.out.fit x h
            · rw [List.mem_singleton.1 h]; exact HNW.out)
        have HTN := Lib.hid (show ∀ t ∈ e0.ts ++ [⟨#[120]⟩], t.size ≤ maxLen from fun t ht => by
            rcases List.mem_append.1 ht with h | h
            · exact HY0.out.txt t h
            · rw [List.mem_singleton.1 h]; decide)
        have HXe := Lib.hid (ev_of (e := upK e0) (by simp only [upK]; have := HY0.out.v; omega) (by simp only [upK]; have := HY0.out.k; omega) HY0.out.fit HY0.out.txt HXN.out HXT.out)
        have HYe := Lib.hid (ev_of (e := upV e0) (by simp only [upV]; have := HY0.out.v; omega) (by simp only [upV]; have := HY0.out.k; omega) HY0.out.fit HY0.out.txt HyN.out HyT.out)
        have hqn : OwnB Y12 Y8.heap.size W7.heap.size 2 (.slice Aq' (upN e0 n).ns.length cq') (nums (upN e0 n).ns) := by
          have h := HqN.out
          simpa [upN, nums] using h
        have hrt : OwnB Y12 mr W9.heap.size 9 (.slice Ar' (upT e0).ts.length cr') (texts (upT e0).ts) := by
          have h := HrT.out
          simpa [upT, texts] using h
        have HqN2 := Lib.hid hqn
        have HrT2 := Lib.hid hrt
        clear hqn hrt
        have HQe := Lib.hid (ev_of (e := upN e0 n) (by simp only [upN]; have := HY0.out.v; omega) (by simp only [upN]; have := HY0.out.k; omega) HFN.out HY0.out.txt HqN2.out HqT.out)
        have HRe := Lib.hid (ev_of (e := upT e0) (by simp only [upT]; have := HY0.out.v; omega) (by simp only [upT]; have := HY0.out.k; omega) HY0.out.fit HTN.out HrN.out HrT2.out)
        clear HqN2
        clear HrT2
        clear HFN
        clear HTN
        obtain ⟨hp4_0, hp4_1, hp4_2, hp4_3⟩ := HP4.out
        obtain ⟨hp9_0, hp9_1, hp9_2, hp9_3⟩ := HP9.out
        go_wp2_with fail
        clear hp4_0 hp4_1 hp4_2 hp4_3
        clear hp9_0 hp9_1 hp9_2 hp9_3
        have hcall := same_any _ _ _ _ (e0) _ _ _ _ (upK e0) (by have := HL0.out; (try simp only [upK, upV, upN, upT, List.length_append, List.length_cons, List.length_nil]); omega) (by have := HL0.out; (try simp only [upK, upV, upN, upT, List.length_append, List.length_cons, List.length_nil]); omega) (by have := HL0.out; (try simp only [upK, upV, upN, upT, List.length_append, List.length_cons, List.length_nil]); omega) (by have := HL0.out; (try simp only [upK, upV, upN, upT, List.length_append, List.length_cons, List.length_nil]); omega) _ (HY0.out.below HB.out) HXe.out
        rw [no_upK HY0.out.k] at hcall
        simp only [evV, upK] at hcall
        rw [HK2.out] at hcall
        refine hcall.mono ?_; rintro z U1 ⟨rfl, hb⟩; clear hcall
        replace HP4 := Lib.hid (HP4.out.below hb)
        replace HP5 := Lib.hid (HP5.out.below hb)
        replace HB := Lib.hid (below_step HB.out hb)
        replace HXN := Lib.hid (HXN.out.below hb)
        replace HXT := Lib.hid (HXT.out.below hb)
        replace HP9 := Lib.hid (HP9.out.below hb)
        replace HF9 := Lib.hid (HF9.out.below hb)
        replace HyN := Lib.hid (HyN.out.below hb)
        replace HyT := Lib.hid (HyT.out.below hb)
        replace HPy := Lib.hid (HPy.out.below hb)
        replace HFy := Lib.hid (HFy.out.below hb)
        replace HqT := Lib.hid (HqT.out.below hb)
        replace HPq := Lib.hid (HPq.out.below hb)
        replace HFq := Lib.hid (HFq.out.below hb)
        replace HqN := Lib.hid (HqN.out.below hb)
        replace HrN := Lib.hid (HrN.out.below hb)
        replace HPr := Lib.hid (HPr.out.below hb)
        replace HFr := Lib.hid (HFr.out.below hb)
        replace HrT := Lib.hid (HrT.out.below hb)
        replace HXe := Lib.hid (HXe.out.below hb)
        replace HYe := Lib.hid (HYe.out.below hb)
        replace HQe := Lib.hid (HQe.out.below hb)
        replace HRe := Lib.hid (HRe.out.below hb)
        clear hb
        obtain ⟨hp4_0, hp4_1, hp4_2, hp4_3⟩ := HP4.out
        obtain ⟨hpy_0, hpy_1, hpy_2, hpy_3⟩ := HPy.out
        go_wp2_with fail
        clear hp4_0 hp4_1 hp4_2 hp4_3
        clear hpy_0 hpy_1 hpy_2 hpy_3
        have hcall := same_any _ _ _ _ (e0) _ _ _ _ (upV e0) (by have := HL0.out; (try simp only [upK, upV, upN, upT, List.length_append, List.length_cons, List.length_nil]); omega) (by have := HL0.out; (try simp only [upK, upV, upN, upT, List.length_append, List.length_cons, List.length_nil]); omega) (by have := HL0.out; (try simp only [upK, upV, upN, upT, List.length_append, List.length_cons, List.length_nil]); omega) (by have := HL0.out; (try simp only [upK, upV, upN, upT, List.length_append, List.length_cons, List.length_nil]); omega) _ (HY0.out.below HB.out) HYe.out
        rw [no_upV HY0.out.v] at hcall
        simp only [evV, upV] at hcall
        rw [HV2.out] at hcall
        refine hcall.mono ?_; rintro z U2 ⟨rfl, hb⟩; clear hcall
        replace HP4 := Lib.hid (HP4.out.below hb)
        replace HP5 := Lib.hid (HP5.out.below hb)
        replace HB := Lib.hid (below_step HB.out hb)
        replace HXN := Lib.hid (HXN.out.below hb)
        replace HXT := Lib.hid (HXT.out.below hb)
        replace HP9 := Lib.hid (HP9.out.below hb)
        replace HF9 := Lib.hid (HF9.out.below hb)
        replace HyN := Lib.hid (HyN.out.below hb)
        replace HyT := Lib.hid (HyT.out.below hb)
        replace HPy := Lib.hid (HPy.out.below hb)
        replace HFy := Lib.hid (HFy.out.below hb)
        replace HqT := Lib.hid (HqT.out.below hb)
        replace HPq := Lib.hid (HPq.out.below hb)
        replace HFq := Lib.hid (HFq.out.below hb)
        replace HqN := Lib.hid (HqN.out.below hb)
        replace HrN := Lib.hid (HrN.out.below hb)
        replace HPr := Lib.hid (HPr.out.below hb)
        replace HFr := Lib.hid (HFr.out.below hb)
        replace HrT := Lib.hid (HrT.out.below hb)
        replace HXe := Lib.hid (HXe.out.below hb)
        replace HYe := Lib.hid (HYe.out.below hb)
        replace HQe := Lib.hid (HQe.out.below hb)
        replace HRe := Lib.hid (HRe.out.below hb)
        clear hb
        obtain ⟨hp4_0, hp4_1, hp4_2, hp4_3⟩ := HP4.out
        obtain ⟨hpq_0, hpq_1, hpq_2, hpq_3⟩ := HPq.out
        go_wp2_with fail
        clear hp4_0 hp4_1 hp4_2 hp4_3
        clear hpq_0 hpq_1 hpq_2 hpq_3
        have hcall := same_any _ _ _ _ (e0) _ _ _ _ (upN e0 n) (by have := HL0.out; (try simp only [upK, upV, upN, upT, List.length_append, List.length_cons, List.length_nil]); omega) (by have := HL0.out; (try simp only [upK, upV, upN, upT, List.length_append, List.length_cons, List.length_nil]); omega) (by have := HL0.out; (try simp only [upK, upV, upN, upT, List.length_append, List.length_cons, List.length_nil]); omega) (by have := HL0.out; (try simp only [upK, upV, upN, upT, List.length_append, List.length_cons, List.length_nil]); omega) _ (HY0.out.below HB.out) HQe.out
        rw [no_upN e0 n] at hcall
        simp only [evV, upN] at hcall
        simp only [List.length_append, List.length_cons, List.length_nil, Nat.zero_add] at hcall
        refine hcall.mono ?_; rintro z U3 ⟨rfl, hb⟩; clear hcall
        replace HP4 := Lib.hid (HP4.out.below hb)
        replace HP5 := Lib.hid (HP5.out.below hb)
        replace HB := Lib.hid (below_step HB.out hb)
        replace HXN := Lib.hid (HXN.out.below hb)
        replace HXT := Lib.hid (HXT.out.below hb)
        replace HP9 := Lib.hid (HP9.out.below hb)
        replace HF9 := Lib.hid (HF9.out.below hb)
        replace HyN := Lib.hid (HyN.out.below hb)
        replace HyT := Lib.hid (HyT.out.below hb)
        replace HPy := Lib.hid (HPy.out.below hb)
        replace HFy := Lib.hid (HFy.out.below hb)
        replace HqT := Lib.hid (HqT.out.below hb)
        replace HPq := Lib.hid (HPq.out.below hb)
        replace HFq := Lib.hid (HFq.out.below hb)
        replace HqN := Lib.hid (HqN.out.below hb)
        replace HrN := Lib.hid (HrN.out.below hb)
        replace HPr := Lib.hid (HPr.out.below hb)
        replace HFr := Lib.hid (HFr.out.below hb)
        replace HrT := Lib.hid (HrT.out.below hb)
        replace HXe := Lib.hid (HXe.out.below hb)
        replace HYe := Lib.hid (HYe.out.below hb)
        replace HQe := Lib.hid (HQe.out.below hb)
        replace HRe := Lib.hid (HRe.out.below hb)
        clear hb
        obtain ⟨hpr_0, hpr_1, hpr_2, hpr_3⟩ := HPr.out
        obtain ⟨hp4_0, hp4_1, hp4_2, hp4_3⟩ := HP4.out
        go_wp2_with fail
        clear hpr_0 hpr_1 hpr_2 hpr_3
        clear hp4_0 hp4_1 hp4_2 hp4_3
        have hcall := same_any _ _ _ _ (upT e0) _ _ _ _ (e0) (by have := HL0.out; (try simp only [upK, upV, upN, upT, List.length_append, List.length_cons, List.length_nil]); omega) (by have := HL0.out; (try simp only [upK, upV, upN, upT, List.length_append, List.length_cons, List.length_nil]); omega) (by have := HL0.out; (try simp only [upK, upV, upN, upT, List.length_append, List.length_cons, List.length_nil]); omega) (by have := HL0.out; (try simp only [upK, upV, upN, upT, List.length_append, List.length_cons, List.length_nil]); omega) _ HRe.out (HY0.out.below HB.out)
        rw [no_upT e0] at hcall
        simp only [evV, upT] at hcall
        simp only [List.length_append, List.length_cons, List.length_nil, Nat.zero_add] at hcall
        refine hcall.mono ?_; rintro z U4 ⟨rfl, hb⟩; clear hcall
        replace HP4 := Lib.hid (HP4.out.below hb)
        replace HP5 := Lib.hid (HP5.out.below hb)
        replace HB := Lib.hid (below_step HB.out hb)
        replace HXN := Lib.hid (HXN.out.below hb)
        replace HXT := Lib.hid (HXT.out.below hb)
        replace HP9 := Lib.hid (HP9.out.below hb)
        replace HF9 := Lib.hid (HF9.out.below hb)
        replace HyN := Lib.hid (HyN.out.below hb)
        replace HyT := Lib.hid (HyT.out.below hb)
        replace HPy := Lib.hid (HPy.out.below hb)
        replace HFy := Lib.hid (HFy.out.below hb)
        replace HqT := Lib.hid (HqT.out.below hb)
        replace HPq := Lib.hid (HPq.out.below hb)
        replace HFq := Lib.hid (HFq.out.below hb)
        replace HqN := Lib.hid (HqN.out.below hb)
        replace HrN := Lib.hid (HrN.out.below hb)
        replace HPr := Lib.hid (HPr.out.below hb)
        replace HFr := Lib.hid (HFr.out.below hb)
        replace HrT := Lib.hid (HrT.out.below hb)
        replace HXe := Lib.hid (HXe.out.below hb)
        replace HYe := Lib.hid (HYe.out.below hb)
        replace HQe := Lib.hid (HQe.out.below hb)
        replace HRe := Lib.hid (HRe.out.below hb)
        clear hb
        clear HXe
        clear HYe
        clear HQe
        clear HRe
        clear HPy
        clear HFy
        clear HyN
        clear HyT
        clear HPq
        clear HFq
        clear HqN
        clear HqT
        clear HPr
        clear HFr
        clear HrN
        clear HrT
        clear HXN
        clear HXT
        clear HP5
        by_cases h0 : e0.ns.length = 0
        · have hz0 : ((e0.ns.length : Int) == 0) = true := by rw [h0]; rfl
          obtain ⟨hp4_0, hp4_1, hp4_2, hp4_3⟩ := HP4.out
          clear h0
          go_wp2_with fail
          go_ret
          exact ⟨rfl, HB.out⟩
        · have hz0 : ((e0.ns.length : Int) == 0) = false := beq_eq_false_iff_ne.2 (by omega)
          obtain ⟨hp4_0, hp4_1, hp4_2, hp4_3⟩ := HP4.out
          go_upto_region 17 with (fail)
          obtain ⟨k, hk, hk1, hk2⟩ := k_lt pl e0.ns.length (by omega) (by have := HL0.out; omega)
          have HKL := Lib.hid hk1
          have HKE := Lib.hid hk
          have hlen := HL0.out.1
          clear hk hk1
          go_cut [13] (fun u wx => wx = U4 ∧ u = .int .i64 (k : Int))
          case first =>
            go_wp2_with fail
            go_meet
            exact ⟨rfl, by rw [HKE.out]⟩
          case rest =>
            clear hp4_0 hp4_1 hp4_2 hp4_3
            obtain ⟨rfl, rfl⟩ := hcut
            clear hlen hk2 hz0 h0 HKE
            obtain ⟨hp4_0, hp4_1, hp4_2, hp4_3⟩ := HP4.out
            go_wp2_with fail
            clear hp4_0 hp4_1 hp4_2 hp4_3
            have hpf := HF9.out.1
            refine (own_x A0 c0 B0 g0 e0 (by have := HL0.out; omega) (by have := HL0.out; omega) _ (HY0.out.below HB.out)).mono ?_; rintro z W10 ⟨Av, cv, Bv, dv, mv, rfl, hm1, hm2, hn, ht, hb⟩
            simp only [evV]
            replace HP4 := Lib.hid (HP4.out.below hb)
            replace HB := Lib.hid (below_step HB.out hb)
            replace HP9 := Lib.hid (HP9.out.below hb)
            replace HF9 := Lib.hid (HF9.out.below hb)
            have HvN := Lib.hid hn
            have HvT := Lib.hid ht
            have HO2 := Lib.hid (And.intro HORD.out (And.intro hpf (And.intro hm1 hm2)))
            clear hb hm1 hm2 hn ht hpf HORD
            have HORD := HO2
            clear HO2
            obtain ⟨hp9_0, hp9_1, hp9_2, hp9_3⟩ := HP9.out
            have z0 := HF9.out.2 0
            have z1 := HF9.out.2 1
            have z2 := HF9.out.2 2
            have z3 := HF9.out.2 3
            go_upto_region 19 with (fail)
            clear hp9_0 hp9_1 hp9_2 hp9_3
            clear z0 z1 z2 z3
            have hp := (((HP9.out.set0 (.int .u8 e0.v)).set1 (.int .u8 e0.k)).set2 (.slice Av e0.ns.length cv)).set3 (.slice Bv e0.ts.length dv)
            have ht := Touch.set W10 b9 0 (.int .u8 e0.v)
            have hf := HF9.out.set b9 0 (.int .u8 e0.v)
            replace HP4 := Lib.hid (HP4.out.touch ht (by have hord := HORD.out; omega))
            replace HB := Lib.hid (Touch.step HB.out ht (by have hord := HORD.out; omega))
            replace HvN := Lib.hid (HvN.out.touch ht (by have hord := HORD.out; omega))
            replace HvT := Lib.hid (HvT.out.touch ht (by have hord := HORD.out; omega))
            replace HF9 := Lib.hid hf
            clear ht hf
            have ht := Touch.set (W10.setCell ⟨b9, 0, none⟩ (.int .u8 e0.v)) b9 1 (.int .u8 e0.k)
            have hf := HF9.out.set b9 1 (.int .u8 e0.k)
            replace HP4 := Lib.hid (HP4.out.touch ht (by have hord := HORD.out; omega))
            replace HB := Lib.hid (Touch.step HB.out ht (by have hord := HORD.out; omega))
            replace HvN := Lib.hid (HvN.out.touch ht (by have hord := HORD.out; omega))
            replace HvT := Lib.hid (HvT.out.touch ht (by have hord := HORD.out; omega))
            replace HF9 := Lib.hid hf
            clear ht hf
            have ht := Touch.set ((W10.setCell ⟨b9, 0, none⟩ (.int .u8 e0.v)).setCell ⟨b9, 1, none⟩ (.int .u8 e0.k)) b9 2 (.slice Av e0.ns.length cv)
            have hf := HF9.out.set b9 2 (.slice Av e0.ns.length cv)
            replace HP4 := Lib.hid (HP4.out.touch ht (by have hord := HORD.out; omega))
            replace HB := Lib.hid (Touch.step HB.out ht (by have hord := HORD.out; omega))
            replace HvN := Lib.hid (HvN.out.touch ht (by have hord := HORD.out; omega))
            replace HvT := Lib.hid (HvT.out.touch ht (by have hord := HORD.out; omega))
            replace HF9 := Lib.hid hf
            clear ht hf
            have ht := Touch.set (((W10.setCell ⟨b9, 0, none⟩ (.int .u8 e0.v)).setCell ⟨b9, 1, none⟩ (.int .u8 e0.k)).setCell ⟨b9, 2, none⟩ (.slice Av e0.ns.length cv)) b9 3 (.slice Bv e0.ts.length dv)
            have hf := HF9.out.set b9 3 (.slice Bv e0.ts.length dv)
            replace HP4 := Lib.hid (HP4.out.touch ht (by have hord := HORD.out; omega))
            replace HB := Lib.hid (Touch.step HB.out ht (by have hord := HORD.out; omega))
            replace HvN := Lib.hid (HvN.out.touch ht (by have hord := HORD.out; omega))
            replace HvT := Lib.hid (HvT.out.touch ht (by have hord := HORD.out; omega))
            replace HF9 := Lib.hid hf
            clear ht hf
            replace HP9 := Lib.hid hp
            clear hp
            generalize ((((W10.setCell ⟨b9, 0, none⟩ (.int .u8 e0.v)).setCell ⟨b9, 1, none⟩ (.int .u8 e0.k)).setCell ⟨b9, 2, none⟩ (.slice Av e0.ns.length cv)).setCell ⟨b9, 3, none⟩ (.slice Bv e0.ts.length dv)) = Y13 at HP4 HB HP9 HF9 HvN HvT ⊢
            have hne : 0 < (nums e0.ns).length := by rw [nums_len]; have := HKL.out; omega
            obtain ⟨hown, hu⟩ := HvN.out.resolve_right (fun h => by rw [h.1] at hne; exact absurd hne (by decide))
            obtain ⟨g, cap, hs, hg1, hg2, _, hcs⟩ := hown.cells hne
            rw [nums_len] at hs
            injection hs with hs1 _ hs2
            subst hs1 hs2
            have hg3 := hu g rfl
            have hown' : Own Y13 wc.heap.size 2 (.slice (some ⟨g, 0, none⟩) (nums e0.ns).length cv) (nums e0.ns) := by rw [nums_len]; exact hown
            have hst := (World.ownsRow.stored hown' k (.int .i64 n)).1
            have hfz := World.ownsRow.frozenAt hown' k
            have hck := hcs k _ (nums_at e0.ns k HKL.out)
            have HST := Lib.hid hst
            clear hst hown hown' hcs hne hu
            obtain ⟨hp9_0, hp9_1, hp9_2, hp9_3⟩ := HP9.out
            have z0 : (0 : Int) ≤ (k : Int) := by omega
            have z1 : (k : Int) < (e0.ns.length : Int) := by have := HKL.out; omega
            go_upto_region 20 with (fail)
            clear hp9_0 hp9_1 hp9_2 hp9_3
            have ht := Touch.set Y13 g k (.int .i64 n)
            have HGB := Lib.hid (And.intro hg1 (And.intro hg2 hg3))
            clear hg1 hg2 hg3 hck hfz
            clear HvN
            replace HP4 := Lib.hid (HP4.out.touch ht (by have hord := HORD.out; have hgb := HGB.out; have hf9 := HF9.out.1; omega))
            replace HB := Lib.hid (Touch.step HB.out ht (by have hord := HORD.out; have hgb := HGB.out; have hf9 := HF9.out.1; omega))
            replace HP9 := Lib.hid (HP9.out.touch ht (by have hord := HORD.out; have hgb := HGB.out; have hf9 := HF9.out.1; omega))
            replace HvT := Lib.hid (HvT.out.touch ht (by have hord := HORD.out; have hgb := HGB.out; have hf9 := HF9.out.1; omega))
            clear ht HF9
            have hset : (nums e0.ns).set k (.int .i64 n) = nums (upS e0 k n).ns := by unfold nums upS; rw [List.map_set]
            have hvn : OwnB (Y13.setCell ⟨g, k, none⟩ (.int .i64 n)) wc.heap.size mv 2 (.slice (some ⟨g, 0, none⟩) (upS e0 k n).ns.length cv) (nums (upS e0 k n).ns) := by
              refine Or.inl ⟨?_, fun b hb => by
                injection hb with hb; subst hb; exact HGB.out.2.2⟩
              unfold Own
              rw [← hset]
              simpa [upS, nums_len] using HST.out
            have HVE := Lib.hid (ev_of (e := upS e0 k n) HY0.out.v HY0.out.k (fun x hx => by
                rcases List.mem_or_eq_of_mem_set hx with h | h
                · exact HY0.out.fit x h
                · rw [h]; exact HNW.out) HY0.out.txt hvn HvT.out)
            clear hset hvn HST
            generalize Y13.setCell ⟨g, k, none⟩ (.int .i64 n) = Y14 at HVE HP4 HB HP9 HvT ⊢
            obtain ⟨bb, oo, hA0, hcell⟩ := (HY0.out.below HB.out).ns k _ (nums_at e0.ns k HKL.out)
            subst hA0
            have hcall := same_any _ _ _ _ e0 _ _ _ _ (upS e0 k n) (by have := HL0.out; (try simp only [upS, List.length_set, List.length_append, List.length_cons, List.length_nil]); omega) (by have := HL0.out; (try simp only [upS, List.length_set, List.length_append, List.length_cons, List.length_nil]); omega) (by have := HL0.out; (try simp only [upS, List.length_set, List.length_append, List.length_cons, List.length_nil]); omega) (by have := HL0.out; (try simp only [upS, List.length_set, List.length_append, List.length_cons, List.length_nil]); omega) Y14.drew ((HY0.out.below HB.out).below (below_drew _ _)) (HVE.out.below (below_drew _ _))
            rw [same_upS e0 k n HKL.out] at hcall
            simp only [evV, upS, List.length_set] at hcall
            have HCALL := Lib.hid hcall
            clear hcall
            generalize e0.ns.getD k 0 = x at hcell HCALL
            have HC0 := Lib.hid hcell
            have HK20 := Lib.hid (fun W (hW : Below Y14.heap.size Y14 W) => show (fun w' => Below Y14.heap.size Y14 w' ∧ w'.cell? ⟨w.heap.size, 0, none⟩ = some (.int .u8 e0.v) ∧ w'.cell? ⟨w.heap.size, 1, none⟩ = some (.int .u8 e0.k) ∧ w'.cell? ⟨w.heap.size, 2, none⟩ = some (.slice (some ⟨bb, oo, none⟩) e0.ns.length c0) ∧ w'.cell? ⟨w.heap.size, 3, none⟩ = some (.slice B0 e0.ts.length g0) ∧ w'.cell? ⟨b9, 0, none⟩ = some (.int .u8 e0.v) ∧ w'.cell? ⟨b9, 1, none⟩ = some (.int .u8 e0.k) ∧ w'.cell? ⟨b9, 2, none⟩ = some (.slice (some ⟨g, 0, none⟩) e0.ns.length cv) ∧ w'.cell? ⟨b9, 3, none⟩ = some (.slice Bv e0.ts.length dv) ∧ w'.cell? ⟨bb, oo + k, none⟩ = some (.int .i64 x)) W from by
              obtain ⟨p0, p1, p2, p3⟩ := HP4.out.below hW
              obtain ⟨t0, t1, t2, t3⟩ := HP9.out.below hW
              exact ⟨hW, p0, p1, p2, p3, t0, t1, t2, t3, cell_kept HC0.out hW⟩)
            clear hcell
            go_region_held3 (fun w' => Below Y14.heap.size Y14 w' ∧ w'.cell? ⟨w.heap.size, 0, none⟩ = some (.int .u8 e0.v) ∧ w'.cell? ⟨w.heap.size, 1, none⟩ = some (.int .u8 e0.k) ∧ w'.cell? ⟨w.heap.size, 2, none⟩ = some (.slice (some ⟨bb, oo, none⟩) e0.ns.length c0) ∧ w'.cell? ⟨w.heap.size, 3, none⟩ = some (.slice B0 e0.ts.length g0) ∧ w'.cell? ⟨b9, 0, none⟩ = some (.int .u8 e0.v) ∧ w'.cell? ⟨b9, 1, none⟩ = some (.int .u8 e0.k) ∧ w'.cell? ⟨b9, 2, none⟩ = some (.slice (some ⟨g, 0, none⟩) e0.ns.length cv) ∧ w'.cell? ⟨b9, 3, none⟩ = some (.slice Bv e0.ts.length dv) ∧ w'.cell? ⟨bb, oo + k, none⟩ = some (.int .i64 x))
              (first | exact HK20.out _ (below_drew _ _) | exact HK20.out _ (by assumption))
              ((first | (go_at_call 29; refine HCALL.out.mono ?_; rintro z w9 ⟨rfl, hb⟩; (have k9 : Below Y14.heap.size Y14 w9 := below_step (below_drew _ _) hb))))
            have HBF := Lib.hid (below_step HB.out k9)
            go_wp2_with fail
            go_ret
            exact ⟨by simp, HBF.out⟩

end Go.Proofs.YtfklkainbkffnaaDoor.Schema
