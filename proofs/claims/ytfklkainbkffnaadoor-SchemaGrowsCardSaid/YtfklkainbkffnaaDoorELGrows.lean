/-
  The walk of the statement SchemaGrows.
-/
import Derived.Test.YtfklkainbkffnaaDoorE16
namespace Go.Proofs.YtfklkainbkffnaaDoor.Schema
open Go Go.RowKit

/-- how many of l's letters are met, one behind the other, among m's first ones -/
def gr (l m : ByteArray) : Nat → Nat
  | 0 => 0
  | i + 1 => if gr l m i < l.size ∧ byteAt l (gr l m i) = byteAt m i then gr l m i + 1 else gr l m i
theorem gr_le (l m : ByteArray) (i : Nat) : gr l m i ≤ i ∧ gr l m i ≤ l.size := by
  induction i with
  | zero => exact ⟨Nat.le_refl _, Nat.zero_le _⟩
  | succ i ih =>
    unfold gr
    split
    · omega
    · omega
def growsB (l m : ByteArray) : Bool := l.size == 0 || (decide (0 < m.size) && decide (gr l m m.size = l.size) && decide (m.size ≤ l.size + 1))
theorem grows_all (k : Nat) : growsB (lets 1 k) (lets 2 k) = true ∧ growsB (lets 2 k) (lets 3 k) = true := by
  have h := ev_all (p := fun r => growsB r.f1 r.f2 && growsB r.f2 r.f3) (by decide +kernel) (by decide +kernel) k
  simpa [lets] using h
theorem grows_at {v k : Nat} (hv : v = 1 ∨ v = 2) (ht : tall v k = true) : tall (v + 1) k = true ∧ gr (lets v k) (lets (v + 1) k) (lets (v + 1) k).size = (lets v k).size ∧ (lets (v + 1) k).size ≤ (lets v k).size + 1 := by
  have h : growsB (lets v k) (lets (v + 1) k) = true := by
    rcases hv with rfl | rfl
    · exact (grows_all k).1
    · exact (grows_all k).2
  unfold tall at ht
  have h0 := of_decide_eq_true ht
  unfold growsB at h
  have hz : ((lets v k).size == 0) = false := beq_eq_false_iff_ne.2 (by omega)
  rw [hz, Bool.false_or, Bool.and_eq_true, Bool.and_eq_true, decide_eq_true_iff, decide_eq_true_iff, decide_eq_true_iff] at h
  exact ⟨decide_eq_true h.1.1, h.1.2, h.2⟩
theorem tall_v {v k : Nat} (h : tall v k = true) : 1 ≤ v ∧ v ≤ 3 := by
  by_cases h1 : v < 1 ∨ 3 < v ∨ ¬ k < 24
  · unfold tall at h
    rw [lets_out v k h1] at h
    exact absurd h (by decide)
  · omega
theorem clsV_at (s : ByteArray) (j : Nat) (h : j < s.size) : (clsV s)[j]? = some (.int .u8 (byteAt s j)) := by
  unfold clsV byteAt
  have hl : j < s.data.toList.length := h
  rw [List.getElem?_map, List.getElem?_eq_getElem hl, List.getD_eq_getElem?_getD, List.getElem?_eq_getElem hl]; rfl
theorem clsV_no {v k : Nat} (h : tall v k = false) : clsV (lets v k) = [] := by
  apply List.eq_nil_of_length_eq_zero
  rw [clsV_len]
  have := of_decide_eq_false (show decide (0 < (lets v k).size) = false from h)
  omega

set_option maxRecDepth 100000 in
set_option maxHeartbeats 2000000 in
theorem schemaGrows_walk (v k : Int) (w : World) (hv : (Lit.int .u8 v).wf = true) (hk : (Lit.int .u8 k).wf = true) (E : Env w) :
    Calls Tryd.prog 6 #[.int .u8 v, .int .u8 k] w fun e w' => e = .returned (.bool true) ∧ Below w.heap.size w w' := by
  have hv' := bounds_u8 hv
  have hk' := bounds_u8 hk
  obtain ⟨v, rfl⟩ := Int.eq_ofNat_of_zero_le hv'.1
  obtain ⟨k, rfl⟩ := Int.eq_ofNat_of_zero_le hk'.1
  have hv0 : v < 256 := by omega
  have hk0 : k < 256 := by omega
  clear hv hk hv' hk'
  have HE := Lib.hid E
  have HW := Lib.hid (awake_any w E)
  clear E
  cases ht : tall v k with
  | false =>
    have HF := Lib.hid (fun W (EW : Env W) => show Calls Tryd.prog 14 #[.int .u8 v, .int .u8 k] W (TwoRes W [] false false) from by
      have := Fields_any v k hv0 hk0 W EW
      rw [ht, clsV_no ht] at this
      exact this)
    clear ht
    go_enter Tryd.func6, Tryd.ntmps6
    go_wp2_with (first
      | (go_at_call 11; refine HW.out.mono ?_; rintro e w1 ⟨rfl, hb⟩; have HB1 := Lib.hid hb; clear hb)
      | (go_at_call 14; refine (HF.out _ (HE.out.below HB1.out)).mono ?_; rintro e w2 ⟨u, rfl, hO, hb⟩; obtain ⟨A, cap, rfl, _⟩ := hO.vat; have HB2 := Lib.hid (below_step HB1.out hb); clear hb hO))
    all_goals
      go_ret
      exact ⟨by simp <;> omega, HB2.out⟩
  | true =>
    have hv3 := tall_v ht
    have HF := Lib.hid (fun W (EW : Env W) => show Calls Tryd.prog 14 #[.int .u8 v, .int .u8 k] W (TwoRes W (clsV (lets v k)) (tru k) true) from by
      have := Fields_any v k hv0 hk0 W EW
      rw [ht, Bool.true_and] at this
      exact this)
    by_cases h3 : v = 3
    · subst h3
      clear ht
      go_enter Tryd.func6, Tryd.ntmps6
      go_wp2_with (first
        | (go_at_call 11; refine HW.out.mono ?_; rintro e w1 ⟨rfl, hb⟩; have HB1 := Lib.hid hb; clear hb)
        | (go_at_call 14; refine (HF.out _ (HE.out.below HB1.out)).mono ?_; rintro e w2 ⟨u, rfl, hO, hb⟩; obtain ⟨A, cap, rfl, _⟩ := hO.vat; have HB2 := Lib.hid (below_step HB1.out hb); clear hb hO))
      all_goals
        go_ret
        exact ⟨by simp <;> omega, HB2.out⟩
    · have hv12 : v = 1 ∨ v = 2 := by omega
      have hg := grows_at hv12 ht
      have hl0 : 0 < (lets v k).size := of_decide_eq_true ht
      have hm0 : 0 < (lets (v + 1) k).size := of_decide_eq_true hg.1
      have hz := (lets_ok v k).1
      have hz2 := (lets_ok (v + 1) k).1
      have HF2 := Lib.hid (fun W (EW : Env W) => show Calls Tryd.prog 14 #[.int .u8 ((v : Int) + 1), .int .u8 k] W (TwoRes W (clsV (lets (v + 1) k)) (tru k) true) from by
        have := Fields_any (v + 1) k (by omega) hk0 W EW
        rw [hg.1, Bool.true_and] at this
        exact this)
      have hgr := hg.2
      have hlt3 : v < 3 := by omega
      generalize lets v k = l at HF hgr hl0 hz
      generalize lets (v + 1) k = m at HF2 hgr hm0 hz2
      generalize tru k = t at HF HF2
      have HGR := Lib.hid hgr
      have e1 : ((v : Int) == 3) = false := by simp; omega
      have e2 : (t != t) = false := by cases t <;> rfl
      clear ht hg hgr hv12 h3
      go_enter Tryd.func6, Tryd.ntmps6
      go_wp2_with fail
      refine HW.out.mono ?_; rintro e w1 ⟨rfl, hb⟩; have HB1 := Lib.hid hb; clear hb
      go_wp2_with fail
      refine (HF.out _ (HE.out.below HB1.out)).mono ?_; rintro e w2 ⟨u, rfl, hO, hb⟩
      obtain ⟨g, cap, rfl, _, _, _, hc⟩ := hO.cells (by rw [clsV_len]; exact hl0)
      rw [clsV_len]
      have HB2 := Lib.hid (below_step HB1.out hb)
      have HC := Lib.hid hc
      clear hb hO hc
      go_wp2_with fail
      refine (HF2.out _ (HE.out.below HB2.out)).mono ?_; rintro e w3 ⟨u, rfl, hO, hb⟩
      obtain ⟨g', cap', rfl, _, _, _, hc⟩ := hO.cells (by rw [clsV_len]; exact hm0)
      rw [clsV_len]
      have HB3 := Lib.hid (below_step HB2.out hb)
      have HC1 := Lib.hid (fun j (hj : j < l.size) => cell_kept (HC.out j _ (clsV_at l j hj)) hb)
      have HC2 := Lib.hid (fun j (hj : j < m.size) => hc j _ (clsV_at m j hj))
      clear hb hO hc HC
      go_wp2_with fail
      go_loopw [11, 12] (fun a i wr => ∃ n z : Nat, n ≤ m.size ∧ i = .int .i64 n ∧ a = .int .i64 (gr l m n) ∧ wr = w3.drewN z) (fun _ i _ => m.size - (intOf i).toNat)
      case atStart => exact ⟨0, 0, Nat.zero_le _, rfl, rfl, rfl⟩
      case round =>
        obtain ⟨n, z, hn, rfl, rfl, rfl⟩ := hrel
        have hgl := gr_le l m n
        by_cases hlt : n < m.size
        · have c2 := HC2.out n hlt
          have HGS := Lib.hid (show gr l m (n + 1) = if gr l m n < l.size ∧ byteAt l (gr l m n) = byteAt m n then gr l m n + 1 else gr l m n from rfl)
          have HCg := Lib.hid (fun h => HC1.out (gr l m n) h)
          generalize gr l m n = a at hgl HGS HCg
          obtain ⟨ha1, ha2⟩ := hgl
          generalize byteAt m n = y at c2 HGS
          by_cases hal : a < l.size
          · have c1 := HCg.out hal
            generalize byteAt l a = x at c1 HGS
            have z0 : (0 : Int) ≤ (a : Int) := by omega
            have z1 : (a : Int) < (l.size : Int) := by omega
            have z2 : (0 : Int) ≤ (n : Int) := by omega
            have z3 : (n : Int) < (m.size : Int) := by omega
            have d1 : decide ((a : Int) < (l.size : Int)) = true := decide_eq_true z1
            have d2 : decide (a < l.size) = true := decide_eq_true hal
            by_cases hxy : x = y
            · have HN := Lib.hid (HGS.out.trans (if_pos ⟨hal, hxy⟩))
              have q1 : ((x : Int) == (y : Int)) = true := by rw [hxy]; simp
              clear hxy HGS HCg
              go_wp2_with fail
              go_quiet (fail)
              go_wp2_with fail
              go_roundw
              case rel => exact ⟨n + 1, _, by omega, by go_num, by rw [HN.out]; go_num, rfl⟩
              case measure => simp [intOf] <;> omega
            · have HN := Lib.hid (HGS.out.trans (if_neg (fun h => hxy h.2)))
              have q1 : ((x : Int) == (y : Int)) = false := by simp; omega
              clear hxy HGS HCg
              go_wp2_with fail
              go_quiet (fail)
              go_wp2_with fail
              go_roundw
              case rel => exact ⟨n + 1, _, by omega, by go_num, by rw [HN.out], rfl⟩
              case measure => simp [intOf] <;> omega
          · have HN := Lib.hid (HGS.out.trans (if_neg (fun h => hal h.1)))
            have d1 : decide ((a : Int) < (l.size : Int)) = false := decide_eq_false (by omega)
            have d2 : decide (a < l.size) = false := decide_eq_false hal
            clear HGS HCg
            go_wp2_with fail
            go_quiet (fail)
            go_wp2_with fail
            go_roundw
            case rel => exact ⟨n + 1, _, by omega, by go_num, by rw [HN.out], rfl⟩
            case measure => simp [intOf] <;> omega
        · obtain rfl : n = m.size := by omega
          rw [HGR.out.1]
          have hq := HGR.out.2
          go_wp2_with fail
          go_ret
          exact ⟨by simp <;> omega, HB3.out.trans (below_dn _ _ _)⟩

end Go.Proofs.YtfklkainbkffnaaDoor.Schema
