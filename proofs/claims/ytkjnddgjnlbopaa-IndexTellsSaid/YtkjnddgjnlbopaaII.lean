import Derived.Test.YtkjnddgjnlbopaaIH
/-
  sort.Search over an index's marks; the mark from which on a frame is found; Steps.
-/
namespace Go.Proofs.Ytkjnddgjnlbopaa.Index
open Go Go.RowKit
open Go.Proofs.Ytkjnddgjnlbopaa.Wire (S S_list S_size cell_row frozen_row row_lt heap_set heap_far)
open Go.Proofs.Ytkjnddgjnlbopaa.Frame Go.Proofs.Ytkjnddgjnlbopaa.Seg

theorem drewN_drewN (w : World) (m k : Nat) : ∃ j, (w.drewN m).drewN k = w.drewN j := ⟨m + k, by simp [World.drewN, Nat.add_assoc]⟩
set_option maxRecDepth 100000 in
set_option maxHeartbeats 400000 in
/-- **sort.Search** -/
theorem search_x (w : World) (base b ev a : Nat) (ats : List Nat) (g x y q k n : Nat) (h : Ix w base b ev a ats g) (hx : Boxed w x 27 (.pointer (some ⟨b, 0, none⟩))) (hy : Boxed w y 2 (.int .i64 (q : Int))) (hn : nm ev ats.length = n) (hk : k ≤ n) (hkk : ∀ i, i < n → (q < a + i * ev ↔ k ≤ i)) (hnl : n ≤ 1000000) :
    Calls Try.prog 86 #[.int .i64 (n : Int), .func (.func 87) #[] #[.pointer (some ⟨x, 0, none⟩), .pointer (some ⟨y, 0, none⟩)]] w fun e w' => e = .returned (.int .i64 (k : Int)) ∧ ∃ m, w' = w.drewN m := by
  have HU := Lib.hid (fun (m i : Nat) (hi : i < n) => (up1_any (w.drewN m) base b ev a ats g x y q i (h.below (below_dn _ _ _)) hx hy (by rw [hn]; exact hi)).mono fun e w' h => h)
  have HK := Lib.hid hkk
  have HNL := Lib.hid hnl
  have HKN := Lib.hid hk
  clear h hx hy hn hkk hnl hk
  go_enter Try.func86, Try.ntmps86
  go_wp2_with fail
  go_loopw [5, 6] (fun lo hi wr => ∃ l r m : Nat, lo = .int .i64 (l : Int) ∧ hi = .int .i64 (r : Int) ∧ l ≤ k ∧ k ≤ r ∧ r ≤ n ∧ wr = w.drewN m) (fun lo hi _ => (intOf hi).toNat - (intOf lo).toNat)
  case atStart => exact ⟨0, n, 0, rfl, rfl, Nat.zero_le _, HKN.out, Nat.le_refl _, rfl⟩
  case round =>
    obtain ⟨l, r, m, rfl, rfl, h1, h2, h3, rfl⟩ := hrel
    by_cases hlt : l < r
    · obtain ⟨s, hs⟩ : ∃ s, l + r = s := ⟨_, rfl⟩
      obtain ⟨c, hc⟩ : ∃ c, s / 2 = c := ⟨_, rfl⟩
      have hnl := HNL.out
      have HZ : Hid (wrap64 ((l : Int) + (r : Int)) = (s : Int) ∧ IntKind.u64.wrap (s : Int) = (s : Int) ∧ wrap64 (c : Int) = (c : Int) ∧ (s : Int) / 2 = (c : Int) ∧ ((l : Int) + (r : Int)) / 2 = (c : Int)) := Lib.hid ⟨by rw [IntWalk.wrap64_in _ ⟨by omega, by omega⟩]; omega, by rw [IntKind.wrap_u64]; omega, IntWalk.wrap64_in _ ⟨by omega, by omega⟩, by omega, by omega⟩
      have k1 : decide ((l : Int) < (r : Int)) = true := decide_eq_true (by omega)
      have HC1 := Lib.hid (show wrap64 ((c : Int) + 1) = (c : Int) + 1 from IntWalk.wrap64_in _ ⟨by omega, by omega⟩)
      have hcn : c < n := by omega
      have HLC := Lib.hid (show l ≤ c ∧ c < r by omega)
      by_cases hkc : k ≤ c
      · have hd : decide ((q : Int) < ((a + c * ev : Nat) : Int)) = true := decide_eq_true (by have := (HK.out c hcn).2 hkc; omega)
        have HUC := Lib.hid (HU.out m c hcn)
        rw [hd] at HUC
        obtain ⟨z1, z2, z3, z4, z5⟩ := HZ.out
        clear hd hs hc
        go_wp2_with fail
        clear z1 z2 z3
        first | rw [z5] | rw [z4] | skip
        clear z4 z5
        refine HUC.out.mono ?_
        rintro e w2 ⟨rfl, m2, rfl⟩
        obtain ⟨m3, hm3⟩ := drewN_drewN w m m2
        rw [hm3]
        have z6 := HC1.out
        go_wp2_with fail
        clear z6
        go_roundw
        case rel => exact ⟨l, c, m3, rfl, rfl, h1, hkc, by have := HLC.out; omega, rfl⟩
        case measure => show (c : Int).toNat - (l : Int).toNat < (r : Int).toNat - (l : Int).toNat; have := HLC.out; omega
      · have hd : decide ((q : Int) < ((a + c * ev : Nat) : Int)) = false := decide_eq_false (fun hh => hkc ((HK.out c hcn).1 (by omega)))
        have HUC := Lib.hid (HU.out m c hcn)
        rw [hd] at HUC
        obtain ⟨z1, z2, z3, z4, z5⟩ := HZ.out
        clear hd hs hc
        go_wp2_with fail
        clear z1 z2 z3
        first | rw [z5] | rw [z4] | skip
        clear z4 z5
        refine HUC.out.mono ?_
        rintro e w2 ⟨rfl, m2, rfl⟩
        obtain ⟨m3, hm3⟩ := drewN_drewN w m m2
        rw [hm3]
        have z6 := HC1.out
        go_wp2_with fail
        clear z6
        go_roundw
        case rel => exact ⟨c + 1, r, m3, by first | rfl | (rw [HC1.out]; rfl), rfl, by omega, h2, h3, rfl⟩
        case measure => first | (show (r : Int).toNat - ((c : Int) + 1).toNat < (r : Int).toNat - (l : Int).toNat; have := HLC.out; omega) | (rw [HC1.out]; show (r : Int).toNat - ((c : Int) + 1).toNat < (r : Int).toNat - (l : Int).toNat; have := HLC.out; omega)
    · obtain rfl : l = k := by omega
      have k1 : decide ((l : Int) < (r : Int)) = false := decide_eq_false (by omega)
      go_wp2_with fail
      go_ret
      exact ⟨rfl, ⟨m, rfl⟩⟩
end Go.Proofs.Ytkjnddgjnlbopaa.Index
