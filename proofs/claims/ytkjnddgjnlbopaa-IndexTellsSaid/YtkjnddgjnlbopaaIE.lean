import Derived.Test.YtkjnddgjnlbopaaID
import Derived.Test.YtkjnddgjnlbopaaLB
/-
  An index's Add and Build.
-/
namespace Go.Proofs.Ytkjnddgjnlbopaa.Index
open Go Go.RowKit
open Go.Proofs.Ytkjnddgjnlbopaa.Wire (S S_list S_size cell_row frozen_row row_lt heap_set heap_far)
open Go.Proofs.Ytkjnddgjnlbopaa.Frame Go.Proofs.Ytkjnddgjnlbopaa.Seg

/-- what Add answers -/
def adE (q : Int) (n : Nat) : Nat := if 1 ≤ q ∧ q ≤ 4096 then (if 1048576 ≤ n then 40 else 0) else 4
def adV (q : Int) (n g : Nat) : Value := .tuple #[.int .i64 (if adE q n = 0 then (g : Int) else 0), .int .i64 (adE q n : Int)]
set_option maxRecDepth 100000 in
set_option maxHeartbeats 1000000 in
/-- **Add** -/
theorem add_any (w : World) (base b ev a : Nat) (ats : List Nat) (g : Nat) (q : Int) (h : Ix w base b ev a ats g) (hbb : base ≤ b) (hev : 1 ≤ ev ∧ ev ≤ 64) (hsm : a + ats.length ≤ 100000000) (hl : ats.length ≤ 900000) (hg : g ≤ 100000000000) :
    Calls Try.prog 16 #[.pointer (some ⟨b, 0, none⟩), .int .i64 q] w fun e w' => e = .returned (adV q (a + ats.length) g) ∧ (if adE q (a + ats.length) = 0 then Ix w' base b ev a (ats ++ [g]) (g + (16 + q.toNat)) else Ix w' base b ev a ats g) ∧ Below base w w' := by
  have HSZ := Lib.hid (fun W => Size_any q W)
  have HI := Lib.hid h
  obtain ⟨v, h1, -⟩ := h
  obtain ⟨⟨c0, c1, c2, c3, c4⟩, -⟩ := h1.facts
  obtain ⟨n, hn⟩ : ∃ n, a + ats.length = n := ⟨_, rfl⟩
  rw [hn] at c2 ⊢
  by_cases hq : 1 ≤ q ∧ q ≤ 4096
  · obtain ⟨k, rfl⟩ : ∃ k : Nat, q = (k : Int) := ⟨q.toNat, by omega⟩
    have hk : 1 ≤ k ∧ k ≤ 4096 := by omega
    rw [szI_yes hk] at HSZ
    have z1 : ((16 + (k : Int)) == 0) = false := beq_eq_false_iff_ne.2 (by omega)
    have z2 : ¬ (16 + (k : Int)) = 0 := by omega
    by_cases hm : 1048576 ≤ n
    · have he : adE (k : Int) n = 40 := by unfold adE; rw [if_pos hq, if_pos hm]
      unfold adV
      rw [he, if_neg (by decide)]
      have m1 : (1048576 : Int) ≤ (n : Int) := by omega
      have m2 : decide ((1048576 : Int) ≤ (n : Int)) = true := decide_eq_true m1
      clear hsm hl hg hk hq he hn h1
      go_enter Try.func16, Try.ntmps16
      go_wp2_with fail
      refine (HSZ.out w).mono ?_
      rintro e w1 ⟨rfl, rfl⟩
      go_wp2_with fail
      go_ret2
      exact ⟨rfl, by first | exact HI.out | (rw [if_neg (by decide)]; exact HI.out), Below.refl _ _⟩
    · have he : adE (k : Int) n = 0 := by unfold adE; rw [if_pos hq, if_neg hm]
      unfold adV
      rw [he, if_pos rfl, Int.toNat_natCast]
      have m1 : ¬ (1048576 : Int) ≤ (n : Int) := by omega
      have m2 : decide ((1048576 : Int) ≤ (n : Int)) = false := decide_eq_false m1
      have HP := Lib.hid (put_any w base b ev a ats g (16 + k) HI.out hbb hev hsm hl (by omega))
      rw [show ((16 + k : Nat) : Int) = 16 + (k : Int) by omega] at HP
      suffices hs : ∀ PX : World → Prop, (∀ w', Ix w' base b ev a (ats ++ [g]) (g + (16 + k)) → PX w') → Calls Try.prog 16 #[.pointer (some ⟨b, 0, none⟩), .int .i64 (k : Int)] w fun e w' => e = .returned (.tuple #[.int .i64 (g : Int), .int .i64 0]) ∧ PX w' ∧ Below base w w' from hs _ (fun _ h => by rw [if_pos rfl]; exact h)
      intro PX hPX
      have HPX := Lib.hid hPX
      clear hsm hl hg hk hq he hn h1 hm hPX
      go_enter Try.func16, Try.ntmps16
      go_wp2_with fail
      refine (HSZ.out w).mono ?_
      rintro e w1 ⟨rfl, rfl⟩
      go_wp2_with fail
      refine HP.out.mono ?_
      rintro e w2 ⟨rfl, hi, hb⟩
      have HI2 := Lib.hid hi
      have HB2 := Lib.hid hb
      clear hi hb
      go_wp2_with fail
      go_ret2
      exact ⟨rfl, HPX.out _ HI2.out, HB2.out⟩
  · have he : adE q n = 4 := by unfold adE; rw [if_neg hq]
    have hz : szI q = 0 := if_neg hq
    unfold adV
    rw [he, if_neg (by decide)]
    rw [hz] at HSZ
    clear hsm hl hg hq he hn h1 hz
    go_enter Try.func16, Try.ntmps16
    go_wp2_with fail
    refine (HSZ.out w).mono ?_
    rintro e w1 ⟨rfl, rfl⟩
    go_wp2_with fail
    go_ret2
    exact ⟨rfl, by first | exact HI.out | (rw [if_neg (by decide)]; exact HI.out), Below.refl _ _⟩
theorem add_nil (q : Int) (w : World) : Calls Try.prog 16 #[.pointer none, .int .i64 q] w fun e w' => e = .returned (.tuple #[.int .i64 0, .int .i64 2]) ∧ w = w' := by
  go_enter Try.func16, Try.ntmps16
  go_wp2_with fail
  go_ret2
  exact ⟨rfl, rfl⟩
end Go.Proofs.Ytkjnddgjnlbopaa.Index
