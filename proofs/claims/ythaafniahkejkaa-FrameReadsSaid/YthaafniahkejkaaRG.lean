import Derived.Test.YthaafniahkejkaaRF
import Derived.Test.YthaafniahkejkaaRD
import Derived.BigQuiet
import Derived.Deep.QuietTactic
/-
  The law's own same: of rows of the same frames.
-/
namespace Go.Proofs.Ythaafniahkejkaa.Frame
open Go Go.RowKit
open Go.Proofs.Ythaafniahkejkaa.Wire (S S_list S_size cell_row frozen_row row_lt)

theorem below_dn (n m : Nat) (w : World) : Below n w (w.drewN m) := ⟨rfl, rfl, rfl, Nat.le_refl _, fun _ _ => rfl⟩
set_option maxRecDepth 100000 in
set_option maxHeartbeats 4000000 in
theorem same_any (A B : Option Addr) (ca cb : Nat) (xs : List Fr) (hl : xs.length ≤ 1000000) (w : World) (h1 : RowFr w A xs) (h2 : RowRf w B xs) :
    Calls Try.prog 20 #[.slice A xs.length ca, .slice B xs.length cb] w fun e w' => e = .returned (.bool true) ∧ Below w.heap.size w w' := by
  have H1 := Lib.hid h1
  have H2 := Lib.hid h2
  have HL := Lib.hid hl
  clear h1 h2 hl
  have HN := Lib.hid (Below.refl w.heap.size w)
  have HR1 := H1
  have HR2 := H2
  go_enter Try.func20, Try.ntmps20
  go_wp2_with fail
  go_loopw [5] (fun y wr => ∃ j : Nat, j ≤ xs.length ∧ y = .int .i64 (j : Int) ∧ Hid (RowFr wr A xs) ∧ Hid (RowRf wr B xs) ∧ Hid (Below w.heap.size w wr)) (fun y _ => xs.length - (intOf y).toNat)
  case atStart => exact ⟨0, Nat.zero_le _, rfl, H1, H2, HN⟩
  case round =>
    clear H1 H2 HN HR1 HR2
    obtain ⟨j, hj, rfl, H1, H2, HN⟩ := hrel
    by_cases hlt : j < xs.length
    · obtain ⟨b, o, rfl, hb, c0, c1, c2⟩ := H1.out j hlt
      obtain ⟨b2, o2, rfl, hb2, d0, d1, d2⟩ := H2.out j hlt
      have HLT := Lib.hid hlt
      have e1 : (j : Int) < (xs.length : Int) := by omega
      have e2 : decide ((j : Int) < (xs.length : Int)) = true := decide_eq_true e1
      have e3 : (0 : Int) ≤ (j : Int) := by omega
      have HW1 := Lib.hid (small64 j (by have := HL.out; omega))
      generalize xs[j].q = q at *
      generalize xs[j].p = p at *
      generalize xs[j].i = i at *
      have hmx : Try.prog.follows .mixedOrders = true := by kernel_rfl
      go_wp2_with fail
      go_big_quiet (fail)
      go_wp2_with fail
      go_roundw
      case rel => exact ⟨j + 1, HLT.out, by first | rfl | (rw [HW1.out]; rfl), H1.out.below (below_dn _ _ _), H2.out.below (below_dn _ _ _), HN.out.trans (below_dn _ _ _)⟩
      case measure =>
        first
        | (show xs.length - ((j : Int) + 1).toNat < xs.length - (j : Int).toNat; have := HLT.out; omega)
        | (rw [HW1.out]; show xs.length - ((j : Int) + 1).toNat < xs.length - (j : Int).toNat; have := HLT.out; omega)
    · obtain rfl : j = xs.length := by omega
      go_wp2_with fail
      go_ret
      exact ⟨rfl, HN.out⟩
end Go.Proofs.Ythaafniahkejkaa.Frame
