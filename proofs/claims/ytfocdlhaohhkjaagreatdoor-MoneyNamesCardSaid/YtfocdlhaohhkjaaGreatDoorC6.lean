/-
  The walks of far and Sum.
-/
import Derived.Test.YtfocdlhaohhkjaaGreatDoorRows
import Derived.Test.YtfocdlhaohhkjaaGreatDoorC5
import Derived.WalkKit
import Derived.Lib.Hide
import Derived.WalkSpells
import Derived.WalkLawsBesides
import Derived.Below
import Derived.BigQuiet
import Derived.Deep.QuietTactic
import Derived.Shelf.Spec.BitsCarry
namespace Go.Proofs.YtfocdlhaohhkjaaGreatDoor.Money
open Go.RowKit

theorem ret_two {k j : IntKind} {a b c d : Int} (h1 : a = c) (h2 : b = d) : Ending.returned (.tuple #[.int k a, .int j b]) = .returned (.tuple #[.int k c, .int j d]) := by rw [h1, h2]
theorem run_add (x y c : Int) (hx : 0 ≤ x) (hx1 : x ≤ 18446744073709551615) (hy : 0 ≤ y) (hy1 : y ≤ 18446744073709551615) (hc : 0 ≤ c) (hc1 : c ≤ 1) (w : World) :
    (callFunc 34 #[.int .u64 x, .int .u64 y, .int .u64 c]).run Tryz.prog w = .ok (.value (.tuple #[.int .u64 ((x + y + c) % 18446744073709551616), .int .u64 ((x + y + c) / 18446744073709551616)])) w := by
  rw [run_callFunc_extern Tryz.func34 (by kernel_rfl) (by kernel_rfl) (by kernel_rfl) (e := add64Entry) (by kernel_rfl), run_add64 x y c (by omega) (by omega) (by omega) (by omega)]
  simp only [Result.andThen]
theorem far_no (n : Int) (h : near n = true) (w : World) :
    Calls Tryz.prog 31 #[.int .i64 n] w fun e w' => e = .returned (.bool false) ∧ w = w' := by
  have d1 : decide (4611686018427387904 < n) = false := decide_eq_false (by have := near_iff.1 h; omega)
  have d2 : decide (n < -4611686018427387904) = false := decide_eq_false (by have := near_iff.1 h; omega)
  clear h
  go_enter Tryz.func31, Tryz.ntmps31
  go_wp2
  go_ret
  exact ⟨rfl, rfl⟩
theorem far_yes (n : Int) (h : near n = false) (w : World) :
    Calls Tryz.prog 31 #[.int .i64 n] w fun e w' => e = .returned (.bool true) ∧ w = w' := by
  by_cases h1 : 4611686018427387904 < n
  · have d1 : decide (4611686018427387904 < n) = true := decide_eq_true h1
    clear h h1
    go_enter Tryz.func31, Tryz.ntmps31
    go_wp2
    go_ret
    exact ⟨rfl, rfl⟩
  · have d1 : decide (4611686018427387904 < n) = false := decide_eq_false h1
    have d2 : decide (n < -4611686018427387904) = true := decide_eq_true (by have := near_no.1 h; omega)
    clear h h1
    go_enter Tryz.func31, Tryz.ntmps31
    go_wp2
    go_ret
    exact ⟨rfl, rfl⟩

set_option maxRecDepth 100000 in
set_option maxHeartbeats 400000 in
theorem sum_cells (b o cap : Nat) (xs : List Int) (hf : Fits xs) (hl : xs.length ≤ 4611686018427387903) (w : World) (hc : ∀ k, k < xs.length → w.cell? ⟨b, o + k, none⟩ = some (.int .i64 (xs.getD k 0))) :
    Calls Tryz.prog 18 #[.slice (some ⟨b, o, none⟩) xs.length cap] w fun e w' => e = .returned (.tuple #[.int .i64 (tN (sumL xs)), .int .i64 (tE (sumL xs))]) ∧ w = w' := by
  have HC := Lib.hid hc; clear hc
  have HF := Lib.hid hf; clear hf
  go_enter Tryz.func18, Tryz.ntmps18
  go_wp2
  go_loop [4, 5, 12] (fun hi lo i => ∃ k : Nat, k ≤ xs.length ∧ i = .int .i64 k ∧ lo = .int .u64 (loW (sumL (xs.take k))) ∧ hi = .int .u64 (hiW (sumL (xs.take k)))) (fun _ _ i => xs.length - (intOf i).toNat)
  case atStart => exact ⟨0, Nat.zero_le _, rfl, rfl, rfl⟩
  case round =>
    obtain ⟨k, hk, rfl, rfl, rfl⟩ := hrel
    by_cases hlt : k < xs.length
    · have hcell := HC.out k hlt
      have hS := Lib.hid (sumL_take xs k hlt)
      have hx : -9223372036854775808 ≤ xs.getD k 0 ∧ xs.getD k 0 ≤ 9223372036854775807 := HF.out _ (by rw [List.getD_eq_getElem?_getD, List.getElem?_eq_getElem hlt]; exact List.getElem_mem hlt)
      have HX := Lib.hid hx; clear hx
      generalize xs.getD k 0 = x at *
      generalize sumL (xs.take k) = S at *
      have hA1 : ∀ W, (callFunc 34 #[.int .u64 (loW S), .int .u64 (IntKind.u64.wrap x), .int .u64 0]).run Tryz.prog W = .ok (.value (.tuple #[.int .u64 (loW (S + x)), .int .u64 (carW S x)])) W := fun W => by
        have b := loW_bd S
        rw [IntKind.wrap_u64, run_add _ _ _ b.1 b.2 (by omega) (by omega) (by decide) (by decide), Int.add_zero, loW_add]; rfl
      have hA2 : ∀ W, (callFunc 34 #[.int .u64 (hiW S), .int .u64 (IntKind.u64.wrap (x / 9223372036854775808)), .int .u64 (carW S x)]).run Tryz.prog W = .ok (.value (.tuple #[.int .u64 (hiW (S + x)), .int .u64 ((hiW S + x / 18446744073709551616 % 18446744073709551616 + carW S x) / 18446744073709551616)])) W := fun W => by
        have b := hiW_bd S
        have c := carW_bd S x
        rw [IntKind.wrap_u64, sign_word x HX.out.1 HX.out.2, run_add _ _ _ b.1 b.2 (by omega) (by omega) c.1 c.2, hiW_add]
      go_wp2
      go_round
      case rel => exact ⟨k + 1, by omega, by go_num, by rw [hS.out], by rw [hS.out]⟩
      case measure => simp [intOf]; omega
    · have hk' : k = xs.length := by omega
      have hT := sumL_bound xs HF.out
      subst hk'
      rw [List.take_length]
      have HT := Lib.hid hT; clear hT
      have HL := Lib.hid hl; clear hl hk hlt
      generalize hTe : sumL xs = T at *
      have HE := Lib.hid hTe; clear hTe
      have w64 : wrap64 (loW T) = back (loW T) := by unfold wrap64 back loW; split <;> omega
      by_cases hin : -9223372036854775808 ≤ T ∧ T ≤ 9223372036854775807
      · have hb := back_in T hin.1 hin.2
        have hh := back_hi T hin.1 hin.2
        have e1 : (hiW T != IntKind.u64.wrap (back (loW T) / 9223372036854775808)) = false := by
          rw [IntKind.wrap_u64, ← hh]; simp
        have HH := Lib.hid hb; clear hb hh
        cases hn : near T with
        | true =>
          have N := Lib.hid hn; clear hn
          go_wp2_with (go_at_call 31; refine (far_no _ (by rw [HH.out]; exact N.out) _).mono ?_; rintro e w' ⟨rfl, rfl⟩)
          go_ret2
          exact ⟨ret_two (by rw [HE.out, tN_near N.out, HH.out]) (by rw [HE.out, tE_near N.out]), rfl⟩
        | false =>
          have N := Lib.hid hn; clear hn
          go_wp2_with (go_at_call 31; refine (far_yes _ (by rw [HH.out]; exact N.out) _).mono ?_; rintro e w' ⟨rfl, rfl⟩)
          go_ret2
          exact ⟨ret_two (by rw [HE.out, tN_far N.out]) (by rw [HE.out, tE_far N.out]), rfl⟩
      · have hh := back_out T (by have := HT.out.1; have := HL.out; omega) (by have := HT.out.2; have := HL.out; omega) (by omega)
        have e1 : (hiW T != IntKind.u64.wrap (back (loW T) / 9223372036854775808)) = true := by
          rw [IntKind.wrap_u64]; simpa using hh
        have hn : near T = false := near_no.2 (by omega)
        have N := Lib.hid hn; clear hn hh hin
        go_wp2
        go_ret2
        exact ⟨ret_two (by rw [HE.out, tN_far N.out]) (by rw [HE.out, tE_far N.out]), rfl⟩

/-- of no number: nil, or whatever slice of length 0 -/
theorem sum_none (A : Option Addr) (cap : Nat) (w : World) :
    Calls Tryz.prog 18 #[.slice A 0 cap] w fun e w' => e = .returned (.tuple #[.int .i64 (tN (sumL [])), .int .i64 (tE (sumL []))]) ∧ w = w' := by
  have w64 : wrap64 0 = 0 := by unfold wrap64; decide +kernel
  have N : near 0 = true := by decide
  have hN := Lib.hid N; clear N
  go_enter Tryz.func18, Tryz.ntmps18
  go_wp2
  go_loop [4, 5, 12] (fun hi lo i => i = .int .i64 0 ∧ lo = .int .u64 0 ∧ hi = .int .u64 0) (fun _ _ i => 0)
  case atStart => exact ⟨rfl, rfl, rfl⟩
  case round =>
    obtain ⟨rfl, rfl, rfl⟩ := hrel
    go_wp2_with (go_at_call 31; refine (far_no _ hN.out _).mono ?_; rintro e w' ⟨rfl, rfl⟩)
    go_ret2
    exact ⟨rfl, rfl⟩

/-- numbers that lie in a slice -/
def Nums (w : World) (A : Option Addr) (xs : List Int) : Prop := xs.length ≤ 4611686018427387903 ∧ Fits xs ∧ ∀ k, k < xs.length → ∃ b o, A = some ⟨b, o, none⟩ ∧ w.cell? ⟨b, o + k, none⟩ = some (.int .i64 (xs.getD k 0))
theorem Nums.cells {w : World} {A : Option Addr} {xs : List Int} (h : Nums w A xs) (h0 : xs ≠ []) : ∃ b o, A = some ⟨b, o, none⟩ ∧ ∀ k, k < xs.length → w.cell? ⟨b, o + k, none⟩ = some (.int .i64 (xs.getD k 0)) := by
  have hp : 0 < xs.length := by
    cases xs with
    | nil => exact absurd rfl h0
    | cons x r => exact Nat.succ_pos _
  obtain ⟨b, o, e, _⟩ := h.2.2 0 hp
  refine ⟨b, o, e, fun k hk => ?_⟩
  obtain ⟨b', o', e', hc⟩ := h.2.2 k hk
  rw [e] at e'
  injection e' with e'
  injection e' with e1 e2
  subst e1; subst e2; exact hc
theorem sum_any (A : Option Addr) (cap n : Nat) (xs : List Int) (hn : n = xs.length) (w : World) (h : Nums w A xs) :
    Calls Tryz.prog 18 #[.slice A n cap] w fun e w' => e = .returned (.tuple #[.int .i64 (tN (sumL xs)), .int .i64 (tE (sumL xs))]) ∧ w = w' := by
  subst hn
  by_cases h0 : xs = []
  · subst h0; exact sum_none A cap w
  · obtain ⟨b, o, rfl, hc⟩ := h.cells h0
    exact sum_cells b o cap xs h.2.1 h.1 w hc

end Go.Proofs.YtfocdlhaohhkjaaGreatDoor.Money
