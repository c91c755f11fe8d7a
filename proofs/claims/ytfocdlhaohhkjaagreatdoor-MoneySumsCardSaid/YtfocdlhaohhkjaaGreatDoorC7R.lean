/-
  The walks of the document's sums.
-/
import Derived.Test.YtfocdlhaohhkjaaGreatDoorC7A
namespace Go.Proofs.YtfocdlhaohhkjaaGreatDoor.Money
open Go.RowKit

theorem and_low (n : Int) : bits .and .i64 n 4294967295 = n % 4294967296 := by
  have h127 : (BitVec.ofInt 64 4294967295).toNat = 2 ^ 32 - 1 := by decide
  have key : (BitVec.ofInt 64 n &&& BitVec.ofInt 64 4294967295).toNat = (n % ((2 ^ 64 : Nat) : Int)).toNat % 2 ^ 32 := by
    rw [BitVec.toNat_and, BitVec.toNat_ofInt, h127, Nat.and_two_pow_sub_one_eq_mod]
  show IntKind.i64.wrap ((BitVec.ofInt 64 n &&& BitVec.ofInt 64 4294967295).toNat : Nat) = n % 4294967296
  rw [key, IntKind.wrap_i64]
  omega
theorem two_any (n : Int) (w : World) :
    Calls Tryz.prog 35 #[.int .i64 n] w fun e w' => e = .returned (.tuple #[.int .i64 (n / 4294967296), .int .i64 (n % 4294967296)]) ∧ w = w' := by
  have ha := and_low n
  go_enter Tryz.func35, Tryz.ntmps35
  go_wp2
  go_ret2
  exact ⟨rfl, rfl⟩
set_option maxHeartbeats 400000 in
theorem one_any (H L : Int) (hh : -4611686018427387904 ≤ H ∧ H ≤ 4611686018427387904) (hl : I64 L) (w : World) :
    Calls Tryz.prog 36 #[.int .i64 H, .int .i64 L] w fun e w' => e = .returned (.tuple #[.int .i64 (tN (H * 4294967296 + L)), .int .i64 (tE (H * 4294967296 + L))]) ∧ w = w' := by
  unfold I64 at hl
  have ha := and_low L
  have hv : H * 4294967296 + L = (H + L / 4294967296) * 4294967296 + L % 4294967296 := by omega
  have HV := Lib.hid hv; clear hv
  by_cases c1 : 1073741824 < H + L / 4294967296
  · have d1 : decide (1073741824 < H + L / 4294967296) = true := decide_eq_true c1
    have HN : Hid (near (H * 4294967296 + L) = false) := near_no.2 (by rw [HV.out]; omega)
    clear c1
    go_enter Tryz.func36, Tryz.ntmps36
    go_wp2
    go_ret2
    exact ⟨ret_two (by rw [tN_far HN.out]) (by rw [tE_far HN.out]), rfl⟩
  · have d1 : decide (1073741824 < H + L / 4294967296) = false := decide_eq_false c1
    by_cases c2 : H + L / 4294967296 = 1073741824
    · have d2 : (H + L / 4294967296 == 1073741824) = true := by rw [beq_iff_eq]; exact c2
      have d4 : decide (H + L / 4294967296 < -1073741824) = false := decide_eq_false (by omega)
      by_cases c3 : 0 < L % 4294967296
      · have d3 : decide (0 < L % 4294967296) = true := decide_eq_true c3
        have HN : Hid (near (H * 4294967296 + L) = false) := near_no.2 (by rw [HV.out]; omega)
        clear c1 c2 c3
        go_enter Tryz.func36, Tryz.ntmps36
        go_wp2
        go_ret2
        exact ⟨ret_two (by rw [tN_far HN.out]) (by rw [tE_far HN.out]), rfl⟩
      · have d3 : decide (0 < L % 4294967296) = false := decide_eq_false c3
        have HN : Hid (near (H * 4294967296 + L) = true) := near_iff.2 (by rw [HV.out]; omega)
        have hl0 : (H + L / 4294967296) * 4294967296 + L % 4294967296 ≤ 4611686018427387904 := by omega
        have hl1 : -4611686018427387904 ≤ (H + L / 4294967296) * 4294967296 + L % 4294967296 := by omega
        clear c1 c2 c3
        go_enter Tryz.func36, Tryz.ntmps36
        go_wp2
        go_ret2
        exact ⟨ret_two (by rw [tN_near HN.out, HV.out]) (by rw [tE_near HN.out]), rfl⟩
    · have d2 : (H + L / 4294967296 == 1073741824) = false := by rw [beq_eq_false_iff_ne]; exact c2
      by_cases c4 : H + L / 4294967296 < -1073741824
      · have d4 : decide (H + L / 4294967296 < -1073741824) = true := decide_eq_true c4
        have HN : Hid (near (H * 4294967296 + L) = false) := near_no.2 (by rw [HV.out]; omega)
        clear c1 c2 c4
        go_enter Tryz.func36, Tryz.ntmps36
        go_wp2
        go_ret2
        exact ⟨ret_two (by rw [tN_far HN.out]) (by rw [tE_far HN.out]), rfl⟩
      · have d4 : decide (H + L / 4294967296 < -1073741824) = false := decide_eq_false c4
        have HN : Hid (near (H * 4294967296 + L) = true) := near_iff.2 (by rw [HV.out]; omega)
        have hl0 : (H + L / 4294967296) * 4294967296 + L % 4294967296 ≤ 4611686018427387904 := by omega
        have hl1 : -4611686018427387904 ≤ (H + L / 4294967296) * 4294967296 + L % 4294967296 := by omega
        clear c1 c2 c4
        go_enter Tryz.func36, Tryz.ntmps36
        go_wp2
        go_ret2
        exact ⟨ret_two (by rw [tN_near HN.out, HV.out]) (by rw [tE_near HN.out]), rfl⟩

/-- the parts of a sum -/
def hiP : List Int → Int
  | [] => 0
  | x :: r => x / 4294967296 + hiP r
def loP : List Int → Int
  | [] => 0
  | x :: r => x % 4294967296 + loP r
theorem parts_sum (l : List Int) : hiP l * 4294967296 + loP l = sumL l := by
  induction l with
  | nil => rfl
  | cons x r ih => show (x / 4294967296 + hiP r) * 4294967296 + (x % 4294967296 + loP r) = x + sumL r; omega
theorem hiP_snoc (l : List Int) (x : Int) : hiP (l ++ [x]) = hiP l + x / 4294967296 := by
  induction l with
  | nil => show x / _ + 0 = 0 + _; omega
  | cons y r ih => show y / _ + hiP (r ++ [x]) = y / _ + hiP r + _; rw [ih]; omega
theorem loP_snoc (l : List Int) (x : Int) : loP (l ++ [x]) = loP l + x % 4294967296 := by
  induction l with
  | nil => show x % _ + 0 = 0 + _; omega
  | cons y r ih => show y % _ + loP (r ++ [x]) = y % _ + loP r + _; rw [ih]; omega
theorem P_bound (l : List Int) (h : Fits l) : -2147483648 * (l.length : Int) ≤ hiP l ∧ hiP l ≤ 2147483648 * (l.length : Int) ∧ 0 ≤ loP l ∧ loP l ≤ 4294967296 * (l.length : Int) := by
  induction l with
  | nil => decide
  | cons x r ih =>
    have hx := h x List.mem_cons_self
    have hr := ih h.tail
    rw [List.length_cons]
    show _ ≤ x / _ + hiP r ∧ x / _ + hiP r ≤ _ ∧ 0 ≤ x % _ + loP r ∧ x % _ + loP r ≤ _
    omega
theorem take_snoc_getD (l : List Int) (k : Nat) (h : k < l.length) : l.take (k + 1) = l.take k ++ [l.getD k 0] := by
  rw [List.take_succ_eq_append_getElem h, List.getD_eq_getElem?_getD, List.getElem?_eq_getElem h]; rfl

set_option maxRecDepth 100000 in
set_option maxHeartbeats 400000 in
theorem rsum_cells (b o cap : Nat) (xs : List Int) (hf : Fits xs) (hl : xs.length ≤ 1000000) (w : World) (hc : ∀ k, k < xs.length → w.cell? ⟨b, o + k, none⟩ = some (.int .i64 (xs.getD k 0))) :
    Calls Tryz.prog 19 #[.slice (some ⟨b, o, none⟩) xs.length cap] w fun e w' => e = .returned (.tuple #[.int .i64 (tN (sumL xs)), .int .i64 (tE (sumL xs))]) ∧ w = w' := by
  have HC := Lib.hid hc; clear hc
  have HF := Lib.hid hf; clear hf
  go_enter Tryz.func19, Tryz.ntmps19
  go_wp2
  go_loop [4, 5, 6] (fun hi lo i => ∃ k : Nat, k ≤ xs.length ∧ i = .int .i64 k ∧ hi = .int .i64 (hiP (xs.take k)) ∧ lo = .int .i64 (loP (xs.take k))) (fun _ _ i => xs.length - (intOf i).toNat)
  case atStart => exact ⟨0, Nat.zero_le _, rfl, rfl, rfl⟩
  case round =>
    obtain ⟨k, hk, rfl, rfl, rfl⟩ := hrel
    have hb := P_bound (xs.take k) (HF.out.take k)
    rw [List.length_take, Nat.min_eq_left hk] at hb
    by_cases hlt : k < xs.length
    · have hcell := HC.out k hlt
      have hS1 := Lib.hid (take_snoc_getD xs k hlt)
      have hx : -9223372036854775808 ≤ xs.getD k 0 ∧ xs.getD k 0 ≤ 9223372036854775807 := HF.out _ (by rw [List.getD_eq_getElem?_getD, List.getElem?_eq_getElem hlt]; exact List.getElem_mem hlt)
      generalize xs.getD k 0 = x at *
      go_wp2_with (go_at_call 35; refine (two_any _ _).mono ?_; rintro e w' ⟨rfl, rfl⟩)
      go_round
      case rel => exact ⟨k + 1, by omega, by go_num, by rw [hS1.out, hiP_snoc], by rw [hS1.out, loP_snoc]⟩
      case measure => simp [intOf]; omega
    · have hk' : k = xs.length := by omega
      subst hk'
      rw [List.take_length] at hb ⊢
      have HB := Lib.hid hb; clear hb hk
      go_wp2_with (go_at_call 36; refine (one_any _ _ (by have := HB.out; omega) (by have := HB.out; unfold I64; omega) _).mono ?_; rintro e w' ⟨rfl, rfl⟩)
      go_ret2
      exact ⟨ret_two (by rw [parts_sum]) (by rw [parts_sum]), rfl⟩
theorem rsum_none (A : Option Addr) (cap : Nat) (w : World) :
    Calls Tryz.prog 19 #[.slice A 0 cap] w fun e w' => e = .returned (.tuple #[.int .i64 (tN (sumL [])), .int .i64 (tE (sumL []))]) ∧ w = w' := by
  go_enter Tryz.func19, Tryz.ntmps19
  go_wp2
  go_loop [4, 5, 6] (fun hi lo i => i = .int .i64 0 ∧ lo = .int .i64 0 ∧ hi = .int .i64 0) (fun _ _ i => 0)
  case atStart => exact ⟨rfl, rfl, rfl⟩
  case round =>
    obtain ⟨rfl, rfl, rfl⟩ := hrel
    go_wp2_with (go_at_call 36; refine (one_any 0 0 (by decide) (by unfold I64; decide) _).mono ?_; rintro e w' ⟨rfl, rfl⟩)
    go_ret2
    exact ⟨rfl, rfl⟩
theorem rsum_any (A : Option Addr) (cap n : Nat) (xs : List Int) (hn : n = xs.length) (hl : xs.length ≤ 1000000) (w : World) (h : Nums w A xs) :
    Calls Tryz.prog 19 #[.slice A n cap] w fun e w' => e = .returned (.tuple #[.int .i64 (tN (sumL xs)), .int .i64 (tE (sumL xs))]) ∧ w = w' := by
  subst hn
  by_cases h0 : xs = []
  · subst h0; exact rsum_none A cap w
  · obtain ⟨b, o, rfl, hc⟩ := h.cells h0
    exact rsum_cells b o cap xs h.2.1 hl w hc
theorem rsub_any (a b : Int) (ha : I64 a) (hb : I64 b) (w : World) :
    Calls Tryz.prog 20 #[.int .i64 a, .int .i64 b] w fun e w' => e = .returned (.tuple #[.int .i64 (tN (a - b)), .int .i64 (tE (a - b))]) ∧ w = w' := by
  unfold I64 at ha hb
  have hv : (a / 4294967296 - b / 4294967296) * 4294967296 + (a % 4294967296 - b % 4294967296) = a - b := by omega
  have HV := Lib.hid hv; clear hv
  have H1 : Hid (-4611686018427387904 ≤ a / 4294967296 - b / 4294967296 ∧ a / 4294967296 - b / 4294967296 ≤ 4611686018427387904 ∧ I64 (a % 4294967296 - b % 4294967296)) := ⟨by omega, by omega, by unfold I64; omega⟩
  go_enter Tryz.func20, Tryz.ntmps20
  go_wp2_with (first | (go_at_call 35; refine (two_any _ _).mono ?_; rintro e w' ⟨rfl, rfl⟩) | (go_at_call 36; refine (one_any _ _ ⟨H1.out.1, H1.out.2.1⟩ H1.out.2.2 _).mono ?_; rintro e w' ⟨rfl, rfl⟩))
  go_ret2
  exact ⟨ret_two (by rw [HV.out]) (by rw [HV.out]), rfl⟩

end Go.Proofs.YtfocdlhaohhkjaaGreatDoor.Money
