/-
  The walks of the document's products.
-/
import Derived.Test.YtfocdlhaohhkjaaGreatDoorC9
import Derived.Test.YtfocdlhaohhkjaaGreatDoorC8R
namespace Go.Proofs.YtfocdlhaohhkjaaGreatDoor.Money
open Go.RowKit

/-- what holds at the head of each round: p * q is what was put together, and by as often as q says -/
def MulRel (P q n by_ : Int) (far over : Bool) : Prop :=
  0 ≤ q ∧ q ≤ 9223372036854775807 ∧ I64 n ∧ I64 by_ ∧ ∃ B N : Int, 0 ≤ B ∧ 0 ≤ N ∧ N + B * q = P ∧ (far = true → 4611686018427387904 < P) ∧ (far = false → n = N ∧ N ≤ 4611686018427387904) ∧ (over = true → 4611686018427387904 < B) ∧ (over = false → by_ = B ∧ B ≤ 4611686018427387904)
theorem mul_start (p q : Int) (hp : 0 ≤ p) (hq : 0 ≤ q) (h1 : I64 p) (h2 : I64 q) : MulRel (p * q) q 0 p false (decide (4611686018427387904 < p)) := by
  unfold I64 at h2
  refine ⟨hq, h2.2, by unfold I64; omega, h1, p, 0, hp, Int.le_refl _, by omega, fun h => (by cases h), fun _ => ⟨rfl, by decide⟩, fun h => of_decide_eq_true h, fun h => ⟨rfl, ?_⟩⟩
  have := of_decide_eq_false h; omega
theorem mul_over {P q n b : Int} {far over : Bool} (h : MulRel P q n b far over) (n' : Int) (far' : Bool) (N' : Int → Int → Int)
    (hq : 0 < q) (hn : I64 n')
    (hstep : ∀ B N : Int, 0 ≤ B → 0 ≤ N → N + B * q = P → (far = true → 4611686018427387904 < P) → (far = false → n = N ∧ N ≤ 4611686018427387904) → (over = true → 4611686018427387904 < B) → (over = false → b = B ∧ B ≤ 4611686018427387904) →
      0 ≤ N' B N ∧ N' B N + (B + B) * (q / 2) = P ∧ (far' = true → 4611686018427387904 < P) ∧ (far' = false → n' = N' B N ∧ N' B N ≤ 4611686018427387904)) :
    MulRel P (q / 2) n' (tN (b + b)) far' (over || (tE (b + b) != 0)) := by
  obtain ⟨q0, q1, hn0, hb0, B, N, hB, hN, hP, f1, f2, o1, o2⟩ := h
  obtain ⟨a1, a2, a3, a4⟩ := hstep B N hB hN hP f1 f2 o1 o2
  refine ⟨by omega, by omega, hn, tN_i64 _, B + B, N' B N, by omega, a1, a2, a3, a4, fun h => ?_, fun h => ?_⟩
  · cases over with
    | true => have := o1 rfl; omega
    | false =>
      obtain ⟨e, l⟩ := o2 rfl
      cases hn : near (b + b) with
      | true => rw [tE_near hn] at h; simp at h
      | false => have := near_no.1 hn; omega
  · rw [Bool.or_eq_false_iff] at h
    obtain ⟨e, l⟩ := o2 h.1
    cases hn : near (b + b) with
    | true => rw [tN_near hn]; have := near_iff.1 hn; omega
    | false => rw [tE_far hn] at h; simp at h
theorem half_odd {q B : Int} (h : q % 2 = 1) : B * q = B + (B + B) * (q / 2) := by
  have e : q = 1 + (q / 2 + q / 2) := by omega
  have e2 : B * q = B * (1 + (q / 2 + q / 2)) := by rw [← e]
  rw [e2, Int.mul_add, Int.mul_add, Int.add_mul, Int.mul_one]
theorem half_even {q B : Int} (h : q % 2 = 0) : B * q = (B + B) * (q / 2) := by
  have e : q = q / 2 + q / 2 := by omega
  have e2 : B * q = B * (q / 2 + q / 2) := by rw [← e]
  rw [e2, Int.mul_add, Int.add_mul]
theorem mul_odd {P q n b : Int} {far over : Bool} (h : MulRel P q n b far over) (hq : 0 < q) (hodd : q % 2 = 1) :
    MulRel P (q / 2) (tN (n + b)) (tN (b + b)) (far || (over || (tE (n + b) != 0))) (over || (tE (b + b) != 0)) := by
  refine mul_over h (tN (n + b)) _ (fun B N => N + B) hq (tN_i64 _) fun B N hB hN hP f1 f2 o1 o2 => ?_
  have e := half_odd (B := B) hodd
  have hnn : 0 ≤ (B + B) * (q / 2) := Int.mul_nonneg (by omega) (by omega)
  refine ⟨by omega, by show N + B + _ = P; omega, fun h => ?_, fun h => ?_⟩
  · cases far with
    | true => exact f1 rfl
    | false =>
      cases over with
      | true => have := o1 rfl; omega
      | false =>
        obtain ⟨e1, l1⟩ := f2 rfl
        obtain ⟨e2, l2⟩ := o2 rfl
        cases hn : near (n + b) with
        | true => rw [tE_near hn] at h; simp at h
        | false => have := near_no.1 hn; omega
  · rw [Bool.or_eq_false_iff, Bool.or_eq_false_iff] at h
    obtain ⟨e1, l1⟩ := f2 h.1
    obtain ⟨e2, l2⟩ := o2 h.2.1
    cases hn : near (n + b) with
    | true =>
      have := near_iff.1 hn
      rw [tN_near hn]
      show n + b = N + B ∧ N + B ≤ _; omega
    | false => rw [tE_far hn] at h; simp at h
theorem mul_even {P q n b : Int} {far over : Bool} (h : MulRel P q n b far over) (hq : 0 < q) (hev : q % 2 = 0) :
    MulRel P (q / 2) n (tN (b + b)) far (over || (tE (b + b) != 0)) := by
  have hn := h.2.2.1
  refine mul_over h n _ (fun _ N => N) hq hn fun B N hB hN hP f1 f2 o1 o2 => ?_
  have e := half_even (B := B) hev
  exact ⟨hN, by show N + _ = P; omega, f1, f2⟩
theorem mul_end {P n b : Int} {far over : Bool} (h : MulRel P 0 n b far over) : (far = true → tN P = 0 ∧ tE P = 41) ∧ (far = false → tN P = n ∧ tE P = 0) := by
  obtain ⟨_, _, _, _, B, N, hB, hN, hP, f1, f2, _⟩ := h
  rw [Int.mul_zero, Int.add_zero] at hP
  constructor
  · intro h
    have hf : near P = false := near_no.2 (Or.inr (f1 h))
    exact ⟨tN_far hf, tE_far hf⟩
  · intro h
    obtain ⟨e, l⟩ := f2 h
    have hf : near P = true := near_iff.2 (by omega)
    exact ⟨by rw [tN_near hf]; omega, tE_near hf⟩
theorem rsum_two (a b : Int) (ha : I64 a) (hb : I64 b) (w : World) (T : TypeId) :
    Calls Tryz.prog 19 #[.slice (some ⟨w.heap.size, 0, none⟩) 2 2] (w.alloc (.cells #[.int .i64 a, .int .i64 b] T)) fun e w' => e = .returned (.tuple #[.int .i64 (tN (a + b)), .int .i64 (tE (a + b))]) ∧ Below w.heap.size w w' := by
  have h := rsum_any (some ⟨w.heap.size, 0, none⟩) 2 2 [a, b] rfl (by show 2 ≤ _; omega) _ (Nums.two w T a b ha hb)
  rw [sumL_two] at h
  exact h.mono fun e w' ⟨he, hw⟩ => ⟨he, hw ▸ Below.lay _ _⟩
set_option maxRecDepth 100000 in
set_option maxHeartbeats 1000000 in
theorem rmul_any (p q : Int) (hp : I64 p) (hq : I64 q) (w : World) :
    Calls Tryz.prog 23 #[.int .i64 p, .int .i64 q] w fun e w' => e = .returned (.tuple #[.int .i64 (mN p q), .int .i64 (mE p q)]) ∧ Below w.heap.size w w' := by
  by_cases h : p < 0 ∨ q < 0
  · have F := Lib.hid (m_arg h)
    by_cases h1 : p < 0
    · have d1 : decide (p < 0) = true := decide_eq_true h1
      clear h h1 hp hq
      go_enter Tryz.func23, Tryz.ntmps23
      go_wp2
      go_ret2
      exact ⟨ret_two (by rw [F.out.1]) (by rw [F.out.2]), Below.refl _ _⟩
    · have d1 : decide (p < 0) = false := decide_eq_false h1
      have d2 : decide (q < 0) = true := decide_eq_true (by omega)
      clear h h1 hp hq
      go_enter Tryz.func23, Tryz.ntmps23
      go_wp2
      go_ret2
      exact ⟨ret_two (by rw [F.out.1]) (by rw [F.out.2]), Below.refl _ _⟩
  · have F := Lib.hid (m_ok (p := p) (q := q) (by omega) (by omega))
    have d1 : decide (p < 0) = false := decide_eq_false (by omega)
    have d2 : decide (q < 0) = false := decide_eq_false (by omega)
    have R := Lib.hid (mul_start p q (by omega) (by omega) hp hq)
    clear h hp hq
    generalize p * q = P at *
    go_enter Tryz.func23, Tryz.ntmps23
    go_wp2
    generalize decide (4611686018427387904 < p) = ov at *
    go_loopw [1, 6, 7, 8, 9] (fun q n f b o wr => ∃ (q' n' b' : Int) (far over : Bool), q = .int .i64 q' ∧ n = .int .i64 n' ∧ f = .bool far ∧ b = .int .i64 b' ∧ o = .bool over ∧ Hid (MulRel P q' n' b' far over) ∧ Hid (Below w.heap.size w wr)) (fun q _ _ _ _ _ => (intOf q).toNat)
    case atStart => exact ⟨q, 0, p, false, ov, rfl, rfl, rfl, rfl, rfl, R, Lib.hid (Below.refl _ _)⟩
    case round =>
      obtain ⟨q', n', b', far, over, rfl, rfl, rfl, rfl, rfl, hR, hB⟩ := hrel
      have q0 := hR.out.1
      have q1 := hR.out.2.1
      by_cases hlt : 0 < q'
      · have dq : decide (0 < q') = true := decide_eq_true hlt
        have HN := Lib.hid hR.out.2.2.1
        have HBb := Lib.hid hR.out.2.2.2.1
        by_cases hodd : q' % 2 = 1
        · have e2 : (q' % 2 == 1) = true := by rw [beq_iff_eq]; exact hodd
          have R' := Lib.hid (mul_odd hR.out hlt hodd)
          clear hodd hR
          rcases tE_two (n' + b') with e1 | e1 <;> rcases tE_two (b' + b') with e3 | e3 <;> cases over
          all_goals
            have R2 := R'.out
            rw [e1, e3] at R2
            simp only [bne_self_eq_false, Bool.or_false, Bool.false_or, Bool.true_or, Bool.or_true, show ((41 : Int) != 0) = true from rfl] at R2
            have R3 := Lib.hid R2
            clear R2 R'
            go_wp2_with fail
            refine (rsum_two _ _ HN.out HBb.out _ _).mono ?_; rintro e w1 ⟨rfl, hb1⟩
            have H1 := Lib.hid (below_on hB.out hb1); clear hb1
            go_wp2_with fail
            refine (rsum_two _ _ HBb.out HBb.out _ _).mono ?_; rintro e w2 ⟨rfl, hb2⟩
            have H2 := Lib.hid (below_on H1.out hb2); clear hb2
            go_wp2_with fail
            go_roundw
            case rel => exact ⟨_, _, _, _, _, rfl, rfl, rfl, rfl, rfl, R3, H2⟩
            case measure => simp [intOf]; omega
        · have e2 : (q' % 2 == 1) = false := by rw [beq_eq_false_iff_ne]; exact hodd
          have R' := Lib.hid (mul_even hR.out hlt (by omega))
          clear hodd hR
          rcases tE_two (b' + b') with e3 | e3 <;> cases over
          all_goals
            have R2 := R'.out
            rw [e3] at R2
            simp only [bne_self_eq_false, Bool.or_false, Bool.false_or, Bool.true_or, Bool.or_true, show ((41 : Int) != 0) = true from rfl] at R2
            have R3 := Lib.hid R2
            clear R2 R'
            go_wp2_with fail
            refine (rsum_two _ _ HBb.out HBb.out _ _).mono ?_; rintro e w2 ⟨rfl, hb2⟩
            have H2 := Lib.hid (below_on hB.out hb2); clear hb2
            go_wp2_with fail
            go_roundw
            case rel => exact ⟨_, _, _, _, _, rfl, rfl, rfl, rfl, rfl, R3, H2⟩
            case measure => simp [intOf]; omega
      · have dq : decide (0 < q') = false := decide_eq_false hlt
        have hq0 : q' = 0 := by omega
        subst hq0
        have E := Lib.hid (mul_end hR.out)
        clear hR
        cases far
        · have E2 := Lib.hid (E.out.2 rfl)
          clear E
          go_wp2
          go_ret2
          exact ⟨ret_two (by rw [F.out.1, E2.out.1]) (by rw [F.out.2, E2.out.2]), hB.out⟩
        · have E2 := Lib.hid (E.out.1 rfl)
          clear E
          go_wp2
          go_ret2
          exact ⟨ret_two (by rw [F.out.1, E2.out.1]) (by rw [F.out.2, E2.out.2]), hB.out⟩

end Go.Proofs.YtfocdlhaohhkjaaGreatDoor.Money
