/-
  The document's reading of a text, byte by byte.
-/
import Derived.Test.YtfocdlhaohhkjaaGreatDoorC16R
namespace Go.Proofs.YtfocdlhaohhkjaaGreatDoor.Money
open Go.RowKit

/-- what holds at the head of each round -/
def PR (t : List UInt8) (k i : Nat) (n : Int) (far : Bool) : Prop :=
  i ≤ t.length ∧ pok t k i = true ∧ 0 ≤ n ∧ n ≤ 4611686018427387904 ∧ (far = true → 4611686018427387904 < (pv t k i : Int)) ∧ (far = false → n = (pv t k i : Int))
theorem PR_start (t : List UInt8) (k : Nat) : PR t k 0 0 false := ⟨Nat.zero_le _, rfl, by decide, by decide, (fun h => by cases h), fun _ => rfl⟩
theorem PR_skip {t : List UInt8} {k : Nat} {n : Int} {far : Bool} (h : PR t k k n far) (hk : k < t.length) : PR t k (k + 1) n far := by
  obtain ⟨_, h2, h3, h4, h5, h6⟩ := h
  exact ⟨hk, by rw [pok_at]; exact h2, h3, h4, fun x => by rw [pv_at]; exact h5 x, fun x => by rw [pv_at]; exact h6 x⟩
theorem PR_digit {t : List UInt8} {k i : Nat} {n d : Int} {far : Bool} (h : PR t k i n far) (hi : i < t.length) (hk : i ≠ k) (hc : isD (t.getD i 0) = true) (hd : d = (((t.getD i 0).toNat : Nat) : Int) - 48) :
    ((4611686018427387904 - d) / 10 < n → PR t k (i + 1) 1 true) ∧ (¬ (4611686018427387904 - d) / 10 < n → PR t k (i + 1) (n * 10 + d) far ∧ n * 10 + d ≤ 4611686018427387904) := by
  obtain ⟨_, h2, h3, h4, h5, h6⟩ := h
  have hb := isD_iff.1 hc
  have hok : pok t k (i + 1) = true := by rw [pok_next t k i hk, h2, hc]; rfl
  have hpv := pv_next t k i hk
  have hpv' : (pv t k (i + 1) : Int) = (pv t k i : Int) * 10 + d := by rw [hpv, hd]; omega
  constructor
  · intro hgt
    refine ⟨hi, hok, by decide, by decide, fun _ => ?_, fun x => by cases x⟩
    cases far with
    | true => have := h5 rfl; omega
    | false => have := h6 rfl; omega
  · intro hle
    refine ⟨⟨hi, hok, by omega, by omega, fun x => ?_, fun x => ?_⟩, by omega⟩
    · have := h5 x; omega
    · have := h6 x; omega
theorem PR_form {t : List UInt8} {k i : Nat} (hi : i < t.length) (hk : i ≠ k) (hc : isD (t.getD i 0) = false) : pok t k (i + 1) = false := by
  rw [pok_next t k i hk, hc, Bool.and_false]
/-- at the end -/
theorem PR_end {l : List UInt8} {n : Int} {far : Bool} (hA : ahead (rest l) = true) (h : PR (rest l) ((rest l).length - 3) (rest l).length n far) :
    (far = true → pN l = 0 ∧ pE l = 41) ∧ (far = false → isNeg l = true → n = 0 → pN l = 0 ∧ pE l = 4) ∧ (far = false → isNeg l = true → n ≠ 0 → pN l = -n ∧ pE l = 0) ∧ (far = false → isNeg l = false → pN l = n ∧ pE l = 0) := by
  obtain ⟨_, h2, h3, h4, h5, h6⟩ := h
  have h4' : 4 ≤ (rest l).length := by
    unfold ahead at hA; rw [Bool.and_eq_true, Bool.and_eq_true] at hA; exact of_decide_eq_true hA.1.1
  have hv := (pok_whole (rest l) h4').2
  rw [hv] at h5 h6
  refine ⟨fun hf => ?_, fun hf hn h0 => ?_, fun hf hn h0 => ?_, fun hf hn => ?_⟩
  · have hb := h5 hf
    have y := parse_yes hA h2 (Or.inr (by omega))
    have hfar : near (amtV l) = false := near_no.2 (by unfold amtV; split <;> omega)
    rw [tN_far hfar, tE_far hfar] at y; exact y
  · have hb := h6 hf
    exact parse_zero hn (by omega)
  · have hb := h6 hf
    have y := parse_yes hA h2 (Or.inr (by omega))
    have hnear : near (amtV l) = true := near_iff.2 (by unfold amtV; rw [if_pos hn]; omega)
    rw [tN_near hnear, tE_near hnear] at y
    exact ⟨by rw [y.1]; unfold amtV; rw [if_pos hn]; omega, y.2⟩
  · have hb := h6 hf
    have y := parse_yes hA h2 (Or.inl hn)
    have hnear : near (amtV l) = true := near_iff.2 (by unfold amtV; rw [if_neg (by rw [hn]; decide)]; omega)
    rw [tN_near hnear, tE_near hnear] at y
    exact ⟨by rw [y.1]; unfold amtV; rw [if_neg (by rw [hn]; decide)]; omega, y.2⟩

end Go.Proofs.YtfocdlhaohhkjaaGreatDoor.Money
