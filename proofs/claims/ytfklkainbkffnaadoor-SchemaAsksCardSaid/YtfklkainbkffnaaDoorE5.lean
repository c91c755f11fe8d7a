/-
  The walks of Word, Kind, Worded.
-/
import Derived.Test.YtfklkainbkffnaaDoorE4
namespace Go.Proofs.YtfklkainbkffnaaDoor.Schema
open Go Go.RowKit

theorem str_eq (a b : ByteArray) : (a.toList == b.toList) = decide (a = b) := by
  rw [Bool.eq_iff_iff, beq_iff_eq, decide_eq_true_iff, ByteArray.toList_eq, ByteArray.toList_eq]
  exact ⟨fun h => ByteArray.ext (Array.ext' h), fun h => by rw [h]⟩
theorem word_out (k : Nat) (h : isC k = false) : (cmAt k).word = ⟨#[]⟩ := by
  unfold isC at h
  by_cases h0 : 0 < k
  · rw [cmAt_out k (by simpa [h0] using h)]; rfl
  · obtain rfl : k = 0 := by omega
    rfl
theorem isC_iff {k : Nat} : isC k = true ↔ 0 < k ∧ k < 21 := by unfold isC; simp
theorem word_any (k : Nat) (hk : k < 256) (w : World) (E : Env w) :
    Calls Tryd.prog 36 #[.int .u8 k] w fun e w' => e = .returned (.string (cmAt k).word) ∧ w = w' := by
  cases h : isC k with
  | true =>
    have hk2 := (isC_iff.1 h).2
    obtain ⟨c0, _⟩ := E.c k hk2
    generalize (cmAt k).word = s at c0 ⊢
    have H := Lib.hid h
    clear E h
    go_enter Tryd.func36, Tryd.ntmps36
    go_wp2_with (go_at_call 46; refine (isc_any k hk _).mono ?_; rintro e w' ⟨rfl, rfl⟩; rw [H.out])
    go_ret
    exact ⟨rfl, rfl⟩
  | false =>
    rw [word_out k h]
    have H := Lib.hid h
    clear E h
    go_enter Tryd.func36, Tryd.ntmps36
    go_wp2_with (go_at_call 46; refine (isc_any k hk _).mono ?_; rintro e w' ⟨rfl, rfl⟩; rw [H.out])
    go_ret
    exact ⟨rfl, rfl⟩

/-- the first number below n that is met -/
def firstAt (n : Nat) (p : Nat → Bool) : Nat := ((List.range n).find? p).getD 0
theorem firstAt_hit {n k : Nat} {p : Nat → Bool} (hk : k < n) (hp : p k = true) (hno : ∀ j, j < k → p j = false) : firstAt n p = k := by
  unfold firstAt
  rw [List.find?_range_eq_some.2 ⟨hp, List.mem_range.2 hk, fun j hj => by rw [hno j hj]; rfl⟩]; rfl
theorem firstAt_none {n : Nat} {p : Nat → Bool} (hno : ∀ j, j < n → p j = false) : firstAt n p = 0 := by
  unfold firstAt
  rw [List.find?_eq_none.2 (fun j hj => by rw [hno j (List.mem_range.1 hj)]; simp)]; rfl
theorem no_step {p : Nat → Bool} {k : Nat} (h : Hid (∀ j, j < k → p j = false)) (hk : p k = false) : Hid (∀ j, j < k + 1 → p j = false) := fun j hj => by
  by_cases e : j = k
  · exact e ▸ hk
  · exact h j (by omega)
theorem ret_kb {n m : Int} {a b : Bool} (h1 : n = m) (h2 : a = b) : Ending.returned (.tuple #[.int .u8 n, .bool a]) = .returned (.tuple #[.int .u8 m, .bool b]) := by rw [h1, h2]
theorem firstAt_lt {n : Nat} {p : Nat → Bool} (h : 0 < firstAt n p) : firstAt n p < n ∧ p (firstAt n p) = true := by
  unfold firstAt at h ⊢
  cases e : (List.range n).find? p with
  | none => rw [e] at h; exact absurd h (Nat.lt_irrefl _)
  | some k => exact ⟨List.mem_range.1 (List.mem_of_find?_eq_some e), List.find?_some e⟩
def hitE (s : ByteArray) (k : Nat) : Bool := decide ((evAt k).name = s) && !s.toList.isEmpty
def hitC (s : ByteArray) (k : Nat) : Bool := isC k && decide ((cmAt k).word = s)
def kindOf (s : ByteArray) : Nat := firstAt 24 (hitE s)
def comOf (s : ByteArray) : Nat := firstAt 21 (hitC s)

theorem hitE_zero (s : ByteArray) : hitE s 0 = false := by
  unfold hitE
  rw [show (evAt 0).name = ⟨#[]⟩ from rfl]
  by_cases h : s.toList = []
  · simp [h]
  · have : ¬ (⟨#[]⟩ : ByteArray) = s := fun e => h (by rw [← e]; decide +kernel)
    simp [this]
theorem hitC_zero (s : ByteArray) : hitC s 0 = false := rfl

set_option maxRecDepth 100000 in
theorem kind_any (s : ByteArray) (w : World) (E : Env w) :
    Calls Tryd.prog 18 #[.string s] w fun e w' => e = .returned (.tuple #[.int .u8 (kindOf s), .bool (decide (0 < kindOf s))]) ∧ w = w' := by
  have HE := Lib.hid E
  clear E
  go_enter Tryd.func18, Tryd.ntmps18
  go_wp2
  go_loop [5] (fun i => ∃ k : Nat, k ≤ 24 ∧ i = .int .u8 k ∧ Hid (∀ j, j < k → hitE s j = false)) (fun i => 24 - (intOf i).toNat)
  case atStart => exact ⟨0, Nat.zero_le _, rfl, fun j hj => absurd hj (by omega)⟩
  case round =>
    obtain ⟨k, hk, rfl, HN⟩ := hrel
    by_cases hlt : k < 24
    · obtain ⟨c0, _⟩ := HE.out.f k hlt
      have HH := Lib.hid (show hitE s k = (decide ((evAt k).name = s) && !s.toList.isEmpty) from rfl)
      generalize (evAt k).name = t at c0 HH
      by_cases he : s.toList = []
      · have he' : s.toList.isEmpty = true := by rw [he]; rfl
        have HO := Lib.hid (show hitE s k = false from by rw [HH.out, he']; simp)
        go_wp2
        go_round
        case rel => exact ⟨k + 1, by omega, by go_num, no_step HN HO.out⟩
        case measure => simp [intOf] <;> omega
      · have he' : s.toList.isEmpty = false := by simpa using he
        by_cases hq : t = s
        · have h1 : hitE s k = true := by rw [HH.out, he', hq]; simp
          have HO := Lib.hid (show kindOf s = k from firstAt_hit hlt h1 HN)
          have HK := Lib.hid (show 0 < k from by
            rcases Nat.eq_zero_or_pos k with h0 | h0
            · rw [h0, hitE_zero] at h1; cases h1
            · exact h0)
          have hq' : (t.toList == s.toList) = true := by rw [str_eq]; exact decide_eq_true hq
          clear h1 hq
          go_wp2
          go_ret2
          exact ⟨ret_kb (by rw [HO.out]) (by rw [HO.out]; exact (decide_eq_true HK.out).symm), rfl⟩
        · have HO := Lib.hid (show hitE s k = false from by rw [HH.out]; simp [hq])
          have hq' : (t.toList == s.toList) = false := by rw [str_eq]; exact decide_eq_false hq
          go_wp2
          go_round
          case rel => exact ⟨k + 1, by omega, by go_num, no_step HN HO.out⟩
          case measure => simp [intOf] <;> omega
    · obtain rfl : k = 24 := by omega
      have HO := Lib.hid (show kindOf s = 0 from firstAt_none HN)
      go_wp2
      go_ret2
      exact ⟨ret_kb (by rw [HO.out]; rfl) (by rw [HO.out]; rfl), rfl⟩

set_option maxRecDepth 100000 in
theorem worded_any (s : ByteArray) (w : World) (E : Env w) :
    Calls Tryd.prog 33 #[.string s] w fun e w' => e = .returned (.tuple #[.int .u8 (comOf s), .bool (decide (0 < comOf s))]) ∧ w = w' := by
  have HE := Lib.hid E
  clear E
  go_enter Tryd.func33, Tryd.ntmps33
  go_wp2
  go_loop [5] (fun i => ∃ k : Nat, k ≤ 21 ∧ i = .int .u8 k ∧ Hid (∀ j, j < k → hitC s j = false)) (fun i => 21 - (intOf i).toNat)
  case atStart => exact ⟨0, Nat.zero_le _, rfl, fun j hj => absurd hj (by omega)⟩
  case round =>
    obtain ⟨k, hk, rfl, HN⟩ := hrel
    by_cases hlt : k < 21
    · obtain ⟨c0, _⟩ := HE.out.c k hlt
      have HH := Lib.hid (show hitC s k = (isC k && decide ((cmAt k).word = s)) from rfl)
      generalize (cmAt k).word = t at c0 HH
      cases hc : isC k with
      | false =>
        have HC := Lib.hid hc
        have HO := Lib.hid (show hitC s k = false from by rw [HH.out, hc]; rfl)
        clear hc
        go_wp2_with (go_at_call 46; refine (isc_any k (by omega) _).mono ?_; rintro e w' ⟨rfl, rfl⟩; rw [HC.out])
        go_round
        case rel => exact ⟨k + 1, by omega, by go_num, no_step HN HO.out⟩
        case measure => simp [intOf] <;> omega
      | true =>
        have HC := Lib.hid hc
        by_cases hq : t = s
        · have h1 : hitC s k = true := by rw [HH.out, hc, hq]; simp
          have HO := Lib.hid (show comOf s = k from firstAt_hit hlt h1 HN)
          have HK := Lib.hid (isC_iff.1 hc).1
          have hq' : (t.toList == s.toList) = true := by rw [str_eq]; exact decide_eq_true hq
          clear h1 hq hc
          go_wp2_with (go_at_call 46; refine (isc_any k (by omega) _).mono ?_; rintro e w' ⟨rfl, rfl⟩; rw [HC.out])
          go_ret2
          exact ⟨ret_kb (by rw [HO.out]) (by rw [HO.out]; exact (decide_eq_true HK.out).symm), rfl⟩
        · have HO := Lib.hid (show hitC s k = false from by rw [HH.out]; simp [hq])
          have hq' : (t.toList == s.toList) = false := by rw [str_eq]; exact decide_eq_false hq
          clear hc
          go_wp2_with (go_at_call 46; refine (isc_any k (by omega) _).mono ?_; rintro e w' ⟨rfl, rfl⟩; rw [HC.out])
          go_round
          case rel => exact ⟨k + 1, by omega, by go_num, no_step HN HO.out⟩
          case measure => simp [intOf] <;> omega
    · obtain rfl : k = 21 := by omega
      have HO := Lib.hid (show comOf s = 0 from firstAt_none HN)
      go_wp2
      go_ret2
      exact ⟨ret_kb (by rw [HO.out]; rfl) (by rw [HO.out]; rfl), rfl⟩

end Go.Proofs.YtfklkainbkffnaaDoor.Schema
