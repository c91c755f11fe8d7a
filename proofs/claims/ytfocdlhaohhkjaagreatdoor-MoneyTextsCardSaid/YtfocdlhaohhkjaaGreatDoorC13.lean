/-
  The document's text of a number: digit by digit.
-/
import Derived.Test.YtfocdlhaohhkjaaGreatDoorC12
namespace Go.Proofs.YtfocdlhaohhkjaaGreatDoor.Money
open Go.RowKit Go.Sort

/-- the j lowest digits -/
def low (q : Nat) : Nat → List UInt8
  | 0 => []
  | j + 1 => Lib.dg q j :: low q j
theorem low_map (q j : Nat) : low q j = (List.range j).map fun t => Lib.dg q (j - 1 - t) := by
  induction j with
  | zero => rfl
  | succ j ih =>
    rw [List.range_succ_eq_map, List.map_cons, List.map_map]
    show Lib.dg q j :: low q j = Lib.dg q (j + 1 - 1 - 0) :: _
    rw [ih]
    congr 1
    refine List.map_congr_left fun t ht => ?_
    have := List.mem_range.1 ht
    show Lib.dg q (j - 1 - t) = Lib.dg q (j + 1 - 1 - (t + 1))
    congr 1; omega
theorem low_dec (q j : Nat) (h0 : 1 ≤ j) (h1 : q < 10 ^ j) (h2 : j = 1 ∨ 10 ^ (j - 1) ≤ q) : low q j = Lib.decDigits q := by
  have hn : Lib.nDigits q = j := by
    obtain ⟨k, rfl⟩ : ∃ k, j = k + 1 := ⟨j - 1, by omega⟩
    rcases h2 with h2 | h2
    · have : k = 0 := by omega
      subst this
      exact Lib.nDigits_small (by simpa using h1)
    · exact Lib.nDigits_unique k q h2 h1
  rw [Lib.decDigits_eq, hn, low_map]
/-- the text behind k rounds -/
def txt (m : Nat) : Nat → List UInt8
  | 0 => []
  | k + 1 => Lib.dg m k :: (if k = 2 then 46 :: txt m k else txt m k)
theorem dg_hundred (m j : Nat) : Lib.dg m (j + 2) = Lib.dg (m / 100) j := by
  rw [Lib.dg_succ, Lib.dg_succ, Nat.div_div_eq_div_mul]
theorem txt_long (m j : Nat) : txt m (j + 3) = low (m / 100) (j + 1) ++ [46, Lib.dg m 1, Lib.dg m 0] := by
  induction j with
  | zero =>
    show Lib.dg m 2 :: (if 2 = 2 then 46 :: txt m 2 else txt m 2) = Lib.dg (m / 100) 0 :: ([] ++ _)
    rw [if_pos rfl, dg_hundred]; rfl
  | succ j ih =>
    show Lib.dg m (j + 3) :: (if j + 3 = 2 then 46 :: txt m (j + 3) else txt m (j + 3)) = Lib.dg (m / 100) (j + 1) :: (low (m / 100) (j + 1) ++ _)
    rw [if_neg (by omega), ih, show j + 3 = j + 1 + 2 from rfl, dg_hundred]
theorem txt_end (m k : Nat) (h3 : 3 ≤ k) (h0 : m / 10 ^ k = 0) (hk : k = 3 ∨ m / 10 ^ (k - 1) ≠ 0) : txt m k = showN m := by
  obtain ⟨j, rfl⟩ : ∃ j, k = j + 3 := ⟨k - 3, by omega⟩
  have hp : 0 < 10 ^ j := Nat.pow_pos (by decide)
  have h1 : m < 10 ^ j * 1000 := by
    have := (Nat.div_eq_zero_iff).1 h0
    rw [Nat.pow_add] at this
    rcases this with this | this
    · omega
    · exact this
  have e1 : low (m / 100) (j + 1) = Lib.decDigits (m / 100) := by
    apply low_dec _ _ (by omega)
    · rw [Nat.pow_succ]; omega
    · rcases hk with hk | hk
      · left; omega
      · right
        rw [show j + 3 - 1 = j + 2 by omega, Nat.pow_add] at hk
        rw [show j + 1 - 1 = j by omega]
        have h2 : 10 ^ j * 10 ^ 2 ≤ m := by
          rcases Nat.lt_or_ge m (10 ^ j * 10 ^ 2) with h | h
          · exact absurd (Nat.div_eq_of_lt h) hk
          · exact h
        omega
  rw [txt_long, e1]
  unfold showN Lib.dg
  simp
theorem round_few (m k : Nat) (hm : m ≤ 9223372036854775808) (h : k ≤ 3 ∨ m / 10 ^ (k - 1) ≠ 0) : k ≤ 20 := by
  rcases h with h | h
  · omega
  · rcases Nat.lt_or_ge k 21 with h' | h'
    · omega
    · exfalso
      apply h
      apply Nat.div_eq_of_lt
      have : 10 ^ 20 ≤ 10 ^ (k - 1) := Nat.pow_le_pow_right (by decide) (by omega)
      omega
theorem next_digit (m k : Nat) : m / 10 ^ (k + 1) = m / 10 ^ k / 10 := by rw [Nat.pow_succ, Nat.div_div_eq_div_mul]
theorem dg_val (m k : Nat) : ((Lib.dg m k).toNat : Int) = 48 + ((m / 10 ^ k % 10 : Nat) : Int) := by
  unfold Lib.dg
  rw [toNat_digit _ (Nat.mod_lt _ (by decide))]; omega
theorem txt_len (m k : Nat) : (txt m k).length ≤ k + 1 := by
  have key : (txt m k).length ≤ k + (if k < 3 then 0 else 1) := by
    induction k with
    | zero => exact Nat.zero_le _
    | succ k ih =>
      show (Lib.dg m k :: (if k = 2 then 46 :: txt m k else txt m k)).length ≤ _
      rw [List.length_cons]
      by_cases h2 : k = 2
      · subst h2
        rw [if_pos rfl, List.length_cons]
        simp at ih ⊢; omega
      · rw [if_neg h2]
        split at ih <;> split <;> omega
  split at key <;> omega
theorem conv_one (W : World) (c : UInt8) : (convert 67 9 (.slice (some ⟨W.heap.size, 0, none⟩) 1 1)).run Tryz.prog (W.alloc (.cells #[.int .u8 (c.toNat : Int)] 5)) = .ok (.string (S [c])) (W.alloc (.cells #[.int .u8 (c.toNat : Int)] 5)) := by
  exact run_convert_bytes_back (P := Tryz.prog) (W.alloc (.cells #[.int .u8 (c.toNat : Int)] 5)) 67 9 5 ⟨W.heap.size, 0, none⟩ 1 [c] (by kernel_rfl) (by kernel_rfl) (by kernel_rfl) (fun j hj => by
    have : j = 0 := by simpa using hj
    subst this
    rw [Lib.add_plain, World.cell?_alloc_new]; rfl)

set_option maxRecDepth 100000 in
set_option maxHeartbeats 1000000 in
theorem rshow_pos (n : Int) (hn : 0 ≤ n) (hn1 : n ≤ 9223372036854775807) (w : World) :
    Calls Tryz.prog 37 #[.int .i64 n] w fun e w' => e = .returned (.string (S (showN n.natAbs))) ∧ Below w.heap.size w w' := by
  obtain ⟨m, rfl⟩ := Int.eq_ofNat_of_zero_le hn
  rw [Int.natAbs_natCast]
  have hm : m ≤ 9223372036854775808 := by omega
  have HM := Lib.hid hm; clear hm hn hn1
  go_enter Tryz.func37, Tryz.ntmps37
  go_wp2
  go_loopw [0, 3, 4] (fun x s i wr => ∃ k X : Nat, i = .int .i64 k ∧ x = .int .i64 X ∧ s = .string (S (txt m k)) ∧ Hid (X = m / 10 ^ k) ∧ Hid (k ≤ 3 ∨ m / 10 ^ (k - 1) ≠ 0) ∧ Hid (Below w.heap.size w wr)) (fun x _ i _ => (3 - intOf i).toNat + (intOf x).natAbs)
  case atStart => exact ⟨0, m, rfl, rfl, rfl, by show m = m / 1; rw [Nat.div_one], Or.inl (by decide), Lib.hid (Below.refl _ _)⟩
  case round =>
    obtain ⟨k, X, rfl, rfl, rfl, hX, hK, hB⟩ := hrel
    have hk20 := round_few m k HM.out hK.out
    have hX1 : X ≤ 9223372036854775808 := by rw [hX.out]; exact Nat.le_trans (Nat.div_le_self _ _) HM.out
    have hdv := dg_val m k
    rw [← hX.out] at hdv
    have hl : (S (txt m k)).size ≤ 22 := by rw [S_size]; have := txt_len m k; omega
    have hl1 : (S [Lib.dg m k]).size ≤ 1 := Nat.le_refl 1
    have hl2 : ((⟨#[46]⟩ : ByteArray) ++ S (txt m k)).size ≤ 23 := by rw [ByteArray.size_append]; show 1 + _ ≤ _; omega
    have hc := fun W => conv_one W (Lib.dg m k)
    have HN : Hid (X / 10 = m / 10 ^ (k + 1)) := by show X / 10 = _; rw [next_digit, hX.out]
    have HT : Hid (∀ h : k ≠ 2, S [Lib.dg m k] ++ S (txt m k) = S (txt m (k + 1))) := fun h => by
      rw [S_append]; show _ = S (Lib.dg m k :: (if k = 2 then 46 :: txt m k else txt m k)); rw [if_neg h]; rfl
    have HT2 : Hid (∀ h : k = 2, S [Lib.dg m k] ++ (S [46] ++ S (txt m k)) = S (txt m (k + 1))) := fun h => by
      rw [S_append, S_append]; show _ = S (Lib.dg m k :: (if k = 2 then 46 :: txt m k else txt m k)); rw [if_pos h]; rfl
    by_cases hgo : k < 3 ∨ X ≠ 0
    · have HK : Hid (k + 1 ≤ 3 ∨ m / 10 ^ (k + 1 - 1) ≠ 0) := by
        rcases hgo with h | h
        · left; omega
        · right; rw [Nat.add_sub_cancel, ← hX.out]; exact h
      have hu : IntKind.u8.wrap (48 + (X : Int) % 10) = ((Lib.dg m k).toNat : Int) := by rw [IntKind.wrap_u8, hdv]; omega
      have HMs : Hid (3 - ((k : Int) + 1) = 3 - ((k : Int) + 1)) := rfl
      clear hdv
      by_cases h3 : k < 3
      · have g1 : decide ((k : Int) < 3) = true := decide_eq_true (by omega)
        by_cases h2 : k = 2
        · have g3 : ((k : Int) == 2) = true := by rw [beq_iff_eq]; omega
          have HE := Lib.hid (HT2.out h2)
          clear h2 hgo
          go_wp2
          go_roundw
          case rel => exact ⟨k + 1, X / 10, by go_num, by go_num, by first | (rw [← HE.out]; done) | (rw [← HE.out]; rfl), HN, HK, Lib.hid (Below.alloc hB.out hB.out.size _)⟩
          case measure => simp [intOf]; omega
        · have g3 : ((k : Int) == 2) = false := by rw [beq_eq_false_iff_ne]; omega
          have HE := Lib.hid (HT.out h2)
          clear h2 hgo
          go_wp2
          go_roundw
          case rel => exact ⟨k + 1, X / 10, by go_num, by go_num, by first | (rw [← HE.out]; done) | (rw [← HE.out]; rfl), HN, HK, Lib.hid (Below.alloc hB.out hB.out.size _)⟩
          case measure => simp [intOf]; omega
      · have g1 : decide ((k : Int) < 3) = false := decide_eq_false (by omega)
        have hX0 : X ≠ 0 := by omega
        have g2 : ((X : Int) != 0) = true := by rw [bne_iff_ne]; omega
        have g3 : ((k : Int) == 2) = false := by rw [beq_eq_false_iff_ne]; omega
        have HE := Lib.hid (HT.out (by omega))
        have hXp : 0 < X := by omega
        clear hgo hX0
        go_wp2
        go_roundw
        case rel => exact ⟨k + 1, X / 10, by go_num, by go_num, by first | (rw [← HE.out]; done) | (rw [← HE.out]; rfl), HN, HK, Lib.hid (Below.alloc hB.out hB.out.size _)⟩
        case measure => simp [intOf]; omega
    · have g1 : decide ((k : Int) < 3) = false := decide_eq_false (by omega)
      have hX0 : X = 0 := by omega
      have g2 : ((X : Int) != 0) = false := by rw [hX0]; rfl
      have HF : Hid (txt m k = showN m) := txt_end m k (by omega) (by rw [← hX.out]; exact hX0) (by have := hK.out; omega)
      clear hgo hX0
      go_wp2
      go_ret
      exact ⟨ret_bytes (by rw [← HF.out]), hB.out⟩

set_option maxRecDepth 100000 in
set_option maxHeartbeats 1000000 in
theorem rshow_neg (n : Int) (hn : n < 0) (hn1 : -9223372036854775808 ≤ n) (w : World) :
    Calls Tryz.prog 37 #[.int .i64 n] w fun e w' => e = .returned (.string (S (showN n.natAbs))) ∧ Below w.heap.size w w' := by
  obtain ⟨m, rfl⟩ : ∃ m : Nat, n = -(m : Int) := ⟨n.natAbs, by omega⟩
  rw [Int.natAbs_neg, Int.natAbs_natCast]
  have hm : m ≤ 9223372036854775808 := by omega
  have HM := Lib.hid hm; clear hm hn hn1
  go_enter Tryz.func37, Tryz.ntmps37
  go_wp2
  go_loopw [0, 3, 4] (fun x s i wr => ∃ k X : Nat, i = .int .i64 k ∧ x = .int .i64 (-(X : Int)) ∧ s = .string (S (txt m k)) ∧ Hid (X = m / 10 ^ k) ∧ Hid (k ≤ 3 ∨ m / 10 ^ (k - 1) ≠ 0) ∧ Hid (Below w.heap.size w wr)) (fun x _ i _ => (3 - intOf i).toNat + (intOf x).natAbs)
  case atStart => exact ⟨0, m, rfl, rfl, rfl, by show m = m / 1; rw [Nat.div_one], Or.inl (by decide), Lib.hid (Below.refl _ _)⟩
  case round =>
    obtain ⟨k, X, rfl, rfl, rfl, hX, hK, hB⟩ := hrel
    have hk20 := round_few m k HM.out hK.out
    have hX1 : X ≤ 9223372036854775808 := by rw [hX.out]; exact Nat.le_trans (Nat.div_le_self _ _) HM.out
    have hdv := dg_val m k
    rw [← hX.out] at hdv
    have hl : (S (txt m k)).size ≤ 22 := by rw [S_size]; have := txt_len m k; omega
    have hl1 : (S [Lib.dg m k]).size ≤ 1 := Nat.le_refl 1
    have hl2 : ((⟨#[46]⟩ : ByteArray) ++ S (txt m k)).size ≤ 23 := by rw [ByteArray.size_append]; show 1 + _ ≤ _; omega
    have hc := fun W => conv_one W (Lib.dg m k)
    have HN : Hid (X / 10 = m / 10 ^ (k + 1)) := by show X / 10 = _; rw [next_digit, hX.out]
    have HT : Hid (∀ h : k ≠ 2, S [Lib.dg m k] ++ S (txt m k) = S (txt m (k + 1))) := fun h => by
      rw [S_append]; show _ = S (Lib.dg m k :: (if k = 2 then 46 :: txt m k else txt m k)); rw [if_neg h]; rfl
    have HT2 : Hid (∀ h : k = 2, S [Lib.dg m k] ++ (S [46] ++ S (txt m k)) = S (txt m (k + 1))) := fun h => by
      rw [S_append, S_append]; show _ = S (Lib.dg m k :: (if k = 2 then 46 :: txt m k else txt m k)); rw [if_pos h]; rfl
    by_cases hgo : k < 3 ∨ X ≠ 0
    · have HK : Hid (k + 1 ≤ 3 ∨ m / 10 ^ (k + 1 - 1) ≠ 0) := by
        rcases hgo with h | h
        · left; omega
        · right; rw [Nat.add_sub_cancel, ← hX.out]; exact h
      have hr : (-(X : Int)).tmod 10 = -((X : Int) % 10) := by rw [Int.neg_tmod, Int.tmod_eq_emod_of_nonneg (by omega)]
      have hq : (-(X : Int)).tdiv 10 = -((X : Int) / 10) := by rw [Int.neg_tdiv, Int.tdiv_eq_ediv_of_nonneg (by omega)]
      by_cases hz : X % 10 = 0
      · have gd : decide (0 < (X : Int) % 10) = false := decide_eq_false (by omega)
        have hu0 : IntKind.u8.wrap (48 + -((X : Int) % 10)) = ((Lib.dg m k).toNat : Int) := by rw [IntKind.wrap_u8, hdv]; omega
        have hv0 : 48 + -((X : Int) % 10) = ((Lib.dg m k).toNat : Int) := by rw [hdv]; omega
        clear hz hdv
        by_cases h3 : k < 3
        · have g1 : decide ((k : Int) < 3) = true := decide_eq_true (by omega)
          by_cases h2 : k = 2
          · have g3 : ((k : Int) == 2) = true := by rw [beq_iff_eq]; omega
            have HE := Lib.hid (HT2.out h2)
            clear h2 hgo
            go_wp2
            go_roundw
            case rel => exact ⟨k + 1, X / 10, by go_num, by go_num, by first | (rw [← HE.out]; done) | (rw [← HE.out]; rfl), HN, HK, Lib.hid (Below.alloc hB.out hB.out.size _)⟩
            case measure => simp [intOf]; omega
          · have g3 : ((k : Int) == 2) = false := by rw [beq_eq_false_iff_ne]; omega
            have HE := Lib.hid (HT.out h2)
            clear h2 hgo
            go_wp2
            go_roundw
            case rel => exact ⟨k + 1, X / 10, by go_num, by go_num, by first | (rw [← HE.out]; done) | (rw [← HE.out]; rfl), HN, HK, Lib.hid (Below.alloc hB.out hB.out.size _)⟩
            case measure => simp [intOf]; omega
        · have g1 : decide ((k : Int) < 3) = false := decide_eq_false (by omega)
          have hX0 : X ≠ 0 := by omega
          have g2 : ((-(X : Int)) != 0) = true := by rw [bne_iff_ne]; omega
          have g3 : ((k : Int) == 2) = false := by rw [beq_eq_false_iff_ne]; omega
          have HE := Lib.hid (HT.out (by omega))
          have hXp : 0 < X := by omega
          clear hgo hX0
          go_wp2
          go_roundw
          case rel => exact ⟨k + 1, X / 10, by go_num, by go_num, by first | (rw [← HE.out]; done) | (rw [← HE.out]; rfl), HN, HK, Lib.hid (Below.alloc hB.out hB.out.size _)⟩
          case measure => simp [intOf]; omega
      · have gd : decide (0 < (X : Int) % 10) = true := decide_eq_true (by omega)
        have hu : IntKind.u8.wrap (48 + (X : Int) % 10) = ((Lib.dg m k).toNat : Int) := by rw [IntKind.wrap_u8, hdv]; omega
        have hv : 48 + (X : Int) % 10 = ((Lib.dg m k).toNat : Int) := by rw [hdv]; omega
        clear hz hdv
        by_cases h3 : k < 3
        · have g1 : decide ((k : Int) < 3) = true := decide_eq_true (by omega)
          by_cases h2 : k = 2
          · have g3 : ((k : Int) == 2) = true := by rw [beq_iff_eq]; omega
            have HE := Lib.hid (HT2.out h2)
            clear h2 hgo
            go_wp2
            go_roundw
            case rel => exact ⟨k + 1, X / 10, by go_num, by go_num, by first | (rw [← HE.out]; done) | (rw [← HE.out]; rfl), HN, HK, Lib.hid (Below.alloc hB.out hB.out.size _)⟩
            case measure => simp [intOf]; omega
          · have g3 : ((k : Int) == 2) = false := by rw [beq_eq_false_iff_ne]; omega
            have HE := Lib.hid (HT.out h2)
            clear h2 hgo
            go_wp2
            go_roundw
            case rel => exact ⟨k + 1, X / 10, by go_num, by go_num, by first | (rw [← HE.out]; done) | (rw [← HE.out]; rfl), HN, HK, Lib.hid (Below.alloc hB.out hB.out.size _)⟩
            case measure => simp [intOf]; omega
        · have g1 : decide ((k : Int) < 3) = false := decide_eq_false (by omega)
          have hX0 : X ≠ 0 := by omega
          have g2 : ((-(X : Int)) != 0) = true := by rw [bne_iff_ne]; omega
          have g3 : ((k : Int) == 2) = false := by rw [beq_eq_false_iff_ne]; omega
          have HE := Lib.hid (HT.out (by omega))
          have hXp : 0 < X := by omega
          clear hgo hX0
          go_wp2
          go_roundw
          case rel => exact ⟨k + 1, X / 10, by go_num, by go_num, by first | (rw [← HE.out]; done) | (rw [← HE.out]; rfl), HN, HK, Lib.hid (Below.alloc hB.out hB.out.size _)⟩
          case measure => simp [intOf]; omega
    · have g1 : decide ((k : Int) < 3) = false := decide_eq_false (by omega)
      have hX0 : X = 0 := by omega
      have g2 : ((-(X : Int)) != 0) = false := by rw [hX0]; rfl
      have HF : Hid (txt m k = showN m) := txt_end m k (by omega) (by rw [← hX.out]; exact hX0) (by have := hK.out; omega)
      clear hgo hX0
      go_wp2
      go_ret
      exact ⟨ret_bytes (by rw [← HF.out]), hB.out⟩

end Go.Proofs.YtfocdlhaohhkjaaGreatDoor.Money
