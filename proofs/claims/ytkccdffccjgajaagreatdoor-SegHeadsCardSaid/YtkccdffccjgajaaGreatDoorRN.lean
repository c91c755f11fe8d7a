import Derived.Test.YtkccdffccjgajaaGreatDoorRH
/-
  The document's own Name, Named.
-/
namespace Go.Proofs.YtkccdffccjgajaaGreatDoor.Seg
open Go Go.RowKit
open Go.Proofs.YtkccdffccjgajaaGreatDoor.Wire (S S_list S_size S_append U cell_row frozen_row row_lt heap_set)
open Go.Proofs.YtkccdffccjgajaaGreatDoor.Frame

set_option maxRecDepth 100000 in
set_option maxHeartbeats 2000000 in
theorem refDigits_any (n k : Nat) (hk : k ≤ 18) (hn : n ≤ 1000000000) (w : World) :
    Calls Tryz.prog 58 #[.int .i64 (n : Int), .int .i64 (k : Int)] w fun e w' => e = .returned (.string (S (dig k n))) ∧ Below w.heap.size w w' := by
  have HK := Lib.hid hk
  have HN := Lib.hid hn
  have HB0 := Lib.hid (Below.refl w.heap.size w)
  clear hk hn
  go_enter Tryz.func58, Tryz.ntmps58
  go_wp2_with fail
  go_loopw [0, 5, 6] (fun z v y wr => ∃ (i m : Nat) (t : List UInt8), i ≤ k ∧ z = .int .i64 (m : Int) ∧ v = .string (S t) ∧ y = .int .i64 (i : Int) ∧ Hid (dig k n = dig (k - i) m ++ t) ∧ Hid (t.length = i) ∧ Hid (m ≤ 1000000000) ∧ Hid (Below w.heap.size w wr)) (fun _ _ y _ => k - (intOf y).toNat)
  case atStart => exact ⟨0, n, [], Nat.zero_le _, rfl, rfl, rfl, Lib.hid (by rw [Nat.sub_zero, List.append_nil]), Lib.hid rfl, HN, HB0⟩
  case round =>
    clear HB0
    obtain ⟨i, m, t, hi, rfl, rfl, rfl, HD, HT, HM, HB⟩ := hrel
    by_cases hlt : i < k
    · have HLT := Lib.hid hlt
      have e1 : decide ((i : Int) < (k : Int)) = true := decide_eq_true (by omega)
      have HW1 := Lib.hid (small64 i (by have := HK.out; omega))
      have hz : (S t).size ≤ 20 := by rw [S_size, HT.out]; have := HK.out; omega
      have hc : (((UInt8.ofNat (48 + m % 10)).toNat : Nat) : Int) = 48 + (m : Int) % 10 := by rw [isD_of]; omega
      have hcv : (convert 32 9 (.slice (some ⟨wr.heap.size, 0, none⟩) 1 1)).run Tryz.prog (wr.alloc (.cells #[.int .u8 (48 + (m : Int) % 10)] 5)) = .ok (.string (S [UInt8.ofNat (48 + m % 10)])) (wr.alloc (.cells #[.int .u8 (48 + (m : Int) % 10)] 5)) :=
        conv_bytes _ wr.heap.size 0 1 1 [UInt8.ofNat (48 + m % 10)] rfl (fun j hj => by
          have : j = 0 := by simpa using hj
          subst this
          rw [cell_row (heap_alloc_new wr _)]
          show some (Value.int .u8 (48 + (m : Int) % 10)) = some (Value.int .u8 (((UInt8.ofNat (48 + m % 10)).toNat : Nat) : Int))
          rw [hc])
      have HCT := Lib.hid (show S [UInt8.ofNat (48 + m % 10)] ++ S t = S (UInt8.ofNat (48 + m % 10) :: t) by rw [S_append]; rfl)
      have hz1 : (S [UInt8.ofNat (48 + m % 10)]).size = 1 := rfl
      have HD2 := Lib.hid (show dig k n = dig (k - (i + 1)) (m / 10) ++ (UInt8.ofNat (48 + m % 10) :: t) by
        have h := HD.out
        rw [show k - i = (k - (i + 1)) + 1 by omega, dig, List.append_assoc] at h
        exact h)
      have HT2 := Lib.hid (show (UInt8.ofNat (48 + m % 10) :: t).length = i + 1 by rw [List.length_cons, HT.out])
      have HM2 := Lib.hid (show m / 10 ≤ 1000000000 by have := HM.out; omega)
      have HB2 := Lib.hid (HB.out.alloc HB.out.size (.cells #[.int .u8 (48 + (m : Int) % 10)] 5))
      have HQ := Lib.hid (show ((m : Int) / 10) = ((m / 10 : Nat) : Int) by omega)
      have HQ2 := Lib.hid (show wrap64 ((m / 10 : Nat) : Int) = ((m / 10 : Nat) : Int) from IntWalk.wrap64_in _ ⟨by omega, by have := HM.out; omega⟩)
      clear hc
      generalize UInt8.ofNat (48 + m % 10) = c at *
      go_wp2_with fail
      go_roundw
      case rel => exact ⟨i + 1, m / 10, c :: t, HLT.out, by first | (rw [HQ.out, HQ2.out]) | (rw [HQ.out]), by first | (rw [HCT.out]) | rfl, by rw [HW1.out]; rfl, HD2, HT2, HM2, HB2⟩
      case measure =>
        rw [HW1.out]
        show k - ((i : Int) + 1).toNat < k - (i : Int).toNat
        have := HLT.out; omega
    · obtain rfl : i = k := by omega
      have HF := Lib.hid (show dig i n = t by have := HD.out; rw [Nat.sub_self] at this; exact this)
      go_wp2_with fail
      go_ret
      exact ⟨by rw [HF.out]; rfl, HB.out⟩
set_option maxRecDepth 100000 in
set_option maxHeartbeats 1000000 in
theorem refName_any (g f : Int) (w : World) :
    Calls Tryz.prog 24 #[.int .i64 g, .int .i64 f] w fun e w' => e = .returned (.string (S (nameE g f))) ∧ Below w.heap.size w w' := by
  by_cases hm : mayN g f
  · obtain ⟨a, rfl⟩ : ∃ a : Nat, g = (a : Int) := ⟨g.toNat, by have := hm.1; omega⟩
    obtain ⟨b, rfl⟩ : ∃ b : Nat, f = (b : Int) := ⟨f.toNat, by have := hm.2.2.1; omega⟩
    have hn : nameE (a : Int) (b : Int) = nameL a b := by unfold nameE; rw [if_pos hm, Int.toNat_natCast, Int.toNat_natCast]
    rw [hn]
    have d0 : decide ((a : Int) < 0) = false := decide_eq_false (by omega)
    have d1 : decide ((99999999 : Int) < (a : Int)) = false := decide_eq_false (by have := hm.2.1; omega)
    have d2 : decide (99999999 < a) = false := decide_eq_false (by have := hm.2.1; omega)
    have d3 : decide ((b : Int) < 0) = false := decide_eq_false (by omega)
    have d4 : decide ((1048576 : Int) < (b : Int)) = false := decide_eq_false (by have := hm.2.2.2; omega)
    have d5 : decide (1048576 < b) = false := decide_eq_false (by have := hm.2.2.2; omega)
    have H8 : Hid (∀ W, Calls Tryz.prog 58 #[.int .i64 (a : Int), .int .i64 8] W fun e w' => e = .returned (.string (S (dig 8 a))) ∧ Below W.heap.size W w') :=
      Lib.hid (fun W => refDigits_any a 8 (by decide) (by have := hm.2.1; omega) W)
    have H10 : Hid (∀ W, Calls Tryz.prog 58 #[.int .i64 (b : Int), .int .i64 10] W fun e w' => e = .returned (.string (S (dig 10 b))) ∧ Below W.heap.size W w') :=
      Lib.hid (fun W => refDigits_any b 10 (by decide) (by have := hm.2.2.2; omega) W)
    have HS := Lib.hid (S_nameL a b)
    have z8 : (S (dig 8 a)).size = 8 := by rw [S_size, dig_length]
    have z10 : (S (dig 10 b)).size = 10 := by rw [S_size, dig_length]
    clear hm hn
    generalize S (dig 8 a) = A at *
    generalize S (dig 10 b) = B at *
    generalize S (nameL a b) = R at *
    go_enter Tryz.func24, Tryz.ntmps24
    go_wp2_with fail
    refine (H8.out _).mono ?_
    rintro e w1 ⟨rfl, hb⟩
    have HB := Lib.hid hb
    clear hb
    go_wp2_with fail
    refine (H10.out _).mono ?_
    rintro e w2 ⟨rfl, hb⟩
    have HB2 := Lib.hid (HB.out.trans (hb.mono HB.out.size))
    clear hb HB
    go_wp2_with fail
    go_ret
    exact ⟨by rw [HS.out]; rfl, HB2.out⟩
  · have hn : nameE g f = [] := if_neg hm
    rw [hn, show S [] = ⟨#[]⟩ from rfl]
    clear hn
    by_cases h0 : g < 0
    · clear hm
      go_enter Tryz.func24, Tryz.ntmps24
      go_wp2_with fail
      go_ret
      exact ⟨rfl, Below.refl _ _⟩
    · by_cases h1 : 99999999 < g
      · clear hm
        go_enter Tryz.func24, Tryz.ntmps24
        go_wp2_with fail
        go_ret
        exact ⟨rfl, Below.refl _ _⟩
      · by_cases h2 : f < 0
        · clear hm
          go_enter Tryz.func24, Tryz.ntmps24
          go_wp2_with fail
          go_ret
          exact ⟨rfl, Below.refl _ _⟩
        · have h3 : 1048576 < f := by have : ¬ (0 ≤ g ∧ g ≤ 99999999 ∧ 0 ≤ f ∧ f ≤ 1048576) := hm; omega
          clear hm
          go_enter Tryz.func24, Tryz.ntmps24
          go_wp2_with fail
          go_ret
          exact ⟨rfl, Below.refl _ _⟩
/-! ### Named -/
def gA (l : List UInt8) (i : Nat) : Nat := valD 0 ((l.drop 1).take (min (i - 1) 8))
def fA (l : List UInt8) (i : Nat) : Nat := valD 0 ((l.drop 10).take (i - 10))
def dgs (l : List UInt8) (i : Nat) : Prop := ∀ k (h : k < l.length), 1 ≤ k → k < i → k ≠ 9 → isD l[k]
theorem gA_all {l : List UInt8} {i : Nat} (hl : l.length = 20) (h : dgs l i) : ∀ c ∈ (l.drop 1).take (min (i - 1) 8), isD c := by
  intro c hc
  obtain ⟨k, hk, rfl⟩ := List.getElem_of_mem hc
  rw [List.length_take, List.length_drop] at hk
  rw [List.getElem_take, List.getElem_drop]
  exact h (1 + k) (by omega) (by omega) (by omega) (by omega)
theorem fA_all {l : List UInt8} {i : Nat} (hl : l.length = 20) (h : dgs l i) : ∀ c ∈ (l.drop 10).take (i - 10), isD c := by
  intro c hc
  obtain ⟨k, hk, rfl⟩ := List.getElem_of_mem hc
  rw [List.length_take, List.length_drop] at hk
  rw [List.getElem_take, List.getElem_drop]
  exact h (10 + k) (by omega) (by omega) (by omega) (by omega)
theorem gA_lt {l : List UInt8} {i : Nat} (hl : l.length = 20) (h : dgs l i) : gA l i < 100000000 := by
  have h1 := valD_lt _ (gA_all hl h) 0 0 (by decide)
  have h2 : (10 : Nat) ^ (0 + ((l.drop 1).take (min (i - 1) 8)).length) ≤ 10 ^ 8 := Nat.pow_le_pow_right (by decide) (by rw [List.length_take]; omega)
  unfold gA; omega
theorem fA_lt {l : List UInt8} {i : Nat} (hl : l.length = 20) (hi : i ≤ 20) (h : dgs l i) : fA l i < 10000000000 := by
  have h1 := valD_lt _ (fA_all hl h) 0 0 (by decide)
  have h2 : (10 : Nat) ^ (0 + ((l.drop 10).take (i - 10)).length) ≤ 10 ^ 10 := Nat.pow_le_pow_right (by decide) (by rw [List.length_take]; omega)
  unfold fA; omega
theorem gA_step {l : List UInt8} {i : Nat} (hl : l.length = 20) (h1 : 1 ≤ i) (h9 : i < 9) : gA l (i + 1) = gA l i * 10 + ((l[i]'(by omega)).toNat - 48) := by
  unfold gA
  rw [show min (i + 1 - 1) 8 = (i - 1) + 1 by omega, show min (i - 1) 8 = i - 1 by omega, List.take_succ_eq_append_getElem (by rw [List.length_drop]; omega), valD_snoc, List.getElem_drop]
  congr 4; omega
theorem gA_stay {l : List UInt8} {i : Nat} (h9 : 9 ≤ i) : gA l (i + 1) = gA l i := by unfold gA; rw [show min (i + 1 - 1) 8 = 8 by omega, show min (i - 1) 8 = 8 by omega]
theorem fA_step {l : List UInt8} {i : Nat} (hl : l.length = 20) (h1 : 10 ≤ i) (h9 : i < 20) : fA l (i + 1) = fA l i * 10 + ((l[i]'(by omega)).toNat - 48) := by
  unfold fA
  rw [show i + 1 - 10 = (i - 10) + 1 by omega, List.take_succ_eq_append_getElem (by rw [List.length_drop]; omega), valD_snoc, List.getElem_drop]
  congr 4; omega
theorem fA_stay {l : List UInt8} {i : Nat} (h9 : i ≤ 9) : fA l (i + 1) = fA l i := by unfold fA; rw [show i + 1 - 10 = 0 by omega, show i - 10 = 0 by omega]
theorem dgs_next {l : List UInt8} {i : Nat} (h : dgs l i) (hi : i = 9 ∨ ∃ hk : i < l.length, isD l[i]) : dgs l (i + 1) := by
  intro k hk h1 h2 h3
  by_cases e : k = i
  · subst e
    rcases hi with rfl | ⟨_, hd⟩
    · exact absurd rfl h3
    · exact hd
  · exact h k hk h1 (by omega) h3
/-- what the document's Named tells -/
def ndV (s : ByteArray) : Ending := .returned (.tuple #[.int .i64 (namedR s.data.toList).1, .int .i64 (namedR s.data.toList).2.1, .bool (namedR s.data.toList).2.2])
theorem nd_no {s : ByteArray} (h : ¬ (s.data.toList.length = 20 ∧ s.data.toList[0]? = some 115 ∧ s.data.toList[9]? = some 45 ∧ (∀ c ∈ (s.data.toList.drop 1).take 8, isD c) ∧ (∀ c ∈ (s.data.toList.drop 10).take 10, isD c) ∧ valD 0 ((s.data.toList.drop 10).take 10) ≤ 1048576)) : ndV s = .returned (.tuple #[.int .i64 0, .int .i64 0, .bool false]) := by
  unfold ndV; rw [← named_doc]; unfold namedD; rw [if_neg h]
set_option maxRecDepth 100000 in
set_option maxHeartbeats 4000000 in
theorem refNamed_any (s : ByteArray) (w : World) :
    Calls Tryz.prog 23 #[.string s] w fun e w' => e = ndV s ∧ w = w' := by
  have hz : s.data.toList.length = s.size := by simp
  by_cases h20 : s.size = 20
  · have hl : s.data.toList.length = 20 := by omega
    have i0 : ∀ W, (Instr.index 9 (.string s) (.int .i64 0)).run Tryz.prog W = .ok (.int .u8 ((s.data.toList[0]'(by omega)).toNat : Int)) W := fun W => idx_at s 0 (by omega) W
    have i9 : ∀ W, (Instr.index 9 (.string s) (.int .i64 9)).run Tryz.prog W = .ok (.int .u8 ((s.data.toList[9]'(by omega)).toNat : Int)) W := fun W => idx_at s 9 (by omega) W
    have HNO := Lib.hid (@nd_no s)
    have n20 : ((s.size : Int) != 20) = false := by rw [h20]; rfl
    have n20' : (s.size : Int) = 20 := by omega
    by_cases h0 : s.data.toList[0]'(by omega) = 115
    · by_cases h9 : s.data.toList[9]'(by omega) = 45
      · rw [h0, show (((115 : UInt8).toNat : Nat) : Int) = 115 from rfl] at i0
        rw [h9, show (((45 : UInt8).toNat : Nat) : Int) = 45 from rfl] at i9
        have HIX := Lib.hid (fun k hk W => idx_at s k hk W)
        have HV : Hid (∀ (hd : dgs s.data.toList 20), fA s.data.toList 20 ≤ 1048576 → ndV s = .returned (.tuple #[.int .i64 (gA s.data.toList 20 : Int), .int .i64 (fA s.data.toList 20 : Int), .bool true])) := Lib.hid (fun hd hf => by
          unfold ndV; rw [← named_doc]; unfold namedD
          rw [if_pos ⟨hl, by rw [List.getElem?_eq_getElem (by omega), h0], by rw [List.getElem?_eq_getElem (by omega), h9], gA_all hl hd, fA_all hl hd, hf⟩]
          rfl)
        have HL := Lib.hid hl
        clear h0 h9 hz hl
        generalize s.data.toList = l at *
        go_enter Tryz.func23, Tryz.ntmps23
        go_wp2_with fail
        clear i0 i9
        go_loopw [5, 6, 7] (fun a b y wr => ∃ i : Nat, 1 ≤ i ∧ i ≤ 20 ∧ a = .int .i64 (gA l i : Int) ∧ b = .int .i64 (fA l i : Int) ∧ y = .int .i64 (i : Int) ∧ Hid (dgs l i) ∧ wr = w) (fun _ _ y _ => 20 - (intOf y).toNat)
        case atStart => exact ⟨1, Nat.le_refl _, by decide, rfl, rfl, rfl, Lib.hid (fun k _ h1 h2 _ => absurd h2 (by omega)), rfl⟩
        case round =>
          obtain ⟨i, hi1, hi2, rfl, rfl, rfl, HD, rfl⟩ := hrel
          have hl := HL.out
          by_cases hlt : i < 20
          · have HLT := Lib.hid hlt
            have HI1 := Lib.hid hi1
            have e1 : decide ((i : Int) < 20) = true := decide_eq_true (by omega)
            have HW1 := Lib.hid (small64 i (by omega))
            by_cases h9 : i = 9
            · as_aux_lemma =>
                subst h9
                have hg := gA_stay (l := l) (i := 9) (by decide)
                have hf := fA_stay (l := l) (i := 9) (by decide)
                have HGF := Lib.hid (And.intro hg hf)
                have HD2 := Lib.hid (dgs_next HD.out (Or.inl rfl))
                clear hg hf hl hlt hi2
                generalize gA l 9 = G at *
                generalize fA l 9 = F at *
                go_wp2_with fail
                go_roundw
                case rel => exact ⟨10, by decide, by decide, by rw [HGF.out.1], by rw [HGF.out.2], rfl, HD2, by first | trivial | rfl⟩
                case measure => decide
            · have hil : i < l.length := by omega
              have hi := HIX.out i hil
              have c9 : ((i : Int) == 9) = false := beq_eq_false_iff_ne.2 (by omega)
              have c9' : ¬ (i : Int) = 9 := by omega
              by_cases hd : isD (l[i]'hil)
              · have HD2 := Lib.hid (dgs_next HD.out (Or.inr ⟨hil, hd⟩))
                obtain ⟨d1, d2⟩ := hd
                have hgl := gA_lt hl HD.out
                have hfl := fA_lt hl hi2 HD.out
                obtain ⟨c, hc⟩ : ∃ c : Nat, (l[i]'hil).toNat = c + 48 := ⟨(l[i]'hil).toNat - 48, by omega⟩
                rw [hc] at hi d2
                have k1 : ¬ ((c + 48 : Nat) : Int) < 48 := by omega
                have k2 : ¬ (57 : Int) < ((c + 48 : Nat) : Int) := by omega
                have HS1 := Lib.hid (show IntKind.u8.wrap (((c + 48 : Nat) : Int) - 48) = (c : Int) by rw [IntKind.wrap_u8]; omega)
                have HS2 := Lib.hid (show (((c + 48 : Nat) : Int) - 48) % 256 = (c : Int) by omega)
                have HS3 := Lib.hid (show IntKind.i64.wrap (c : Int) = (c : Int) from IntWalk.i64_in _ ⟨by omega, by omega⟩)
                by_cases hi9 : i < 9
                · as_aux_lemma =>
                    have hg := gA_step hl hi1 hi9
                    rw [hc, Nat.add_sub_cancel] at hg
                    have hf := fA_stay (l := l) (i := i) (by omega)
                    have HGF := Lib.hid (And.intro hg hf)
                    have HA1 := Lib.hid (show wrap64 ((gA l i : Int) * 10) = (gA l i : Int) * 10 from IntWalk.wrap64_in _ ⟨by omega, by omega⟩)
                    have HA2 := Lib.hid (show wrap64 ((gA l i : Int) * 10 + (c : Int)) = ((gA l i * 10 + c : Nat) : Int) by
                      rw [show (gA l i : Int) * 10 + (c : Int) = ((gA l i * 10 + c : Nat) : Int) by omega]; exact IntWalk.wrap64_in _ ⟨by omega, by omega⟩)
                    have e2 : decide ((i : Int) < 9) = true := decide_eq_true (by omega)
                    have e3 : (i : Int) < 9 := by omega
                    clear hg hf hgl hfl hl hc
                    generalize fA l i = F at *
                    generalize gA l i = G at *
                    generalize ((c + 48 : Nat) : Int) = C at *
                    have a1 := HS1.out; have a2 := HS2.out; have a3 := HS3.out; have a4 := HA1.out; have a5 := HA2.out
                    go_wp2_with fail
                    go_roundw
                    case rel => exact ⟨i + 1, by omega, HLT.out, by rw [HGF.out.1, HA2.out], by rw [HGF.out.2], by first | rfl | (rw [HW1.out]; rfl), HD2, by first | trivial | rfl⟩
                    case measure =>
                      try rw [HW1.out]
                      show 20 - ((i : Int) + 1).toNat < 20 - (i : Int).toNat
                      have := HLT.out; omega
                · as_aux_lemma =>
                    have hg := gA_stay (l := l) (i := i) (by omega)
                    have hf := fA_step hl (by omega) hlt
                    rw [hc, Nat.add_sub_cancel] at hf
                    have HGF := Lib.hid (And.intro hg hf)
                    have HA1 := Lib.hid (show wrap64 ((fA l i : Int) * 10) = (fA l i : Int) * 10 from IntWalk.wrap64_in _ ⟨by omega, by omega⟩)
                    have HA2 := Lib.hid (show wrap64 ((fA l i : Int) * 10 + (c : Int)) = ((fA l i * 10 + c : Nat) : Int) by
                      rw [show (fA l i : Int) * 10 + (c : Int) = ((fA l i * 10 + c : Nat) : Int) by omega]; exact IntWalk.wrap64_in _ ⟨by omega, by omega⟩)
                    have e2 : decide ((i : Int) < 9) = false := decide_eq_false (by omega)
                    have e3 : ¬ (i : Int) < 9 := by omega
                    clear hg hf hgl hfl hl hc
                    generalize fA l i = F at *
                    generalize gA l i = G at *
                    generalize ((c + 48 : Nat) : Int) = C at *
                    have a1 := HS1.out; have a2 := HS2.out; have a3 := HS3.out; have a4 := HA1.out; have a5 := HA2.out
                    go_wp2_with fail
                    go_roundw
                    case rel => exact ⟨i + 1, by omega, HLT.out, by rw [HGF.out.1], by rw [HGF.out.2, HA2.out], by first | rfl | (rw [HW1.out]; rfl), HD2, by first | trivial | rfl⟩
                    case measure =>
                      try rw [HW1.out]
                      show 20 - ((i : Int) + 1).toNat < 20 - (i : Int).toNat
                      have := HLT.out; omega
              · as_aux_lemma =>
                  have HNR := Lib.hid (HNO.out (fun h => by
                    obtain ⟨_, _, _, q1, q2, _⟩ := h
                    apply hd
                    by_cases h8 : i < 9
                    · have := q1 (((l.drop 1).take 8)[i - 1]'(by rw [List.length_take, List.length_drop]; omega)) (List.getElem_mem _)
                      rw [List.getElem_take, List.getElem_drop] at this
                      have e : 1 + (i - 1) = i := by omega
                      simpa only [e] using this
                    · have := q2 (((l.drop 10).take 10)[i - 10]'(by rw [List.length_take, List.length_drop]; omega)) (List.getElem_mem _)
                      rw [List.getElem_take, List.getElem_drop] at this
                      have e : 10 + (i - 10) = i := by omega
                      simpa only [e] using this))
                  by_cases k : ((l[i]'hil).toNat : Int) < 48
                  · clear hd
                    generalize ((l[i]'hil).toNat : Int) = C at *
                    go_wp2_with fail
                    go_ret3
                    exact ⟨HNR.out.symm, by first | rfl | trivial⟩
                  · have k2 : (57 : Int) < ((l[i]'hil).toNat : Int) := by
                      unfold isD at hd; omega
                    clear hd
                    generalize ((l[i]'hil).toNat : Int) = C at *
                    go_wp2_with fail
                    go_ret3
                    exact ⟨HNR.out.symm, by first | rfl | trivial⟩
          · obtain rfl : i = 20 := by omega
            by_cases hf : fA l 20 ≤ 1048576
            · as_aux_lemma =>
                have HVV := Lib.hid (HV.out HD.out hf)
                have k1 : ¬ (1048576 : Int) < (fA l 20 : Int) := by omega
                clear hf hl
                generalize fA l 20 = F at *
                generalize gA l 20 = G at *
                go_wp2_with fail
                go_ret3
                exact ⟨HVV.out.symm, rfl⟩
            · as_aux_lemma =>
                have HNR := Lib.hid (HNO.out (fun h => by
                  obtain ⟨_, _, _, _, _, q3⟩ := h
                  exact hf q3))
                have k1 : (1048576 : Int) < (fA l 20 : Int) := by omega
                clear hf hl
                generalize fA l 20 = F at *
                generalize gA l 20 = G at *
                go_wp2_with fail
                go_ret3
                exact ⟨HNR.out.symm, rfl⟩
      · have HNR := Lib.hid (HNO.out (fun h => by
          obtain ⟨_, _, q, _⟩ := h
          rw [List.getElem?_eq_getElem (by omega)] at q
          injection q with q; exact h9 q))
        rw [h0, show (((115 : UInt8).toNat : Nat) : Int) = 115 from rfl] at i0
        have k1 : ¬ ((s.data.toList[9]'(by omega)).toNat : Int) = 45 := fun e => h9 (by apply UInt8.toNat_inj.1; have : (s.data.toList[9]'(by omega)).toNat = 45 := (by omega); exact this)
        clear h0 h9
        generalize ((s.data.toList[9]'(by omega)).toNat : Int) = C at *
        go_enter Tryz.func23, Tryz.ntmps23
        go_wp2_with fail
        go_ret3
        exact ⟨HNR.out.symm, rfl⟩
    · have HNR := Lib.hid (HNO.out (fun h => by
        obtain ⟨_, q, _⟩ := h
        rw [List.getElem?_eq_getElem (by omega)] at q
        injection q with q; exact h0 q))
      have k1 : ¬ ((s.data.toList[0]'(by omega)).toNat : Int) = 115 := fun e => h0 (by apply UInt8.toNat_inj.1; have : (s.data.toList[0]'(by omega)).toNat = 115 := (by omega); exact this)
      clear h0 i9
      generalize ((s.data.toList[0]'(by omega)).toNat : Int) = C at *
      go_enter Tryz.func23, Tryz.ntmps23
      go_wp2_with fail
      go_ret3
      exact ⟨HNR.out.symm, rfl⟩
  · have HNR := Lib.hid ((@nd_no s) (fun h => by have := h.1; omega))
    have n20 : ¬ (s.size : Int) = 20 := by omega
    clear hz
    go_enter Tryz.func23, Tryz.ntmps23
    go_wp2_with fail
    go_ret3
    exact ⟨HNR.out.symm, rfl⟩
end Go.Proofs.YtkccdffccjgajaaGreatDoor.Seg
