import Derived.Test.YtkccdffccjgajaaGreatDoorNQ
/-
  The walk of the statement SegCalled.
-/
namespace Go.Proofs.YtkccdffccjgajaaGreatDoor.Seg
open Go Go.RowKit
open Go.Proofs.YtkccdffccjgajaaGreatDoor.Wire (S S_list S_size S_append cell_row frozen_row row_lt heap_set U)
open Go.Proofs.YtkccdffccjgajaaGreatDoor.Frame Go.Proofs.YtkccdffccjgajaaGreatDoor.Ranges

theorem named_of (g f : Int) : namedR (nameE g f) = if mayN g f then (g, f, true) else (0, 0, false) := by
  by_cases h : mayN g f
  · rw [if_pos h, named_name h]
  · have : nameE g f = [] := if_neg h
    rw [if_neg h, this, named_empty]
theorem less_front : ∀ (p x y : List UInt8), Op.bytesLess (p ++ x) (p ++ y) = Op.bytesLess x y
  | [], _, _ => rfl
  | c :: p, x, y => by
    rw [List.cons_append, List.cons_append, Op.bytesLess, less_front p x y]
    simp
theorem less_nil : ∀ x : List UInt8, Op.bytesLess x [] = false
  | [] => rfl
  | _ :: _ => rfl
theorem less_snoc : ∀ (x y : List UInt8) (c d : UInt8), x.length = y.length → Op.bytesLess (x ++ [c]) (y ++ [d]) = (Op.bytesLess x y || (x == y && decide (c < d)))
  | [], [], c, d, _ => by simp [Op.bytesLess]
  | [], b :: y, c, d, h => by simp at h
  | a :: x, [], c, d, h => by simp at h
  | a :: x, b :: y, c, d, h => by
    rw [List.cons_append, List.cons_append, Op.bytesLess, Op.bytesLess, less_snoc x y c d (by simpa using h)]
    by_cases hab : a = b
    · subst hab; simp
    · have hab2 : (a == b) = false := beq_eq_false_iff_ne.2 hab
      simp [hab2]
theorem less_dig : ∀ (k a b : Nat), a < 10 ^ k → b < 10 ^ k → Op.bytesLess (dig k a) (dig k b) = decide (a < b)
  | 0, a, b, ha, hb => by
    have h1 : a = 0 := by simpa using ha
    have h2 : b = 0 := by simpa using hb
    subst h1; subst h2; rfl
  | k + 1, a, b, ha, hb => by
    rw [Nat.pow_succ] at ha hb
    have ih := less_dig k (a / 10) (b / 10) (by omega) (by omega)
    rw [dig, dig, less_snoc _ _ _ _ (by rw [dig_length, dig_length]), ih]
    have hc : decide (UInt8.ofNat (48 + a % 10) < UInt8.ofNat (48 + b % 10)) = decide (a % 10 < b % 10) := by
      rw [decide_eq_decide, UInt8.lt_iff_toNat_lt, isD_of, isD_of]; omega
    rw [hc]
    by_cases he : a / 10 = b / 10
    · rw [he, decide_eq_false (Nat.lt_irrefl _)]
      simp only [BEq.rfl, Bool.true_and, Bool.false_or]
      rw [decide_eq_decide]; omega
    · have hne : (dig k (a / 10) == dig k (b / 10)) = false := beq_eq_false_iff_ne.2 (fun e => he (dig_inj (k := k) (by omega) (by omega) e))
      rw [hne]
      simp only [Bool.false_and, Bool.or_false]
      rw [decide_eq_decide]; omega
theorem less_name (g a b : Nat) (ha : a ≤ 1048576) (hb : b ≤ 1048576) : Op.bytesLess (nameL g a) (nameL g b) = decide (a < b) := by
  have e : ∀ x, nameL g x = (115 :: (dig 8 g ++ [45])) ++ dig 10 x := fun x => by unfold nameL; simp
  rw [e, e, less_front, less_dig 10 a b (by omega) (by omega)]
theorem eq_name (g a b : Nat) (ha : a ≤ 1048576) (hb : b ≤ 1048576) : (nameL g a == nameL g b) = decide (a = b) := by
  by_cases h : a = b
  · subst h; simp
  · rw [decide_eq_false h, beq_eq_false_iff_ne]
    intro e
    unfold nameL at e
    injection e with _ e
    have e2 := (List.append_inj e rfl).2
    injection e2 with _ e3
    exact h (dig_inj (k := 10) (by omega) (by omega) e3)
theorem S_data (s : ByteArray) : S s.data.toList = s := rfl
set_option maxRecDepth 100000 in
set_option maxHeartbeats 8000000 in
theorem called_law (g a b : Int) (nm : ByteArray) (w : World) (w0 : (Lit.int .i64 g).wf = true) (w1 : (Lit.int .i64 a).wf = true) (w2 : (Lit.int .i64 b).wf = true) (w3 : nm.size ≤ maxLen) (E : Env w) :
    Calls Tryz.prog 10 #[.int .i64 g, .int .i64 a, .int .i64 b, .string nm] w fun e w' => e = .returned (.bool true) ∧ Below w.heap.size w w' := by
  have HAW := Lib.hid (fun W EW => awake_any W EW)
  have HE := Lib.hid E
  clear E w0 w1 w2 w3
  by_cases hs : nm.size ≤ 200
  · have z0 : decide ((200 : Int) < (nm.size : Int)) = false := decide_eq_false (by omega)
    have z1 : decide (200 < nm.size) = false := decide_eq_false (by omega)
    have HNA := Lib.hid (fun W EW => Name_any g a W EW)
    have HNB := Lib.hid (fun W EW => Name_any g b W EW)
    have HND := Lib.hid (fun W EW => Named_any (S (nameE g a)) (by rw [S_size]; unfold nameE; split; rw [nameL_length]; decide; decide) W EW)
    rw [S_list, named_of] at HND
    have HNN := Lib.hid (fun W EW => Named_any nm (by omega) W EW)
    -- what the name is that
    obtain ⟨p, q, y, hR, hY⟩ : ∃ p q y, namedR nm.data.toList = (p, q, y) ∧ ((y = true ∧ S (nameE p q) = nm) ∨ (p = 0 ∧ q = 0 ∧ y = false)) := by
      unfold namedR
      split
      · rename_i h
        exact ⟨_, _, _, rfl, Or.inl ⟨rfl, by rw [h]; rfl⟩⟩
      · exact ⟨_, _, _, rfl, Or.inr ⟨rfl, rfl, rfl⟩⟩
    rw [hR] at HNN
    have HNE := Lib.hid (fun W EW => Name_any p q W EW)
    have hxs : ∀ x, mayN g x → nameE g x = nameL g.toNat x.toNat := fun x h => if_pos h
    have hxn : ∀ x, ¬ mayN g x → nameE g x = [] := fun x h => if_neg h
    clear hs hR
    by_cases ha : mayN g a
    · rw [if_pos ha] at HND
      rw [hxs a ha] at HNA HND
      obtain ⟨g', rfl⟩ : ∃ k : Nat, g = (k : Int) := ⟨g.toNat, by have := ha.1; omega⟩
      obtain ⟨a', rfl⟩ : ∃ k : Nat, a = (k : Int) := ⟨a.toNat, by have := ha.2.2.1; omega⟩
      rw [Int.toNat_natCast, Int.toNat_natCast] at HNA HND
      have ha3 : a' ≤ 1048576 := by have := ha.2.2.2; omega
      have xne : ¬ (S (nameL g' a')).toList = [] := fun e => by rw [ByteArray.toList_eq, S_list] at e; unfold nameL at e; cases e
      have xnb : ((S (nameL g' a')).toList == []) = false := beq_eq_false_iff_ne.2 xne
      have xni : (S (nameL g' a')).toList.isEmpty = false := List.isEmpty_eq_false_iff.2 xne
      by_cases hb : mayN (g' : Int) b
      · rw [hxs b hb] at HNB
        obtain ⟨b', rfl⟩ : ∃ k : Nat, b = (k : Int) := ⟨b.toNat, by have := hb.2.2.1; omega⟩
        rw [Int.toNat_natCast, Int.toNat_natCast] at HNB
        have hb3 : b' ≤ 1048576 := by have := hb.2.2.2; omega
        have yne : ¬ (S (nameL g' b')).toList = [] := fun e => by rw [ByteArray.toList_eq, S_list] at e; unfold nameL at e; cases e
        have ynb : ((S (nameL g' b')).toList == []) = false := beq_eq_false_iff_ne.2 yne
        have yni : (S (nameL g' b')).toList.isEmpty = false := List.isEmpty_eq_false_iff.2 yne
        have hls : Op.bytesLess (S (nameL g' a')).toList (S (nameL g' b')).toList = decide (a' < b') := by rw [ByteArray.toList_eq, ByteArray.toList_eq, S_list, S_list, less_name g' a' b' ha3 hb3]
        have heq : ((S (nameL g' a')).toList == (S (nameL g' b')).toList) = decide (a' = b') := by rw [ByteArray.toList_eq, ByteArray.toList_eq, S_list, S_list, eq_name g' a' b' ha3 hb3]
        clear ha hb ha3 hb3 hxs hxn
        generalize S (nameL g' a') = X at *
        generalize S (nameL g' b') = Y at *
        rcases Nat.lt_trichotomy a' b' with h | h | h
        · rw [decide_eq_true h] at hls
          rw [decide_eq_false (by omega)] at heq
          have c1 : (a' : Int) < (b' : Int) := by omega
          have c2 : ((a' : Int) == (b' : Int)) = false := beq_eq_false_iff_ne.2 (by omega)
          have c3 : decide ((a' : Int) < (b' : Int)) = true := decide_eq_true c1
          have c4 : decide (a' < b') = true := decide_eq_true h
          have c5 : (a' == b') = false := beq_eq_false_iff_ne.2 (by omega)
          have c6 : ¬ a' = b' := by omega
          have c7 : ¬ X.toList = Y.toList := beq_eq_false_iff_ne.1 heq
          go_enter Tryz.func10, Tryz.ntmps10
          go_wp2_with fail
          refine (HAW.out w HE.out).mono ?_
          rintro e w1 ⟨rfl, hb1⟩
          have HB := Lib.hid hb1; clear hb1
          have HE1 := Lib.hid (HE.out.over HB.out)
          go_wp2_with fail
          refine (HNA.out _ HE1.out).mono ?_
          rintro e w2 ⟨rfl, hb1⟩
          replace HB := Lib.hid (HB.out.trans (hb1.mono HB.out.size)); clear hb1
          replace HE1 := Lib.hid (HE.out.over HB.out)
          go_wp2_with fail
          refine (HNB.out _ HE1.out).mono ?_
          rintro e w2 ⟨rfl, hb1⟩
          replace HB := Lib.hid (HB.out.trans (hb1.mono HB.out.size)); clear hb1
          replace HE1 := Lib.hid (HE.out.over HB.out)
          go_wp2_with fail
          refine (HND.out _ HE1.out).mono ?_
          rintro e w2 ⟨rfl, hb1⟩
          replace HB := Lib.hid (HB.out.trans (hb1.mono HB.out.size)); clear hb1
          replace HE1 := Lib.hid (HE.out.over HB.out)
          go_wp2_with fail
          refine (HNN.out _ HE1.out).mono ?_
          rintro e w2 ⟨rfl, hb1⟩
          replace HB := Lib.hid (HB.out.trans (hb1.mono HB.out.size)); clear hb1
          replace HE1 := Lib.hid (HE.out.over HB.out)
          rcases hY with ⟨rfl, hn⟩ | ⟨rfl, rfl, rfl⟩
          · rw [hn] at HNE
            clear hn
            go_wp2_with fail
            refine (HNE.out _ HE1.out).mono ?_
            rintro e w2 ⟨rfl, hb1⟩
            replace HB := Lib.hid (HB.out.trans (hb1.mono HB.out.size)); clear hb1
            go_wp2_with fail
            go_ret
            exact ⟨rfl, HB.out⟩
          · clear HNE
            go_wp2_with fail
            go_ret
            exact ⟨rfl, HB.out⟩
        · subst h
          rw [decide_eq_false (by omega)] at hls
          rw [decide_eq_true rfl] at heq
          go_enter Tryz.func10, Tryz.ntmps10
          go_wp2_with fail
          refine (HAW.out w HE.out).mono ?_
          rintro e w1 ⟨rfl, hb1⟩
          have HB := Lib.hid hb1; clear hb1
          have HE1 := Lib.hid (HE.out.over HB.out)
          go_wp2_with fail
          refine (HNA.out _ HE1.out).mono ?_
          rintro e w2 ⟨rfl, hb1⟩
          replace HB := Lib.hid (HB.out.trans (hb1.mono HB.out.size)); clear hb1
          replace HE1 := Lib.hid (HE.out.over HB.out)
          go_wp2_with fail
          refine (HNB.out _ HE1.out).mono ?_
          rintro e w2 ⟨rfl, hb1⟩
          replace HB := Lib.hid (HB.out.trans (hb1.mono HB.out.size)); clear hb1
          replace HE1 := Lib.hid (HE.out.over HB.out)
          go_wp2_with fail
          refine (HND.out _ HE1.out).mono ?_
          rintro e w2 ⟨rfl, hb1⟩
          replace HB := Lib.hid (HB.out.trans (hb1.mono HB.out.size)); clear hb1
          replace HE1 := Lib.hid (HE.out.over HB.out)
          go_wp2_with fail
          refine (HNN.out _ HE1.out).mono ?_
          rintro e w2 ⟨rfl, hb1⟩
          replace HB := Lib.hid (HB.out.trans (hb1.mono HB.out.size)); clear hb1
          replace HE1 := Lib.hid (HE.out.over HB.out)
          rcases hY with ⟨rfl, hn⟩ | ⟨rfl, rfl, rfl⟩
          · rw [hn] at HNE
            clear hn
            go_wp2_with fail
            refine (HNE.out _ HE1.out).mono ?_
            rintro e w2 ⟨rfl, hb1⟩
            replace HB := Lib.hid (HB.out.trans (hb1.mono HB.out.size)); clear hb1
            go_wp2_with fail
            go_ret
            exact ⟨rfl, HB.out⟩
          · clear HNE
            go_wp2_with fail
            go_ret
            exact ⟨rfl, HB.out⟩
        · rw [decide_eq_false (by omega)] at hls
          rw [decide_eq_false (by omega)] at heq
          have c1 : ¬ (a' : Int) < (b' : Int) := by omega
          have c2 : ((a' : Int) == (b' : Int)) = false := beq_eq_false_iff_ne.2 (by omega)
          have c3 : decide ((a' : Int) < (b' : Int)) = false := decide_eq_false c1
          have c4 : decide (a' < b') = false := decide_eq_false (by omega)
          have c5 : (a' == b') = false := beq_eq_false_iff_ne.2 (by omega)
          have c6 : ¬ a' = b' := by omega
          have c7 : ¬ X.toList = Y.toList := beq_eq_false_iff_ne.1 heq
          have c8 : b' < a' := h
          go_enter Tryz.func10, Tryz.ntmps10
          go_wp2_with fail
          refine (HAW.out w HE.out).mono ?_
          rintro e w1 ⟨rfl, hb1⟩
          have HB := Lib.hid hb1; clear hb1
          have HE1 := Lib.hid (HE.out.over HB.out)
          go_wp2_with fail
          refine (HNA.out _ HE1.out).mono ?_
          rintro e w2 ⟨rfl, hb1⟩
          replace HB := Lib.hid (HB.out.trans (hb1.mono HB.out.size)); clear hb1
          replace HE1 := Lib.hid (HE.out.over HB.out)
          go_wp2_with fail
          refine (HNB.out _ HE1.out).mono ?_
          rintro e w2 ⟨rfl, hb1⟩
          replace HB := Lib.hid (HB.out.trans (hb1.mono HB.out.size)); clear hb1
          replace HE1 := Lib.hid (HE.out.over HB.out)
          go_wp2_with fail
          refine (HND.out _ HE1.out).mono ?_
          rintro e w2 ⟨rfl, hb1⟩
          replace HB := Lib.hid (HB.out.trans (hb1.mono HB.out.size)); clear hb1
          replace HE1 := Lib.hid (HE.out.over HB.out)
          go_wp2_with fail
          refine (HNN.out _ HE1.out).mono ?_
          rintro e w2 ⟨rfl, hb1⟩
          replace HB := Lib.hid (HB.out.trans (hb1.mono HB.out.size)); clear hb1
          replace HE1 := Lib.hid (HE.out.over HB.out)
          rcases hY with ⟨rfl, hn⟩ | ⟨rfl, rfl, rfl⟩
          · rw [hn] at HNE
            clear hn
            go_wp2_with fail
            refine (HNE.out _ HE1.out).mono ?_
            rintro e w2 ⟨rfl, hb1⟩
            replace HB := Lib.hid (HB.out.trans (hb1.mono HB.out.size)); clear hb1
            go_wp2_with fail
            go_ret
            exact ⟨rfl, HB.out⟩
          · clear HNE
            go_wp2_with fail
            go_ret
            exact ⟨rfl, HB.out⟩
      · rw [hxn b hb, show S [] = ⟨#[]⟩ from rfl] at HNB
        clear ha hb ha3 hxs hxn
        generalize S (nameL g' a') = X at *
        go_enter Tryz.func10, Tryz.ntmps10
        go_wp2_with fail
        refine (HAW.out w HE.out).mono ?_
        rintro e w1 ⟨rfl, hb1⟩
        have HB := Lib.hid hb1; clear hb1
        have HE1 := Lib.hid (HE.out.over HB.out)
        go_wp2_with fail
        refine (HNA.out _ HE1.out).mono ?_
        rintro e w2 ⟨rfl, hb1⟩
        replace HB := Lib.hid (HB.out.trans (hb1.mono HB.out.size)); clear hb1
        replace HE1 := Lib.hid (HE.out.over HB.out)
        go_wp2_with fail
        refine (HNB.out _ HE1.out).mono ?_
        rintro e w2 ⟨rfl, hb1⟩
        replace HB := Lib.hid (HB.out.trans (hb1.mono HB.out.size)); clear hb1
        replace HE1 := Lib.hid (HE.out.over HB.out)
        go_wp2_with fail
        refine (HND.out _ HE1.out).mono ?_
        rintro e w2 ⟨rfl, hb1⟩
        replace HB := Lib.hid (HB.out.trans (hb1.mono HB.out.size)); clear hb1
        replace HE1 := Lib.hid (HE.out.over HB.out)
        go_wp2_with fail
        refine (HNN.out _ HE1.out).mono ?_
        rintro e w2 ⟨rfl, hb1⟩
        replace HB := Lib.hid (HB.out.trans (hb1.mono HB.out.size)); clear hb1
        replace HE1 := Lib.hid (HE.out.over HB.out)
        rcases hY with ⟨rfl, hn⟩ | ⟨rfl, rfl, rfl⟩
        · rw [hn] at HNE
          clear hn
          go_wp2_with fail
          refine (HNE.out _ HE1.out).mono ?_
          rintro e w2 ⟨rfl, hb1⟩
          replace HB := Lib.hid (HB.out.trans (hb1.mono HB.out.size)); clear hb1
          go_wp2_with fail
          go_ret
          exact ⟨rfl, HB.out⟩
        · clear HNE
          go_wp2_with fail
          go_ret
          exact ⟨rfl, HB.out⟩
    · rw [if_neg ha] at HND
      rw [hxn a ha, show S [] = ⟨#[]⟩ from rfl] at HNA HND
      clear ha hxs hxn
      generalize S (nameE g b) = Y at *
      go_enter Tryz.func10, Tryz.ntmps10
      go_wp2_with fail
      refine (HAW.out w HE.out).mono ?_
      rintro e w1 ⟨rfl, hb1⟩
      have HB := Lib.hid hb1; clear hb1
      have HE1 := Lib.hid (HE.out.over HB.out)
      go_wp2_with fail
      refine (HNA.out _ HE1.out).mono ?_
      rintro e w2 ⟨rfl, hb1⟩
      replace HB := Lib.hid (HB.out.trans (hb1.mono HB.out.size)); clear hb1
      replace HE1 := Lib.hid (HE.out.over HB.out)
      go_wp2_with fail
      refine (HNB.out _ HE1.out).mono ?_
      rintro e w2 ⟨rfl, hb1⟩
      replace HB := Lib.hid (HB.out.trans (hb1.mono HB.out.size)); clear hb1
      replace HE1 := Lib.hid (HE.out.over HB.out)
      go_wp2_with fail
      refine (HND.out _ HE1.out).mono ?_
      rintro e w2 ⟨rfl, hb1⟩
      replace HB := Lib.hid (HB.out.trans (hb1.mono HB.out.size)); clear hb1
      replace HE1 := Lib.hid (HE.out.over HB.out)
      go_wp2_with fail
      refine (HNN.out _ HE1.out).mono ?_
      rintro e w2 ⟨rfl, hb1⟩
      replace HB := Lib.hid (HB.out.trans (hb1.mono HB.out.size)); clear hb1
      replace HE1 := Lib.hid (HE.out.over HB.out)
      rcases hY with ⟨rfl, hn⟩ | ⟨rfl, rfl, rfl⟩
      · rw [hn] at HNE
        clear hn
        go_wp2_with fail
        refine (HNE.out _ HE1.out).mono ?_
        rintro e w2 ⟨rfl, hb1⟩
        replace HB := Lib.hid (HB.out.trans (hb1.mono HB.out.size)); clear hb1
        go_wp2_with fail
        go_ret
        exact ⟨rfl, HB.out⟩
      · clear HNE
        go_wp2_with fail
        go_ret
        exact ⟨rfl, HB.out⟩
  · have z0 : (200 : Int) < (nm.size : Int) := by omega
    have z1 : 200 < nm.size := by omega
    clear hs
    go_enter Tryz.func10, Tryz.ntmps10
    go_wp2_with fail
    refine (HAW.out w HE.out).mono ?_
    rintro e w1 ⟨rfl, hb1⟩
    go_wp2_with fail
    go_ret
    exact ⟨rfl, hb1⟩
end Go.Proofs.YtkccdffccjgajaaGreatDoor.Seg
