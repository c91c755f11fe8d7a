/-
  The walk of the statement SchemaWords.
-/
import Derived.Test.YtfklkainbkffnaaDoorE16
import Derived.Deep.DeepCutAuto
namespace Go.Proofs.YtfklkainbkffnaaDoor.Schema
open Go Go.RowKit

theorem toList_nil (s : ByteArray) : s.toList = [] ↔ s = ⟨#[]⟩ := by
  rw [ByteArray.toList_eq]
  constructor
  · intro h; exact ByteArray.ext (Array.ext' h)
  · intro h; rw [h]
/-- by its own name: nobody else -/
theorem name_inj (a b : Nat) (ha : ¬ (evAt a).name = ⟨#[]⟩) (h : (evAt a).name = (evAt b).name) : a = b := by
  have h1 : a < 24 := by
    rcases Nat.lt_or_ge a 24 with h1 | h1
    · exact h1
    · exact absurd (by rw [evAt_out a (by omega)]; rfl) ha
  have h2 : b < 24 := by
    rcases Nat.lt_or_ge b 24 with h2 | h2
    · exact h2
    · exact absurd (by rw [h, evAt_out b (by omega)]; rfl) ha
  have all : (List.range 24).all (fun a => (List.range 24).all fun b => decide (a = b) || !decide ((evAt a).name.data.toList = (evAt b).name.data.toList) || (evAt a).name.data.toList.isEmpty) = true := by decide +kernel
  have := List.all_eq_true.1 (List.all_eq_true.1 all a (List.mem_range.2 h1)) b (List.mem_range.2 h2)
  simp only [Bool.or_eq_true, Bool.not_eq_true', decide_eq_true_eq, decide_eq_false_iff_not, List.isEmpty_iff] at this
  rcases this with (h3 | h3) | h3
  · exact h3
  · exact absurd (by rw [h]) h3
  · exact absurd (ByteArray.ext (Array.ext' h3)) ha
theorem word_inj (a b : Nat) (ha : ¬ (cmAt a).word = ⟨#[]⟩) (h : (cmAt a).word = (cmAt b).word) : a = b := by
  have h1 : a < 21 := by
    rcases Nat.lt_or_ge a 21 with h1 | h1
    · exact h1
    · exact absurd (by rw [cmAt_out a (by omega)]; rfl) ha
  have h2 : b < 21 := by
    rcases Nat.lt_or_ge b 21 with h2 | h2
    · exact h2
    · exact absurd (by rw [h, cmAt_out b (by omega)]; rfl) ha
  have all : (List.range 21).all (fun a => (List.range 21).all fun b => decide (a = b) || !decide ((cmAt a).word.data.toList = (cmAt b).word.data.toList) || (cmAt a).word.data.toList.isEmpty) = true := by decide +kernel
  have := List.all_eq_true.1 (List.all_eq_true.1 all a (List.mem_range.2 h1)) b (List.mem_range.2 h2)
  simp only [Bool.or_eq_true, Bool.not_eq_true', decide_eq_true_eq, decide_eq_false_iff_not, List.isEmpty_iff] at this
  rcases this with (h3 | h3) | h3
  · exact h3
  · exact absurd (by rw [h]) h3
  · exact absurd (ByteArray.ext (Array.ext' h3)) ha
theorem name_lt {a : Nat} (ha : ¬ (evAt a).name = ⟨#[]⟩) : 0 < a ∧ a < 24 := by
  constructor
  · rcases Nat.eq_zero_or_pos a with h | h
    · subst h; exact absurd rfl ha
    · exact h
  · rcases Nat.lt_or_ge a 24 with h1 | h1
    · exact h1
    · exact absurd (by rw [evAt_out a (by omega)]; rfl) ha
theorem word_is {a : Nat} (ha : ¬ (cmAt a).word = ⟨#[]⟩) : isC a = true := by
  cases h : isC a with
  | true => rfl
  | false => exact absurd (word_out a h) ha
theorem kind_self {a : Nat} (ha : ¬ (evAt a).name = ⟨#[]⟩) : kindOf (evAt a).name = a := by
  have he : (evAt a).name.toList.isEmpty = false := by
    have : ¬ (evAt a).name.toList = [] := fun h => ha ((toList_nil _).1 h)
    simpa using this
  refine firstAt_hit (name_lt ha).2 ?_ (fun j hj => ?_)
  · unfold hitE; rw [he]; simp
  · unfold hitE
    rw [decide_eq_false (fun h => by have := name_inj a j ha h.symm; omega), Bool.false_and]
theorem kind_nil : kindOf ⟨#[]⟩ = 0 := firstAt_none fun j _ => by
  unfold hitE
  have : (⟨#[]⟩ : ByteArray).toList.isEmpty = true := by rw [(toList_nil _).2 rfl]; rfl
  rw [this]; simp
theorem com_self {a : Nat} (ha : ¬ (cmAt a).word = ⟨#[]⟩) : comOf (cmAt a).word = a := by
  refine firstAt_hit (isC_iff.1 (word_is ha)).2 ?_ (fun j hj => ?_)
  · unfold hitC; rw [word_is ha]; simp
  · unfold hitC
    rw [decide_eq_false (fun h => by have := word_inj a j ha h.symm; omega), Bool.and_false]
theorem word_ne {j : Nat} (h : isC j = true) : ¬ (cmAt j).word = ⟨#[]⟩ := by
  have h1 := (isC_iff.1 h)
  have all : (List.range 21).all (fun a => decide (a = 0) || !(cmAt a).word.data.toList.isEmpty) = true := by decide +kernel
  have := List.all_eq_true.1 all j (List.mem_range.2 h1.2)
  intro h2
  rw [h2, decide_eq_false (by omega)] at this
  cases this
theorem com_nil : comOf ⟨#[]⟩ = 0 := firstAt_none fun j _ => by
  unfold hitC
  cases h : isC j with
  | false => rfl
  | true => rw [decide_eq_false (word_ne h)]; rfl
theorem kind_name {s : ByteArray} (h : 0 < kindOf s) : (evAt (kindOf s)).name = s ∧ kindOf s < 256 := by
  have h1 := firstAt_lt h
  refine ⟨?_, by have := h1.1; unfold kindOf; omega⟩
  have h2 := h1.2
  unfold hitE at h2
  rw [Bool.and_eq_true] at h2
  exact of_decide_eq_true h2.1
theorem com_word {s : ByteArray} (h : 0 < comOf s) : (cmAt (comOf s)).word = s ∧ comOf s < 256 := by
  have h1 := firstAt_lt h
  refine ⟨?_, by have := h1.1; unfold comOf; omega⟩
  have h2 := h1.2
  unfold hitC at h2
  rw [Bool.and_eq_true] at h2
  exact of_decide_eq_true h2.2

set_option maxRecDepth 100000 in
set_option maxHeartbeats 4000000 in
theorem schemaWords_walk (a b : Int) (s : ByteArray) (w : World) (hv : (Lit.int .u8 a).wf = true) (hk : (Lit.int .u8 b).wf = true) (_ : s.size ≤ maxLen) (E : Env w) :
    Calls Tryd.prog 7 #[.int .u8 a, .int .u8 b, .string s] w fun e w' => e = .returned (.bool true) ∧ Below w.heap.size w w' := by
  have hv' := bounds_u8 hv
  have hk' := bounds_u8 hk
  obtain ⟨a, rfl⟩ := Int.eq_ofNat_of_zero_le hv'.1
  obtain ⟨b, rfl⟩ := Int.eq_ofNat_of_zero_le hk'.1
  have ha0 : a < 256 := by omega
  have hb0 : b < 256 := by omega
  clear hv hk hv' hk'
  have HE := Lib.hid E
  have HW := Lib.hid (fun W EW => awake_any W EW)
  clear E
  by_cases hl : 300 < s.size
  · go_enter Tryd.func7, Tryd.ntmps7
    go_wp2_with (go_at_call 11; refine (HW.out _ HE.out).mono ?_; rintro e w1 ⟨rfl, hb⟩; have HB1 := Lib.hid hb; clear hb)
    go_ret
    exact ⟨rfl, HB1.out⟩
  · have hl' : s.size ≤ 300 := by omega
    clear hl
    have HNA := Lib.hid (fun W EW => name_any a ha0 W EW)
    have HNB := Lib.hid (fun W EW => name_any b hb0 W EW)
    have HWA := Lib.hid (fun W EW => word_any a ha0 W EW)
    have HWB := Lib.hid (fun W EW => word_any b hb0 W EW)
    have HXI := Lib.hid (fun h => name_inj a b h)
    have HPI := Lib.hid (fun h => word_inj a b h)
    have HKA := Lib.hid (fun h => kind_self (a := a) h)
    have HCA := Lib.hid (fun h => com_self (a := a) h)
    have HNL := Lib.hid (fun h => (name_lt (a := a) h).1)
    have HWL := Lib.hid (fun h => (isC_iff.1 (word_is (a := a) h)).1)
    have HSAME := Lib.hid (fun (h : a = b) => show (evAt a).name = (evAt b).name ∧ (cmAt a).word = (cmAt b).word from by rw [h]; exact ⟨rfl, rfl⟩)
    generalize (evAt a).name = x at HNA HXI HKA HNL HSAME
    generalize (evAt b).name = y at HNB HXI HSAME
    generalize (cmAt a).word = p at HWA HPI HCA HWL HSAME
    generalize (cmAt b).word = q at HWB HPI HSAME
    go_enter Tryd.func7, Tryd.ntmps7
    go_wp2_with fail
    refine (HW.out _ HE.out).mono ?_; rintro e w1 ⟨rfl, hb⟩
    have HB1 := Lib.hid hb
    have HE1 := Lib.hid (HE.out.below hb)
    clear hb HW HE
    -- the names of a and b
    have HXY : Hid (¬ x = ⟨#[]⟩ → (x.toList == y.toList) = ((a : Int) == (b : Int))) := fun h => by
      rw [str_eq, int_beq]
      by_cases e : a = b
      · rw [decide_eq_true e, decide_eq_true (HSAME.out e).1]
      · rw [decide_eq_false e, decide_eq_false (fun h1 => e (HXI.out h h1))]
    have HPQ : Hid (¬ p = ⟨#[]⟩ → (p.toList == q.toList) = ((a : Int) == (b : Int))) := fun h => by
      rw [str_eq, int_beq]
      by_cases e : a = b
      · rw [decide_eq_true e, decide_eq_true (HSAME.out e).2]
      · rw [decide_eq_false e, decide_eq_false (fun h1 => e (HPI.out h h1))]
    clear HXI HPI HSAME
    have HK0 := Lib.hid (fun W EW => kind_any x W EW)
    have HC0 := Lib.hid (fun W EW => worded_any p W EW)
    have HX0 : Hid (x = ⟨#[]⟩ → kindOf x = 0) := fun h => by rw [h]; exact kind_nil
    have HP0 : Hid (p = ⟨#[]⟩ → comOf p = 0) := fun h => by rw [h]; exact com_nil
    generalize kindOf x = kx at HK0 HX0 HKA
    generalize comOf p = cp at HC0 HP0 HCA
    have HBK : Hid ((x = ⟨#[]⟩ → decide (0 < kx) = false) ∧ (¬ x = ⟨#[]⟩ → decide (0 < kx) = true)) := ⟨fun h => by rw [HX0.out h]; rfl, fun h => decide_eq_true (by rw [HKA.out h]; exact HNL.out h)⟩
    have HBC : Hid ((p = ⟨#[]⟩ → decide (0 < cp) = false) ∧ (¬ p = ⟨#[]⟩ → decide (0 < cp) = true)) := ⟨fun h => by rw [HP0.out h]; rfl, fun h => decide_eq_true (by rw [HCA.out h]; exact HWL.out h)⟩
    generalize decide (0 < kx) = bk at HK0 HBK
    generalize decide (0 < cp) = bc at HC0 HBC
    have TK1 : Hid True := trivial
    have TK2 : Hid True := trivial
    go_upto_region 5 with (first
      | (go_at_call 21; have hh := TK1.out; clear hh; refine (HNA.out _ HE1.out).mono ?_; rintro e wz ⟨rfl, rfl⟩; clear TK1)
      | (go_at_call 21; refine (HNB.out _ HE1.out).mono ?_; rintro e wz ⟨rfl, rfl⟩)
      | (go_at_call 36; have hh := TK2.out; clear hh; refine (HWA.out _ HE1.out).mono ?_; rintro e wz ⟨rfl, rfl⟩; clear TK2)
      | (go_at_call 36; refine (HWB.out _ HE1.out).mono ?_; rintro e wz ⟨rfl, rfl⟩))
    go_cut [54] (fun t wx => t = .bool false ∧ wx = w1)
    case first =>
      clear HK0 HC0 HX0 HP0 HKA HCA HNL HWL
      by_cases hx : x = ⟨#[]⟩
      · have x1 : x.toList = [] := (toList_nil _).2 hx
        clear hx HXY
        by_cases hp : p = ⟨#[]⟩
        · have p1 : p.toList = [] := (toList_nil _).2 hp
          clear hp HPQ
          go_wp2_with fail
          go_meet
          exact ⟨rfl, rfl⟩
        · have p3 := HPQ.out hp
          have p1 : ¬ p.toList = [] := fun h => hp ((toList_nil _).1 h)
          have p2 : p.toList.isEmpty = false := by simpa using p1
          clear hp HPQ
          cases hab : ((a : Int) == (b : Int))
          all_goals
            rw [hab] at p3
            go_wp2_with fail
            go_meet
            exact ⟨rfl, rfl⟩
      · have x3 := HXY.out hx
        have x1 : ¬ x.toList = [] := fun h => hx ((toList_nil _).1 h)
        have x2 : x.toList.isEmpty = false := by simpa using x1
        clear hx HXY
        by_cases hp : p = ⟨#[]⟩
        · have p1 : p.toList = [] := (toList_nil _).2 hp
          clear hp HPQ
          cases hab : ((a : Int) == (b : Int))
          all_goals
            rw [hab] at x3
            go_wp2_with fail
            go_meet
            exact ⟨rfl, rfl⟩
        · have p3 := HPQ.out hp
          have p1 : ¬ p.toList = [] := fun h => hp ((toList_nil _).1 h)
          have p2 : p.toList.isEmpty = false := by simpa using p1
          clear hp HPQ
          cases hab : ((a : Int) == (b : Int))
          all_goals
            rw [hab] at x3 p3
            go_wp2_with fail
            go_meet
            exact ⟨rfl, rfl⟩
    case rest =>
    obtain ⟨rfl, rfl⟩ := hcut
    go_upto_region 9 with (first
      | (go_at_call 18; refine (HK0.out _ HE1.out).mono ?_; rintro e wz ⟨rfl, rfl⟩)
      | (go_at_call 33; refine (HC0.out _ HE1.out).mono ?_; rintro e wz ⟨rfl, rfl⟩))
    go_cut [90] (fun t wx => t = .bool false ∧ wx = wc)
    case first =>
      by_cases hx : x = ⟨#[]⟩
      · have x1 : x.toList = [] := (toList_nil _).2 hx
        have ek := HX0.out hx
        have eb := HBK.out.1 hx
        subst ek eb
        clear hx HXY HKA HBK HX0
        by_cases hp : p = ⟨#[]⟩
        · have p1 : p.toList = [] := (toList_nil _).2 hp
          have ec := HP0.out hp
          have ed := HBC.out.1 hp
          subst ec ed
          clear hp HPQ HCA HBC HP0
          go_wp2_with fail
          go_meet
          exact ⟨rfl, rfl⟩
        · have p1 : ¬ p.toList = [] := fun h => hp ((toList_nil _).1 h)
          have p2 : p.toList.isEmpty = false := by simpa using p1
          have ec := HCA.out hp
          have ed := HBC.out.2 hp
          subst ec ed
          clear hp HPQ HCA HBC HP0
          go_wp2_with fail
          go_meet
          exact ⟨rfl, rfl⟩
      · have x1 : ¬ x.toList = [] := fun h => hx ((toList_nil _).1 h)
        have x2 : x.toList.isEmpty = false := by simpa using x1
        have ek := HKA.out hx
        have eb := HBK.out.2 hx
        subst ek eb
        clear hx HXY HKA HBK HX0
        by_cases hp : p = ⟨#[]⟩
        · have p1 : p.toList = [] := (toList_nil _).2 hp
          have ec := HP0.out hp
          have ed := HBC.out.1 hp
          subst ec ed
          clear hp HPQ HCA HBC HP0
          go_wp2_with fail
          go_meet
          exact ⟨rfl, rfl⟩
        · have p1 : ¬ p.toList = [] := fun h => hp ((toList_nil _).1 h)
          have p2 : p.toList.isEmpty = false := by simpa using p1
          have ec := HCA.out hp
          have ed := HBC.out.2 hp
          subst ec ed
          clear hp HPQ HCA HBC HP0
          go_wp2_with fail
          go_meet
          exact ⟨rfl, rfl⟩
    case rest =>
      obtain ⟨rfl, rfl⟩ := hcut
      have HK := Lib.hid (fun W EW => kind_any s W EW)
      have HC := Lib.hid (fun W EW => worded_any s W EW)
      have HKN := Lib.hid (fun h W EW => name_any (kindOf s) (kind_name (s := s) h).2 W EW)
      have HCN := Lib.hid (fun h W EW => word_any (comOf s) (com_word (s := s) h).2 W EW)
      have HKS := Lib.hid (fun h => (kind_name (s := s) h).1)
      have HCS := Lib.hid (fun h => (com_word (s := s) h).1)
      generalize kindOf s = k at HK HKN HKS
      generalize comOf s = c at HC HCN HCS
      have s1 : (s.toList == s.toList) = true := by simp
      clear HNA HNB HWA HWB HKA HCA HNL HWL HXY HPQ HK0 HC0 HX0 HP0 HBK HBC
      by_cases h1 : 0 < k
      · have n1 := HKS.out h1
        have HN := Lib.hid (HKN.out h1)
        rw [n1] at HN
        have HK2 := Lib.hid (fun W EW => HK.out W EW)
        rw [decide_eq_true h1] at HK2
        clear n1 HKN HKS HK
        by_cases h2 : 0 < c
        · have n2 := HCS.out h2
          have HM := Lib.hid (HCN.out h2)
          rw [n2] at HM
          have HC2 := Lib.hid (fun W EW => HC.out W EW)
          rw [decide_eq_true h2] at HC2
          clear n2 HCN HCS HC
          go_wp2_with (first
            | (go_at_call 18; refine (HK2.out _ HE1.out).mono ?_; rintro e wz ⟨rfl, rfl⟩)
            | (go_at_call 33; refine (HC2.out _ HE1.out).mono ?_; rintro e wz ⟨rfl, rfl⟩)
            | (go_at_call 21; refine (HN.out _ HE1.out).mono ?_; rintro e wz ⟨rfl, rfl⟩)
            | (go_at_call 36; refine (HM.out _ HE1.out).mono ?_; rintro e wz ⟨rfl, rfl⟩))
          go_ret
          exact ⟨rfl, HB1.out⟩
        · obtain rfl : c = 0 := by omega
          go_wp2_with (first
            | (go_at_call 18; refine (HK2.out _ HE1.out).mono ?_; rintro e wz ⟨rfl, rfl⟩)
            | (go_at_call 33; refine (HC.out _ HE1.out).mono ?_; rintro e wz ⟨rfl, rfl⟩)
            | (go_at_call 21; refine (HN.out _ HE1.out).mono ?_; rintro e wz ⟨rfl, rfl⟩))
          go_ret
          exact ⟨rfl, HB1.out⟩
      · obtain rfl : k = 0 := by omega
        by_cases h2 : 0 < c
        · have n2 := HCS.out h2
          have HM := Lib.hid (HCN.out h2)
          rw [n2] at HM
          have HC2 := Lib.hid (fun W EW => HC.out W EW)
          rw [decide_eq_true h2] at HC2
          clear n2 HCN HCS HC
          go_wp2_with (first
            | (go_at_call 18; refine (HK.out _ HE1.out).mono ?_; rintro e wz ⟨rfl, rfl⟩)
            | (go_at_call 33; refine (HC2.out _ HE1.out).mono ?_; rintro e wz ⟨rfl, rfl⟩)
            | (go_at_call 36; refine (HM.out _ HE1.out).mono ?_; rintro e wz ⟨rfl, rfl⟩))
          go_ret
          exact ⟨rfl, HB1.out⟩
        · obtain rfl : c = 0 := by omega
          go_wp2_with (first
            | (go_at_call 18; refine (HK.out _ HE1.out).mono ?_; rintro e wz ⟨rfl, rfl⟩)
            | (go_at_call 33; refine (HC.out _ HE1.out).mono ?_; rintro e wz ⟨rfl, rfl⟩))
          go_ret
          exact ⟨rfl, HB1.out⟩

end Go.Proofs.YtfklkainbkffnaaDoor.Schema
