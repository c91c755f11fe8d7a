/-
  The walks of decimal and digits.
-/
import Derived.Test.YtfocdlhaohhkjaaGreatDoorC14
namespace Go.Proofs.YtfocdlhaohhkjaaGreatDoor.Money
open Go.RowKit

def ten : List UInt8 := [48, 49, 50, 51, 52, 53, 54, 55, 56, 57]
theorem ten_isD (c : UInt8) : ten.contains c = isD c := by
  have all : ∀ j : Fin 256, ten.contains (UInt8.ofNat j.val) = isD (UInt8.ofNat j.val) := by decide +kernel
  have h := all ⟨c.toNat, UInt8.toNat_lt c⟩
  have e : UInt8.ofNat c.toNat = c := UInt8.ofNat_toNat
  rw [e] at h; exact h
theorem trim_yes {l : List UInt8} (h : l.all isD = true) : Lib.trimLeftS l ten = [] := by
  unfold Lib.trimLeftS
  induction l with
  | nil => rfl
  | cons c r ih =>
    rw [List.all_cons, Bool.and_eq_true] at h
    rw [List.dropWhile_cons, ten_isD, h.1]; exact ih h.2
theorem trim_no {l : List UInt8} (h : l.all isD = false) : (Lib.trimLeftS l ten).isEmpty = false := by
  unfold Lib.trimLeftS
  induction l with
  | nil => cases h
  | cons c r ih =>
    rw [List.dropWhile_cons, ten_isD]
    cases hc : isD c with
    | true => rw [List.all_cons, hc, Bool.true_and] at h; exact ih h
    | false => rfl
theorem toList_S (l : List UInt8) : (S l).toList = l := by rw [ByteArray.toList_eq]; rfl
theorem tl_any (s : ByteArray) (w : World) :
    Calls Tryz.prog 49 #[.string s, .string ⟨#[48, 49, 50, 51, 52, 53, 54, 55, 56, 57]⟩] w fun e w' => e = .returned (.string (S (Lib.trimLeftS s.data.toList ten))) ∧ Below w.heap.size w w' :=
  Tryz.strings_TrimLeft_digits s ⟨#[48, 49, 50, 51, 52, 53, 54, 55, 56, 57]⟩ w (by kernel_rfl) (by decide) (ascii_of_all (by decide))
theorem decimal_any (s : ByteArray) (w : World) :
    Calls Tryz.prog 40 #[.string s] w fun e w' => e = .returned (.bool (s.data.toList.all isD)) ∧ Below w.heap.size w w' := by
  have C := Lib.hid (tl_any s w)
  cases h : s.data.toList.all isD with
  | true =>
    have ht := trim_yes h
    have e1 : (S (Lib.trimLeftS s.data.toList ten)).toList = [] := by rw [toList_S]; exact ht
    have H := Lib.hid h; clear h ht
    generalize S (Lib.trimLeftS s.data.toList ten) = T at *
    go_enter Tryz.func40, Tryz.ntmps40
    go_wp2_with (go_at_call 49; refine C.out.mono ?_; rintro e w' ⟨rfl, hb⟩)
    go_ret
    exact ⟨rfl, hb⟩
  | false =>
    have ht := trim_no h
    have e1 : (S (Lib.trimLeftS s.data.toList ten)).toList.isEmpty = false := by rw [toList_S]; exact ht
    have H := Lib.hid h; clear h ht
    generalize S (Lib.trimLeftS s.data.toList ten) = T at *
    go_enter Tryz.func40, Tryz.ntmps40
    go_wp2_with (go_at_call 49; refine C.out.mono ?_; rintro e w' ⟨rfl, hb⟩)
    go_ret
    exact ⟨rfl, hb⟩

theorem trim_rest (l : List UInt8) : Lib.trimPrefix l [45] = rest l := by
  unfold Lib.trimPrefix Lib.hasPrefix rest isNeg
  cases l with
  | nil => rfl
  | cons c r =>
    by_cases h : c = 45
    · subst h; rfl
    · have e : ([45] : List UInt8).isPrefixOf (c :: r) = false := by
        simp only [List.isPrefixOf, Bool.and_true, beq_eq_false_iff_ne]; exact fun e => h e.symm
      rw [e, if_neg (by decide), if_neg (by simpa using h)]
theorem prefix_any (s : ByteArray) (w : World) :
    Calls Tryz.prog 39 #[.string s, .string ⟨#[45]⟩] w fun e w' => e = .returned (.string (S (rest s.data.toList))) ∧ w = w' := by
  have h := Tryz.strings_TrimPrefix s ⟨#[45]⟩ w
  rw [show (⟨#[45]⟩ : ByteArray).data.toList = [45] from rfl, trim_rest] at h
  exact h.mono fun e w' ⟨he, hw⟩ => ⟨he, hw.symm⟩
theorem cut_any (t : List UInt8) (ht : t.length < 4294967281) (w : World) (E : Env w) :
    Calls Tryz.prog 38 #[.string (S t), .string ⟨#[46]⟩] w fun e w' => (∃ b, e = .returned (.tuple #[.string (S (fore t)), .string (S (aft t)), .bool b])) ∧ Below w.heap.size w w' := by
  obtain ⟨m, hm⟩ := E.2.1
  exact (Tryz.strings_Cut (S t) ⟨#[46]⟩ m w ht hm).mono fun e w' ⟨he, n, hn⟩ => ⟨⟨_, he⟩, by rw [hn]; exact ⟨rfl, rfl, rfl, Nat.le_refl _, fun _ _ => rfl⟩⟩
theorem bare_any (s : ByteArray) (hs : s.size < 4294967281) (w : World) (E : Env w) :
    Calls Tryz.prog 41 #[.string s, .string ⟨#[46]⟩, .string ⟨#[]⟩, .int .i64 1] w fun e w' => e = .returned (.string (S (bare s.data.toList))) ∧ Below w.heap.size w w' := by
  obtain ⟨m, hm⟩ := E.2.1
  exact Tryz.strings_Replace s ⟨#[46]⟩ ⟨#[]⟩ 1 m w hs hm (Nat.le_refl 1) (by show s.size + _ * 0 ≤ _; omega)
theorem rest_len (l : List UInt8) : (rest l).length ≤ l.length := by
  unfold rest; split
  · rw [List.length_tail]; omega
  · exact Nat.le_refl _

def dgT (l : List UInt8) : ByteArray := if amt l = true then S (bare l) else S []
theorem dg_no {l : List UInt8} (h : amt l = false) : dgT l = ⟨#[]⟩ := by unfold dgT; rw [h, if_neg (by decide)]; rfl
theorem dg_yes {l : List UInt8} (h : amt l = true) : dgT l = S (bare l) := if_pos h
theorem ret_tb {a c : ByteArray} {b d : Bool} (h1 : a = c) (h2 : b = d) : Ending.returned (.tuple #[.string a, .bool b]) = .returned (.tuple #[.string c, .bool d]) := by rw [h1, h2]
theorem amt_not {l : List UInt8} (h : plainT (rest l) = false) : amt l = false := by rw [amt_tests, h]; rfl
theorem plain_c2 {t : List UInt8} (h : (aft t).all isD = false) : plainT t = false := by unfold plainT; rw [h, Bool.false_and, Bool.and_false]
theorem plain_c3 {t : List UInt8} (h : fore t = []) : plainT t = false := by unfold plainT; rw [h]; simp
theorem plain_c4 {t : List UInt8} (h : ¬ (aft t).length = 2) : plainT t = false := by unfold plainT; rw [decide_eq_false h]; simp
theorem plain_yes {t : List UInt8} (h1 : (fore t).all isD = true) (h2 : (aft t).all isD = true) (h3 : ¬ fore t = []) (h4 : (aft t).length = 2) : plainT t = true := by
  unfold plainT; rw [h1, h2, decide_eq_true h4]
  cases h : fore t with
  | nil => exact absurd h h3
  | cons c r => rfl
theorem amt_zero {l : List UInt8} (h : zeroT l = true) : amt l = false := by rw [amt_tests, h]; simp
theorem amt_yes {l : List UInt8} (h : plainT (rest l) = true) (k : zeroT l = false) : amt l = true := by rw [amt_tests, h, k]; rfl
theorem ne_head {F : List UInt8} (h : F ≠ []) : ∃ c r, F = c :: r := by
  cases F with
  | nil => exact absurd rfl h
  | cons c r => exact ⟨c, r, rfl⟩

set_option maxRecDepth 100000 in
set_option maxHeartbeats 1000000 in
theorem digits_any (s : ByteArray) (hs : s.size ≤ 1000000000) (w : World) (E : Env w) :
    Calls Tryz.prog 28 #[.string s] w fun e w' => e = .returned (.tuple #[.string (dgT s.data.toList), .bool (amt s.data.toList)]) ∧ Below w.heap.size w w' := by
  have E0 := Lib.hid E; clear E
  have hr : (rest s.data.toList).length < 4294967281 := Nat.lt_of_le_of_lt (rest_len _) (by show s.size < _; omega)
  have HR := Lib.hid hr; clear hr
  have HS := Lib.hid hs; clear hs
  have A := Lib.hid (amt_tests s.data.toList)
  have D1 := Lib.hid (fun w => decimal_any (S (fore (rest s.data.toList))) w)
  have D2 := Lib.hid (fun w => decimal_any (S (aft (rest s.data.toList))) w)
  rw [S_list] at D1 D2
  have BA := Lib.hid (bare_any s (by have := HS.out; omega))
  have HL := Lib.hid (fore_len (rest s.data.toList))
  by_cases c1 : (fore (rest s.data.toList)).all isD = true
  · have C1 := Lib.hid c1
    by_cases c2 : (aft (rest s.data.toList)).all isD = true
    · have C2 := Lib.hid c2
      by_cases c3 : fore (rest s.data.toList) = []
      · have HA : Hid (amt s.data.toList = false) := amt_not (plain_c3 c3)
        have q1 : (S (fore (rest s.data.toList))).toList = [] := by rw [toList_S]; exact c3
        clear c1 c2 c3
        generalize hF : S (fore (rest s.data.toList)) = F at *
        generalize hP : S (aft (rest s.data.toList)) = P at *
        have HF := Lib.hid hF; have HP := Lib.hid hP; clear hF hP
        go_enter Tryz.func28, Tryz.ntmps28
        go_wp2_with fail
        refine (prefix_any _ _).mono ?_; rintro e w1 ⟨rfl, rfl⟩
        go_wp2_with fail
        refine (cut_any _ HR.out _ E0.out).mono ?_; rintro e w1 ⟨⟨b, rfl⟩, hb1⟩
        rw [HF.out, HP.out]
        go_wp2_with fail
        refine (carry hb1 (D1.out _)).mono ?_; rintro e w2 ⟨rfl, hb2⟩
        rw [C1.out]
        go_wp2_with fail
        refine (carry hb2 (D2.out _)).mono ?_; rintro e w3 ⟨rfl, hb3⟩
        rw [C2.out]
        go_wp2_with fail
        go_ret2
        exact ⟨ret_tb (dg_no HA.out).symm HA.out.symm, hb3⟩
      · have hn : (S (fore (rest s.data.toList))).toList.isEmpty = false := by
          rw [toList_S]; obtain ⟨c, r, e⟩ := ne_head c3; rw [e]; rfl
        by_cases c4 : (aft (rest s.data.toList)).length = 2
        · have q2 : (((S (aft (rest s.data.toList))).size : Int) != 2) = false := by rw [bne_eq_false_iff_eq, S_size]; omega
          have hp0 : 0 < (S (fore (rest s.data.toList))).size := by rw [S_size]; obtain ⟨c, r, e⟩ := ne_head c3; rw [e]; exact Nat.succ_pos _
          have PY := Lib.hid (plain_yes c1 c2 c3 c4)
          have hb0 : ((((S (fore (rest s.data.toList)))[0]'hp0).toNat : Int) == 48) = decide ((fore (rest s.data.toList)).head? = some 48) := by
            obtain ⟨c, r, e⟩ := ne_head c3
            have e0 : (S (fore (rest s.data.toList)))[0]'hp0 = c := by
              show (S (fore (rest s.data.toList))).data.toList[0]'hp0 = c
              simp only [S_list, e, List.getElem_cons_zero]
            rw [e0, e, List.head?_cons, Bool.eq_iff_iff, beq_iff_eq, decide_eq_true_eq]
            constructor
            · intro h
              have : c = 48 := UInt8.toNat_inj.1 (by show c.toNat = 48; omega)
              rw [this]
            · intro h
              have : c = 48 := by injection h
              rw [this]; rfl
          have hk0 : ((S (fore (rest s.data.toList))).toList == [48]) = decide (fore (rest s.data.toList) = [48]) := by rw [toList_S, Bool.eq_iff_iff, beq_iff_eq, decide_eq_true_eq]
          have hm0 : (s.toList == [45, 48, 46, 48, 48]) = decide (s.data.toList = [45, 48, 46, 48, 48]) := by rw [ByteArray.toList_eq, Bool.eq_iff_iff, beq_iff_eq, decide_eq_true_eq]
          have HZ : Hid (zeroT s.data.toList = ((decide ((fore (rest s.data.toList)).head? = some 48) && !(decide (fore (rest s.data.toList) = [48]))) || decide (s.data.toList = [45, 48, 46, 48, 48]))) := rfl
          clear c1 c2 c3 c4
          generalize decide ((fore (rest s.data.toList)).head? = some 48) = x at *
          generalize decide (fore (rest s.data.toList) = [48]) = y at *
          generalize decide (s.data.toList = [45, 48, 46, 48, 48]) = z at *
          cases x
          · cases z
            · have HA : Hid (amt s.data.toList = true) := amt_yes PY.out (by rw [HZ.out]; rfl)
              generalize hF : S (fore (rest s.data.toList)) = F at *
              generalize hP : S (aft (rest s.data.toList)) = P at *
              have HF := Lib.hid hF; have HP := Lib.hid hP; clear hF hP
              go_enter Tryz.func28, Tryz.ntmps28
              go_wp2_with fail
              refine (prefix_any _ _).mono ?_; rintro e w1 ⟨rfl, rfl⟩
              go_wp2_with fail
              refine (cut_any _ HR.out _ E0.out).mono ?_; rintro e w1 ⟨⟨b, rfl⟩, hb1⟩
              rw [HF.out, HP.out]
              go_wp2_with fail
              refine (carry hb1 (D1.out _)).mono ?_; rintro e w2 ⟨rfl, hb2⟩
              rw [C1.out]
              go_wp2_with fail
              refine (carry hb2 (D2.out _)).mono ?_; rintro e w3 ⟨rfl, hb3⟩
              rw [C2.out]
              go_wp2_with fail
              refine (carry hb3 (BA.out _ (E0.out.below hb3))).mono ?_; rintro e w4 ⟨rfl, hb4⟩
              go_wp2_with fail
              go_ret2
              exact ⟨ret_tb (dg_yes HA.out).symm HA.out.symm, hb4⟩
            · have HA : Hid (amt s.data.toList = false) := amt_zero (by rw [HZ.out]; rfl)
              generalize hF : S (fore (rest s.data.toList)) = F at *
              generalize hP : S (aft (rest s.data.toList)) = P at *
              have HF := Lib.hid hF; have HP := Lib.hid hP; clear hF hP
              go_enter Tryz.func28, Tryz.ntmps28
              go_wp2_with fail
              refine (prefix_any _ _).mono ?_; rintro e w1 ⟨rfl, rfl⟩
              go_wp2_with fail
              refine (cut_any _ HR.out _ E0.out).mono ?_; rintro e w1 ⟨⟨b, rfl⟩, hb1⟩
              rw [HF.out, HP.out]
              go_wp2_with fail
              refine (carry hb1 (D1.out _)).mono ?_; rintro e w2 ⟨rfl, hb2⟩
              rw [C1.out]
              go_wp2_with fail
              refine (carry hb2 (D2.out _)).mono ?_; rintro e w3 ⟨rfl, hb3⟩
              rw [C2.out]
              go_wp2_with fail
              go_ret2
              exact ⟨ret_tb (dg_no HA.out).symm HA.out.symm, hb3⟩
          · cases y
            · have HA : Hid (amt s.data.toList = false) := amt_zero (by rw [HZ.out]; rfl)
              generalize hF : S (fore (rest s.data.toList)) = F at *
              generalize hP : S (aft (rest s.data.toList)) = P at *
              have HF := Lib.hid hF; have HP := Lib.hid hP; clear hF hP
              go_enter Tryz.func28, Tryz.ntmps28
              go_wp2_with fail
              refine (prefix_any _ _).mono ?_; rintro e w1 ⟨rfl, rfl⟩
              go_wp2_with fail
              refine (cut_any _ HR.out _ E0.out).mono ?_; rintro e w1 ⟨⟨b, rfl⟩, hb1⟩
              rw [HF.out, HP.out]
              go_wp2_with fail
              refine (carry hb1 (D1.out _)).mono ?_; rintro e w2 ⟨rfl, hb2⟩
              rw [C1.out]
              go_wp2_with fail
              refine (carry hb2 (D2.out _)).mono ?_; rintro e w3 ⟨rfl, hb3⟩
              rw [C2.out]
              go_wp2_with fail
              go_ret2
              exact ⟨ret_tb (dg_no HA.out).symm HA.out.symm, hb3⟩
            · cases z
              · have HA : Hid (amt s.data.toList = true) := amt_yes PY.out (by rw [HZ.out]; rfl)
                generalize hF : S (fore (rest s.data.toList)) = F at *
                generalize hP : S (aft (rest s.data.toList)) = P at *
                have HF := Lib.hid hF; have HP := Lib.hid hP; clear hF hP
                go_enter Tryz.func28, Tryz.ntmps28
                go_wp2_with fail
                refine (prefix_any _ _).mono ?_; rintro e w1 ⟨rfl, rfl⟩
                go_wp2_with fail
                refine (cut_any _ HR.out _ E0.out).mono ?_; rintro e w1 ⟨⟨b, rfl⟩, hb1⟩
                rw [HF.out, HP.out]
                go_wp2_with fail
                refine (carry hb1 (D1.out _)).mono ?_; rintro e w2 ⟨rfl, hb2⟩
                rw [C1.out]
                go_wp2_with fail
                refine (carry hb2 (D2.out _)).mono ?_; rintro e w3 ⟨rfl, hb3⟩
                rw [C2.out]
                go_wp2_with fail
                refine (carry hb3 (BA.out _ (E0.out.below hb3))).mono ?_; rintro e w4 ⟨rfl, hb4⟩
                go_wp2_with fail
                go_ret2
                exact ⟨ret_tb (dg_yes HA.out).symm HA.out.symm, hb4⟩
              · have HA : Hid (amt s.data.toList = false) := amt_zero (by rw [HZ.out]; rfl)
                generalize hF : S (fore (rest s.data.toList)) = F at *
                generalize hP : S (aft (rest s.data.toList)) = P at *
                have HF := Lib.hid hF; have HP := Lib.hid hP; clear hF hP
                go_enter Tryz.func28, Tryz.ntmps28
                go_wp2_with fail
                refine (prefix_any _ _).mono ?_; rintro e w1 ⟨rfl, rfl⟩
                go_wp2_with fail
                refine (cut_any _ HR.out _ E0.out).mono ?_; rintro e w1 ⟨⟨b, rfl⟩, hb1⟩
                rw [HF.out, HP.out]
                go_wp2_with fail
                refine (carry hb1 (D1.out _)).mono ?_; rintro e w2 ⟨rfl, hb2⟩
                rw [C1.out]
                go_wp2_with fail
                refine (carry hb2 (D2.out _)).mono ?_; rintro e w3 ⟨rfl, hb3⟩
                rw [C2.out]
                go_wp2_with fail
                go_ret2
                exact ⟨ret_tb (dg_no HA.out).symm HA.out.symm, hb3⟩
        · have HA : Hid (amt s.data.toList = false) := amt_not (plain_c4 c4)
          have q2 : (((S (aft (rest s.data.toList))).size : Int) != 2) = true := by rw [bne_iff_ne, S_size]; omega
          clear c1 c2 c3 c4
          generalize hF : S (fore (rest s.data.toList)) = F at *
          generalize hP : S (aft (rest s.data.toList)) = P at *
          have HF := Lib.hid hF; have HP := Lib.hid hP; clear hF hP
          go_enter Tryz.func28, Tryz.ntmps28
          go_wp2_with fail
          refine (prefix_any _ _).mono ?_; rintro e w1 ⟨rfl, rfl⟩
          go_wp2_with fail
          refine (cut_any _ HR.out _ E0.out).mono ?_; rintro e w1 ⟨⟨b, rfl⟩, hb1⟩
          rw [HF.out, HP.out]
          go_wp2_with fail
          refine (carry hb1 (D1.out _)).mono ?_; rintro e w2 ⟨rfl, hb2⟩
          rw [C1.out]
          go_wp2_with fail
          refine (carry hb2 (D2.out _)).mono ?_; rintro e w3 ⟨rfl, hb3⟩
          rw [C2.out]
          go_wp2_with fail
          go_ret2
          exact ⟨ret_tb (dg_no HA.out).symm HA.out.symm, hb3⟩
    · have C2 := Lib.hid (Bool.eq_false_iff.2 c2)
      have HA : Hid (amt s.data.toList = false) := amt_not (plain_c2 C2.out)
      clear c1 c2
      generalize hF : S (fore (rest s.data.toList)) = F at *
      generalize hP : S (aft (rest s.data.toList)) = P at *
      have HF := Lib.hid hF; have HP := Lib.hid hP; clear hF hP
      go_enter Tryz.func28, Tryz.ntmps28
      go_wp2_with fail
      refine (prefix_any _ _).mono ?_; rintro e w1 ⟨rfl, rfl⟩
      go_wp2_with fail
      refine (cut_any _ HR.out _ E0.out).mono ?_; rintro e w1 ⟨⟨b, rfl⟩, hb1⟩
      rw [HF.out, HP.out]
      go_wp2_with fail
      refine (carry hb1 (D1.out _)).mono ?_; rintro e w2 ⟨rfl, hb2⟩
      rw [C1.out]
      go_wp2_with fail
      refine (carry hb2 (D2.out _)).mono ?_; rintro e w3 ⟨rfl, hb3⟩
      rw [C2.out]
      go_wp2_with fail
      go_ret2
      exact ⟨ret_tb (dg_no HA.out).symm HA.out.symm, hb3⟩
  · have C1 := Lib.hid (Bool.eq_false_iff.2 c1)
    have HA : Hid (amt s.data.toList = false) := by rw [A.out]; unfold plainT; rw [C1.out]; rfl
    clear c1
    generalize hF : S (fore (rest s.data.toList)) = F at *
    generalize hP : S (aft (rest s.data.toList)) = P at *
    have HF := Lib.hid hF; have HP := Lib.hid hP; clear hF hP
    go_enter Tryz.func28, Tryz.ntmps28
    go_wp2_with fail
    refine (prefix_any _ _).mono ?_; rintro e w1 ⟨rfl, rfl⟩
    go_wp2_with fail
    refine (cut_any _ HR.out _ E0.out).mono ?_; rintro e w1 ⟨⟨b, rfl⟩, hb1⟩
    rw [HF.out, HP.out]
    go_wp2_with fail
    refine (carry hb1 (D1.out _)).mono ?_; rintro e w2 ⟨rfl, hb2⟩
    rw [C1.out]
    go_wp2_with fail
    go_ret2
    exact ⟨ret_tb (dg_no HA.out).symm HA.out.symm, hb2⟩

end Go.Proofs.YtfocdlhaohhkjaaGreatDoor.Money
