/-
  The walk of the document's Parse.
-/
import Derived.Test.YtfocdlhaohhkjaaGreatDoorC18
namespace Go.Proofs.YtfocdlhaohhkjaaGreatDoor.Money
open Go.RowKit

theorem at_S {s : ByteArray} {i : Nat} (h : i < s.size) : s[i] = s.data.toList.getD i 0 := by
  have h' : i < s.data.toList.length := h
  rw [List.getD_eq_getElem?_getD, List.getElem?_eq_getElem h']; rfl
theorem size_list (s : ByteArray) : s.size = s.data.toList.length := rfl
/-- the tests ahead of the digits, one by one -/
theorem ahead_few {t : List UInt8} (h : t.length < 4) : ahead t = false := by
  unfold ahead; rw [decide_eq_false (by omega)]; rfl
theorem ahead_dot {t : List UInt8} {k : Nat} (hk : t.length = k + 3) (h : t.getD k 0 ≠ 46) : ahead t = false := by
  unfold ahead
  rw [show t.length - 3 = k by omega]
  have : (t[k]? == some 46) = false := by
    rw [beq_eq_false_iff_ne]
    intro e
    rw [List.getD_eq_getElem?_getD, e] at h; exact h rfl
  rw [this, Bool.and_false, Bool.false_and]
theorem ahead_zero {t : List UInt8} {k : Nat} (hk : t.length = k + 3) (h1 : 1 < k) (h : t.getD 0 0 = 48) : ahead t = false := by
  unfold ahead
  have : (decide (t.length = 4) || (t.head? != some 48)) = false := by
    rw [decide_eq_false (by omega), Bool.false_or, bne_eq_false_iff_eq]
    cases t with
    | nil => cases hk
    | cons c r => rw [List.head?_cons]; exact congrArg some h
  rw [this, Bool.and_false]
theorem ahead_yes {t : List UInt8} {k : Nat} (hk : t.length = k + 3) (h1 : 1 ≤ k) (h2 : t.getD k 0 = 46) (h3 : k = 1 ∨ t.getD 0 0 ≠ 48) : ahead t = true := by
  unfold ahead
  rw [show t.length - 3 = k by omega, decide_eq_true (by omega : 4 ≤ t.length)]
  have e2 : (t[k]? == some 46) = true := by
    rw [beq_iff_eq]
    rw [List.getD_eq_getElem?_getD, List.getElem?_eq_getElem (by omega)] at h2
    rw [List.getElem?_eq_getElem (by omega)]; exact congrArg some h2
  rw [e2, Bool.true_and, Bool.true_and]
  rcases h3 with h3 | h3
  · rw [decide_eq_true (by omega)]; rfl
  · have : (t.head? != some 48) = true := by
      rw [bne_iff_ne]
      intro e
      cases t with
      | nil => cases hk
      | cons c r => rw [List.head?_cons] at e; injection e with e; exact h3 e
    rw [this, Bool.or_true]
theorem code_ne {c : UInt8} {k : Nat} (hk : k < 256) (h : ((c.toNat : Int) == (k : Int)) = false) : c ≠ UInt8.ofNat k := by
  intro e
  rw [e, UInt8.toNat_ofNat', beq_eq_false_iff_ne] at h
  apply h; omega
theorem neg_text {l : List UInt8} (h : isNeg l = true) : ∃ r, l = 45 :: r ∧ rest l = r := by
  cases l with
  | nil => cases h
  | cons c r =>
    have hc : c = 45 := by simpa [isNeg] using h
    exact ⟨r, by rw [hc], by unfold rest; rw [if_pos h]; rfl⟩

theorem bool_two (b : Bool) : b = true ∨ b = false := by cases b <;> simp
set_option maxRecDepth 100000 in
set_option maxHeartbeats 4000000 in
theorem rparse_pos (s : ByteArray) (h0 : 0 < s.size) (hs : s.size ≤ 1000000000) (hn : isNeg s.data.toList = false) (w : World) :
    Calls Tryz.prog 26 #[.string s] w fun e w' => e = .returned (.tuple #[.int .i64 (pN s.data.toList), .int .i64 (pE s.data.toList)]) ∧ w = w' := by
  have d0 : decide ((0 : Int) < (s.size : Int)) = true := decide_eq_true (by omega)
  have g0 : ((s[0].toNat : Int) == 45) = false := by
    rw [at_S h0, beq_eq_false_iff_ne]
    intro e
    unfold isNeg at hn
    rw [beq_eq_false_iff_ne] at hn
    apply hn
    have : s.data.toList.getD 0 0 = 45 := UInt8.toNat_inj.1 (by show _ = 45; omega)
    cases hq : s.data.toList with
    | nil => rw [size_list, hq] at h0; cases h0
    | cons c r => rw [hq] at this; rw [List.head?_cons]; exact congrArg some this
  have HR : Hid (rest s.data.toList = s.data.toList) := by unfold rest; rw [if_neg (by rw [hn]; decide)]; rfl
  have hz1 : s.size ≤ 1000000000 := hs
  have HN := Lib.hid hn; clear hn
  have NA := Lib.hid (fun (h : ahead (rest s.data.toList) = false) => parse_no_ahead h)
  by_cases h4 : s.size < 4
  · have P := Lib.hid (NA.out (ahead_few (by rw [HR.out]; exact h4)))
    have d1 : decide ((s.size : Int) - 3 < 1) = true := decide_eq_true (by omega)
    clear h4 hs
    go_enter Tryz.func26, Tryz.ntmps26
    go_wp2
    go_ret2
    exact ⟨ret_two (by rw [P.out.1]) (by rw [P.out.2]), rfl⟩
  · obtain ⟨k, hk⟩ : ∃ k, k + 3 = s.size := ⟨s.size - 3, by omega⟩
    have hkT : k < s.size := by omega
    have h0T : 0 < s.size := by omega
    have k1 : 1 ≤ k := by omega
    have HK : Hid ((rest s.data.toList).length = k + 3) := by rw [HR.out]; exact hk.symm
    have hk3 : (s.size : Int) - 3 = (k : Int) := by omega
    have hk4 : k + 3 = s.size := hk
    have HD := Lib.hid (at_S hkT)
    have HD0 := Lib.hid (at_S h0T)
    have KS := Lib.hid hk4
    clear h4 hk hk4
    rcases bool_two (((s[k].toNat : Int) != 46)) with q1 | q1
    · have P := Lib.hid (NA.out (ahead_dot HK.out (by
        rw [HR.out, ← HD.out]; intro e; rw [e] at q1; cases q1)))
      clear hs
      go_enter Tryz.func26, Tryz.ntmps26
      go_wp2
      go_ret2
      exact ⟨ret_two (by rw [P.out.1]) (by rw [P.out.2]), rfl⟩
    · have e46 : Hid ((rest s.data.toList).getD k 0 = 46) := by
        rw [HR.out, ← HD.out]
        exact UInt8.toNat_inj.1 (by rw [bne_eq_false_iff_eq] at q1; show _ = 46; omega)
      by_cases h1 : 1 < k
      · have d2 : decide ((1 : Int) < (k : Int)) = true := decide_eq_true (by omega)
        rcases bool_two (((s[0].toNat : Int) == 48)) with q2 | q2
        · have P := Lib.hid (NA.out (ahead_zero HK.out h1 (by
            rw [HR.out, ← HD0.out]
            exact UInt8.toNat_inj.1 (by rw [beq_iff_eq] at q2; show _ = 48; omega))))
          clear hs h1
          go_enter Tryz.func26, Tryz.ntmps26
          go_wp2
          go_ret2
          exact ⟨ret_two (by rw [P.out.1]) (by rw [P.out.2]), rfl⟩
        · have A := Lib.hid (ahead_yes HK.out k1 e46.out (Or.inr (by
            rw [HR.out, ← HD0.out]; intro e; rw [e] at q2; cases q2)))
          clear h1
          clear hs
          go_enter Tryz.func26, Tryz.ntmps26
          go_wp2
          go_loop [7, 8, 9] (fun n f i => ∃ (q : Nat) (m : Int) (far : Bool), i = .int .i64 q ∧ n = .int .i64 m ∧ f = .bool far ∧ Hid (PR (rest s.data.toList) k q m far)) (fun _ _ i => s.size - (intOf i).toNat)
          case atStart => exact ⟨0, 0, false, rfl, rfl, rfl, PR_start _ _⟩
          case round =>
            obtain ⟨q, m, far, rfl, rfl, rfl, hR⟩ := hrel
            have b0 := hR.out.2.2.1
            have b1 := hR.out.2.2.2.1
            have hq : q ≤ s.size := by have := hR.out.1; rw [HK.out] at this; have := KS.out; omega
            by_cases hlt : q < s.size
            · have hlt' : q < (rest s.data.toList).length := by rw [HK.out]; have := KS.out; omega
              by_cases hqk : q = k
              · have c1 : ((q : Int) == (k : Int)) = true := by rw [beq_iff_eq]; omega
                have R' : Hid (PR (rest s.data.toList) k (q + 1) m far) := by
                  subst hqk; exact PR_skip hR.out hlt'
                clear hqk hlt' hR
                go_wp2
                go_round
                case rel => exact ⟨q + 1, m, far, by go_num, rfl, rfl, R'⟩
                case measure => simp [intOf]; omega
              · have c1 : ((q : Int) == (k : Int)) = false := by rw [beq_eq_false_iff_ne]; omega
                have hc : (rest s.data.toList).getD q 0 = s[q] := by rw [HR.out, at_S hlt]
                have hlo : 0 ≤ (s[q].toNat : Int) := by omega
                have hhi : (s[q].toNat : Int) ≤ 255 := by have := UInt8.toNat_lt s[q]; omega
                by_cases hD : isD (s[q]) = true
                · have hd := isD_iff.1 hD
                  have c2 : decide ((s[q].toNat : Int) < 48) = false := decide_eq_false (by omega)
                  have c3 : decide (57 < (s[q].toNat : Int)) = false := decide_eq_false (by omega)
                  have ST := PR_digit (d := (s[q].toNat : Int) - 48) hR.out hlt' hqk (by rw [hc]; exact hD) (by rw [hc])
                  have e0 : 48 ≤ (s[q].toNat : Int) := by omega
                  have e1 : (s[q].toNat : Int) ≤ 57 := by omega
                  by_cases hov : (4611686018427387904 - ((s[q].toNat : Int) - 48)) / 10 < m
                  · have c4 : decide ((4611686018427387904 - ((s[q].toNat : Int) - 48)) / 10 < m) = true := decide_eq_true hov
                    have R' := Lib.hid (ST.1 hov)
                    clear hD hd hqk hlt' hR hc ST hov
                    go_wp2
                    go_round
                    case rel => exact ⟨q + 1, 1, true, by go_num, rfl, rfl, R'⟩
                    case measure => simp [intOf]; omega
                  · have c4 : decide ((4611686018427387904 - ((s[q].toNat : Int) - 48)) / 10 < m) = false := decide_eq_false hov
                    have R' := Lib.hid (ST.2 hov).1
                    have hle := (ST.2 hov).2
                    clear hD hd hqk hlt' hR hc ST hov
                    go_wp2
                    go_round
                    case rel => exact ⟨q + 1, _, far, by go_num, rfl, rfl, R'⟩
                    case measure => simp [intOf]; omega
                · have hD' : isD (s[q]) = false := by simpa using hD
                  have P := Lib.hid (parse_no_digit (l := s.data.toList) (q + 1) ((rest s.data.toList).length - (q + 1)) (by omega) (by
                    rw [show (rest s.data.toList).length - 3 = k by have := HK.out; omega]
                    exact PR_form hlt' hqk (by rw [hc]; exact hD')))
                  by_cases hl48 : (s[q].toNat : Int) < 48
                  · have c2 : decide ((s[q].toNat : Int) < 48) = true := decide_eq_true hl48
                    clear hD hD' hqk hlt' hR hc hl48
                    go_wp2
                    go_ret2
                    exact ⟨ret_two (by rw [P.out.1]) (by rw [P.out.2]), rfl⟩
                  · have c2 : decide ((s[q].toNat : Int) < 48) = false := decide_eq_false hl48
                    have c3 : decide (57 < (s[q].toNat : Int)) = true := decide_eq_true (by
                      have : ¬ (48 ≤ (s[q]).toNat ∧ (s[q]).toNat ≤ 57) := fun x => hD (isD_iff.2 x)
                      omega)
                    clear hD hD' hqk hlt' hR hc hl48
                    go_wp2
                    go_ret2
                    exact ⟨ret_two (by rw [P.out.1]) (by rw [P.out.2]), rfl⟩
            · have hqe : q = (rest s.data.toList).length := by rw [HK.out]; have := KS.out; omega
              have EN := PR_end (l := s.data.toList) (n := m) (far := far) A.out (by
                have := hR.out
                rw [show (rest s.data.toList).length - 3 = k by have := HK.out; omega, ← hqe]; exact this)
              cases far
              · have P := Lib.hid (EN.2.2.2 rfl HN.out)
                clear EN hR hqe
                go_wp2
                go_ret2
                exact ⟨ret_two (by rw [P.out.1]) (by rw [P.out.2]), rfl⟩
              · have P := Lib.hid (EN.1 rfl)
                clear EN hR hqe
                go_wp2
                go_ret2
                exact ⟨ret_two (by rw [P.out.1]) (by rw [P.out.2]), rfl⟩
      · have d2 : decide ((1 : Int) < (k : Int)) = false := decide_eq_false (by omega)
        have A := Lib.hid (ahead_yes HK.out k1 e46.out (Or.inl (by omega)))
        clear h1
        clear hs
        go_enter Tryz.func26, Tryz.ntmps26
        go_wp2
        go_loop [7, 8, 9] (fun n f i => ∃ (q : Nat) (m : Int) (far : Bool), i = .int .i64 q ∧ n = .int .i64 m ∧ f = .bool far ∧ Hid (PR (rest s.data.toList) k q m far)) (fun _ _ i => s.size - (intOf i).toNat)
        case atStart => exact ⟨0, 0, false, rfl, rfl, rfl, PR_start _ _⟩
        case round =>
          obtain ⟨q, m, far, rfl, rfl, rfl, hR⟩ := hrel
          have b0 := hR.out.2.2.1
          have b1 := hR.out.2.2.2.1
          have hq : q ≤ s.size := by have := hR.out.1; rw [HK.out] at this; have := KS.out; omega
          by_cases hlt : q < s.size
          · have hlt' : q < (rest s.data.toList).length := by rw [HK.out]; have := KS.out; omega
            by_cases hqk : q = k
            · have c1 : ((q : Int) == (k : Int)) = true := by rw [beq_iff_eq]; omega
              have R' : Hid (PR (rest s.data.toList) k (q + 1) m far) := by
                subst hqk; exact PR_skip hR.out hlt'
              clear hqk hlt' hR
              go_wp2
              go_round
              case rel => exact ⟨q + 1, m, far, by go_num, rfl, rfl, R'⟩
              case measure => simp [intOf]; omega
            · have c1 : ((q : Int) == (k : Int)) = false := by rw [beq_eq_false_iff_ne]; omega
              have hc : (rest s.data.toList).getD q 0 = s[q] := by rw [HR.out, at_S hlt]
              have hlo : 0 ≤ (s[q].toNat : Int) := by omega
              have hhi : (s[q].toNat : Int) ≤ 255 := by have := UInt8.toNat_lt s[q]; omega
              by_cases hD : isD (s[q]) = true
              · have hd := isD_iff.1 hD
                have c2 : decide ((s[q].toNat : Int) < 48) = false := decide_eq_false (by omega)
                have c3 : decide (57 < (s[q].toNat : Int)) = false := decide_eq_false (by omega)
                have ST := PR_digit (d := (s[q].toNat : Int) - 48) hR.out hlt' hqk (by rw [hc]; exact hD) (by rw [hc])
                have e0 : 48 ≤ (s[q].toNat : Int) := by omega
                have e1 : (s[q].toNat : Int) ≤ 57 := by omega
                by_cases hov : (4611686018427387904 - ((s[q].toNat : Int) - 48)) / 10 < m
                · have c4 : decide ((4611686018427387904 - ((s[q].toNat : Int) - 48)) / 10 < m) = true := decide_eq_true hov
                  have R' := Lib.hid (ST.1 hov)
                  clear hD hd hqk hlt' hR hc ST hov
                  go_wp2
                  go_round
                  case rel => exact ⟨q + 1, 1, true, by go_num, rfl, rfl, R'⟩
                  case measure => simp [intOf]; omega
                · have c4 : decide ((4611686018427387904 - ((s[q].toNat : Int) - 48)) / 10 < m) = false := decide_eq_false hov
                  have R' := Lib.hid (ST.2 hov).1
                  have hle := (ST.2 hov).2
                  clear hD hd hqk hlt' hR hc ST hov
                  go_wp2
                  go_round
                  case rel => exact ⟨q + 1, _, far, by go_num, rfl, rfl, R'⟩
                  case measure => simp [intOf]; omega
              · have hD' : isD (s[q]) = false := by simpa using hD
                have P := Lib.hid (parse_no_digit (l := s.data.toList) (q + 1) ((rest s.data.toList).length - (q + 1)) (by omega) (by
                  rw [show (rest s.data.toList).length - 3 = k by have := HK.out; omega]
                  exact PR_form hlt' hqk (by rw [hc]; exact hD')))
                by_cases hl48 : (s[q].toNat : Int) < 48
                · have c2 : decide ((s[q].toNat : Int) < 48) = true := decide_eq_true hl48
                  clear hD hD' hqk hlt' hR hc hl48
                  go_wp2
                  go_ret2
                  exact ⟨ret_two (by rw [P.out.1]) (by rw [P.out.2]), rfl⟩
                · have c2 : decide ((s[q].toNat : Int) < 48) = false := decide_eq_false hl48
                  have c3 : decide (57 < (s[q].toNat : Int)) = true := decide_eq_true (by
                    have : ¬ (48 ≤ (s[q]).toNat ∧ (s[q]).toNat ≤ 57) := fun x => hD (isD_iff.2 x)
                    omega)
                  clear hD hD' hqk hlt' hR hc hl48
                  go_wp2
                  go_ret2
                  exact ⟨ret_two (by rw [P.out.1]) (by rw [P.out.2]), rfl⟩
          · have hqe : q = (rest s.data.toList).length := by rw [HK.out]; have := KS.out; omega
            have EN := PR_end (l := s.data.toList) (n := m) (far := far) A.out (by
              have := hR.out
              rw [show (rest s.data.toList).length - 3 = k by have := HK.out; omega, ← hqe]; exact this)
            cases far
            · have P := Lib.hid (EN.2.2.2 rfl HN.out)
              clear EN hR hqe
              go_wp2
              go_ret2
              exact ⟨ret_two (by rw [P.out.1]) (by rw [P.out.2]), rfl⟩
            · have P := Lib.hid (EN.1 rfl)
              clear EN hR hqe
              go_wp2
              go_ret2
              exact ⟨ret_two (by rw [P.out.1]) (by rw [P.out.2]), rfl⟩
set_option maxRecDepth 100000 in
set_option maxHeartbeats 4000000 in
theorem rparse_neg (s : ByteArray) (h0 : 0 < s.size) (hs : s.size ≤ 1000000000) (hn : isNeg s.data.toList = true) (w : World) :
    Calls Tryz.prog 26 #[.string s] w fun e w' => e = .returned (.tuple #[.int .i64 (pN s.data.toList), .int .i64 (pE s.data.toList)]) ∧ w = w' := by
  have d0 : decide ((0 : Int) < (s.size : Int)) = true := decide_eq_true (by omega)
  obtain ⟨r, hl, hr⟩ := neg_text hn
  have g0 : ((s[0].toNat : Int) == 45) = true := by rw [at_S h0, hl]; rfl
  have hx : s.extract 1 s.size = S r := by
    apply ByteArray.ext; apply Array.toList_inj.1
    rw [Lib.extract_data, size_list, hl]
    show List.take (r.length + 1 - 1) r = r
    rw [Nat.add_sub_cancel, List.take_length]
  have hz : s.size = (S r).size + 1 := by rw [size_list, hl]; rfl
  have HR : Hid (rest s.data.toList = (S r).data.toList) := hr
  clear hl hr
  generalize S r = T at *
  have hz1 : T.size ≤ 999999999 := by omega
  have HZ := Lib.hid hz; clear hz
  have HN := Lib.hid hn; clear hn
  have NA := Lib.hid (fun (h : ahead (rest s.data.toList) = false) => parse_no_ahead h)
  by_cases h4 : T.size < 4
  · have P := Lib.hid (NA.out (ahead_few (by rw [HR.out]; exact h4)))
    have d1 : decide ((T.size : Int) - 3 < 1) = true := decide_eq_true (by omega)
    clear h4 hs
    go_enter Tryz.func26, Tryz.ntmps26
    go_wp2
    go_ret2
    exact ⟨ret_two (by rw [P.out.1]) (by rw [P.out.2]), rfl⟩
  · obtain ⟨k, hk⟩ : ∃ k, k + 3 = T.size := ⟨T.size - 3, by omega⟩
    have hkT : k < T.size := by omega
    have h0T : 0 < T.size := by omega
    have k1 : 1 ≤ k := by omega
    have HK : Hid ((rest s.data.toList).length = k + 3) := by rw [HR.out]; exact hk.symm
    have hk3 : (T.size : Int) - 3 = (k : Int) := by omega
    have hk4 : k + 3 = T.size := hk
    have HD := Lib.hid (at_S hkT)
    have HD0 := Lib.hid (at_S h0T)
    have KS := Lib.hid hk4
    clear h4 hk hk4
    rcases bool_two (((T[k].toNat : Int) != 46)) with q1 | q1
    · have P := Lib.hid (NA.out (ahead_dot HK.out (by
        rw [HR.out, ← HD.out]; intro e; rw [e] at q1; cases q1)))
      clear hs
      go_enter Tryz.func26, Tryz.ntmps26
      go_wp2
      go_ret2
      exact ⟨ret_two (by rw [P.out.1]) (by rw [P.out.2]), rfl⟩
    · have e46 : Hid ((rest s.data.toList).getD k 0 = 46) := by
        rw [HR.out, ← HD.out]
        exact UInt8.toNat_inj.1 (by rw [bne_eq_false_iff_eq] at q1; show _ = 46; omega)
      by_cases h1 : 1 < k
      · have d2 : decide ((1 : Int) < (k : Int)) = true := decide_eq_true (by omega)
        rcases bool_two (((T[0].toNat : Int) == 48)) with q2 | q2
        · have P := Lib.hid (NA.out (ahead_zero HK.out h1 (by
            rw [HR.out, ← HD0.out]
            exact UInt8.toNat_inj.1 (by rw [beq_iff_eq] at q2; show _ = 48; omega))))
          clear hs h1
          go_enter Tryz.func26, Tryz.ntmps26
          go_wp2
          go_ret2
          exact ⟨ret_two (by rw [P.out.1]) (by rw [P.out.2]), rfl⟩
        · have A := Lib.hid (ahead_yes HK.out k1 e46.out (Or.inr (by
            rw [HR.out, ← HD0.out]; intro e; rw [e] at q2; cases q2)))
          clear h1
          clear hs
          go_enter Tryz.func26, Tryz.ntmps26
          go_wp2
          go_loop [7, 8, 9] (fun n f i => ∃ (q : Nat) (m : Int) (far : Bool), i = .int .i64 q ∧ n = .int .i64 m ∧ f = .bool far ∧ Hid (PR (rest s.data.toList) k q m far)) (fun _ _ i => T.size - (intOf i).toNat)
          case atStart => exact ⟨0, 0, false, rfl, rfl, rfl, PR_start _ _⟩
          case round =>
            obtain ⟨q, m, far, rfl, rfl, rfl, hR⟩ := hrel
            have b0 := hR.out.2.2.1
            have b1 := hR.out.2.2.2.1
            have hq : q ≤ T.size := by have := hR.out.1; rw [HK.out] at this; have := KS.out; omega
            by_cases hlt : q < T.size
            · have hlt' : q < (rest s.data.toList).length := by rw [HK.out]; have := KS.out; omega
              by_cases hqk : q = k
              · have c1 : ((q : Int) == (k : Int)) = true := by rw [beq_iff_eq]; omega
                have R' : Hid (PR (rest s.data.toList) k (q + 1) m far) := by
                  subst hqk; exact PR_skip hR.out hlt'
                clear hqk hlt' hR
                go_wp2
                go_round
                case rel => exact ⟨q + 1, m, far, by go_num, rfl, rfl, R'⟩
                case measure => simp [intOf]; omega
              · have c1 : ((q : Int) == (k : Int)) = false := by rw [beq_eq_false_iff_ne]; omega
                have hc : (rest s.data.toList).getD q 0 = T[q] := by rw [HR.out, at_S hlt]
                have hlo : 0 ≤ (T[q].toNat : Int) := by omega
                have hhi : (T[q].toNat : Int) ≤ 255 := by have := UInt8.toNat_lt T[q]; omega
                by_cases hD : isD (T[q]) = true
                · have hd := isD_iff.1 hD
                  have c2 : decide ((T[q].toNat : Int) < 48) = false := decide_eq_false (by omega)
                  have c3 : decide (57 < (T[q].toNat : Int)) = false := decide_eq_false (by omega)
                  have ST := PR_digit (d := (T[q].toNat : Int) - 48) hR.out hlt' hqk (by rw [hc]; exact hD) (by rw [hc])
                  have e0 : 48 ≤ (T[q].toNat : Int) := by omega
                  have e1 : (T[q].toNat : Int) ≤ 57 := by omega
                  by_cases hov : (4611686018427387904 - ((T[q].toNat : Int) - 48)) / 10 < m
                  · have c4 : decide ((4611686018427387904 - ((T[q].toNat : Int) - 48)) / 10 < m) = true := decide_eq_true hov
                    have R' := Lib.hid (ST.1 hov)
                    clear hD hd hqk hlt' hR hc ST hov
                    go_wp2
                    go_round
                    case rel => exact ⟨q + 1, 1, true, by go_num, rfl, rfl, R'⟩
                    case measure => simp [intOf]; omega
                  · have c4 : decide ((4611686018427387904 - ((T[q].toNat : Int) - 48)) / 10 < m) = false := decide_eq_false hov
                    have R' := Lib.hid (ST.2 hov).1
                    have hle := (ST.2 hov).2
                    clear hD hd hqk hlt' hR hc ST hov
                    go_wp2
                    go_round
                    case rel => exact ⟨q + 1, _, far, by go_num, rfl, rfl, R'⟩
                    case measure => simp [intOf]; omega
                · have hD' : isD (T[q]) = false := by simpa using hD
                  have P := Lib.hid (parse_no_digit (l := s.data.toList) (q + 1) ((rest s.data.toList).length - (q + 1)) (by omega) (by
                    rw [show (rest s.data.toList).length - 3 = k by have := HK.out; omega]
                    exact PR_form hlt' hqk (by rw [hc]; exact hD')))
                  by_cases hl48 : (T[q].toNat : Int) < 48
                  · have c2 : decide ((T[q].toNat : Int) < 48) = true := decide_eq_true hl48
                    clear hD hD' hqk hlt' hR hc hl48
                    go_wp2
                    go_ret2
                    exact ⟨ret_two (by rw [P.out.1]) (by rw [P.out.2]), rfl⟩
                  · have c2 : decide ((T[q].toNat : Int) < 48) = false := decide_eq_false hl48
                    have c3 : decide (57 < (T[q].toNat : Int)) = true := decide_eq_true (by
                      have : ¬ (48 ≤ (T[q]).toNat ∧ (T[q]).toNat ≤ 57) := fun x => hD (isD_iff.2 x)
                      omega)
                    clear hD hD' hqk hlt' hR hc hl48
                    go_wp2
                    go_ret2
                    exact ⟨ret_two (by rw [P.out.1]) (by rw [P.out.2]), rfl⟩
            · have hqe : q = (rest s.data.toList).length := by rw [HK.out]; have := KS.out; omega
              have EN := PR_end (l := s.data.toList) (n := m) (far := far) A.out (by
                have := hR.out
                rw [show (rest s.data.toList).length - 3 = k by have := HK.out; omega, ← hqe]; exact this)
              cases far
              · by_cases hm : m = 0
                · have P := Lib.hid (EN.2.1 rfl HN.out hm)
                  have c4 : (m == 0) = true := by rw [beq_iff_eq]; exact hm
                  clear EN hR hqe hm
                  go_wp2
                  go_ret2
                  exact ⟨ret_two (by rw [P.out.1]) (by rw [P.out.2]), rfl⟩
                · have P := Lib.hid (EN.2.2.1 rfl HN.out hm)
                  have c4 : (m == 0) = false := by rw [beq_eq_false_iff_ne]; exact hm
                  clear EN hR hqe hm
                  go_wp2
                  go_ret2
                  exact ⟨ret_two (by rw [P.out.1]) (by rw [P.out.2]), rfl⟩
              · have P := Lib.hid (EN.1 rfl)
                clear EN hR hqe
                go_wp2
                go_ret2
                exact ⟨ret_two (by rw [P.out.1]) (by rw [P.out.2]), rfl⟩
      · have d2 : decide ((1 : Int) < (k : Int)) = false := decide_eq_false (by omega)
        have A := Lib.hid (ahead_yes HK.out k1 e46.out (Or.inl (by omega)))
        clear h1
        clear hs
        go_enter Tryz.func26, Tryz.ntmps26
        go_wp2
        go_loop [7, 8, 9] (fun n f i => ∃ (q : Nat) (m : Int) (far : Bool), i = .int .i64 q ∧ n = .int .i64 m ∧ f = .bool far ∧ Hid (PR (rest s.data.toList) k q m far)) (fun _ _ i => T.size - (intOf i).toNat)
        case atStart => exact ⟨0, 0, false, rfl, rfl, rfl, PR_start _ _⟩
        case round =>
          obtain ⟨q, m, far, rfl, rfl, rfl, hR⟩ := hrel
          have b0 := hR.out.2.2.1
          have b1 := hR.out.2.2.2.1
          have hq : q ≤ T.size := by have := hR.out.1; rw [HK.out] at this; have := KS.out; omega
          by_cases hlt : q < T.size
          · have hlt' : q < (rest s.data.toList).length := by rw [HK.out]; have := KS.out; omega
            by_cases hqk : q = k
            · have c1 : ((q : Int) == (k : Int)) = true := by rw [beq_iff_eq]; omega
              have R' : Hid (PR (rest s.data.toList) k (q + 1) m far) := by
                subst hqk; exact PR_skip hR.out hlt'
              clear hqk hlt' hR
              go_wp2
              go_round
              case rel => exact ⟨q + 1, m, far, by go_num, rfl, rfl, R'⟩
              case measure => simp [intOf]; omega
            · have c1 : ((q : Int) == (k : Int)) = false := by rw [beq_eq_false_iff_ne]; omega
              have hc : (rest s.data.toList).getD q 0 = T[q] := by rw [HR.out, at_S hlt]
              have hlo : 0 ≤ (T[q].toNat : Int) := by omega
              have hhi : (T[q].toNat : Int) ≤ 255 := by have := UInt8.toNat_lt T[q]; omega
              by_cases hD : isD (T[q]) = true
              · have hd := isD_iff.1 hD
                have c2 : decide ((T[q].toNat : Int) < 48) = false := decide_eq_false (by omega)
                have c3 : decide (57 < (T[q].toNat : Int)) = false := decide_eq_false (by omega)
                have ST := PR_digit (d := (T[q].toNat : Int) - 48) hR.out hlt' hqk (by rw [hc]; exact hD) (by rw [hc])
                have e0 : 48 ≤ (T[q].toNat : Int) := by omega
                have e1 : (T[q].toNat : Int) ≤ 57 := by omega
                by_cases hov : (4611686018427387904 - ((T[q].toNat : Int) - 48)) / 10 < m
                · have c4 : decide ((4611686018427387904 - ((T[q].toNat : Int) - 48)) / 10 < m) = true := decide_eq_true hov
                  have R' := Lib.hid (ST.1 hov)
                  clear hD hd hqk hlt' hR hc ST hov
                  go_wp2
                  go_round
                  case rel => exact ⟨q + 1, 1, true, by go_num, rfl, rfl, R'⟩
                  case measure => simp [intOf]; omega
                · have c4 : decide ((4611686018427387904 - ((T[q].toNat : Int) - 48)) / 10 < m) = false := decide_eq_false hov
                  have R' := Lib.hid (ST.2 hov).1
                  have hle := (ST.2 hov).2
                  clear hD hd hqk hlt' hR hc ST hov
                  go_wp2
                  go_round
                  case rel => exact ⟨q + 1, _, far, by go_num, rfl, rfl, R'⟩
                  case measure => simp [intOf]; omega
              · have hD' : isD (T[q]) = false := by simpa using hD
                have P := Lib.hid (parse_no_digit (l := s.data.toList) (q + 1) ((rest s.data.toList).length - (q + 1)) (by omega) (by
                  rw [show (rest s.data.toList).length - 3 = k by have := HK.out; omega]
                  exact PR_form hlt' hqk (by rw [hc]; exact hD')))
                by_cases hl48 : (T[q].toNat : Int) < 48
                · have c2 : decide ((T[q].toNat : Int) < 48) = true := decide_eq_true hl48
                  clear hD hD' hqk hlt' hR hc hl48
                  go_wp2
                  go_ret2
                  exact ⟨ret_two (by rw [P.out.1]) (by rw [P.out.2]), rfl⟩
                · have c2 : decide ((T[q].toNat : Int) < 48) = false := decide_eq_false hl48
                  have c3 : decide (57 < (T[q].toNat : Int)) = true := decide_eq_true (by
                    have : ¬ (48 ≤ (T[q]).toNat ∧ (T[q]).toNat ≤ 57) := fun x => hD (isD_iff.2 x)
                    omega)
                  clear hD hD' hqk hlt' hR hc hl48
                  go_wp2
                  go_ret2
                  exact ⟨ret_two (by rw [P.out.1]) (by rw [P.out.2]), rfl⟩
          · have hqe : q = (rest s.data.toList).length := by rw [HK.out]; have := KS.out; omega
            have EN := PR_end (l := s.data.toList) (n := m) (far := far) A.out (by
              have := hR.out
              rw [show (rest s.data.toList).length - 3 = k by have := HK.out; omega, ← hqe]; exact this)
            cases far
            · by_cases hm : m = 0
              · have P := Lib.hid (EN.2.1 rfl HN.out hm)
                have c4 : (m == 0) = true := by rw [beq_iff_eq]; exact hm
                clear EN hR hqe hm
                go_wp2
                go_ret2
                exact ⟨ret_two (by rw [P.out.1]) (by rw [P.out.2]), rfl⟩
              · have P := Lib.hid (EN.2.2.1 rfl HN.out hm)
                have c4 : (m == 0) = false := by rw [beq_eq_false_iff_ne]; exact hm
                clear EN hR hqe hm
                go_wp2
                go_ret2
                exact ⟨ret_two (by rw [P.out.1]) (by rw [P.out.2]), rfl⟩
            · have P := Lib.hid (EN.1 rfl)
              clear EN hR hqe
              go_wp2
              go_ret2
              exact ⟨ret_two (by rw [P.out.1]) (by rw [P.out.2]), rfl⟩
theorem rparse_any (s : ByteArray) (hs : s.size ≤ 1000000000) (w : World) :
    Calls Tryz.prog 26 #[.string s] w fun e w' => e = .returned (.tuple #[.int .i64 (pN s.data.toList), .int .i64 (pE s.data.toList)]) ∧ w = w' := by
  by_cases h0 : 0 < s.size
  · cases hn : isNeg s.data.toList with
    | true => exact rparse_neg s h0 hs hn w
    | false => exact rparse_pos s h0 hs hn w
  · have hl : s.data.toList = [] := List.eq_nil_of_length_eq_zero (by rw [← size_list]; omega)
    have P := Lib.hid (parse_no_ahead (l := s.data.toList) (by rw [hl]; rfl))
    have d0 : decide ((0 : Int) < (s.size : Int)) = false := decide_eq_false (by omega)
    have hz : (s.size : Int) ≤ 0 := by omega
    have d1 : decide ((s.size : Int) - 3 < 1) = true := decide_eq_true (by omega)
    clear hl hs h0
    go_enter Tryz.func26, Tryz.ntmps26
    go_wp2
    go_ret2
    exact ⟨ret_two (by rw [P.out.1]) (by rw [P.out.2]), rfl⟩

end Go.Proofs.YtfocdlhaohhkjaaGreatDoor.Money
