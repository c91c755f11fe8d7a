/-
  The walk of the statement MoneyRow.
-/
import Derived.Test.YtfocdlhaohhkjaaGreatDoorC17
import Derived.Test.YtfocdlhaohhkjaaGreatDoorC7A
import Derived.Test.YtfocdlhaohhkjaaGreatDoorCH
import Derived.BigQuiet
import Derived.Deep.QuietTactic
namespace Go.Proofs.YtfocdlhaohhkjaaGreatDoor.Money
open Go.RowKit

theorem add_back (a b : Int) (ha : I64 a) (hb : I64 b) (w : World) :
    Calls Tryz.prog 13 #[.int .i64 b, .int .i64 a] w fun e w' => e = .returned (.tuple #[.int .i64 (tN (a + b)), .int .i64 (tE (a + b))]) ∧ Below w.heap.size w w' :=
  pin_two (add_any b a hb ha w) (by rw [Int.add_comm]) (by rw [Int.add_comm])
theorem sum_eq (A : Option Addr) (cap n : Nat) (xs : List Int) (hn : n = xs.length) (w : World) (h : Nums w A xs) (X : Int) (hX : sumL xs = X) :
    Calls Tryz.prog 18 #[.slice A n cap] w fun e w' => e = .returned (.tuple #[.int .i64 (tN X), .int .i64 (tE X)]) ∧ w = w' :=
  pin_two (sum_any A cap n xs hn w h) (by rw [hX]) (by rw [hX])
theorem both_near (X Y : Int) (h : (tE X == 0 && tE Y == 0) = true) (W : World) :
    Calls Tryz.prog 13 #[.int .i64 (tN X), .int .i64 (tN Y)] W fun e w' => e = .returned (.tuple #[.int .i64 (tN (X + Y)), .int .i64 (tE (X + Y))]) ∧ Below W.heap.size W w' := by
  have k : ∀ Z, (tE Z == 0) = true → tN Z = Z := fun Z h => by
    cases hZ : near Z with
    | true => exact tN_near hZ
    | false => rw [tE_far hZ] at h; cases h
  rw [Bool.and_eq_true] at h
  exact pin_two (add_any (tN X) (tN Y) (tN_i64 X) (tN_i64 Y) W) (by rw [k X h.1, k Y h.2]) (by rw [k X h.1, k Y h.2])
theorem below_drew {base : Nat} {w w' : World} (h : Below base w w') : Below base w w'.drew := below_drewN h 1

set_option maxRecDepth 100000 in
set_option maxHeartbeats 4000000 in
theorem row_walk (A : Option Addr) (cap : Nat) (xs : List Int) (B : Option Addr) (cbp : Nat) (ys : List Int) (v a b : Int) (w : World) (y : Ints w A cap xs) (hcl : xs.length ≤ cap) (hcm : cap ≤ maxLen) (z : Ints w B cbp ys) (kcl : ys.length ≤ cbp) (kcm : cbp ≤ maxLen) (ha : I64 a) (hb : I64 b) (E : Env w) (hx : xs.length ≤ 1000) (hy : ys.length ≤ 1000) :
    Calls Tryz.prog 7 #[.slice A xs.length cap, .slice B ys.length cbp, .int .i64 v, .int .i64 a, .int .i64 b] w fun e w' => e = .returned (.bool true) ∧ Below w.heap.size w w' := by
  have hcm' : cap ≤ 9223372036854775807 := by unfold maxLen at hcm; omega
  have kcm' : cbp ≤ 9223372036854775807 := by unfold maxLen at kcm; omega
  clear hcm kcm
  have d0 : decide ((1000 : Int) < (xs.length : Int)) = false := decide_eq_false (by omega)
  have d1 : decide ((1000 : Int) < (ys.length : Int)) = false := decide_eq_false (by omega)
  have HX : Hid (xs.length ≤ 1000) := hx
  have HY : Hid (ys.length ≤ 1000) := hy
  have Y0 := Lib.hid (y.nums (w' := w) (by omega) (Below.refl _ w))
  have Z0 := Lib.hid (z.nums (w' := w) (by omega) (Below.refl _ w))
  have YA := Lib.hid y.1
  have ZA := Lib.hid z.1
  have YF := Lib.hid y.2.1
  have ZF := Lib.hid z.2.1
  have C1 := Lib.hid (fun w => add_any a b ha hb w)
  have C2 := Lib.hid (fun w => add_back a b ha hb w)
  have AW := Lib.hid (awake_any w E)
  have HA := Lib.hid ha
  have HB := Lib.hid hb
  have HC := Lib.hid hcl
  have KC := Lib.hid kcl
  clear y z E ha hb hx hy
  go_enter Tryz.func7, Tryz.ntmps7
  go_wp2_with fail
  refine AW.out.mono ?_; rintro e w0 ⟨rfl, hb0⟩
  have H0 := Lib.hid hb0; clear hb0
  go_upto_if 47 with (fail)
  go_cut [11] (fun u wx => wx = w0 ∧ ∃ k : Nat, u = .int .i64 (k : Int) ∧ k ≤ xs.length)
  case first =>
    by_cases hp : xs.length = 0
    · have e1 : decide ((0 : Int) < (xs.length : Int)) = false := decide_eq_false (by omega)
      have e2 : decide (0 < xs.length) = false := decide_eq_false (by omega)
      have e3 : ¬ 0 < xs.length := by omega
      clear hp
      go_wp2_with fail
      go_meet
      exact ⟨rfl, 0, rfl, Nat.zero_le _⟩
    · have e1 : decide ((0 : Int) < (xs.length : Int)) = true := decide_eq_true (by omega)
      have e2 : decide (0 < xs.length) = true := decide_eq_true (by omega)
      have e3 : 0 < xs.length := by omega
      obtain ⟨k, hk, hk1, hk2⟩ := k_of v xs.length (by omega) HX.out
      have HK : Hid (k ≤ xs.length) := hk1
      have Hk := Lib.hid hk
      clear hp hk1 hk
      go_wp2_with fail
      go_meet
      exact ⟨rfl, k, by rw [Hk.out], HK.out⟩
  case rest =>
    obtain ⟨rfl, k, rfl, hk⟩ := hcut
    have HK : Hid (k ≤ xs.length) := hk; clear hk
    go_wp2_with fail
    go_loopw [12, 13] (fun tv i wr => ∃ j : Nat, j ≤ xs.length ∧ i = .int .i64 ((j : Int) - 1) ∧ Hid (Own wr w.heap.size tv (xs.drop j).reverse) ∧ Hid (Below w.heap.size w wr)) (fun _ i _ => (intOf i + 1).toNat)
    case atStart => exact ⟨xs.length, Nat.le_refl _, by have := HX.out; go_num, Lib.hid (by rw [List.drop_length]; exact Own.nil _ _), H0⟩
    case round =>
      obtain ⟨j, hj, rfl, hO, hW⟩ := hrel
      by_cases hp : j = 0
      · subst hp
        clear hj
        have hO' := hO.out
        rw [List.drop_zero] at hO'
        obtain ⟨A', cap', rfl, hn', -⟩ := hO'.nums (fun y hy => YF.out y (List.mem_reverse.1 hy)) (by rw [List.length_reverse]; have := HX.out; omega)
        have NT := Lib.hid hn'
        clear hO hO' hn'
        obtain ⟨X, hX⟩ : ∃ X, sumL xs = X := ⟨_, rfl⟩
        obtain ⟨Y, hY⟩ : ∃ Y, sumL ys = Y := ⟨_, rfl⟩
        have HSX := Lib.hid hX
        have HSY := Lib.hid hY
        clear hX hY
        go_wp2_with fail
        refine (sum_eq A cap _ xs rfl _ (Y0.out.below hW.out) X HSX.out).mono ?_; rintro e w2 ⟨rfl, rfl⟩
        go_wp2_with fail
        have T1 := fun W => run_tail A xs.length cap k HK.out HC.out W
        have T2 := fun W => run_head A xs.length cap k HK.out HC.out W
        go_region_held3 (fun _ => True) (trivial)
          (first
            | (refine step_append_nums rfl (.tmp 75) (.tmp 78) rfl wr.heap.size (.slice (some ⟨wr.heap.size, 0, none⟩) 0 0) [] rfl (Own.made wr.drew wr.heap.size (Nat.le_refl _)) (cutA A cap k) (xs.length - k) (cap - k) (xs.drop k) rfl (by rw [List.length_drop]) ((Y0.out.below ((below_drew hW.out).alloc hW.out.size _)).cut cap k HK.out HC.out) (fun h => cutA_none YA.out h) (by have := HX.out; simp; omega) (by simp) ?_
               intro v1 W1 o1 g1
               have HO1 := Lib.hid o1
               have HB1 : Hid (Below wr.heap.size wr W1) := Below.grown ((below_drew (Below.refl _ wr)).alloc (Nat.le_refl _) _) g1 (by simp) (fun k hk => by cases hk; exact Nat.le_refl _)
               clear o1 g1)
            | (refine step_append_nums rfl (.tmp 79) (.tmp 82) rfl wr.heap.size v1 _ rfl HO1.out (cutA A cap 0) k cap (xs.take k) rfl (by rw [List.length_take]; have := HK.out; omega) ((Y0.out.below (below_on hW.out HB1.out)).head cap k HC.out) (fun h => by have := cutA_none (k := 0) YA.out h; omega) (by have := HX.out; simp; omega) HB1.out.size ?_
               intro v2 W2 o2 g2
               have HO2 := Lib.hid o2
               have HB2 : Hid (Below wr.heap.size wr W2) := Below.grown HB1.out g2 HB1.out.size (fun k hk => (World.ownsRow.lt HO1.out k hk).1)
               clear o2 g2
               obtain ⟨A2, cap2, rfl, hn2, -⟩ := HO2.out.nums (fun y hy => YF.out y (by simp at hy; rcases hy with h | h; exact List.mem_of_mem_drop h; exact List.mem_of_mem_take h)) (by have := HX.out; simp; omega)
               have N2 := Lib.hid hn2
               clear hn2)
            | (go_at_call 18; refine (sum_eq A2 cap2 _ _ (by simp) _ N2.out X (by rw [List.nil_append, sumL_turn, HSX.out])).mono ?_; rintro e w2 ⟨rfl, rfl⟩))
        have NT2 := Lib.hid (NT.out.below HB2.out)
        have HW2 := Lib.hid (below_on hW.out HB2.out)
        clear T1 T2 N2 HO2 HB2 NT hW
        go_wp2_with fail
        refine (sum_eq A' cap' _ xs.reverse (by simp) _ NT2.out X (by rw [sumL_reverse, HSX.out])).mono ?_; rintro e w3 ⟨rfl, rfl⟩
        go_wp2_with fail
        refine (sum_eq B cbp _ ys rfl _ (Z0.out.below HW2.out) Y HSY.out).mono ?_; rintro e w3 ⟨rfl, rfl⟩
        go_wp2_with (at_builtin; refine wpList_append_nums rfl (.tmp 116) (.tmp 117) rfl W2.heap.size (.slice (some ⟨W2.heap.size, 0, none⟩) 0 0) [] rfl (Own.made W2 W2.heap.size (Nat.le_refl _)) A cap xs rfl (Y0.out.below (HW2.out.alloc HW2.out.size _)) YA.out (by have := HX.out; simp; omega) (by simp) ?_)
        intro v3 W3 o3 g3
        have HO3 := Lib.hid o3
        have HB3 : Hid (Below W2.heap.size W2 W3) := Below.grown (Below.lay _ _) g3 (by simp) (fun k hk => by cases hk; exact Nat.le_refl _)
        clear o3 g3
        go_wp2_with (at_builtin; refine wpList_append_nums rfl (.tmp 118) (.tmp 119) rfl W2.heap.size v3 _ rfl HO3.out B cbp ys rfl (Z0.out.below (below_on HW2.out HB3.out)) ZA.out (by have := HX.out; have := HY.out; simp; omega) HB3.out.size ?_)
        intro v4 W4 o4 g4
        obtain ⟨A4, cap4, rfl, hn4, -⟩ := o4.nums (fun y hy => by simp at hy; rcases hy with h | h; exact YF.out y h; exact ZF.out y h) (by have := HX.out; have := HY.out; simp; omega)
        have HB4 : Hid (Below w.heap.size w W4) := Lib.hid (below_on HW2.out (Below.grown HB3.out g4 HB3.out.size (fun k hk => (World.ownsRow.lt HO3.out k hk).1)))
        have N4 := Lib.hid hn4
        clear o4 g4 hn4 HB3 HO3
        go_wp2_with fail
        refine (sum_eq A4 cap4 _ _ (by simp) _ N4.out (X + Y) (by simp only [List.nil_append, sumL_append, HSX.out, HSY.out])).mono ?_; rintro e w4 ⟨rfl, rfl⟩
        clear N4 NT2 HO1 HB1 HSX HSY HW2
        have HX4 : tE X = 0 ∨ tE X = 41 := tE_two X
        have HY4 : tE Y = 0 ∨ tE Y = 41 := tE_two Y
        have H4X := Lib.hid HX4
        have H4Y := Lib.hid HY4
        clear HX4 HY4
        go_upto_region 18 with (fail)
        go_cut [129] (fun t wx => t = .bool (tE X == 0 && tE Y == 0) ∧ wx = W4)
        case first =>
          rcases H4X.out with h | h
          · have e1 : (tE X == 0) = true := by rw [h]; rfl
            clear h
            go_wp2_with fail
            go_meet
            exact ⟨by rw [e1]; simp, rfl⟩
          · have e1 : (tE X == 0) = false := by rw [h]; rfl
            clear h
            go_wp2_with fail
            go_meet
            exact ⟨by rw [e1]; simp, rfl⟩
        case rest =>
          obtain ⟨rfl, rfl⟩ := hcut
          have C5 : Hid ((tE X == 0 && tE Y == 0) = true → ∀ W, Calls Tryz.prog 13 #[.int .i64 (tN X), .int .i64 (tN Y)] W fun e w' => e = .returned (.tuple #[.int .i64 (tN (X + Y)), .int .i64 (tE (X + Y))]) ∧ Below W.heap.size W w') := Lib.hid (both_near X Y)
          generalize (tE X == 0 && tE Y == 0) = t at *
          go_upto_if 129 with (fail)
          go_cut [10] (fun r wx => r = .bool false ∧ Hid (Below w.heap.size w wx))
          case first =>
            cases t with
            | false =>
              clear H4X H4Y C5
              go_wp2_with fail
              go_meet
              exact ⟨rfl, HB4⟩
            | true =>
              have C6 := Lib.hid (C5.out rfl)
              clear H4X H4Y C5
              go_wp2_with fail
              refine (C6.out _).mono ?_; rintro e w5 ⟨rfl, hb5⟩
              have HW5 := Lib.hid (below_on HB4.out hb5); clear hb5
              go_wp2_with fail
              go_meet
              exact ⟨rfl, HW5⟩
          case rest =>
            obtain ⟨rfl, HW⟩ := hcut
            go_wp2_with fail
            refine (C1.out _).mono ?_; rintro e w5 ⟨rfl, hb5⟩
            have HW5 := Lib.hid (below_on HW.out hb5); clear hb5
            go_wp2_with fail
            refine (C2.out _).mono ?_; rintro e w6 ⟨rfl, hb6⟩
            have HW6 := Lib.hid (below_on HW5.out hb6); clear hb6
            cases h : near (a + b) with
            | false =>
              have e1 : (tE (a + b) != 0) = true := by rw [tE_far h]; rfl
              have e2 : (tN (a + b) == 0) = true := by rw [tN_far h]; rfl
              clear h H4X H4Y
              go_wp2_with fail
              go_ret
              exact ⟨rfl, HW6.out⟩
            | true =>
              have e1 : (tE (a + b) != 0) = false := by rw [tE_near h]; rfl
              have C6 := Lib.hid (fun W => pin_two (sub_any (tN (a + b)) b (tN_i64 _) HB.out W) (by rw [tN_near h, Int.add_sub_cancel] : tN (tN (a + b) - b) = tN a) (by rw [tN_near h, Int.add_sub_cancel] : tE (tN (a + b) - b) = tE a))
              clear h H4X H4Y
              go_wp2_with fail
              refine (C6.out _).mono ?_; rintro e w7 ⟨rfl, hb7⟩
              have HW7 := Lib.hid (below_on HW6.out hb7); clear hb7
              cases h : near a with
              | false =>
                have e3 : (tE a == 41) = true := by rw [tE_far h]; rfl
                by_cases h1 : 4611686018427387904 < a
                · have d2 : decide (4611686018427387904 < a) = true := decide_eq_true h1
                  clear h h1
                  go_wp2_with fail
                  go_ret
                  exact ⟨rfl, HW7.out⟩
                · have d2 : decide (4611686018427387904 < a) = false := decide_eq_false h1
                  have d3 : decide (a < -4611686018427387904) = true := decide_eq_true (by have := near_no.1 h; omega)
                  clear h h1
                  go_wp2_with fail
                  go_ret
                  exact ⟨rfl, HW7.out⟩
              | true =>
                have d2 : decide (4611686018427387904 < a) = false := decide_eq_false (by have := near_iff.1 h; omega)
                have d3 : decide (a < -4611686018427387904) = false := decide_eq_false (by have := near_iff.1 h; omega)
                have C7 : Hid (∀ W, Calls Tryz.prog 27 #[.int .i64 (tN a), .int .i64 (tE a), .int .i64 a] W fun e w' => e = .returned (.bool true) ∧ W = w') := Lib.hid (fun W => by rw [tE_near h]; exact is_yes _ _ (tN_near h) W)
                clear h
                go_wp2_with fail
                refine (C7.out _).mono ?_; rintro e w8 ⟨rfl, rfl⟩
                go_wp2_with fail
                go_ret
                exact ⟨rfl, HW7.out⟩
      · obtain ⟨q, rfl⟩ : ∃ q, j = q + 1 := ⟨j - 1, by omega⟩
        have e : ((q + 1 : Nat) : Int) - 1 = (q : Int) := by omega
        rw [e]
        clear e hp
        have hne : xs ≠ [] := by intro e; rw [e] at hj; cases hj
        obtain ⟨b1, o1, rfl, hc1⟩ := (Y0.out.below hW.out).cells hne
        have hx1 := hc1 q hj
        have hx2 : I64 (xs.getD q 0) := YF.out _ (by rw [List.getD_eq_getElem?_getD, List.getElem?_eq_getElem hj]; exact List.getElem_mem hj)
        have hR := Lib.hid (drop_rev xs q hj)
        generalize xs.getD q 0 = x at *
        have HX2 := Lib.hid hx2
        have HJ := Lib.hid hj
        clear hc1 hne hx2
        have i0 : (0 : Int) ≤ (q : Int) := by omega
        have i1 : (q : Int) < (xs.length : Int) := by omega
        clear hj
        go_wp2_with (at_builtin; refine wpList_append_nums rfl (.tmp 62) (.tmp 67) rfl w.heap.size _ (xs.drop (q + 1)).reverse rfl (hO.out.below (Below.lay _ _)) _ _ [x] rfl ?c1 ?c2 ?c3 ?c4 ?_)
        case c1 => exact Nums.new _ _ _ [x] (by simp) (fun y hy => by rw [List.mem_singleton] at hy; rw [hy]; exact HX2.out) (fun k hk => by
          have : k = 0 := by simpa using hk
          subst this; rfl)
        case c2 => intro h; cases h
        case c3 => have := HX.out; simp; omega
        case c4 => have := hW.out.size; simp; omega
        · intro v' W1 hown hgrow
          rw [hR.out] at hown
          have HO1 := Lib.hid hown
          have HB1 : Hid (Below w.heap.size w W1) := Below.grown (hW.out.alloc hW.out.size _) hgrow (by have := hW.out.size; simp; omega) (fun k hk => (World.ownsRow.lt hO.out k hk).1)
          clear hown hgrow
          go_wp2_with fail
          go_roundw
          case rel => exact ⟨q, by omega, by go_num, HO1, HB1⟩
          case measure => simp [intOf]

set_option maxRecDepth 100000 in
set_option maxHeartbeats 400000 in
/-- a list too long: the statement says nothing of it -/
theorem row_long (A : Option Addr) (cap n : Nat) (B : Option Addr) (cbp m : Nat) (v a b : Int) (w : World) (E : Env w) (h : 1000 < n ∨ 1000 < m) :
    Calls Tryz.prog 7 #[.slice A n cap, .slice B m cbp, .int .i64 v, .int .i64 a, .int .i64 b] w fun e w' => e = .returned (.bool true) ∧ Below w.heap.size w w' := by
  have AW := Lib.hid (awake_any w E); clear E
  by_cases hn : 1000 < n
  · have d0 : decide ((1000 : Int) < (n : Int)) = true := decide_eq_true (by omega)
    clear h hn
    go_enter Tryz.func7, Tryz.ntmps7
    go_wp2_with fail
    refine AW.out.mono ?_; rintro e w1 ⟨rfl, hb1⟩
    go_wp2_with fail
    go_ret
    exact ⟨rfl, hb1⟩
  · have d0 : decide ((1000 : Int) < (n : Int)) = false := decide_eq_false (by omega)
    have d1 : decide ((1000 : Int) < (m : Int)) = true := decide_eq_true (by omega)
    clear h hn
    go_enter Tryz.func7, Tryz.ntmps7
    go_wp2_with fail
    refine AW.out.mono ?_; rintro e w1 ⟨rfl, hb1⟩
    go_wp2_with fail
    go_ret
    exact ⟨rfl, hb1⟩

theorem moneyRow_walk (A : Option Addr) (cap : Nat) (xs : List Int) (B : Option Addr) (cbp : Nat) (ys : List Int) (v a b : Int) (w : World) (y : Ints w A cap xs) (hcl : xs.length ≤ cap) (hcm : cap ≤ maxLen) (z : Ints w B cbp ys) (kcl : ys.length ≤ cbp) (kcm : cbp ≤ maxLen) (_w2 : (Lit.int .i64 v).wf = true) (w3 : (Lit.int .i64 a).wf = true) (w4 : (Lit.int .i64 b).wf = true) (E : Env w) :
    Calls Tryz.prog 7 #[.slice A xs.length cap, .slice B ys.length cbp, .int .i64 v, .int .i64 a, .int .i64 b] w fun e w' => e = .returned (.bool true) ∧ Below w.heap.size w w' := by
  rcases Nat.lt_or_ge 1000 xs.length with h | h
  · exact row_long A cap _ B cbp _ v a b w E (.inl h)
  · rcases Nat.lt_or_ge 1000 ys.length with k | k
    · exact row_long A cap _ B cbp _ v a b w E (.inr k)
    · exact row_walk A cap xs B cbp ys v a b w y hcl hcm z kcl kcm (.of_wf w3) (.of_wf w4) E h k

end Go.Proofs.YtfocdlhaohhkjaaGreatDoor.Money
