/-
  The walk of the statement MoneyTexts.
-/
import Derived.Test.YtfocdlhaohhkjaaGreatDoorC17
import Derived.Test.YtfocdlhaohhkjaaGreatDoorC19
namespace Go.Proofs.YtfocdlhaohhkjaaGreatDoor.Money
open Go.RowKit

theorem showI_len (n : Int) (h : I64 n) : (S (showI n)).size ≤ 30 := by
  unfold I64 at h
  rw [S_size]; unfold showI showN
  have := dec_len (n.natAbs / 100) (by omega)
  split
  · rw [List.length_cons, List.length_append]; show _ + 3 + 1 ≤ _; omega
  · rw [List.length_append]; show _ + 3 ≤ _; omega
/-- five texts that lie in a row -/
def Five (W : World) (B : Nat) : Prop := B < W.heap.size ∧ ∀ k, k < 5 → ∃ X : ByteArray, W.cell? ⟨B, k, none⟩ = some (.string X) ∧ X.size ≤ 1000000000
theorem Five.below {W W' : World} {B : Nat} (h : Five W B) (k : Below W.heap.size W W') (j : Nat) (hj : j < 5) : ∃ X : ByteArray, W'.cell? ⟨B, j, none⟩ = some (.string X) ∧ X.size ≤ 1000000000 := by
  obtain ⟨X, h1, h2⟩ := h.2 j hj
  exact ⟨X, by rw [k.cell (show B < W.heap.size from h.1)]; exact h1, h2⟩
theorem five_new (w : World) (T : TypeId) (a b c d e : ByteArray) (ha : a.size ≤ 1000000000) (hb : b.size ≤ 1000000000) (hc : c.size ≤ 1000000000) (hd : d.size ≤ 1000000000) (he : e.size ≤ 1000000000) : Five (w.alloc (.cells #[.string a, .string b, .string c, .string d, .string e] T)) w.heap.size := by
  refine ⟨by simp, fun k hk => ?_⟩
  have hc0 : ∀ j, (w.alloc (.cells #[.string a, .string b, .string c, .string d, .string e] T)).cell? ⟨w.heap.size, j, none⟩ = (#[.string a, .string b, .string c, .string d, .string e] : Array Value)[j]? := fun j => World.cell?_alloc_new _ _ _ _
  rcases k with _ | _ | _ | _ | _ | k
  · exact ⟨a, by rw [hc0]; rfl, ha⟩
  · exact ⟨b, by rw [hc0]; rfl, hb⟩
  · exact ⟨c, by rw [hc0]; rfl, hc⟩
  · exact ⟨d, by rw [hc0]; rfl, hd⟩
  · exact ⟨e, by rw [hc0]; rfl, he⟩
  · omega

set_option maxRecDepth 100000 in
set_option maxHeartbeats 1000000 in
theorem moneyTexts_walk (n : Int) (s : ByteArray) (w : World) (w0 : (Lit.int .i64 n).wf = true) (ws : s.size ≤ maxLen) (E : Env w) :
    Calls Tryz.prog 6 #[.int .i64 n, .string s] w fun e w' => e = .returned (.bool true) ∧ Below w.heap.size w w' := by
  have hn := I64.of_wf w0
  have E0 := Lib.hid E
  clear E w0
  by_cases h200 : s.size ≤ 200
  · have d0 : decide ((200 : Int) < (s.size : Int)) = false := decide_eq_false (by omega)
    have C1 := Lib.hid (fun w => text_any n hn w)
    have C2 := Lib.hid (fun w E => show_any n hn w E)
    have hl := showI_len n hn
    clear ws hn
    generalize S (showI n) = T at *
    go_enter Tryz.func6, Tryz.ntmps6
    go_wp2_with fail
    refine (C1.out _).mono ?_; rintro e w1 ⟨rfl, hb1⟩
    go_wp2_with fail
    have F5 := five_new w1 9 s T (⟨#[45]⟩ ++ T) (⟨#[48]⟩ ++ T) (T ++ ⟨#[48]⟩) (by omega) (by omega) (by rw [ByteArray.size_append]; show 1 + _ ≤ _; omega) (by rw [ByteArray.size_append]; show 1 + _ ≤ _; omega) (by rw [ByteArray.size_append]; show _ + 1 ≤ _; omega)
    have HB0 : Hid (Below w.heap.size w (w1.alloc (.cells #[.string s, .string T, .string (⟨#[45]⟩ ++ T), .string (⟨#[48]⟩ ++ T), .string (T ++ ⟨#[48]⟩)] 9))) := Below.alloc hb1 hb1.size _
    obtain ⟨W0, hW⟩ : ∃ W0, W0 = w1.alloc (.cells #[.string s, .string T, .string (⟨#[45]⟩ ++ T), .string (⟨#[48]⟩ ++ T), .string (T ++ ⟨#[48]⟩)] 9) := ⟨_, rfl⟩
    rw [← hW] at F5 HB0 ⊢
    have H5 := Lib.hid F5
    generalize w1.heap.size = B at *
    clear hW F5 hb1
    go_loopw [28] (fun i wr => ∃ k : Nat, k ≤ 5 ∧ i = .int .i64 k ∧ Hid (Below W0.heap.size W0 wr)) (fun i _ => 5 - (intOf i).toNat)
    case atStart => exact ⟨0, by decide, rfl, Lib.hid (Below.refl _ _)⟩
    case round =>
      obtain ⟨k, hk, rfl, hB⟩ := hrel
      have HBw := Lib.hid (HB0.out.trans (hB.out.mono HB0.out.size))
      by_cases hlt : k < 5
      · obtain ⟨X, hcell, hX⟩ := H5.out.below hB.out k hlt
        have P1 := Lib.hid (parse_any X hX wr (E0.out.below HBw.out))
        have P2 := Lib.hid (fun w => rparse_any X hX w)
        go_wp2_with fail
        refine P1.out.mono ?_; rintro e w2 ⟨rfl, hb2⟩
        have HB2 := Lib.hid (below_on hB.out hb2); clear hb2
        go_wp2_with fail
        refine (P2.out _).mono ?_; rintro e w3 ⟨rfl, rfl⟩
        go_wp2_with fail
        go_roundw
        case rel => exact ⟨k + 1, by omega, by go_num, HB2⟩
        case measure => simp [intOf]; omega
      · have hk5 : k = 5 := by omega
        subst hk5
        have E1 := Lib.hid (E0.out.below HBw.out)
        go_wp2_with fail
        refine (C2.out _ E1.out).mono ?_; rintro e w2 ⟨rfl, hb2⟩
        have HB2 := Lib.hid (below_on HBw.out hb2); clear hb2
        have AW := Lib.hid (awake_any w2 (E0.out.below HB2.out))
        go_wp2_with fail
        refine AW.out.mono ?_; rintro e w3 ⟨rfl, hb3⟩
        have HB3 := Lib.hid (below_on HB2.out hb3); clear hb3
        go_wp2_with fail
        go_ret
        exact ⟨rfl, HB3.out⟩
  · have d0 : decide ((200 : Int) < (s.size : Int)) = true := decide_eq_true (by omega)
    unfold maxLen at ws
    have AW := Lib.hid (awake_any w E0.out)
    clear hn h200
    go_enter Tryz.func6, Tryz.ntmps6
    go_wp2_with fail
    refine AW.out.mono ?_; rintro e w1 ⟨rfl, hb1⟩
    go_wp2_with fail
    go_ret
    exact ⟨rfl, hb1⟩

end Go.Proofs.YtfocdlhaohhkjaaGreatDoor.Money
