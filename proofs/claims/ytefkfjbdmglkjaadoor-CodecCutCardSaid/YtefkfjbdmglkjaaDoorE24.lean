/-
  The document's own MayName, all, May, Same.
-/
import Derived.Test.YtefkfjbdmglkjaaDoorE23
import Derived.Outline
namespace Go.Proofs.YtefkfjbdmglkjaaDoor.Schema
open Go Go.RowKit

set_option maxRecDepth 100000 in
set_option maxHeartbeats 1000000 in
theorem rMayName_any (s : ByteArray) (hs : s.size ≤ maxLen) (w : World) :
    Calls Tryd.prog 55 #[.string s] w fun e w' => e = .returned (.bool (mayName s)) ∧ w = w' := by
  unfold maxLen at hs
  by_cases h1 : s.size < 1
  · have HR := Lib.hid (mayName_len (s := s) (by omega))
    have d1 : decide ((s.size : Int) < 1) = true := decide_eq_true (by omega)
    clear h1
    go_enter Tryd.func55, Tryd.ntmps55
    go_wp2
    go_ret
    exact ⟨ret_bool HR.out.symm, rfl⟩
  have d1 : decide ((s.size : Int) < 1) = false := decide_eq_false (by omega)
  by_cases h2 : 24 < s.size
  · have HR := Lib.hid (mayName_len (s := s) (by omega))
    have d2 : decide ((24 : Int) < (s.size : Int)) = true := decide_eq_true (by omega)
    clear h1 h2
    go_enter Tryd.func55, Tryd.ntmps55
    go_wp2
    go_ret
    exact ⟨ret_bool HR.out.symm, rfl⟩
  have d2 : decide ((24 : Int) < (s.size : Int)) = false := decide_eq_false (by omega)
  have h1' : 1 ≤ s.size := by omega
  have h2' : s.size ≤ 24 := by omega
  clear h1 h2
  go_enter Tryd.func55, Tryd.ntmps55
  go_wp2
  clear d1 d2
  go_loop [3] (fun i => ∃ k : Nat, k ≤ s.size ∧ i = .int .i64 k ∧ Hid (∀ j, j < k → okC (byteAt s j) = true)) (fun i => s.size - (intOf i).toNat)
  case atStart => exact ⟨0, Nat.zero_le _, rfl, fun j hj => absurd hj (by omega)⟩
  case round =>
    obtain ⟨k, hk, rfl, HY⟩ := hrel
    by_cases hlt : k < s.size
    · have z0 : (0 : Int) ≤ (k : Int) := by omega
      have z1 : (k : Int) < (s.size : Int) := by omega
      have HBE := Lib.hid (byteAt_eq s k hlt)
      cases hk : okC s[k].toNat with
      | true =>
        have hk2 := okC_yes hk
        have HK : Hid (okC (byteAt s k) = true) := by rw [← HBE.out]; exact hk
        clear hk
        obtain ⟨a1, a2⟩ | ⟨a1, a2⟩ | a | a := hk2
        · have b97 : (97 : Int) ≤ (s[k].toNat : Int) := by omega
          have c122 : (s[k].toNat : Int) ≤ 122 := by omega
          clear a1 a2
          go_wp2
          go_round
          case rel => exact ⟨k + 1, by omega, by go_num, yes_step HY HK.out⟩
          case measure => simp [intOf] <;> omega
        · have l97 : (s[k].toNat : Int) < 97 := by omega
          have m97 : decide ((97 : Int) ≤ (s[k].toNat : Int)) = false := decide_eq_false (by omega)
          have b48 : (48 : Int) ≤ (s[k].toNat : Int) := by omega
          have c57 : (s[k].toNat : Int) ≤ 57 := by omega
          clear a1 a2
          go_wp2
          go_round
          case rel => exact ⟨k + 1, by omega, by go_num, yes_step HY HK.out⟩
          case measure => simp [intOf] <;> omega
        · have l97 : (s[k].toNat : Int) < 97 := by omega
          have m97 : decide ((97 : Int) ≤ (s[k].toNat : Int)) = false := decide_eq_false (by omega)
          have l48 : (s[k].toNat : Int) < 48 := by omega
          have m48 : decide ((48 : Int) ≤ (s[k].toNat : Int)) = false := decide_eq_false (by omega)
          have f45 : ((s[k].toNat : Int) == 45) = true := by simp <;> omega
          clear a
          go_wp2
          go_round
          case rel => exact ⟨k + 1, by omega, by go_num, yes_step HY HK.out⟩
          case measure => simp [intOf] <;> omega
        · have l97 : (s[k].toNat : Int) < 97 := by omega
          have m97 : decide ((97 : Int) ≤ (s[k].toNat : Int)) = false := decide_eq_false (by omega)
          have b48 : (48 : Int) ≤ (s[k].toNat : Int) := by omega
          have g57 : (57 : Int) < (s[k].toNat : Int) := by omega
          have h57 : decide ((s[k].toNat : Int) ≤ 57) = false := decide_eq_false (by omega)
          have f45 : ((s[k].toNat : Int) == 45) = false := by simp <;> omega
          have f95 : ((s[k].toNat : Int) == 95) = true := by simp <;> omega
          clear a
          go_wp2
          go_round
          case rel => exact ⟨k + 1, by omega, by go_num, yes_step HY HK.out⟩
          case measure => simp [intOf] <;> omega
      | false =>
        have HR := Lib.hid (mayName_no hlt (by rw [← HBE.out]; exact hk))
        have hk2 := okC_no hk
        clear hk
        obtain a1 | a | ⟨a1, a2⟩ | ⟨a1, a2⟩ | a2 := hk2
        · have b97 : (97 : Int) ≤ (s[k].toNat : Int) := by omega
          have g122 : (122 : Int) < (s[k].toNat : Int) := by omega
          have h122 : decide ((s[k].toNat : Int) ≤ 122) = false := decide_eq_false (by omega)
          have b48 : (48 : Int) ≤ (s[k].toNat : Int) := by omega
          have g57 : (57 : Int) < (s[k].toNat : Int) := by omega
          have h57 : decide ((s[k].toNat : Int) ≤ 57) = false := decide_eq_false (by omega)
          have f45 : ((s[k].toNat : Int) == 45) = false := by simp <;> omega
          have f95 : ((s[k].toNat : Int) == 95) = false := by simp <;> omega
          clear a1
          go_wp2
          go_ret
          exact ⟨ret_bool HR.out.symm, rfl⟩
        · have l97 : (s[k].toNat : Int) < 97 := by omega
          have m97 : decide ((97 : Int) ≤ (s[k].toNat : Int)) = false := decide_eq_false (by omega)
          have b48 : (48 : Int) ≤ (s[k].toNat : Int) := by omega
          have g57 : (57 : Int) < (s[k].toNat : Int) := by omega
          have h57 : decide ((s[k].toNat : Int) ≤ 57) = false := decide_eq_false (by omega)
          have f45 : ((s[k].toNat : Int) == 45) = false := by simp <;> omega
          have f95 : ((s[k].toNat : Int) == 95) = false := by simp <;> omega
          clear a
          go_wp2
          go_ret
          exact ⟨ret_bool HR.out.symm, rfl⟩
        · have l97 : (s[k].toNat : Int) < 97 := by omega
          have m97 : decide ((97 : Int) ≤ (s[k].toNat : Int)) = false := decide_eq_false (by omega)
          have b48 : (48 : Int) ≤ (s[k].toNat : Int) := by omega
          have g57 : (57 : Int) < (s[k].toNat : Int) := by omega
          have h57 : decide ((s[k].toNat : Int) ≤ 57) = false := decide_eq_false (by omega)
          have f45 : ((s[k].toNat : Int) == 45) = false := by simp <;> omega
          have f95 : ((s[k].toNat : Int) == 95) = false := by simp <;> omega
          clear a1 a2
          go_wp2
          go_ret
          exact ⟨ret_bool HR.out.symm, rfl⟩
        · have l97 : (s[k].toNat : Int) < 97 := by omega
          have m97 : decide ((97 : Int) ≤ (s[k].toNat : Int)) = false := decide_eq_false (by omega)
          have l48 : (s[k].toNat : Int) < 48 := by omega
          have m48 : decide ((48 : Int) ≤ (s[k].toNat : Int)) = false := decide_eq_false (by omega)
          have f45 : ((s[k].toNat : Int) == 45) = false := by simp <;> omega
          have f95 : ((s[k].toNat : Int) == 95) = false := by simp <;> omega
          clear a1 a2
          go_wp2
          go_ret
          exact ⟨ret_bool HR.out.symm, rfl⟩
        · have l97 : (s[k].toNat : Int) < 97 := by omega
          have m97 : decide ((97 : Int) ≤ (s[k].toNat : Int)) = false := decide_eq_false (by omega)
          have l48 : (s[k].toNat : Int) < 48 := by omega
          have m48 : decide ((48 : Int) ≤ (s[k].toNat : Int)) = false := decide_eq_false (by omega)
          have f45 : ((s[k].toNat : Int) == 45) = false := by simp <;> omega
          have f95 : ((s[k].toNat : Int) == 95) = false := by simp <;> omega
          clear a2
          go_wp2
          go_ret
          exact ⟨ret_bool HR.out.symm, rfl⟩
    · have z1 : ¬ (k : Int) < (s.size : Int) := by omega
      have HR := Lib.hid (mayName_yes h1' h2' (fun j hj => HY.out j (by omega)))
      go_wp2
      go_ret
      exact ⟨ret_bool HR.out.symm, rfl⟩

/-- letters that are classes of a version, as the document has them too -/
def Good (v : Nat) (s : ByteArray) : Prop := s.size ≤ 100 ∧ ∀ j, j < s.size → (v, byteAt s j) ∈ goodL
theorem good_lets (v k : Nat) : Good v (lets v k) := ⟨by have := (lets_ok v k).1; omega, fun j hj => lets_good v k j hj⟩
theorem good_asks (k : Nat) : Good 3 (asks k) := ⟨by have := (asks_ok k).1; omega, fun j hj => asks_good k j hj⟩
theorem good_is {v c : Nat} (h : (v, c) ∈ goodL) : (bnd v c).is = true := by
  have : goodL.all (fun p => (bnd p.1 p.2).is) = true := by decide +kernel
  exact List.all_eq_true.1 this _ h
theorem fits_low {v c n : Int} (h : n < (bnd v c).low) : fits v c n = false := by
  unfold fits; rw [decide_eq_false (show ¬ (bnd v c).low ≤ n by omega)]; simp
theorem fits_high {v c n : Int} (h : (bnd v c).high < n) : fits v c n = false := by
  unfold fits; rw [decide_eq_false (show ¬ n ≤ (bnd v c).high by omega)]; simp
theorem fits_both {v c n : Int} (hi : (bnd v c).is = true) (h1 : (bnd v c).low ≤ n) (h2 : n ≤ (bnd v c).high) : fits v c n = true := by
  unfold fits; rw [hi, decide_eq_true h1, decide_eq_true h2]; rfl

set_option maxRecDepth 100000 in
set_option maxHeartbeats 1000000 in
theorem rAll_any (v : Nat) (s : ByteArray) (hs : Good v s) (A : Option Addr) (cap : Nat) (xs : List Int) (hx : Fits64 xs) (w : World) (hA : VAt w A (nums xs)) :
    Calls Tryd.prog 74 #[.int .u8 v, .string s, .slice A xs.length cap] w fun e w' => e = .returned (.bool (fitB v s xs)) ∧ w = w' := by
  have HA := Lib.hid hA
  have HX := Lib.hid hx
  have HG := Lib.hid hs.2
  have hs1 := hs.1
  clear hA hx hs
  by_cases hn : xs.length = s.size
  · have e1 : ((s.size : Int) != (xs.length : Int)) = false := by rw [hn]; simp
    have e2 : (s.size != xs.length) = false := by rw [hn]; simp
    have HN := Lib.hid hn
    have hn' : s.size ≤ xs.length := by omega
    clear hn
    go_enter Tryd.func74, Tryd.ntmps74
    go_wp2
    clear e1 e2
    go_loop [7] (fun i => ∃ k : Nat, k ≤ s.size ∧ i = .int .i64 k ∧ Hid (∀ j, j < k → fits v (byteAt s j) (xs.getD j 0) = true)) (fun i => s.size - (intOf i).toNat)
    case atStart => exact ⟨0, Nat.zero_le _, rfl, fun j hj => absurd hj (by omega)⟩
    case round =>
      obtain ⟨k, hk, rfl, HY⟩ := hrel
      by_cases hlt : k < s.size
      · have z0 : (0 : Int) ≤ (k : Int) := by omega
        have z1 : (k : Int) < (s.size : Int) := by omega
        have z2 : (k : Int) < (xs.length : Int) := by omega
        have HBE := Lib.hid (byteAt_eq s k hlt)
        have hg := HG.out k hlt
        have HI := Lib.hid (good_is hg)
        have HC := Lib.hid (show ∀ W, Calls Tryd.prog 52 #[.int .u8 v, .int .u8 s[k].toNat] W fun e w' => e = .returned (.tuple #[.int .i64 (bnd v (byteAt s k)).low, .int .i64 (bnd v (byteAt s k)).high, .bool true]) ∧ W = w' from fun W => by rw [byteAt_eq s k hlt]; exact rBound_any v _ hg W)
        have HF := Lib.hid (fun h => fits_low (v := v) (c := byteAt s k) (n := xs.getD k 0) h)
        have HH := Lib.hid (fun h => fits_high (v := v) (c := byteAt s k) (n := xs.getD k 0) h)
        have HB := Lib.hid (fun h1 h2 => fits_both (v := v) (c := byteAt s k) (n := xs.getD k 0) HI.out h1 h2)
        obtain ⟨b, o, rfl, c0⟩ := HA.out k _ (nums_at xs k (by omega))
        obtain ⟨x1, x2⟩ := HX.out.at k
        obtain ⟨f, hf⟩ : ∃ f, fits v (byteAt s k) (xs.getD k 0) = f := ⟨_, rfl⟩
        have HFF := Lib.hid hf
        rw [hf] at HF HH HB
        generalize xs.getD k 0 = x at c0 x1 x2 HF HH HB
        generalize (bnd v (byteAt s k)).low = lo at HC HF HB
        generalize (bnd v (byteAt s k)).high = hi at HC HH HB
        clear hg hf HI
        by_cases q1 : x < lo
        · have HR : Hid (fitB v s xs = false) := fitB_no hlt (HFF.out.trans (HF.out q1))
          have q1' : decide (x < lo) = true := decide_eq_true q1
          go_wp2_with (go_at_call 52; refine (HC.out _).mono ?_; rintro e w' ⟨rfl, rfl⟩)
          go_ret
          exact ⟨ret_bool HR.out.symm, rfl⟩
        · have q1' : decide (x < lo) = false := decide_eq_false q1
          by_cases q2 : hi < x
          · have HR : Hid (fitB v s xs = false) := fitB_no hlt (HFF.out.trans (HH.out q2))
            have q2' : decide (hi < x) = true := decide_eq_true q2
            clear q1
            go_wp2_with (go_at_call 52; refine (HC.out _).mono ?_; rintro e w' ⟨rfl, rfl⟩)
            go_ret
            exact ⟨ret_bool HR.out.symm, rfl⟩
          · have HK : Hid (fits v (byteAt s k) (xs.getD k 0) = true) := HFF.out.trans (HB.out (by omega) (by omega))
            have q2' : decide (hi < x) = false := decide_eq_false q2
            clear q1 q2
            go_wp2_with (go_at_call 52; refine (HC.out _).mono ?_; rintro e w' ⟨rfl, rfl⟩)
            go_round
            case rel => exact ⟨k + 1, by omega, by go_num, yes_step HY HK.out⟩
            case measure => simp [intOf] <;> omega
      · have z1 : ¬ (k : Int) < (s.size : Int) := by omega
        have HR := Lib.hid (fitB_yes HN.out (fun j hj => HY.out j (by omega)))
        go_wp2
        go_ret
        exact ⟨ret_bool HR.out.symm, rfl⟩
  · have e1 : ((s.size : Int) != (xs.length : Int)) = true := by simp; omega
    have e2 : (s.size != xs.length) = true := by simp; omega
    have HR := Lib.hid (fitB_len (v := v) hn)
    clear hn
    go_enter Tryd.func74, Tryd.ntmps74
    go_wp2
    go_ret
    exact ⟨ret_bool HR.out.symm, rfl⟩

end Go.Proofs.YtefkfjbdmglkjaaDoor.Schema
