/-
  The walk of Show.
-/
import Derived.Test.YtfocdlhaohhkjaaGreatDoorC11
namespace Go.Proofs.YtfocdlhaohhkjaaGreatDoor.Money
open Go.RowKit Go.Sort

/-- a text of bytes -/
def S (l : List UInt8) : ByteArray := ⟨l.toArray⟩
theorem S_list (l : List UInt8) : (S l).data.toList = l := rfl
theorem S_size (l : List UInt8) : (S l).size = l.length := rfl
theorem S_append (a b : List UInt8) : S a ++ S b = S (a ++ b) := by
  apply ByteArray.ext
  rw [ByteArray.data_append]
  unfold S; simp
theorem ret_bytes {a b : ByteArray} (h : a = b) : Ending.returned (.string a) = .returned (.string b) := by rw [h]
theorem S_of (s : ByteArray) : S s.data.toList = s := rfl
theorem fmt_at (x : Int) (u : Nat) (hx : x = u) (hu64 : u < 18446744073709551616) (w : World) (E : Env w) :
    Calls Tryz.prog 33 #[.int .u64 x, .int .i64 10] w fun e w' => e = .returned (.string (S (Lib.decDigits u))) ∧ Below w.heap.size w w' := by
  subst hx; exact formatUint u hu64 w E
theorem dec_hundred (k : Nat) (h : k < 100) : Lib.decDigits (100 + k) = [49, UInt8.ofNat (48 + k / 10), UInt8.ofNat (48 + k % 10)] := by
  have all : ∀ j : Fin 100, Lib.decDigits (100 + j.val) = [49, UInt8.ofNat (48 + j.val / 10), UInt8.ofNat (48 + j.val % 10)] := by
    intro j
    rw [Lib.decDigits, dif_neg (by omega), Lib.decDigits, dif_neg (by omega), Lib.decDigits, dif_pos (by omega)]
    have h1 : (100 + j.val) / 10 / 10 = 1 := by omega
    have h2 : (100 + j.val) / 10 % 10 = j.val / 10 := by omega
    have h3 : (100 + j.val) % 10 = j.val % 10 := by omega
    rw [h1, h2, h3]; rfl
  exact all ⟨k, h⟩
theorem dec_len (u : Nat) (h : u < 18446744073709551616) : (Lib.decDigits u).length ≤ 20 := by
  rw [Lib.decDigits_length]
  by_cases h1 : u = 0
  · subst h1; rw [Lib.nDigits_small (by decide)]; decide
  · have := Lib.numDigits_eq u (by omega) h; split at this <;> omega
set_option maxRecDepth 100000 in
set_option maxHeartbeats 400000 in
theorem show_any (n : Int) (hn : I64 n) (w : World) (E : Env w) :
    Calls Tryz.prog 17 #[.int .i64 n] w fun e w' => e = .returned (.string (S (showI n))) ∧ Below w.heap.size w w' := by
  unfold I64 at hn
  obtain ⟨m, hm⟩ : ∃ m : Nat, m = n.natAbs := ⟨_, rfl⟩
  have C1 := Lib.hid (fun w E => fmt_at (100 + (m : Int) % 100) (100 + m % 100) (by omega) (by omega) w E)
  have C2 := Lib.hid (fun w E => fmt_at ((m : Int) / 100) (m / 100) (by omega) (by omega) w E)
  have m0 : (m : Int) ≤ 9223372036854775808 := by omega
  have hs : showN m = Lib.decDigits (m / 100) ++ [46] ++ (Lib.decDigits (100 + m % 100)).drop 1 := by
    rw [dec_hundred _ (Nat.mod_lt _ (by decide))]
    unfold showN
    rw [show m % 100 / 10 = m / 10 % 10 by omega, show m % 100 % 10 = m % 10 by omega]
    simp
  have HS := Lib.hid hs
  have h3 : (S (Lib.decDigits (100 + m % 100))).size = 3 := by rw [S_size, dec_hundred _ (Nat.mod_lt _ (by decide))]; rfl
  have h20 : (S (Lib.decDigits (m / 100))).size ≤ 20 := by rw [S_size]; exact dec_len _ (by omega)
  have hx : ((S (Lib.decDigits (100 + m % 100))).extract 1 3) = S ((Lib.decDigits (100 + m % 100)).drop 1) := by
    apply ByteArray.ext; apply Array.toList_inj.1
    rw [Lib.extract_data, S_list, dec_hundred _ (Nat.mod_lt _ (by decide))]; rfl
  have HX := Lib.hid hx
  clear hs hx
  have E0 := Lib.hid E; clear E
  by_cases hneg : n < 0
  · have d1 : decide (n < 0) = true := decide_eq_true hneg
    have e1 : IntKind.u64.wrap (-(IntKind.u64.wrap n)) = (m : Int) := by rw [IntKind.wrap_u64, IntKind.wrap_u64]; omega
    have HM : Hid (showI n = 45 :: showN m) := by unfold showI; rw [if_pos hneg, hm]; rfl
    clear hneg hn hm
    go_enter Tryz.func17, Tryz.ntmps17
    go_wp2_with fail
    refine (C1.out _ E0.out).mono ?_; rintro e w1 ⟨rfl, hb1⟩
    have E1 := Lib.hid (E0.out.below hb1)
    generalize hP : S (Lib.decDigits (100 + m % 100)) = P at *
    have HP := Lib.hid hP; clear hP
    go_wp2_with fail
    refine (carry hb1 (C2.out _ E1.out)).mono ?_; rintro e w2 ⟨rfl, hb2⟩
    generalize hW : S (Lib.decDigits (m / 100)) = W at *
    have HW := Lib.hid hW; clear hW
    go_wp2_with fail
    go_ret
    refine ⟨ret_bytes ?_, hb2⟩
    rw [HX.out, ← HW.out, show (⟨#[45]⟩ : ByteArray) = S [45] from rfl, show (⟨#[46]⟩ : ByteArray) = S [46] from rfl, S_append, S_append, S_append, HM.out, HS.out]
    rfl
  · have d1 : decide (n < 0) = false := decide_eq_false hneg
    have e1 : IntKind.u64.wrap n = (m : Int) := by rw [IntKind.wrap_u64]; omega
    have HM : Hid (showI n = showN m) := by unfold showI; rw [if_neg hneg, hm]; rfl
    clear hneg hn hm
    go_enter Tryz.func17, Tryz.ntmps17
    go_wp2_with fail
    refine (C1.out _ E0.out).mono ?_; rintro e w1 ⟨rfl, hb1⟩
    have E1 := Lib.hid (E0.out.below hb1)
    generalize hP : S (Lib.decDigits (100 + m % 100)) = P at *
    have HP := Lib.hid hP; clear hP
    go_wp2_with fail
    refine (carry hb1 (C2.out _ E1.out)).mono ?_; rintro e w2 ⟨rfl, hb2⟩
    generalize hW : S (Lib.decDigits (m / 100)) = W at *
    have HW := Lib.hid hW; clear hW
    go_wp2_with fail
    go_ret
    refine ⟨ret_bytes ?_, hb2⟩
    rw [HX.out, ← HW.out, show (⟨#[]⟩ : ByteArray) = S [] from rfl, show (⟨#[46]⟩ : ByteArray) = S [46] from rfl, S_append, S_append, S_append, HM.out, HS.out]
    rfl

end Go.Proofs.YtfocdlhaohhkjaaGreatDoor.Money
