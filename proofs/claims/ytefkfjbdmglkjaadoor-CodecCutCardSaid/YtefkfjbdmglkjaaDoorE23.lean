/-
  The document's own fields and bounds.
-/
import Derived.Test.YtefkfjbdmglkjaaDoorE21
namespace Go.Proofs.YtefkfjbdmglkjaaDoor.Schema
open Go Go.RowKit

/-- the fields of a kind in version 1; a blank: there is no such kind -/
def rold (k : Nat) : ByteArray := if tall 1 k then lets 1 k else ⟨#[32]⟩
theorem rold_out (k : Nat) (h : ¬ k < 21) : rold k = ⟨#[32]⟩ := by
  unfold rold
  have ht : tall 1 k = false := by
    by_cases h2 : k < 24
    · have : k = 21 ∨ k = 22 ∨ k = 23 := by omega
      rcases this with rfl | rfl | rfl <;> decide +kernel
    · unfold tall; rw [lets_out 1 k (by omega)]; rfl
  rw [ht]; rfl

theorem rOld_0 (w : World) : Calls Tryd.prog 79 #[.int .u8 0] w fun e w' => e = .returned (.string (rold 0)) ∧ w = w' := by
  rw [show rold 0 = ⟨#[32]⟩ from by kernel_rfl]
  go_enter Tryd.func79, Tryd.ntmps79
  go_wp2
  go_ret
  exact ⟨rfl, rfl⟩
theorem rOld_1 (w : World) : Calls Tryd.prog 79 #[.int .u8 1] w fun e w' => e = .returned (.string (rold 1)) ∧ w = w' := by
  rw [show rold 1 = ⟨#[97]⟩ from by kernel_rfl]
  go_enter Tryd.func79, Tryd.ntmps79
  go_wp2
  go_ret
  exact ⟨rfl, rfl⟩
theorem rOld_2 (w : World) : Calls Tryd.prog 79 #[.int .u8 2] w fun e w' => e = .returned (.string (rold 2)) ∧ w = w' := by
  rw [show rold 2 = ⟨#[97]⟩ from by kernel_rfl]
  go_enter Tryd.func79, Tryd.ntmps79
  go_wp2
  go_ret
  exact ⟨rfl, rfl⟩
theorem rOld_3 (w : World) : Calls Tryd.prog 79 #[.int .u8 3] w fun e w' => e = .returned (.string (rold 3)) ∧ w = w' := by
  rw [show rold 3 = ⟨#[105]⟩ from by kernel_rfl]
  go_enter Tryd.func79, Tryd.ntmps79
  go_wp2
  go_ret
  exact ⟨rfl, rfl⟩
theorem rOld_4 (w : World) : Calls Tryd.prog 79 #[.int .u8 4] w fun e w' => e = .returned (.string (rold 4)) ∧ w = w' := by
  rw [show rold 4 = ⟨#[105]⟩ from by kernel_rfl]
  go_enter Tryd.func79, Tryd.ntmps79
  go_wp2
  go_ret
  exact ⟨rfl, rfl⟩
theorem rOld_5 (w : World) : Calls Tryd.prog 79 #[.int .u8 5] w fun e w' => e = .returned (.string (rold 5)) ∧ w = w' := by
  rw [show rold 5 = ⟨#[105]⟩ from by kernel_rfl]
  go_enter Tryd.func79, Tryd.ntmps79
  go_wp2
  go_ret
  exact ⟨rfl, rfl⟩
theorem rOld_6 (w : World) : Calls Tryd.prog 79 #[.int .u8 6] w fun e w' => e = .returned (.string (rold 6)) ∧ w = w' := by
  rw [show rold 6 = ⟨#[97, 109]⟩ from by kernel_rfl]
  go_enter Tryd.func79, Tryd.ntmps79
  go_wp2
  go_ret
  exact ⟨rfl, rfl⟩
theorem rOld_7 (w : World) : Calls Tryd.prog 79 #[.int .u8 7] w fun e w' => e = .returned (.string (rold 7)) ∧ w = w' := by
  rw [show rold 7 = ⟨#[97, 109]⟩ from by kernel_rfl]
  go_enter Tryd.func79, Tryd.ntmps79
  go_wp2
  go_ret
  exact ⟨rfl, rfl⟩
theorem rOld_8 (w : World) : Calls Tryd.prog 79 #[.int .u8 8] w fun e w' => e = .returned (.string (rold 8)) ∧ w = w' := by
  rw [show rold 8 = ⟨#[97, 105, 113]⟩ from by kernel_rfl]
  go_enter Tryd.func79, Tryd.ntmps79
  go_wp2
  go_ret
  exact ⟨rfl, rfl⟩
theorem rOld_9 (w : World) : Calls Tryd.prog 79 #[.int .u8 9] w fun e w' => e = .returned (.string (rold 9)) ∧ w = w' := by
  rw [show rold 9 = ⟨#[97, 105, 113]⟩ from by kernel_rfl]
  go_enter Tryd.func79, Tryd.ntmps79
  go_wp2
  go_ret
  exact ⟨rfl, rfl⟩
theorem rOld_10 (w : World) : Calls Tryd.prog 79 #[.int .u8 10] w fun e w' => e = .returned (.string (rold 10)) ∧ w = w' := by
  rw [show rold 10 = ⟨#[98]⟩ from by kernel_rfl]
  go_enter Tryd.func79, Tryd.ntmps79
  go_wp2
  go_ret
  exact ⟨rfl, rfl⟩
theorem rOld_11 (w : World) : Calls Tryd.prog 79 #[.int .u8 11] w fun e w' => e = .returned (.string (rold 11)) ∧ w = w' := by
  rw [show rold 11 = ⟨#[111, 97, 105, 115, 112, 113]⟩ from by kernel_rfl]
  go_enter Tryd.func79, Tryd.ntmps79
  go_wp2
  go_ret
  exact ⟨rfl, rfl⟩
theorem rOld_12 (w : World) : Calls Tryd.prog 79 #[.int .u8 12] w fun e w' => e = .returned (.string (rold 12)) ∧ w = w' := by
  rw [show rold 12 = ⟨#[111]⟩ from by kernel_rfl]
  go_enter Tryd.func79, Tryd.ntmps79
  go_wp2
  go_ret
  exact ⟨rfl, rfl⟩
theorem rOld_13 (w : World) : Calls Tryd.prog 79 #[.int .u8 13] w fun e w' => e = .returned (.string (rold 13)) ∧ w = w' := by
  rw [show rold 13 = ⟨#[111, 111, 112, 113]⟩ from by kernel_rfl]
  go_enter Tryd.func79, Tryd.ntmps79
  go_wp2
  go_ret
  exact ⟨rfl, rfl⟩
theorem rOld_14 (w : World) : Calls Tryd.prog 79 #[.int .u8 14] w fun e w' => e = .returned (.string (rold 14)) ∧ w = w' := by
  rw [show rold 14 = ⟨#[99, 97, 105, 113, 109, 116]⟩ from by kernel_rfl]
  go_enter Tryd.func79, Tryd.ntmps79
  go_wp2
  go_ret
  exact ⟨rfl, rfl⟩
theorem rOld_15 (w : World) : Calls Tryd.prog 79 #[.int .u8 15] w fun e w' => e = .returned (.string (rold 15)) ∧ w = w' := by
  rw [show rold 15 = ⟨#[99, 97, 109]⟩ from by kernel_rfl]
  go_enter Tryd.func79, Tryd.ntmps79
  go_wp2
  go_ret
  exact ⟨rfl, rfl⟩
theorem rOld_16 (w : World) : Calls Tryd.prog 79 #[.int .u8 16] w fun e w' => e = .returned (.string (rold 16)) ∧ w = w' := by
  rw [show rold 16 = ⟨#[99, 97, 105, 113, 109, 116]⟩ from by kernel_rfl]
  go_enter Tryd.func79, Tryd.ntmps79
  go_wp2
  go_ret
  exact ⟨rfl, rfl⟩
theorem rOld_17 (w : World) : Calls Tryd.prog 79 #[.int .u8 17] w fun e w' => e = .returned (.string (rold 17)) ∧ w = w' := by
  rw [show rold 17 = ⟨#[99, 97, 109]⟩ from by kernel_rfl]
  go_enter Tryd.func79, Tryd.ntmps79
  go_wp2
  go_ret
  exact ⟨rfl, rfl⟩
theorem rOld_18 (w : World) : Calls Tryd.prog 79 #[.int .u8 18] w fun e w' => e = .returned (.string (rold 18)) ∧ w = w' := by
  rw [show rold 18 = ⟨#[99, 97, 109]⟩ from by kernel_rfl]
  go_enter Tryd.func79, Tryd.ntmps79
  go_wp2
  go_ret
  exact ⟨rfl, rfl⟩
theorem rOld_19 (w : World) : Calls Tryd.prog 79 #[.int .u8 19] w fun e w' => e = .returned (.string (rold 19)) ∧ w = w' := by
  rw [show rold 19 = ⟨#[99]⟩ from by kernel_rfl]
  go_enter Tryd.func79, Tryd.ntmps79
  go_wp2
  go_ret
  exact ⟨rfl, rfl⟩
theorem rOld_20 (w : World) : Calls Tryd.prog 79 #[.int .u8 20] w fun e w' => e = .returned (.string (rold 20)) ∧ w = w' := by
  rw [show rold 20 = ⟨#[116]⟩ from by kernel_rfl]
  go_enter Tryd.func79, Tryd.ntmps79
  go_wp2
  go_ret
  exact ⟨rfl, rfl⟩
theorem rOld_any (k : Nat) (hk : k < 256) (w : World) : Calls Tryd.prog 79 #[.int .u8 k] w fun e w' => e = .returned (.string (rold k)) ∧ w = w' := by
  by_cases h : k < 21
  · obtain rfl | rfl | rfl | rfl | rfl | rfl | rfl | rfl | rfl | rfl | rfl | rfl | rfl | rfl | rfl | rfl | rfl | rfl | rfl | rfl | rfl : k = 0 ∨ k = 1 ∨ k = 2 ∨ k = 3 ∨ k = 4 ∨ k = 5 ∨ k = 6 ∨ k = 7 ∨ k = 8 ∨ k = 9 ∨ k = 10 ∨ k = 11 ∨ k = 12 ∨ k = 13 ∨ k = 14 ∨ k = 15 ∨ k = 16 ∨ k = 17 ∨ k = 18 ∨ k = 19 ∨ k = 20 := by omega
    · exact rOld_0 w
    · exact rOld_1 w
    · exact rOld_2 w
    · exact rOld_3 w
    · exact rOld_4 w
    · exact rOld_5 w
    · exact rOld_6 w
    · exact rOld_7 w
    · exact rOld_8 w
    · exact rOld_9 w
    · exact rOld_10 w
    · exact rOld_11 w
    · exact rOld_12 w
    · exact rOld_13 w
    · exact rOld_14 w
    · exact rOld_15 w
    · exact rOld_16 w
    · exact rOld_17 w
    · exact rOld_18 w
    · exact rOld_19 w
    · exact rOld_20 w
  · rw [rold_out k h]
    have f1 : ((k : Int) == 1) = false := beq_eq_false_iff_ne.2 (by omega)
    have f2 : ((k : Int) == 2) = false := beq_eq_false_iff_ne.2 (by omega)
    have f3 : ((k : Int) == 3) = false := beq_eq_false_iff_ne.2 (by omega)
    have f4 : ((k : Int) == 4) = false := beq_eq_false_iff_ne.2 (by omega)
    have f5 : ((k : Int) == 5) = false := beq_eq_false_iff_ne.2 (by omega)
    have f6 : ((k : Int) == 6) = false := beq_eq_false_iff_ne.2 (by omega)
    have f7 : ((k : Int) == 7) = false := beq_eq_false_iff_ne.2 (by omega)
    have f8 : ((k : Int) == 8) = false := beq_eq_false_iff_ne.2 (by omega)
    have f9 : ((k : Int) == 9) = false := beq_eq_false_iff_ne.2 (by omega)
    have f10 : ((k : Int) == 10) = false := beq_eq_false_iff_ne.2 (by omega)
    have f11 : ((k : Int) == 11) = false := beq_eq_false_iff_ne.2 (by omega)
    have f12 : ((k : Int) == 12) = false := beq_eq_false_iff_ne.2 (by omega)
    have f13 : ((k : Int) == 13) = false := beq_eq_false_iff_ne.2 (by omega)
    have f14 : ((k : Int) == 14) = false := beq_eq_false_iff_ne.2 (by omega)
    have f15 : ((k : Int) == 15) = false := beq_eq_false_iff_ne.2 (by omega)
    have f16 : ((k : Int) == 16) = false := beq_eq_false_iff_ne.2 (by omega)
    have f17 : ((k : Int) == 17) = false := beq_eq_false_iff_ne.2 (by omega)
    have f18 : ((k : Int) == 18) = false := beq_eq_false_iff_ne.2 (by omega)
    have f19 : ((k : Int) == 19) = false := beq_eq_false_iff_ne.2 (by omega)
    have f20 : ((k : Int) == 20) = false := beq_eq_false_iff_ne.2 (by omega)
    clear h
    go_enter Tryd.func79, Tryd.ntmps79
    go_wp2
    go_ret
    exact ⟨rfl, rfl⟩

theorem ret_sbb {s t : ByteArray} {a b c d : Bool} (h1 : s = t) (h2 : a = b) (h3 : c = d) : Ending.returned (.tuple #[.string s, .bool a, .bool c]) = .returned (.tuple #[.string t, .bool b, .bool d]) := by rw [h1, h2, h3]
def FldRes (v k : Nat) (w : World) (e : Ending) (w' : World) : Prop := e = .returned (.tuple #[.string (lets v k), .bool (tall v k && tru k), .bool (tall v k)]) ∧ w = w'

theorem rFld_1_0 (w : World) : Calls Tryd.prog 51 #[.int .u8 1, .int .u8 0] w (FldRes 1 0 w) := by
  have HR := Lib.hid (show lets 1 0 = ⟨#[]⟩ from by kernel_rfl)
  have HO := Lib.hid (rOld_any 0 (by decide) w)
  rw [show rold 0 = ⟨#[32]⟩ from by kernel_rfl] at HO
  go_enter Tryd.func51, Tryd.ntmps51
  go_wp2_with (go_at_call 79; refine HO.out.mono ?_; rintro e w' ⟨rfl, rfl⟩)
  go_ret3
  exact ⟨ret_sbb (by rw [HR.out]) (by kernel_rfl) (by kernel_rfl), rfl⟩
theorem rFld_1_1 (w : World) : Calls Tryd.prog 51 #[.int .u8 1, .int .u8 1] w (FldRes 1 1 w) := by
  have HR := Lib.hid (show lets 1 1 = ⟨#[97]⟩ from by kernel_rfl)
  have HO := Lib.hid (rOld_any 1 (by decide) w)
  rw [show rold 1 = ⟨#[97]⟩ from by kernel_rfl] at HO
  go_enter Tryd.func51, Tryd.ntmps51
  go_wp2_with (go_at_call 79; refine HO.out.mono ?_; rintro e w' ⟨rfl, rfl⟩)
  go_ret3
  exact ⟨ret_sbb (by rw [HR.out]) (by kernel_rfl) (by kernel_rfl), rfl⟩
theorem rFld_1_2 (w : World) : Calls Tryd.prog 51 #[.int .u8 1, .int .u8 2] w (FldRes 1 2 w) := by
  have HR := Lib.hid (show lets 1 2 = ⟨#[97]⟩ from by kernel_rfl)
  have HO := Lib.hid (rOld_any 2 (by decide) w)
  rw [show rold 2 = ⟨#[97]⟩ from by kernel_rfl] at HO
  go_enter Tryd.func51, Tryd.ntmps51
  go_wp2_with (go_at_call 79; refine HO.out.mono ?_; rintro e w' ⟨rfl, rfl⟩)
  go_ret3
  exact ⟨ret_sbb (by rw [HR.out]) (by kernel_rfl) (by kernel_rfl), rfl⟩
theorem rFld_1_3 (w : World) : Calls Tryd.prog 51 #[.int .u8 1, .int .u8 3] w (FldRes 1 3 w) := by
  have HR := Lib.hid (show lets 1 3 = ⟨#[105]⟩ from by kernel_rfl)
  have HO := Lib.hid (rOld_any 3 (by decide) w)
  rw [show rold 3 = ⟨#[105]⟩ from by kernel_rfl] at HO
  go_enter Tryd.func51, Tryd.ntmps51
  go_wp2_with (go_at_call 79; refine HO.out.mono ?_; rintro e w' ⟨rfl, rfl⟩)
  go_ret3
  exact ⟨ret_sbb (by rw [HR.out]) (by kernel_rfl) (by kernel_rfl), rfl⟩
theorem rFld_1_4 (w : World) : Calls Tryd.prog 51 #[.int .u8 1, .int .u8 4] w (FldRes 1 4 w) := by
  have HR := Lib.hid (show lets 1 4 = ⟨#[105]⟩ from by kernel_rfl)
  have HO := Lib.hid (rOld_any 4 (by decide) w)
  rw [show rold 4 = ⟨#[105]⟩ from by kernel_rfl] at HO
  go_enter Tryd.func51, Tryd.ntmps51
  go_wp2_with (go_at_call 79; refine HO.out.mono ?_; rintro e w' ⟨rfl, rfl⟩)
  go_ret3
  exact ⟨ret_sbb (by rw [HR.out]) (by kernel_rfl) (by kernel_rfl), rfl⟩
theorem rFld_1_5 (w : World) : Calls Tryd.prog 51 #[.int .u8 1, .int .u8 5] w (FldRes 1 5 w) := by
  have HR := Lib.hid (show lets 1 5 = ⟨#[105]⟩ from by kernel_rfl)
  have HO := Lib.hid (rOld_any 5 (by decide) w)
  rw [show rold 5 = ⟨#[105]⟩ from by kernel_rfl] at HO
  go_enter Tryd.func51, Tryd.ntmps51
  go_wp2_with (go_at_call 79; refine HO.out.mono ?_; rintro e w' ⟨rfl, rfl⟩)
  go_ret3
  exact ⟨ret_sbb (by rw [HR.out]) (by kernel_rfl) (by kernel_rfl), rfl⟩
theorem rFld_1_6 (w : World) : Calls Tryd.prog 51 #[.int .u8 1, .int .u8 6] w (FldRes 1 6 w) := by
  have HR := Lib.hid (show lets 1 6 = ⟨#[97, 109]⟩ from by kernel_rfl)
  have HO := Lib.hid (rOld_any 6 (by decide) w)
  rw [show rold 6 = ⟨#[97, 109]⟩ from by kernel_rfl] at HO
  go_enter Tryd.func51, Tryd.ntmps51
  go_wp2_with (go_at_call 79; refine HO.out.mono ?_; rintro e w' ⟨rfl, rfl⟩)
  go_ret3
  exact ⟨ret_sbb (by rw [HR.out]) (by kernel_rfl) (by kernel_rfl), rfl⟩
theorem rFld_1_7 (w : World) : Calls Tryd.prog 51 #[.int .u8 1, .int .u8 7] w (FldRes 1 7 w) := by
  have HR := Lib.hid (show lets 1 7 = ⟨#[97, 109]⟩ from by kernel_rfl)
  have HO := Lib.hid (rOld_any 7 (by decide) w)
  rw [show rold 7 = ⟨#[97, 109]⟩ from by kernel_rfl] at HO
  go_enter Tryd.func51, Tryd.ntmps51
  go_wp2_with (go_at_call 79; refine HO.out.mono ?_; rintro e w' ⟨rfl, rfl⟩)
  go_ret3
  exact ⟨ret_sbb (by rw [HR.out]) (by kernel_rfl) (by kernel_rfl), rfl⟩
theorem rFld_1_8 (w : World) : Calls Tryd.prog 51 #[.int .u8 1, .int .u8 8] w (FldRes 1 8 w) := by
  have HR := Lib.hid (show lets 1 8 = ⟨#[97, 105, 113]⟩ from by kernel_rfl)
  have HO := Lib.hid (rOld_any 8 (by decide) w)
  rw [show rold 8 = ⟨#[97, 105, 113]⟩ from by kernel_rfl] at HO
  go_enter Tryd.func51, Tryd.ntmps51
  go_wp2_with (go_at_call 79; refine HO.out.mono ?_; rintro e w' ⟨rfl, rfl⟩)
  go_ret3
  exact ⟨ret_sbb (by rw [HR.out]) (by kernel_rfl) (by kernel_rfl), rfl⟩
theorem rFld_1_9 (w : World) : Calls Tryd.prog 51 #[.int .u8 1, .int .u8 9] w (FldRes 1 9 w) := by
  have HR := Lib.hid (show lets 1 9 = ⟨#[97, 105, 113]⟩ from by kernel_rfl)
  have HO := Lib.hid (rOld_any 9 (by decide) w)
  rw [show rold 9 = ⟨#[97, 105, 113]⟩ from by kernel_rfl] at HO
  go_enter Tryd.func51, Tryd.ntmps51
  go_wp2_with (go_at_call 79; refine HO.out.mono ?_; rintro e w' ⟨rfl, rfl⟩)
  go_ret3
  exact ⟨ret_sbb (by rw [HR.out]) (by kernel_rfl) (by kernel_rfl), rfl⟩
theorem rFld_1_10 (w : World) : Calls Tryd.prog 51 #[.int .u8 1, .int .u8 10] w (FldRes 1 10 w) := by
  have HR := Lib.hid (show lets 1 10 = ⟨#[98]⟩ from by kernel_rfl)
  have HO := Lib.hid (rOld_any 10 (by decide) w)
  rw [show rold 10 = ⟨#[98]⟩ from by kernel_rfl] at HO
  go_enter Tryd.func51, Tryd.ntmps51
  go_wp2_with (go_at_call 79; refine HO.out.mono ?_; rintro e w' ⟨rfl, rfl⟩)
  go_ret3
  exact ⟨ret_sbb (by rw [HR.out]) (by kernel_rfl) (by kernel_rfl), rfl⟩
theorem rFld_1_11 (w : World) : Calls Tryd.prog 51 #[.int .u8 1, .int .u8 11] w (FldRes 1 11 w) := by
  have HR := Lib.hid (show lets 1 11 = ⟨#[111, 97, 105, 115, 112, 113]⟩ from by kernel_rfl)
  have HO := Lib.hid (rOld_any 11 (by decide) w)
  rw [show rold 11 = ⟨#[111, 97, 105, 115, 112, 113]⟩ from by kernel_rfl] at HO
  go_enter Tryd.func51, Tryd.ntmps51
  go_wp2_with (go_at_call 79; refine HO.out.mono ?_; rintro e w' ⟨rfl, rfl⟩)
  go_ret3
  exact ⟨ret_sbb (by rw [HR.out]) (by kernel_rfl) (by kernel_rfl), rfl⟩
theorem rFld_1_12 (w : World) : Calls Tryd.prog 51 #[.int .u8 1, .int .u8 12] w (FldRes 1 12 w) := by
  have HR := Lib.hid (show lets 1 12 = ⟨#[111]⟩ from by kernel_rfl)
  have HO := Lib.hid (rOld_any 12 (by decide) w)
  rw [show rold 12 = ⟨#[111]⟩ from by kernel_rfl] at HO
  go_enter Tryd.func51, Tryd.ntmps51
  go_wp2_with (go_at_call 79; refine HO.out.mono ?_; rintro e w' ⟨rfl, rfl⟩)
  go_ret3
  exact ⟨ret_sbb (by rw [HR.out]) (by kernel_rfl) (by kernel_rfl), rfl⟩
theorem rFld_1_13 (w : World) : Calls Tryd.prog 51 #[.int .u8 1, .int .u8 13] w (FldRes 1 13 w) := by
  have HR := Lib.hid (show lets 1 13 = ⟨#[111, 111, 112, 113]⟩ from by kernel_rfl)
  have HO := Lib.hid (rOld_any 13 (by decide) w)
  rw [show rold 13 = ⟨#[111, 111, 112, 113]⟩ from by kernel_rfl] at HO
  go_enter Tryd.func51, Tryd.ntmps51
  go_wp2_with (go_at_call 79; refine HO.out.mono ?_; rintro e w' ⟨rfl, rfl⟩)
  go_ret3
  exact ⟨ret_sbb (by rw [HR.out]) (by kernel_rfl) (by kernel_rfl), rfl⟩
theorem rFld_1_14 (w : World) : Calls Tryd.prog 51 #[.int .u8 1, .int .u8 14] w (FldRes 1 14 w) := by
  have HR := Lib.hid (show lets 1 14 = ⟨#[99, 97, 105, 113, 109, 116]⟩ from by kernel_rfl)
  have HO := Lib.hid (rOld_any 14 (by decide) w)
  rw [show rold 14 = ⟨#[99, 97, 105, 113, 109, 116]⟩ from by kernel_rfl] at HO
  go_enter Tryd.func51, Tryd.ntmps51
  go_wp2_with (go_at_call 79; refine HO.out.mono ?_; rintro e w' ⟨rfl, rfl⟩)
  go_ret3
  exact ⟨ret_sbb (by rw [HR.out]) (by kernel_rfl) (by kernel_rfl), rfl⟩
theorem rFld_1_15 (w : World) : Calls Tryd.prog 51 #[.int .u8 1, .int .u8 15] w (FldRes 1 15 w) := by
  have HR := Lib.hid (show lets 1 15 = ⟨#[99, 97, 109]⟩ from by kernel_rfl)
  have HO := Lib.hid (rOld_any 15 (by decide) w)
  rw [show rold 15 = ⟨#[99, 97, 109]⟩ from by kernel_rfl] at HO
  go_enter Tryd.func51, Tryd.ntmps51
  go_wp2_with (go_at_call 79; refine HO.out.mono ?_; rintro e w' ⟨rfl, rfl⟩)
  go_ret3
  exact ⟨ret_sbb (by rw [HR.out]) (by kernel_rfl) (by kernel_rfl), rfl⟩
theorem rFld_1_16 (w : World) : Calls Tryd.prog 51 #[.int .u8 1, .int .u8 16] w (FldRes 1 16 w) := by
  have HR := Lib.hid (show lets 1 16 = ⟨#[99, 97, 105, 113, 109, 116]⟩ from by kernel_rfl)
  have HO := Lib.hid (rOld_any 16 (by decide) w)
  rw [show rold 16 = ⟨#[99, 97, 105, 113, 109, 116]⟩ from by kernel_rfl] at HO
  go_enter Tryd.func51, Tryd.ntmps51
  go_wp2_with (go_at_call 79; refine HO.out.mono ?_; rintro e w' ⟨rfl, rfl⟩)
  go_ret3
  exact ⟨ret_sbb (by rw [HR.out]) (by kernel_rfl) (by kernel_rfl), rfl⟩
theorem rFld_1_17 (w : World) : Calls Tryd.prog 51 #[.int .u8 1, .int .u8 17] w (FldRes 1 17 w) := by
  have HR := Lib.hid (show lets 1 17 = ⟨#[99, 97, 109]⟩ from by kernel_rfl)
  have HO := Lib.hid (rOld_any 17 (by decide) w)
  rw [show rold 17 = ⟨#[99, 97, 109]⟩ from by kernel_rfl] at HO
  go_enter Tryd.func51, Tryd.ntmps51
  go_wp2_with (go_at_call 79; refine HO.out.mono ?_; rintro e w' ⟨rfl, rfl⟩)
  go_ret3
  exact ⟨ret_sbb (by rw [HR.out]) (by kernel_rfl) (by kernel_rfl), rfl⟩
theorem rFld_1_18 (w : World) : Calls Tryd.prog 51 #[.int .u8 1, .int .u8 18] w (FldRes 1 18 w) := by
  have HR := Lib.hid (show lets 1 18 = ⟨#[99, 97, 109]⟩ from by kernel_rfl)
  have HO := Lib.hid (rOld_any 18 (by decide) w)
  rw [show rold 18 = ⟨#[99, 97, 109]⟩ from by kernel_rfl] at HO
  go_enter Tryd.func51, Tryd.ntmps51
  go_wp2_with (go_at_call 79; refine HO.out.mono ?_; rintro e w' ⟨rfl, rfl⟩)
  go_ret3
  exact ⟨ret_sbb (by rw [HR.out]) (by kernel_rfl) (by kernel_rfl), rfl⟩
theorem rFld_1_19 (w : World) : Calls Tryd.prog 51 #[.int .u8 1, .int .u8 19] w (FldRes 1 19 w) := by
  have HR := Lib.hid (show lets 1 19 = ⟨#[99]⟩ from by kernel_rfl)
  have HO := Lib.hid (rOld_any 19 (by decide) w)
  rw [show rold 19 = ⟨#[99]⟩ from by kernel_rfl] at HO
  go_enter Tryd.func51, Tryd.ntmps51
  go_wp2_with (go_at_call 79; refine HO.out.mono ?_; rintro e w' ⟨rfl, rfl⟩)
  go_ret3
  exact ⟨ret_sbb (by rw [HR.out]) (by kernel_rfl) (by kernel_rfl), rfl⟩
theorem rFld_1_20 (w : World) : Calls Tryd.prog 51 #[.int .u8 1, .int .u8 20] w (FldRes 1 20 w) := by
  have HR := Lib.hid (show lets 1 20 = ⟨#[116]⟩ from by kernel_rfl)
  have HO := Lib.hid (rOld_any 20 (by decide) w)
  rw [show rold 20 = ⟨#[116]⟩ from by kernel_rfl] at HO
  go_enter Tryd.func51, Tryd.ntmps51
  go_wp2_with (go_at_call 79; refine HO.out.mono ?_; rintro e w' ⟨rfl, rfl⟩)
  go_ret3
  exact ⟨ret_sbb (by rw [HR.out]) (by kernel_rfl) (by kernel_rfl), rfl⟩
theorem rFld_1_21 (w : World) : Calls Tryd.prog 51 #[.int .u8 1, .int .u8 21] w (FldRes 1 21 w) := by
  have HR := Lib.hid (show lets 1 21 = ⟨#[]⟩ from by kernel_rfl)
  have HO := Lib.hid (rOld_any 21 (by decide) w)
  rw [show rold 21 = ⟨#[32]⟩ from by kernel_rfl] at HO
  go_enter Tryd.func51, Tryd.ntmps51
  go_wp2_with (go_at_call 79; refine HO.out.mono ?_; rintro e w' ⟨rfl, rfl⟩)
  go_ret3
  exact ⟨ret_sbb (by rw [HR.out]) (by kernel_rfl) (by kernel_rfl), rfl⟩
theorem rFld_1_22 (w : World) : Calls Tryd.prog 51 #[.int .u8 1, .int .u8 22] w (FldRes 1 22 w) := by
  have HR := Lib.hid (show lets 1 22 = ⟨#[]⟩ from by kernel_rfl)
  have HO := Lib.hid (rOld_any 22 (by decide) w)
  rw [show rold 22 = ⟨#[32]⟩ from by kernel_rfl] at HO
  go_enter Tryd.func51, Tryd.ntmps51
  go_wp2_with (go_at_call 79; refine HO.out.mono ?_; rintro e w' ⟨rfl, rfl⟩)
  go_ret3
  exact ⟨ret_sbb (by rw [HR.out]) (by kernel_rfl) (by kernel_rfl), rfl⟩
theorem rFld_1_23 (w : World) : Calls Tryd.prog 51 #[.int .u8 1, .int .u8 23] w (FldRes 1 23 w) := by
  have HR := Lib.hid (show lets 1 23 = ⟨#[]⟩ from by kernel_rfl)
  have HO := Lib.hid (rOld_any 23 (by decide) w)
  rw [show rold 23 = ⟨#[32]⟩ from by kernel_rfl] at HO
  go_enter Tryd.func51, Tryd.ntmps51
  go_wp2_with (go_at_call 79; refine HO.out.mono ?_; rintro e w' ⟨rfl, rfl⟩)
  go_ret3
  exact ⟨ret_sbb (by rw [HR.out]) (by kernel_rfl) (by kernel_rfl), rfl⟩
theorem rFld_2_0 (w : World) : Calls Tryd.prog 51 #[.int .u8 2, .int .u8 0] w (FldRes 2 0 w) := by
  have HR := Lib.hid (show lets 2 0 = ⟨#[]⟩ from by kernel_rfl)
  have HO := Lib.hid (rOld_any 0 (by decide) w)
  rw [show rold 0 = ⟨#[32]⟩ from by kernel_rfl] at HO
  go_enter Tryd.func51, Tryd.ntmps51
  go_wp2_with (go_at_call 79; refine HO.out.mono ?_; rintro e w' ⟨rfl, rfl⟩)
  go_ret3
  exact ⟨ret_sbb (by rw [HR.out]) (by kernel_rfl) (by kernel_rfl), rfl⟩
theorem rFld_2_1 (w : World) : Calls Tryd.prog 51 #[.int .u8 2, .int .u8 1] w (FldRes 2 1 w) := by
  have HR := Lib.hid (show lets 2 1 = ⟨#[97]⟩ from by kernel_rfl)
  have HO := Lib.hid (rOld_any 1 (by decide) w)
  rw [show rold 1 = ⟨#[97]⟩ from by kernel_rfl] at HO
  go_enter Tryd.func51, Tryd.ntmps51
  go_wp2_with (go_at_call 79; refine HO.out.mono ?_; rintro e w' ⟨rfl, rfl⟩)
  go_ret3
  exact ⟨ret_sbb (by rw [HR.out]) (by kernel_rfl) (by kernel_rfl), rfl⟩
theorem rFld_2_2 (w : World) : Calls Tryd.prog 51 #[.int .u8 2, .int .u8 2] w (FldRes 2 2 w) := by
  have HR := Lib.hid (show lets 2 2 = ⟨#[97]⟩ from by kernel_rfl)
  have HO := Lib.hid (rOld_any 2 (by decide) w)
  rw [show rold 2 = ⟨#[97]⟩ from by kernel_rfl] at HO
  go_enter Tryd.func51, Tryd.ntmps51
  go_wp2_with (go_at_call 79; refine HO.out.mono ?_; rintro e w' ⟨rfl, rfl⟩)
  go_ret3
  exact ⟨ret_sbb (by rw [HR.out]) (by kernel_rfl) (by kernel_rfl), rfl⟩
theorem rFld_2_3 (w : World) : Calls Tryd.prog 51 #[.int .u8 2, .int .u8 3] w (FldRes 2 3 w) := by
  have HR := Lib.hid (show lets 2 3 = ⟨#[105, 107]⟩ from by kernel_rfl)
  have HO := Lib.hid (rOld_any 3 (by decide) w)
  rw [show rold 3 = ⟨#[105]⟩ from by kernel_rfl] at HO
  go_enter Tryd.func51, Tryd.ntmps51
  go_wp2_with (go_at_call 79; refine HO.out.mono ?_; rintro e w' ⟨rfl, rfl⟩)
  go_ret3
  exact ⟨ret_sbb (by rw [HR.out]) (by kernel_rfl) (by kernel_rfl), rfl⟩
theorem rFld_2_4 (w : World) : Calls Tryd.prog 51 #[.int .u8 2, .int .u8 4] w (FldRes 2 4 w) := by
  have HR := Lib.hid (show lets 2 4 = ⟨#[105]⟩ from by kernel_rfl)
  have HO := Lib.hid (rOld_any 4 (by decide) w)
  rw [show rold 4 = ⟨#[105]⟩ from by kernel_rfl] at HO
  go_enter Tryd.func51, Tryd.ntmps51
  go_wp2_with (go_at_call 79; refine HO.out.mono ?_; rintro e w' ⟨rfl, rfl⟩)
  go_ret3
  exact ⟨ret_sbb (by rw [HR.out]) (by kernel_rfl) (by kernel_rfl), rfl⟩
theorem rFld_2_5 (w : World) : Calls Tryd.prog 51 #[.int .u8 2, .int .u8 5] w (FldRes 2 5 w) := by
  have HR := Lib.hid (show lets 2 5 = ⟨#[105]⟩ from by kernel_rfl)
  have HO := Lib.hid (rOld_any 5 (by decide) w)
  rw [show rold 5 = ⟨#[105]⟩ from by kernel_rfl] at HO
  go_enter Tryd.func51, Tryd.ntmps51
  go_wp2_with (go_at_call 79; refine HO.out.mono ?_; rintro e w' ⟨rfl, rfl⟩)
  go_ret3
  exact ⟨ret_sbb (by rw [HR.out]) (by kernel_rfl) (by kernel_rfl), rfl⟩
theorem rFld_2_6 (w : World) : Calls Tryd.prog 51 #[.int .u8 2, .int .u8 6] w (FldRes 2 6 w) := by
  have HR := Lib.hid (show lets 2 6 = ⟨#[97, 109]⟩ from by kernel_rfl)
  have HO := Lib.hid (rOld_any 6 (by decide) w)
  rw [show rold 6 = ⟨#[97, 109]⟩ from by kernel_rfl] at HO
  go_enter Tryd.func51, Tryd.ntmps51
  go_wp2_with (go_at_call 79; refine HO.out.mono ?_; rintro e w' ⟨rfl, rfl⟩)
  go_ret3
  exact ⟨ret_sbb (by rw [HR.out]) (by kernel_rfl) (by kernel_rfl), rfl⟩
theorem rFld_2_7 (w : World) : Calls Tryd.prog 51 #[.int .u8 2, .int .u8 7] w (FldRes 2 7 w) := by
  have HR := Lib.hid (show lets 2 7 = ⟨#[97, 109]⟩ from by kernel_rfl)
  have HO := Lib.hid (rOld_any 7 (by decide) w)
  rw [show rold 7 = ⟨#[97, 109]⟩ from by kernel_rfl] at HO
  go_enter Tryd.func51, Tryd.ntmps51
  go_wp2_with (go_at_call 79; refine HO.out.mono ?_; rintro e w' ⟨rfl, rfl⟩)
  go_ret3
  exact ⟨ret_sbb (by rw [HR.out]) (by kernel_rfl) (by kernel_rfl), rfl⟩
theorem rFld_2_8 (w : World) : Calls Tryd.prog 51 #[.int .u8 2, .int .u8 8] w (FldRes 2 8 w) := by
  have HR := Lib.hid (show lets 2 8 = ⟨#[97, 105, 113]⟩ from by kernel_rfl)
  have HO := Lib.hid (rOld_any 8 (by decide) w)
  rw [show rold 8 = ⟨#[97, 105, 113]⟩ from by kernel_rfl] at HO
  go_enter Tryd.func51, Tryd.ntmps51
  go_wp2_with (go_at_call 79; refine HO.out.mono ?_; rintro e w' ⟨rfl, rfl⟩)
  go_ret3
  exact ⟨ret_sbb (by rw [HR.out]) (by kernel_rfl) (by kernel_rfl), rfl⟩
theorem rFld_2_9 (w : World) : Calls Tryd.prog 51 #[.int .u8 2, .int .u8 9] w (FldRes 2 9 w) := by
  have HR := Lib.hid (show lets 2 9 = ⟨#[97, 105, 113]⟩ from by kernel_rfl)
  have HO := Lib.hid (rOld_any 9 (by decide) w)
  rw [show rold 9 = ⟨#[97, 105, 113]⟩ from by kernel_rfl] at HO
  go_enter Tryd.func51, Tryd.ntmps51
  go_wp2_with (go_at_call 79; refine HO.out.mono ?_; rintro e w' ⟨rfl, rfl⟩)
  go_ret3
  exact ⟨ret_sbb (by rw [HR.out]) (by kernel_rfl) (by kernel_rfl), rfl⟩
theorem rFld_2_10 (w : World) : Calls Tryd.prog 51 #[.int .u8 2, .int .u8 10] w (FldRes 2 10 w) := by
  have HR := Lib.hid (show lets 2 10 = ⟨#[98]⟩ from by kernel_rfl)
  have HO := Lib.hid (rOld_any 10 (by decide) w)
  rw [show rold 10 = ⟨#[98]⟩ from by kernel_rfl] at HO
  go_enter Tryd.func51, Tryd.ntmps51
  go_wp2_with (go_at_call 79; refine HO.out.mono ?_; rintro e w' ⟨rfl, rfl⟩)
  go_ret3
  exact ⟨ret_sbb (by rw [HR.out]) (by kernel_rfl) (by kernel_rfl), rfl⟩
theorem rFld_2_11 (w : World) : Calls Tryd.prog 51 #[.int .u8 2, .int .u8 11] w (FldRes 2 11 w) := by
  have HR := Lib.hid (show lets 2 11 = ⟨#[111, 97, 105, 115, 112, 113]⟩ from by kernel_rfl)
  have HO := Lib.hid (rOld_any 11 (by decide) w)
  rw [show rold 11 = ⟨#[111, 97, 105, 115, 112, 113]⟩ from by kernel_rfl] at HO
  go_enter Tryd.func51, Tryd.ntmps51
  go_wp2_with (go_at_call 79; refine HO.out.mono ?_; rintro e w' ⟨rfl, rfl⟩)
  go_ret3
  exact ⟨ret_sbb (by rw [HR.out]) (by kernel_rfl) (by kernel_rfl), rfl⟩
theorem rFld_2_12 (w : World) : Calls Tryd.prog 51 #[.int .u8 2, .int .u8 12] w (FldRes 2 12 w) := by
  have HR := Lib.hid (show lets 2 12 = ⟨#[111]⟩ from by kernel_rfl)
  have HO := Lib.hid (rOld_any 12 (by decide) w)
  rw [show rold 12 = ⟨#[111]⟩ from by kernel_rfl] at HO
  go_enter Tryd.func51, Tryd.ntmps51
  go_wp2_with (go_at_call 79; refine HO.out.mono ?_; rintro e w' ⟨rfl, rfl⟩)
  go_ret3
  exact ⟨ret_sbb (by rw [HR.out]) (by kernel_rfl) (by kernel_rfl), rfl⟩
theorem rFld_2_13 (w : World) : Calls Tryd.prog 51 #[.int .u8 2, .int .u8 13] w (FldRes 2 13 w) := by
  have HR := Lib.hid (show lets 2 13 = ⟨#[111, 111, 112, 113, 122]⟩ from by kernel_rfl)
  have HO := Lib.hid (rOld_any 13 (by decide) w)
  rw [show rold 13 = ⟨#[111, 111, 112, 113]⟩ from by kernel_rfl] at HO
  go_enter Tryd.func51, Tryd.ntmps51
  go_wp2_with (go_at_call 79; refine HO.out.mono ?_; rintro e w' ⟨rfl, rfl⟩)
  go_ret3
  exact ⟨ret_sbb (by rw [HR.out]) (by kernel_rfl) (by kernel_rfl), rfl⟩
theorem rFld_2_14 (w : World) : Calls Tryd.prog 51 #[.int .u8 2, .int .u8 14] w (FldRes 2 14 w) := by
  have HR := Lib.hid (show lets 2 14 = ⟨#[99, 97, 105, 113, 109, 109, 116]⟩ from by kernel_rfl)
  have HO := Lib.hid (rOld_any 14 (by decide) w)
  rw [show rold 14 = ⟨#[99, 97, 105, 113, 109, 116]⟩ from by kernel_rfl] at HO
  go_enter Tryd.func51, Tryd.ntmps51
  go_wp2_with (go_at_call 79; refine HO.out.mono ?_; rintro e w' ⟨rfl, rfl⟩)
  go_ret3
  exact ⟨ret_sbb (by rw [HR.out]) (by kernel_rfl) (by kernel_rfl), rfl⟩
theorem rFld_2_15 (w : World) : Calls Tryd.prog 51 #[.int .u8 2, .int .u8 15] w (FldRes 2 15 w) := by
  have HR := Lib.hid (show lets 2 15 = ⟨#[99, 97, 109]⟩ from by kernel_rfl)
  have HO := Lib.hid (rOld_any 15 (by decide) w)
  rw [show rold 15 = ⟨#[99, 97, 109]⟩ from by kernel_rfl] at HO
  go_enter Tryd.func51, Tryd.ntmps51
  go_wp2_with (go_at_call 79; refine HO.out.mono ?_; rintro e w' ⟨rfl, rfl⟩)
  go_ret3
  exact ⟨ret_sbb (by rw [HR.out]) (by kernel_rfl) (by kernel_rfl), rfl⟩
theorem rFld_2_16 (w : World) : Calls Tryd.prog 51 #[.int .u8 2, .int .u8 16] w (FldRes 2 16 w) := by
  have HR := Lib.hid (show lets 2 16 = ⟨#[99, 97, 105, 113, 109, 116]⟩ from by kernel_rfl)
  have HO := Lib.hid (rOld_any 16 (by decide) w)
  rw [show rold 16 = ⟨#[99, 97, 105, 113, 109, 116]⟩ from by kernel_rfl] at HO
  go_enter Tryd.func51, Tryd.ntmps51
  go_wp2_with (go_at_call 79; refine HO.out.mono ?_; rintro e w' ⟨rfl, rfl⟩)
  go_ret3
  exact ⟨ret_sbb (by rw [HR.out]) (by kernel_rfl) (by kernel_rfl), rfl⟩
theorem rFld_2_17 (w : World) : Calls Tryd.prog 51 #[.int .u8 2, .int .u8 17] w (FldRes 2 17 w) := by
  have HR := Lib.hid (show lets 2 17 = ⟨#[99, 97, 109]⟩ from by kernel_rfl)
  have HO := Lib.hid (rOld_any 17 (by decide) w)
  rw [show rold 17 = ⟨#[99, 97, 109]⟩ from by kernel_rfl] at HO
  go_enter Tryd.func51, Tryd.ntmps51
  go_wp2_with (go_at_call 79; refine HO.out.mono ?_; rintro e w' ⟨rfl, rfl⟩)
  go_ret3
  exact ⟨ret_sbb (by rw [HR.out]) (by kernel_rfl) (by kernel_rfl), rfl⟩
theorem rFld_2_18 (w : World) : Calls Tryd.prog 51 #[.int .u8 2, .int .u8 18] w (FldRes 2 18 w) := by
  have HR := Lib.hid (show lets 2 18 = ⟨#[99, 97, 109, 122]⟩ from by kernel_rfl)
  have HO := Lib.hid (rOld_any 18 (by decide) w)
  rw [show rold 18 = ⟨#[99, 97, 109]⟩ from by kernel_rfl] at HO
  go_enter Tryd.func51, Tryd.ntmps51
  go_wp2_with (go_at_call 79; refine HO.out.mono ?_; rintro e w' ⟨rfl, rfl⟩)
  go_ret3
  exact ⟨ret_sbb (by rw [HR.out]) (by kernel_rfl) (by kernel_rfl), rfl⟩
theorem rFld_2_19 (w : World) : Calls Tryd.prog 51 #[.int .u8 2, .int .u8 19] w (FldRes 2 19 w) := by
  have HR := Lib.hid (show lets 2 19 = ⟨#[99]⟩ from by kernel_rfl)
  have HO := Lib.hid (rOld_any 19 (by decide) w)
  rw [show rold 19 = ⟨#[99]⟩ from by kernel_rfl] at HO
  go_enter Tryd.func51, Tryd.ntmps51
  go_wp2_with (go_at_call 79; refine HO.out.mono ?_; rintro e w' ⟨rfl, rfl⟩)
  go_ret3
  exact ⟨ret_sbb (by rw [HR.out]) (by kernel_rfl) (by kernel_rfl), rfl⟩
theorem rFld_2_20 (w : World) : Calls Tryd.prog 51 #[.int .u8 2, .int .u8 20] w (FldRes 2 20 w) := by
  have HR := Lib.hid (show lets 2 20 = ⟨#[116]⟩ from by kernel_rfl)
  have HO := Lib.hid (rOld_any 20 (by decide) w)
  rw [show rold 20 = ⟨#[116]⟩ from by kernel_rfl] at HO
  go_enter Tryd.func51, Tryd.ntmps51
  go_wp2_with (go_at_call 79; refine HO.out.mono ?_; rintro e w' ⟨rfl, rfl⟩)
  go_ret3
  exact ⟨ret_sbb (by rw [HR.out]) (by kernel_rfl) (by kernel_rfl), rfl⟩
theorem rFld_2_21 (w : World) : Calls Tryd.prog 51 #[.int .u8 2, .int .u8 21] w (FldRes 2 21 w) := by
  have HR := Lib.hid (show lets 2 21 = ⟨#[97, 97, 109]⟩ from by kernel_rfl)
  have HO := Lib.hid (rOld_any 21 (by decide) w)
  rw [show rold 21 = ⟨#[32]⟩ from by kernel_rfl] at HO
  go_enter Tryd.func51, Tryd.ntmps51
  go_wp2_with (go_at_call 79; refine HO.out.mono ?_; rintro e w' ⟨rfl, rfl⟩)
  go_ret3
  exact ⟨ret_sbb (by rw [HR.out]) (by kernel_rfl) (by kernel_rfl), rfl⟩
theorem rFld_2_22 (w : World) : Calls Tryd.prog 51 #[.int .u8 2, .int .u8 22] w (FldRes 2 22 w) := by
  have HR := Lib.hid (show lets 2 22 = ⟨#[]⟩ from by kernel_rfl)
  have HO := Lib.hid (rOld_any 22 (by decide) w)
  rw [show rold 22 = ⟨#[32]⟩ from by kernel_rfl] at HO
  go_enter Tryd.func51, Tryd.ntmps51
  go_wp2_with (go_at_call 79; refine HO.out.mono ?_; rintro e w' ⟨rfl, rfl⟩)
  go_ret3
  exact ⟨ret_sbb (by rw [HR.out]) (by kernel_rfl) (by kernel_rfl), rfl⟩
theorem rFld_2_23 (w : World) : Calls Tryd.prog 51 #[.int .u8 2, .int .u8 23] w (FldRes 2 23 w) := by
  have HR := Lib.hid (show lets 2 23 = ⟨#[]⟩ from by kernel_rfl)
  have HO := Lib.hid (rOld_any 23 (by decide) w)
  rw [show rold 23 = ⟨#[32]⟩ from by kernel_rfl] at HO
  go_enter Tryd.func51, Tryd.ntmps51
  go_wp2_with (go_at_call 79; refine HO.out.mono ?_; rintro e w' ⟨rfl, rfl⟩)
  go_ret3
  exact ⟨ret_sbb (by rw [HR.out]) (by kernel_rfl) (by kernel_rfl), rfl⟩
theorem rFld_3_0 (w : World) : Calls Tryd.prog 51 #[.int .u8 3, .int .u8 0] w (FldRes 3 0 w) := by
  have HR := Lib.hid (show lets 3 0 = ⟨#[]⟩ from by kernel_rfl)
  have HO := Lib.hid (rOld_any 0 (by decide) w)
  rw [show rold 0 = ⟨#[32]⟩ from by kernel_rfl] at HO
  go_enter Tryd.func51, Tryd.ntmps51
  go_wp2_with (go_at_call 79; refine HO.out.mono ?_; rintro e w' ⟨rfl, rfl⟩)
  go_ret3
  exact ⟨ret_sbb (by rw [HR.out]) (by kernel_rfl) (by kernel_rfl), rfl⟩
theorem rFld_3_1 (w : World) : Calls Tryd.prog 51 #[.int .u8 3, .int .u8 1] w (FldRes 3 1 w) := by
  have HR := Lib.hid (show lets 3 1 = ⟨#[97]⟩ from by kernel_rfl)
  have HO := Lib.hid (rOld_any 1 (by decide) w)
  rw [show rold 1 = ⟨#[97]⟩ from by kernel_rfl] at HO
  go_enter Tryd.func51, Tryd.ntmps51
  go_wp2_with (go_at_call 79; refine HO.out.mono ?_; rintro e w' ⟨rfl, rfl⟩)
  go_ret3
  exact ⟨ret_sbb (by rw [HR.out]) (by kernel_rfl) (by kernel_rfl), rfl⟩
theorem rFld_3_2 (w : World) : Calls Tryd.prog 51 #[.int .u8 3, .int .u8 2] w (FldRes 3 2 w) := by
  have HR := Lib.hid (show lets 3 2 = ⟨#[97]⟩ from by kernel_rfl)
  have HO := Lib.hid (rOld_any 2 (by decide) w)
  rw [show rold 2 = ⟨#[97]⟩ from by kernel_rfl] at HO
  go_enter Tryd.func51, Tryd.ntmps51
  go_wp2_with (go_at_call 79; refine HO.out.mono ?_; rintro e w' ⟨rfl, rfl⟩)
  go_ret3
  exact ⟨ret_sbb (by rw [HR.out]) (by kernel_rfl) (by kernel_rfl), rfl⟩
theorem rFld_3_3 (w : World) : Calls Tryd.prog 51 #[.int .u8 3, .int .u8 3] w (FldRes 3 3 w) := by
  have HR := Lib.hid (show lets 3 3 = ⟨#[105, 107]⟩ from by kernel_rfl)
  have HO := Lib.hid (rOld_any 3 (by decide) w)
  rw [show rold 3 = ⟨#[105]⟩ from by kernel_rfl] at HO
  go_enter Tryd.func51, Tryd.ntmps51
  go_wp2_with (go_at_call 79; refine HO.out.mono ?_; rintro e w' ⟨rfl, rfl⟩)
  go_ret3
  exact ⟨ret_sbb (by rw [HR.out]) (by kernel_rfl) (by kernel_rfl), rfl⟩
theorem rFld_3_4 (w : World) : Calls Tryd.prog 51 #[.int .u8 3, .int .u8 4] w (FldRes 3 4 w) := by
  have HR := Lib.hid (show lets 3 4 = ⟨#[105]⟩ from by kernel_rfl)
  have HO := Lib.hid (rOld_any 4 (by decide) w)
  rw [show rold 4 = ⟨#[105]⟩ from by kernel_rfl] at HO
  go_enter Tryd.func51, Tryd.ntmps51
  go_wp2_with (go_at_call 79; refine HO.out.mono ?_; rintro e w' ⟨rfl, rfl⟩)
  go_ret3
  exact ⟨ret_sbb (by rw [HR.out]) (by kernel_rfl) (by kernel_rfl), rfl⟩
theorem rFld_3_5 (w : World) : Calls Tryd.prog 51 #[.int .u8 3, .int .u8 5] w (FldRes 3 5 w) := by
  have HR := Lib.hid (show lets 3 5 = ⟨#[105]⟩ from by kernel_rfl)
  have HO := Lib.hid (rOld_any 5 (by decide) w)
  rw [show rold 5 = ⟨#[105]⟩ from by kernel_rfl] at HO
  go_enter Tryd.func51, Tryd.ntmps51
  go_wp2_with (go_at_call 79; refine HO.out.mono ?_; rintro e w' ⟨rfl, rfl⟩)
  go_ret3
  exact ⟨ret_sbb (by rw [HR.out]) (by kernel_rfl) (by kernel_rfl), rfl⟩
theorem rFld_3_6 (w : World) : Calls Tryd.prog 51 #[.int .u8 3, .int .u8 6] w (FldRes 3 6 w) := by
  have HR := Lib.hid (show lets 3 6 = ⟨#[97, 109]⟩ from by kernel_rfl)
  have HO := Lib.hid (rOld_any 6 (by decide) w)
  rw [show rold 6 = ⟨#[97, 109]⟩ from by kernel_rfl] at HO
  go_enter Tryd.func51, Tryd.ntmps51
  go_wp2_with (go_at_call 79; refine HO.out.mono ?_; rintro e w' ⟨rfl, rfl⟩)
  go_ret3
  exact ⟨ret_sbb (by rw [HR.out]) (by kernel_rfl) (by kernel_rfl), rfl⟩
theorem rFld_3_7 (w : World) : Calls Tryd.prog 51 #[.int .u8 3, .int .u8 7] w (FldRes 3 7 w) := by
  have HR := Lib.hid (show lets 3 7 = ⟨#[97, 109]⟩ from by kernel_rfl)
  have HO := Lib.hid (rOld_any 7 (by decide) w)
  rw [show rold 7 = ⟨#[97, 109]⟩ from by kernel_rfl] at HO
  go_enter Tryd.func51, Tryd.ntmps51
  go_wp2_with (go_at_call 79; refine HO.out.mono ?_; rintro e w' ⟨rfl, rfl⟩)
  go_ret3
  exact ⟨ret_sbb (by rw [HR.out]) (by kernel_rfl) (by kernel_rfl), rfl⟩
theorem rFld_3_8 (w : World) : Calls Tryd.prog 51 #[.int .u8 3, .int .u8 8] w (FldRes 3 8 w) := by
  have HR := Lib.hid (show lets 3 8 = ⟨#[97, 105, 113]⟩ from by kernel_rfl)
  have HO := Lib.hid (rOld_any 8 (by decide) w)
  rw [show rold 8 = ⟨#[97, 105, 113]⟩ from by kernel_rfl] at HO
  go_enter Tryd.func51, Tryd.ntmps51
  go_wp2_with (go_at_call 79; refine HO.out.mono ?_; rintro e w' ⟨rfl, rfl⟩)
  go_ret3
  exact ⟨ret_sbb (by rw [HR.out]) (by kernel_rfl) (by kernel_rfl), rfl⟩
theorem rFld_3_9 (w : World) : Calls Tryd.prog 51 #[.int .u8 3, .int .u8 9] w (FldRes 3 9 w) := by
  have HR := Lib.hid (show lets 3 9 = ⟨#[97, 105, 113]⟩ from by kernel_rfl)
  have HO := Lib.hid (rOld_any 9 (by decide) w)
  rw [show rold 9 = ⟨#[97, 105, 113]⟩ from by kernel_rfl] at HO
  go_enter Tryd.func51, Tryd.ntmps51
  go_wp2_with (go_at_call 79; refine HO.out.mono ?_; rintro e w' ⟨rfl, rfl⟩)
  go_ret3
  exact ⟨ret_sbb (by rw [HR.out]) (by kernel_rfl) (by kernel_rfl), rfl⟩
theorem rFld_3_10 (w : World) : Calls Tryd.prog 51 #[.int .u8 3, .int .u8 10] w (FldRes 3 10 w) := by
  have HR := Lib.hid (show lets 3 10 = ⟨#[98]⟩ from by kernel_rfl)
  have HO := Lib.hid (rOld_any 10 (by decide) w)
  rw [show rold 10 = ⟨#[98]⟩ from by kernel_rfl] at HO
  go_enter Tryd.func51, Tryd.ntmps51
  go_wp2_with (go_at_call 79; refine HO.out.mono ?_; rintro e w' ⟨rfl, rfl⟩)
  go_ret3
  exact ⟨ret_sbb (by rw [HR.out]) (by kernel_rfl) (by kernel_rfl), rfl⟩
theorem rFld_3_11 (w : World) : Calls Tryd.prog 51 #[.int .u8 3, .int .u8 11] w (FldRes 3 11 w) := by
  have HR := Lib.hid (show lets 3 11 = ⟨#[111, 97, 105, 115, 112, 113]⟩ from by kernel_rfl)
  have HO := Lib.hid (rOld_any 11 (by decide) w)
  rw [show rold 11 = ⟨#[111, 97, 105, 115, 112, 113]⟩ from by kernel_rfl] at HO
  go_enter Tryd.func51, Tryd.ntmps51
  go_wp2_with (go_at_call 79; refine HO.out.mono ?_; rintro e w' ⟨rfl, rfl⟩)
  go_ret3
  exact ⟨ret_sbb (by rw [HR.out]) (by kernel_rfl) (by kernel_rfl), rfl⟩
theorem rFld_3_12 (w : World) : Calls Tryd.prog 51 #[.int .u8 3, .int .u8 12] w (FldRes 3 12 w) := by
  have HR := Lib.hid (show lets 3 12 = ⟨#[111]⟩ from by kernel_rfl)
  have HO := Lib.hid (rOld_any 12 (by decide) w)
  rw [show rold 12 = ⟨#[111]⟩ from by kernel_rfl] at HO
  go_enter Tryd.func51, Tryd.ntmps51
  go_wp2_with (go_at_call 79; refine HO.out.mono ?_; rintro e w' ⟨rfl, rfl⟩)
  go_ret3
  exact ⟨ret_sbb (by rw [HR.out]) (by kernel_rfl) (by kernel_rfl), rfl⟩
theorem rFld_3_13 (w : World) : Calls Tryd.prog 51 #[.int .u8 3, .int .u8 13] w (FldRes 3 13 w) := by
  have HR := Lib.hid (show lets 3 13 = ⟨#[111, 111, 112, 113, 122]⟩ from by kernel_rfl)
  have HO := Lib.hid (rOld_any 13 (by decide) w)
  rw [show rold 13 = ⟨#[111, 111, 112, 113]⟩ from by kernel_rfl] at HO
  go_enter Tryd.func51, Tryd.ntmps51
  go_wp2_with (go_at_call 79; refine HO.out.mono ?_; rintro e w' ⟨rfl, rfl⟩)
  go_ret3
  exact ⟨ret_sbb (by rw [HR.out]) (by kernel_rfl) (by kernel_rfl), rfl⟩
theorem rFld_3_14 (w : World) : Calls Tryd.prog 51 #[.int .u8 3, .int .u8 14] w (FldRes 3 14 w) := by
  have HR := Lib.hid (show lets 3 14 = ⟨#[99, 97, 105, 113, 109, 109, 116]⟩ from by kernel_rfl)
  have HO := Lib.hid (rOld_any 14 (by decide) w)
  rw [show rold 14 = ⟨#[99, 97, 105, 113, 109, 116]⟩ from by kernel_rfl] at HO
  go_enter Tryd.func51, Tryd.ntmps51
  go_wp2_with (go_at_call 79; refine HO.out.mono ?_; rintro e w' ⟨rfl, rfl⟩)
  go_ret3
  exact ⟨ret_sbb (by rw [HR.out]) (by kernel_rfl) (by kernel_rfl), rfl⟩
theorem rFld_3_15 (w : World) : Calls Tryd.prog 51 #[.int .u8 3, .int .u8 15] w (FldRes 3 15 w) := by
  have HR := Lib.hid (show lets 3 15 = ⟨#[99, 97, 109]⟩ from by kernel_rfl)
  have HO := Lib.hid (rOld_any 15 (by decide) w)
  rw [show rold 15 = ⟨#[99, 97, 109]⟩ from by kernel_rfl] at HO
  go_enter Tryd.func51, Tryd.ntmps51
  go_wp2_with (go_at_call 79; refine HO.out.mono ?_; rintro e w' ⟨rfl, rfl⟩)
  go_ret3
  exact ⟨ret_sbb (by rw [HR.out]) (by kernel_rfl) (by kernel_rfl), rfl⟩
theorem rFld_3_16 (w : World) : Calls Tryd.prog 51 #[.int .u8 3, .int .u8 16] w (FldRes 3 16 w) := by
  have HR := Lib.hid (show lets 3 16 = ⟨#[99, 97, 105, 113, 109, 116]⟩ from by kernel_rfl)
  have HO := Lib.hid (rOld_any 16 (by decide) w)
  rw [show rold 16 = ⟨#[99, 97, 105, 113, 109, 116]⟩ from by kernel_rfl] at HO
  go_enter Tryd.func51, Tryd.ntmps51
  go_wp2_with (go_at_call 79; refine HO.out.mono ?_; rintro e w' ⟨rfl, rfl⟩)
  go_ret3
  exact ⟨ret_sbb (by rw [HR.out]) (by kernel_rfl) (by kernel_rfl), rfl⟩
theorem rFld_3_17 (w : World) : Calls Tryd.prog 51 #[.int .u8 3, .int .u8 17] w (FldRes 3 17 w) := by
  have HR := Lib.hid (show lets 3 17 = ⟨#[99, 97, 109]⟩ from by kernel_rfl)
  have HO := Lib.hid (rOld_any 17 (by decide) w)
  rw [show rold 17 = ⟨#[99, 97, 109]⟩ from by kernel_rfl] at HO
  go_enter Tryd.func51, Tryd.ntmps51
  go_wp2_with (go_at_call 79; refine HO.out.mono ?_; rintro e w' ⟨rfl, rfl⟩)
  go_ret3
  exact ⟨ret_sbb (by rw [HR.out]) (by kernel_rfl) (by kernel_rfl), rfl⟩
theorem rFld_3_18 (w : World) : Calls Tryd.prog 51 #[.int .u8 3, .int .u8 18] w (FldRes 3 18 w) := by
  have HR := Lib.hid (show lets 3 18 = ⟨#[99, 97, 109, 122]⟩ from by kernel_rfl)
  have HO := Lib.hid (rOld_any 18 (by decide) w)
  rw [show rold 18 = ⟨#[99, 97, 109]⟩ from by kernel_rfl] at HO
  go_enter Tryd.func51, Tryd.ntmps51
  go_wp2_with (go_at_call 79; refine HO.out.mono ?_; rintro e w' ⟨rfl, rfl⟩)
  go_ret3
  exact ⟨ret_sbb (by rw [HR.out]) (by kernel_rfl) (by kernel_rfl), rfl⟩
theorem rFld_3_19 (w : World) : Calls Tryd.prog 51 #[.int .u8 3, .int .u8 19] w (FldRes 3 19 w) := by
  have HR := Lib.hid (show lets 3 19 = ⟨#[99]⟩ from by kernel_rfl)
  have HO := Lib.hid (rOld_any 19 (by decide) w)
  rw [show rold 19 = ⟨#[99]⟩ from by kernel_rfl] at HO
  go_enter Tryd.func51, Tryd.ntmps51
  go_wp2_with (go_at_call 79; refine HO.out.mono ?_; rintro e w' ⟨rfl, rfl⟩)
  go_ret3
  exact ⟨ret_sbb (by rw [HR.out]) (by kernel_rfl) (by kernel_rfl), rfl⟩
theorem rFld_3_20 (w : World) : Calls Tryd.prog 51 #[.int .u8 3, .int .u8 20] w (FldRes 3 20 w) := by
  have HR := Lib.hid (show lets 3 20 = ⟨#[116]⟩ from by kernel_rfl)
  have HO := Lib.hid (rOld_any 20 (by decide) w)
  rw [show rold 20 = ⟨#[116]⟩ from by kernel_rfl] at HO
  go_enter Tryd.func51, Tryd.ntmps51
  go_wp2_with (go_at_call 79; refine HO.out.mono ?_; rintro e w' ⟨rfl, rfl⟩)
  go_ret3
  exact ⟨ret_sbb (by rw [HR.out]) (by kernel_rfl) (by kernel_rfl), rfl⟩
theorem rFld_3_21 (w : World) : Calls Tryd.prog 51 #[.int .u8 3, .int .u8 21] w (FldRes 3 21 w) := by
  have HR := Lib.hid (show lets 3 21 = ⟨#[97, 97, 109]⟩ from by kernel_rfl)
  have HO := Lib.hid (rOld_any 21 (by decide) w)
  rw [show rold 21 = ⟨#[32]⟩ from by kernel_rfl] at HO
  go_enter Tryd.func51, Tryd.ntmps51
  go_wp2_with (go_at_call 79; refine HO.out.mono ?_; rintro e w' ⟨rfl, rfl⟩)
  go_ret3
  exact ⟨ret_sbb (by rw [HR.out]) (by kernel_rfl) (by kernel_rfl), rfl⟩
theorem rFld_3_22 (w : World) : Calls Tryd.prog 51 #[.int .u8 3, .int .u8 22] w (FldRes 3 22 w) := by
  have HR := Lib.hid (show lets 3 22 = ⟨#[97]⟩ from by kernel_rfl)
  have HO := Lib.hid (rOld_any 22 (by decide) w)
  rw [show rold 22 = ⟨#[32]⟩ from by kernel_rfl] at HO
  go_enter Tryd.func51, Tryd.ntmps51
  go_wp2_with (go_at_call 79; refine HO.out.mono ?_; rintro e w' ⟨rfl, rfl⟩)
  go_ret3
  exact ⟨ret_sbb (by rw [HR.out]) (by kernel_rfl) (by kernel_rfl), rfl⟩
theorem rFld_3_23 (w : World) : Calls Tryd.prog 51 #[.int .u8 3, .int .u8 23] w (FldRes 3 23 w) := by
  have HR := Lib.hid (show lets 3 23 = ⟨#[105, 107]⟩ from by kernel_rfl)
  have HO := Lib.hid (rOld_any 23 (by decide) w)
  rw [show rold 23 = ⟨#[32]⟩ from by kernel_rfl] at HO
  go_enter Tryd.func51, Tryd.ntmps51
  go_wp2_with (go_at_call 79; refine HO.out.mono ?_; rintro e w' ⟨rfl, rfl⟩)
  go_ret3
  exact ⟨ret_sbb (by rw [HR.out]) (by kernel_rfl) (by kernel_rfl), rfl⟩

theorem rFields_any (v k : Nat) (hv : v < 256) (hk : k < 256) (w : World) : Calls Tryd.prog 51 #[.int .u8 v, .int .u8 k] w (FldRes v k w) := by
  by_cases h0 : v < 1
  · obtain rfl : v = 0 := by omega
    have HR := Lib.hid (lets_out 0 k (by omega))
    have HT := Lib.hid (show tall 0 k = false from by unfold tall; rw [HR.out]; rfl)
    go_enter Tryd.func51, Tryd.ntmps51
    go_wp2
    go_ret3
    exact ⟨ret_sbb (by rw [HR.out]) (by rw [HT.out]; rfl) (by rw [HT.out]), rfl⟩
  by_cases h3 : 3 < v
  · have HR := Lib.hid (lets_out v k (by omega))
    have HT := Lib.hid (show tall v k = false from by unfold tall; rw [HR.out]; rfl)
    have h0' : 1 ≤ v := by omega
    clear h0
    go_enter Tryd.func51, Tryd.ntmps51
    go_wp2
    go_ret3
    exact ⟨ret_sbb (by rw [HR.out]) (by rw [HT.out]; rfl) (by rw [HT.out]), rfl⟩
  obtain rfl | rfl | rfl : v = 1 ∨ v = 2 ∨ v = 3 := by omega
  · by_cases h : k < 24
    · obtain rfl | rfl | rfl | rfl | rfl | rfl | rfl | rfl | rfl | rfl | rfl | rfl | rfl | rfl | rfl | rfl | rfl | rfl | rfl | rfl | rfl | rfl | rfl | rfl : k = 0 ∨ k = 1 ∨ k = 2 ∨ k = 3 ∨ k = 4 ∨ k = 5 ∨ k = 6 ∨ k = 7 ∨ k = 8 ∨ k = 9 ∨ k = 10 ∨ k = 11 ∨ k = 12 ∨ k = 13 ∨ k = 14 ∨ k = 15 ∨ k = 16 ∨ k = 17 ∨ k = 18 ∨ k = 19 ∨ k = 20 ∨ k = 21 ∨ k = 22 ∨ k = 23 := by omega
      · exact rFld_1_0 w
      · exact rFld_1_1 w
      · exact rFld_1_2 w
      · exact rFld_1_3 w
      · exact rFld_1_4 w
      · exact rFld_1_5 w
      · exact rFld_1_6 w
      · exact rFld_1_7 w
      · exact rFld_1_8 w
      · exact rFld_1_9 w
      · exact rFld_1_10 w
      · exact rFld_1_11 w
      · exact rFld_1_12 w
      · exact rFld_1_13 w
      · exact rFld_1_14 w
      · exact rFld_1_15 w
      · exact rFld_1_16 w
      · exact rFld_1_17 w
      · exact rFld_1_18 w
      · exact rFld_1_19 w
      · exact rFld_1_20 w
      · exact rFld_1_21 w
      · exact rFld_1_22 w
      · exact rFld_1_23 w
    · have HR := Lib.hid (lets_out 1 k (by omega))
      have HT := Lib.hid (show tall 1 k = false from by unfold tall; rw [HR.out]; rfl)
      have HO := Lib.hid (rOld_any k hk w)
      rw [rold_out k (by omega)] at HO
      have f3 : ((k : Int) == 3) = false := beq_eq_false_iff_ne.2 (by omega)
      have f13 : ((k : Int) == 13) = false := beq_eq_false_iff_ne.2 (by omega)
      have f14 : ((k : Int) == 14) = false := beq_eq_false_iff_ne.2 (by omega)
      have f18 : ((k : Int) == 18) = false := beq_eq_false_iff_ne.2 (by omega)
      have f21 : ((k : Int) == 21) = false := beq_eq_false_iff_ne.2 (by omega)
      have f22 : ((k : Int) == 22) = false := beq_eq_false_iff_ne.2 (by omega)
      have f23 : ((k : Int) == 23) = false := beq_eq_false_iff_ne.2 (by omega)
      clear h h0 h3
      go_enter Tryd.func51, Tryd.ntmps51
      go_wp2_with (go_at_call 79; refine HO.out.mono ?_; rintro e w' ⟨rfl, rfl⟩)
      go_ret3
      exact ⟨ret_sbb (by rw [HR.out]) (by rw [HT.out]; rfl) (by rw [HT.out]), rfl⟩
  · by_cases h : k < 24
    · obtain rfl | rfl | rfl | rfl | rfl | rfl | rfl | rfl | rfl | rfl | rfl | rfl | rfl | rfl | rfl | rfl | rfl | rfl | rfl | rfl | rfl | rfl | rfl | rfl : k = 0 ∨ k = 1 ∨ k = 2 ∨ k = 3 ∨ k = 4 ∨ k = 5 ∨ k = 6 ∨ k = 7 ∨ k = 8 ∨ k = 9 ∨ k = 10 ∨ k = 11 ∨ k = 12 ∨ k = 13 ∨ k = 14 ∨ k = 15 ∨ k = 16 ∨ k = 17 ∨ k = 18 ∨ k = 19 ∨ k = 20 ∨ k = 21 ∨ k = 22 ∨ k = 23 := by omega
      · exact rFld_2_0 w
      · exact rFld_2_1 w
      · exact rFld_2_2 w
      · exact rFld_2_3 w
      · exact rFld_2_4 w
      · exact rFld_2_5 w
      · exact rFld_2_6 w
      · exact rFld_2_7 w
      · exact rFld_2_8 w
      · exact rFld_2_9 w
      · exact rFld_2_10 w
      · exact rFld_2_11 w
      · exact rFld_2_12 w
      · exact rFld_2_13 w
      · exact rFld_2_14 w
      · exact rFld_2_15 w
      · exact rFld_2_16 w
      · exact rFld_2_17 w
      · exact rFld_2_18 w
      · exact rFld_2_19 w
      · exact rFld_2_20 w
      · exact rFld_2_21 w
      · exact rFld_2_22 w
      · exact rFld_2_23 w
    · have HR := Lib.hid (lets_out 2 k (by omega))
      have HT := Lib.hid (show tall 2 k = false from by unfold tall; rw [HR.out]; rfl)
      have HO := Lib.hid (rOld_any k hk w)
      rw [rold_out k (by omega)] at HO
      have f3 : ((k : Int) == 3) = false := beq_eq_false_iff_ne.2 (by omega)
      have f13 : ((k : Int) == 13) = false := beq_eq_false_iff_ne.2 (by omega)
      have f14 : ((k : Int) == 14) = false := beq_eq_false_iff_ne.2 (by omega)
      have f18 : ((k : Int) == 18) = false := beq_eq_false_iff_ne.2 (by omega)
      have f21 : ((k : Int) == 21) = false := beq_eq_false_iff_ne.2 (by omega)
      have f22 : ((k : Int) == 22) = false := beq_eq_false_iff_ne.2 (by omega)
      have f23 : ((k : Int) == 23) = false := beq_eq_false_iff_ne.2 (by omega)
      clear h h0 h3
      go_enter Tryd.func51, Tryd.ntmps51
      go_wp2_with (go_at_call 79; refine HO.out.mono ?_; rintro e w' ⟨rfl, rfl⟩)
      go_ret3
      exact ⟨ret_sbb (by rw [HR.out]) (by rw [HT.out]; rfl) (by rw [HT.out]), rfl⟩
  · by_cases h : k < 24
    · obtain rfl | rfl | rfl | rfl | rfl | rfl | rfl | rfl | rfl | rfl | rfl | rfl | rfl | rfl | rfl | rfl | rfl | rfl | rfl | rfl | rfl | rfl | rfl | rfl : k = 0 ∨ k = 1 ∨ k = 2 ∨ k = 3 ∨ k = 4 ∨ k = 5 ∨ k = 6 ∨ k = 7 ∨ k = 8 ∨ k = 9 ∨ k = 10 ∨ k = 11 ∨ k = 12 ∨ k = 13 ∨ k = 14 ∨ k = 15 ∨ k = 16 ∨ k = 17 ∨ k = 18 ∨ k = 19 ∨ k = 20 ∨ k = 21 ∨ k = 22 ∨ k = 23 := by omega
      · exact rFld_3_0 w
      · exact rFld_3_1 w
      · exact rFld_3_2 w
      · exact rFld_3_3 w
      · exact rFld_3_4 w
      · exact rFld_3_5 w
      · exact rFld_3_6 w
      · exact rFld_3_7 w
      · exact rFld_3_8 w
      · exact rFld_3_9 w
      · exact rFld_3_10 w
      · exact rFld_3_11 w
      · exact rFld_3_12 w
      · exact rFld_3_13 w
      · exact rFld_3_14 w
      · exact rFld_3_15 w
      · exact rFld_3_16 w
      · exact rFld_3_17 w
      · exact rFld_3_18 w
      · exact rFld_3_19 w
      · exact rFld_3_20 w
      · exact rFld_3_21 w
      · exact rFld_3_22 w
      · exact rFld_3_23 w
    · have HR := Lib.hid (lets_out 3 k (by omega))
      have HT := Lib.hid (show tall 3 k = false from by unfold tall; rw [HR.out]; rfl)
      have HO := Lib.hid (rOld_any k hk w)
      rw [rold_out k (by omega)] at HO
      have f3 : ((k : Int) == 3) = false := beq_eq_false_iff_ne.2 (by omega)
      have f13 : ((k : Int) == 13) = false := beq_eq_false_iff_ne.2 (by omega)
      have f14 : ((k : Int) == 14) = false := beq_eq_false_iff_ne.2 (by omega)
      have f18 : ((k : Int) == 18) = false := beq_eq_false_iff_ne.2 (by omega)
      have f21 : ((k : Int) == 21) = false := beq_eq_false_iff_ne.2 (by omega)
      have f22 : ((k : Int) == 22) = false := beq_eq_false_iff_ne.2 (by omega)
      have f23 : ((k : Int) == 23) = false := beq_eq_false_iff_ne.2 (by omega)
      clear h h0 h3
      go_enter Tryd.func51, Tryd.ntmps51
      go_wp2_with (go_at_call 79; refine HO.out.mono ?_; rintro e w' ⟨rfl, rfl⟩)
      go_ret3
      exact ⟨ret_sbb (by rw [HR.out]) (by rw [HT.out]; rfl) (by rw [HT.out]), rfl⟩

/-- the classes of a version of which the table and the document say the same -/
def goodL : List (Nat × Nat) := [(1, 97), (1, 105), (1, 111), (1, 99), (1, 109), (1, 122), (1, 112), (1, 113), (1, 115), (1, 98), (1, 116), (2, 97), (2, 105), (2, 111), (2, 99), (2, 109), (2, 122), (2, 112), (2, 107), (2, 113), (2, 115), (2, 98), (2, 116), (3, 97), (3, 105), (3, 111), (3, 99), (3, 109), (3, 122), (3, 112), (3, 107), (3, 113), (3, 115), (3, 98), (3, 116)]
theorem rBd_1_97 (w : World) : Calls Tryd.prog 52 #[.int .u8 1, .int .u8 97] w fun e w' => e = .returned (.tuple #[.int .i64 (bnd 1 97).low, .int .i64 (bnd 1 97).high, .bool true]) ∧ w = w' := by
  rw [show (bnd 1 97).low = 1 from by kernel_rfl, show (bnd 1 97).high = 64 from by kernel_rfl]
  go_enter Tryd.func52, Tryd.ntmps52
  go_wp2
  go_ret3
  exact ⟨rfl, rfl⟩
theorem rBd_1_105 (w : World) : Calls Tryd.prog 52 #[.int .u8 1, .int .u8 105] w fun e w' => e = .returned (.tuple #[.int .i64 (bnd 1 105).low, .int .i64 (bnd 1 105).high, .bool true]) ∧ w = w' := by
  rw [show (bnd 1 105).low = 1 from by kernel_rfl, show (bnd 1 105).high = 16 from by kernel_rfl]
  go_enter Tryd.func52, Tryd.ntmps52
  go_wp2
  go_ret3
  exact ⟨rfl, rfl⟩
theorem rBd_1_111 (w : World) : Calls Tryd.prog 52 #[.int .u8 1, .int .u8 111] w fun e w' => e = .returned (.tuple #[.int .i64 (bnd 1 111).low, .int .i64 (bnd 1 111).high, .bool true]) ∧ w = w' := by
  rw [show (bnd 1 111).low = 1 from by kernel_rfl, show (bnd 1 111).high = 1099511627776 from by kernel_rfl]
  go_enter Tryd.func52, Tryd.ntmps52
  go_wp2
  go_ret3
  exact ⟨rfl, rfl⟩
theorem rBd_1_99 (w : World) : Calls Tryd.prog 52 #[.int .u8 1, .int .u8 99] w fun e w' => e = .returned (.tuple #[.int .i64 (bnd 1 99).low, .int .i64 (bnd 1 99).high, .bool true]) ∧ w = w' := by
  rw [show (bnd 1 99).low = 1 from by kernel_rfl, show (bnd 1 99).high = 1099511627776 from by kernel_rfl]
  go_enter Tryd.func52, Tryd.ntmps52
  go_wp2
  go_ret3
  exact ⟨rfl, rfl⟩
theorem rBd_1_109 (w : World) : Calls Tryd.prog 52 #[.int .u8 1, .int .u8 109] w fun e w' => e = .returned (.tuple #[.int .i64 (bnd 1 109).low, .int .i64 (bnd 1 109).high, .bool true]) ∧ w = w' := by
  rw [show (bnd 1 109).low = 1 from by kernel_rfl, show (bnd 1 109).high = 11258999068426 from by kernel_rfl]
  go_enter Tryd.func52, Tryd.ntmps52
  go_wp2
  go_ret3
  exact ⟨rfl, rfl⟩
theorem rBd_1_122 (w : World) : Calls Tryd.prog 52 #[.int .u8 1, .int .u8 122] w fun e w' => e = .returned (.tuple #[.int .i64 (bnd 1 122).low, .int .i64 (bnd 1 122).high, .bool true]) ∧ w = w' := by
  rw [show (bnd 1 122).low = 0 from by kernel_rfl, show (bnd 1 122).high = 11258999068426 from by kernel_rfl]
  go_enter Tryd.func52, Tryd.ntmps52
  go_wp2
  go_ret3
  exact ⟨rfl, rfl⟩
theorem rBd_1_112 (w : World) : Calls Tryd.prog 52 #[.int .u8 1, .int .u8 112] w fun e w' => e = .returned (.tuple #[.int .i64 (bnd 1 112).low, .int .i64 (bnd 1 112).high, .bool true]) ∧ w = w' := by
  rw [show (bnd 1 112).low = 1 from by kernel_rfl, show (bnd 1 112).high = 10737418 from by kernel_rfl]
  go_enter Tryd.func52, Tryd.ntmps52
  go_wp2
  go_ret3
  exact ⟨rfl, rfl⟩
theorem rBd_1_113 (w : World) : Calls Tryd.prog 52 #[.int .u8 1, .int .u8 113] w fun e w' => e = .returned (.tuple #[.int .i64 (bnd 1 113).low, .int .i64 (bnd 1 113).high, .bool true]) ∧ w = w' := by
  rw [show (bnd 1 113).low = 1 from by kernel_rfl, show (bnd 1 113).high = 1048576 from by kernel_rfl]
  go_enter Tryd.func52, Tryd.ntmps52
  go_wp2
  go_ret3
  exact ⟨rfl, rfl⟩
theorem rBd_1_115 (w : World) : Calls Tryd.prog 52 #[.int .u8 1, .int .u8 115] w fun e w' => e = .returned (.tuple #[.int .i64 (bnd 1 115).low, .int .i64 (bnd 1 115).high, .bool true]) ∧ w = w' := by
  rw [show (bnd 1 115).low = 0 from by kernel_rfl, show (bnd 1 115).high = 1 from by kernel_rfl]
  go_enter Tryd.func52, Tryd.ntmps52
  go_wp2
  go_ret3
  exact ⟨rfl, rfl⟩
theorem rBd_1_98 (w : World) : Calls Tryd.prog 52 #[.int .u8 1, .int .u8 98] w fun e w' => e = .returned (.tuple #[.int .i64 (bnd 1 98).low, .int .i64 (bnd 1 98).high, .bool true]) ∧ w = w' := by
  rw [show (bnd 1 98).low = 0 from by kernel_rfl, show (bnd 1 98).high = 10 from by kernel_rfl]
  go_enter Tryd.func52, Tryd.ntmps52
  go_wp2
  go_ret3
  exact ⟨rfl, rfl⟩
theorem rBd_1_116 (w : World) : Calls Tryd.prog 52 #[.int .u8 1, .int .u8 116] w fun e w' => e = .returned (.tuple #[.int .i64 (bnd 1 116).low, .int .i64 (bnd 1 116).high, .bool true]) ∧ w = w' := by
  rw [show (bnd 1 116).low = 1 from by kernel_rfl, show (bnd 1 116).high = 109951162777 from by kernel_rfl]
  go_enter Tryd.func52, Tryd.ntmps52
  go_wp2
  go_ret3
  exact ⟨rfl, rfl⟩
theorem rBd_2_97 (w : World) : Calls Tryd.prog 52 #[.int .u8 2, .int .u8 97] w fun e w' => e = .returned (.tuple #[.int .i64 (bnd 2 97).low, .int .i64 (bnd 2 97).high, .bool true]) ∧ w = w' := by
  rw [show (bnd 2 97).low = 1 from by kernel_rfl, show (bnd 2 97).high = 64 from by kernel_rfl]
  go_enter Tryd.func52, Tryd.ntmps52
  go_wp2
  go_ret3
  exact ⟨rfl, rfl⟩
theorem rBd_2_105 (w : World) : Calls Tryd.prog 52 #[.int .u8 2, .int .u8 105] w fun e w' => e = .returned (.tuple #[.int .i64 (bnd 2 105).low, .int .i64 (bnd 2 105).high, .bool true]) ∧ w = w' := by
  rw [show (bnd 2 105).low = 1 from by kernel_rfl, show (bnd 2 105).high = 16 from by kernel_rfl]
  go_enter Tryd.func52, Tryd.ntmps52
  go_wp2
  go_ret3
  exact ⟨rfl, rfl⟩
theorem rBd_2_111 (w : World) : Calls Tryd.prog 52 #[.int .u8 2, .int .u8 111] w fun e w' => e = .returned (.tuple #[.int .i64 (bnd 2 111).low, .int .i64 (bnd 2 111).high, .bool true]) ∧ w = w' := by
  rw [show (bnd 2 111).low = 1 from by kernel_rfl, show (bnd 2 111).high = 1099511627776 from by kernel_rfl]
  go_enter Tryd.func52, Tryd.ntmps52
  go_wp2
  go_ret3
  exact ⟨rfl, rfl⟩
theorem rBd_2_99 (w : World) : Calls Tryd.prog 52 #[.int .u8 2, .int .u8 99] w fun e w' => e = .returned (.tuple #[.int .i64 (bnd 2 99).low, .int .i64 (bnd 2 99).high, .bool true]) ∧ w = w' := by
  rw [show (bnd 2 99).low = 1 from by kernel_rfl, show (bnd 2 99).high = 1099511627776 from by kernel_rfl]
  go_enter Tryd.func52, Tryd.ntmps52
  go_wp2
  go_ret3
  exact ⟨rfl, rfl⟩
theorem rBd_2_109 (w : World) : Calls Tryd.prog 52 #[.int .u8 2, .int .u8 109] w fun e w' => e = .returned (.tuple #[.int .i64 (bnd 2 109).low, .int .i64 (bnd 2 109).high, .bool true]) ∧ w = w' := by
  rw [show (bnd 2 109).low = 1 from by kernel_rfl, show (bnd 2 109).high = 1125899906842624 from by kernel_rfl]
  go_enter Tryd.func52, Tryd.ntmps52
  go_wp2
  go_ret3
  exact ⟨rfl, rfl⟩
theorem rBd_2_122 (w : World) : Calls Tryd.prog 52 #[.int .u8 2, .int .u8 122] w fun e w' => e = .returned (.tuple #[.int .i64 (bnd 2 122).low, .int .i64 (bnd 2 122).high, .bool true]) ∧ w = w' := by
  rw [show (bnd 2 122).low = 0 from by kernel_rfl, show (bnd 2 122).high = 1125899906842624 from by kernel_rfl]
  go_enter Tryd.func52, Tryd.ntmps52
  go_wp2
  go_ret3
  exact ⟨rfl, rfl⟩
theorem rBd_2_112 (w : World) : Calls Tryd.prog 52 #[.int .u8 2, .int .u8 112] w fun e w' => e = .returned (.tuple #[.int .i64 (bnd 2 112).low, .int .i64 (bnd 2 112).high, .bool true]) ∧ w = w' := by
  rw [show (bnd 2 112).low = 1 from by kernel_rfl, show (bnd 2 112).high = 1073741824 from by kernel_rfl]
  go_enter Tryd.func52, Tryd.ntmps52
  go_wp2
  go_ret3
  exact ⟨rfl, rfl⟩
theorem rBd_2_107 (w : World) : Calls Tryd.prog 52 #[.int .u8 2, .int .u8 107] w fun e w' => e = .returned (.tuple #[.int .i64 (bnd 2 107).low, .int .i64 (bnd 2 107).high, .bool true]) ∧ w = w' := by
  rw [show (bnd 2 107).low = 1 from by kernel_rfl, show (bnd 2 107).high = 1073741824 from by kernel_rfl]
  go_enter Tryd.func52, Tryd.ntmps52
  go_wp2
  go_ret3
  exact ⟨rfl, rfl⟩
theorem rBd_2_113 (w : World) : Calls Tryd.prog 52 #[.int .u8 2, .int .u8 113] w fun e w' => e = .returned (.tuple #[.int .i64 (bnd 2 113).low, .int .i64 (bnd 2 113).high, .bool true]) ∧ w = w' := by
  rw [show (bnd 2 113).low = 1 from by kernel_rfl, show (bnd 2 113).high = 1048576 from by kernel_rfl]
  go_enter Tryd.func52, Tryd.ntmps52
  go_wp2
  go_ret3
  exact ⟨rfl, rfl⟩
theorem rBd_2_115 (w : World) : Calls Tryd.prog 52 #[.int .u8 2, .int .u8 115] w fun e w' => e = .returned (.tuple #[.int .i64 (bnd 2 115).low, .int .i64 (bnd 2 115).high, .bool true]) ∧ w = w' := by
  rw [show (bnd 2 115).low = 0 from by kernel_rfl, show (bnd 2 115).high = 1 from by kernel_rfl]
  go_enter Tryd.func52, Tryd.ntmps52
  go_wp2
  go_ret3
  exact ⟨rfl, rfl⟩
theorem rBd_2_98 (w : World) : Calls Tryd.prog 52 #[.int .u8 2, .int .u8 98] w fun e w' => e = .returned (.tuple #[.int .i64 (bnd 2 98).low, .int .i64 (bnd 2 98).high, .bool true]) ∧ w = w' := by
  rw [show (bnd 2 98).low = 0 from by kernel_rfl, show (bnd 2 98).high = 1000 from by kernel_rfl]
  go_enter Tryd.func52, Tryd.ntmps52
  go_wp2
  go_ret3
  exact ⟨rfl, rfl⟩
theorem rBd_2_116 (w : World) : Calls Tryd.prog 52 #[.int .u8 2, .int .u8 116] w fun e w' => e = .returned (.tuple #[.int .i64 (bnd 2 116).low, .int .i64 (bnd 2 116).high, .bool true]) ∧ w = w' := by
  rw [show (bnd 2 116).low = 1 from by kernel_rfl, show (bnd 2 116).high = 109951162777 from by kernel_rfl]
  go_enter Tryd.func52, Tryd.ntmps52
  go_wp2
  go_ret3
  exact ⟨rfl, rfl⟩
theorem rBd_3_97 (w : World) : Calls Tryd.prog 52 #[.int .u8 3, .int .u8 97] w fun e w' => e = .returned (.tuple #[.int .i64 (bnd 3 97).low, .int .i64 (bnd 3 97).high, .bool true]) ∧ w = w' := by
  rw [show (bnd 3 97).low = 1 from by kernel_rfl, show (bnd 3 97).high = 64 from by kernel_rfl]
  go_enter Tryd.func52, Tryd.ntmps52
  go_wp2
  go_ret3
  exact ⟨rfl, rfl⟩
theorem rBd_3_105 (w : World) : Calls Tryd.prog 52 #[.int .u8 3, .int .u8 105] w fun e w' => e = .returned (.tuple #[.int .i64 (bnd 3 105).low, .int .i64 (bnd 3 105).high, .bool true]) ∧ w = w' := by
  rw [show (bnd 3 105).low = 1 from by kernel_rfl, show (bnd 3 105).high = 16 from by kernel_rfl]
  go_enter Tryd.func52, Tryd.ntmps52
  go_wp2
  go_ret3
  exact ⟨rfl, rfl⟩
theorem rBd_3_111 (w : World) : Calls Tryd.prog 52 #[.int .u8 3, .int .u8 111] w fun e w' => e = .returned (.tuple #[.int .i64 (bnd 3 111).low, .int .i64 (bnd 3 111).high, .bool true]) ∧ w = w' := by
  rw [show (bnd 3 111).low = 1 from by kernel_rfl, show (bnd 3 111).high = 1099511627776 from by kernel_rfl]
  go_enter Tryd.func52, Tryd.ntmps52
  go_wp2
  go_ret3
  exact ⟨rfl, rfl⟩
theorem rBd_3_99 (w : World) : Calls Tryd.prog 52 #[.int .u8 3, .int .u8 99] w fun e w' => e = .returned (.tuple #[.int .i64 (bnd 3 99).low, .int .i64 (bnd 3 99).high, .bool true]) ∧ w = w' := by
  rw [show (bnd 3 99).low = 1 from by kernel_rfl, show (bnd 3 99).high = 1099511627776 from by kernel_rfl]
  go_enter Tryd.func52, Tryd.ntmps52
  go_wp2
  go_ret3
  exact ⟨rfl, rfl⟩
theorem rBd_3_109 (w : World) : Calls Tryd.prog 52 #[.int .u8 3, .int .u8 109] w fun e w' => e = .returned (.tuple #[.int .i64 (bnd 3 109).low, .int .i64 (bnd 3 109).high, .bool true]) ∧ w = w' := by
  rw [show (bnd 3 109).low = 1 from by kernel_rfl, show (bnd 3 109).high = 1125899906842624 from by kernel_rfl]
  go_enter Tryd.func52, Tryd.ntmps52
  go_wp2
  go_ret3
  exact ⟨rfl, rfl⟩
theorem rBd_3_122 (w : World) : Calls Tryd.prog 52 #[.int .u8 3, .int .u8 122] w fun e w' => e = .returned (.tuple #[.int .i64 (bnd 3 122).low, .int .i64 (bnd 3 122).high, .bool true]) ∧ w = w' := by
  rw [show (bnd 3 122).low = 0 from by kernel_rfl, show (bnd 3 122).high = 1125899906842624 from by kernel_rfl]
  go_enter Tryd.func52, Tryd.ntmps52
  go_wp2
  go_ret3
  exact ⟨rfl, rfl⟩
theorem rBd_3_112 (w : World) : Calls Tryd.prog 52 #[.int .u8 3, .int .u8 112] w fun e w' => e = .returned (.tuple #[.int .i64 (bnd 3 112).low, .int .i64 (bnd 3 112).high, .bool true]) ∧ w = w' := by
  rw [show (bnd 3 112).low = 1 from by kernel_rfl, show (bnd 3 112).high = 1073741824 from by kernel_rfl]
  go_enter Tryd.func52, Tryd.ntmps52
  go_wp2
  go_ret3
  exact ⟨rfl, rfl⟩
theorem rBd_3_107 (w : World) : Calls Tryd.prog 52 #[.int .u8 3, .int .u8 107] w fun e w' => e = .returned (.tuple #[.int .i64 (bnd 3 107).low, .int .i64 (bnd 3 107).high, .bool true]) ∧ w = w' := by
  rw [show (bnd 3 107).low = 1 from by kernel_rfl, show (bnd 3 107).high = 1073741824 from by kernel_rfl]
  go_enter Tryd.func52, Tryd.ntmps52
  go_wp2
  go_ret3
  exact ⟨rfl, rfl⟩
theorem rBd_3_113 (w : World) : Calls Tryd.prog 52 #[.int .u8 3, .int .u8 113] w fun e w' => e = .returned (.tuple #[.int .i64 (bnd 3 113).low, .int .i64 (bnd 3 113).high, .bool true]) ∧ w = w' := by
  rw [show (bnd 3 113).low = 1 from by kernel_rfl, show (bnd 3 113).high = 1048576 from by kernel_rfl]
  go_enter Tryd.func52, Tryd.ntmps52
  go_wp2
  go_ret3
  exact ⟨rfl, rfl⟩
theorem rBd_3_115 (w : World) : Calls Tryd.prog 52 #[.int .u8 3, .int .u8 115] w fun e w' => e = .returned (.tuple #[.int .i64 (bnd 3 115).low, .int .i64 (bnd 3 115).high, .bool true]) ∧ w = w' := by
  rw [show (bnd 3 115).low = 1 from by kernel_rfl, show (bnd 3 115).high = 2 from by kernel_rfl]
  go_enter Tryd.func52, Tryd.ntmps52
  go_wp2
  go_ret3
  exact ⟨rfl, rfl⟩
theorem rBd_3_98 (w : World) : Calls Tryd.prog 52 #[.int .u8 3, .int .u8 98] w fun e w' => e = .returned (.tuple #[.int .i64 (bnd 3 98).low, .int .i64 (bnd 3 98).high, .bool true]) ∧ w = w' := by
  rw [show (bnd 3 98).low = 0 from by kernel_rfl, show (bnd 3 98).high = 1000 from by kernel_rfl]
  go_enter Tryd.func52, Tryd.ntmps52
  go_wp2
  go_ret3
  exact ⟨rfl, rfl⟩
theorem rBd_3_116 (w : World) : Calls Tryd.prog 52 #[.int .u8 3, .int .u8 116] w fun e w' => e = .returned (.tuple #[.int .i64 (bnd 3 116).low, .int .i64 (bnd 3 116).high, .bool true]) ∧ w = w' := by
  rw [show (bnd 3 116).low = 1 from by kernel_rfl, show (bnd 3 116).high = 1099511627776 from by kernel_rfl]
  go_enter Tryd.func52, Tryd.ntmps52
  go_wp2
  go_ret3
  exact ⟨rfl, rfl⟩

theorem rBound_any (v c : Nat) (h : (v, c) ∈ goodL) (w : World) : Calls Tryd.prog 52 #[.int .u8 v, .int .u8 c] w fun e w' => e = .returned (.tuple #[.int .i64 (bnd v c).low, .int .i64 (bnd v c).high, .bool true]) ∧ w = w' := by
  simp only [goodL, List.mem_cons, Prod.mk.injEq, List.not_mem_nil, or_false] at h
  rcases h with ⟨rfl, rfl⟩ | ⟨rfl, rfl⟩ | ⟨rfl, rfl⟩ | ⟨rfl, rfl⟩ | ⟨rfl, rfl⟩ | ⟨rfl, rfl⟩ | ⟨rfl, rfl⟩ | ⟨rfl, rfl⟩ | ⟨rfl, rfl⟩ | ⟨rfl, rfl⟩ | ⟨rfl, rfl⟩ | ⟨rfl, rfl⟩ | ⟨rfl, rfl⟩ | ⟨rfl, rfl⟩ | ⟨rfl, rfl⟩ | ⟨rfl, rfl⟩ | ⟨rfl, rfl⟩ | ⟨rfl, rfl⟩ | ⟨rfl, rfl⟩ | ⟨rfl, rfl⟩ | ⟨rfl, rfl⟩ | ⟨rfl, rfl⟩ | ⟨rfl, rfl⟩ | ⟨rfl, rfl⟩ | ⟨rfl, rfl⟩ | ⟨rfl, rfl⟩ | ⟨rfl, rfl⟩ | ⟨rfl, rfl⟩ | ⟨rfl, rfl⟩ | ⟨rfl, rfl⟩ | ⟨rfl, rfl⟩ | ⟨rfl, rfl⟩ | ⟨rfl, rfl⟩ | ⟨rfl, rfl⟩ | ⟨rfl, rfl⟩
  · exact rBd_1_97 w
  · exact rBd_1_105 w
  · exact rBd_1_111 w
  · exact rBd_1_99 w
  · exact rBd_1_109 w
  · exact rBd_1_122 w
  · exact rBd_1_112 w
  · exact rBd_1_113 w
  · exact rBd_1_115 w
  · exact rBd_1_98 w
  · exact rBd_1_116 w
  · exact rBd_2_97 w
  · exact rBd_2_105 w
  · exact rBd_2_111 w
  · exact rBd_2_99 w
  · exact rBd_2_109 w
  · exact rBd_2_122 w
  · exact rBd_2_112 w
  · exact rBd_2_107 w
  · exact rBd_2_113 w
  · exact rBd_2_115 w
  · exact rBd_2_98 w
  · exact rBd_2_116 w
  · exact rBd_3_97 w
  · exact rBd_3_105 w
  · exact rBd_3_111 w
  · exact rBd_3_99 w
  · exact rBd_3_109 w
  · exact rBd_3_122 w
  · exact rBd_3_112 w
  · exact rBd_3_107 w
  · exact rBd_3_113 w
  · exact rBd_3_115 w
  · exact rBd_3_98 w
  · exact rBd_3_116 w

/-- each letter of a table's row is such a class -/
def lettersGood (v : Nat) (s : ByteArray) : Bool := (List.range s.size).all fun j => goodL.contains (v, byteAt s j)
theorem lets_good (v k : Nat) (j : Nat) (hj : j < (lets v k).size) : (v, byteAt (lets v k) j) ∈ goodL := by
  have h := ev_all (p := fun r => lettersGood 1 r.f1 && lettersGood 2 r.f2 && lettersGood 3 r.f3) (by decide +kernel) (by decide +kernel) k
  simp only [Bool.and_eq_true] at h
  have hv : lettersGood v (lets v k) = true := by
    unfold lets
    split
    · rename_i e; subst e; exact h.1.1
    · split
      · rename_i e; subst e; exact h.1.2
      · split
        · rename_i e; subst e; exact h.2
        · rfl
  unfold lettersGood at hv
  have := List.all_eq_true.1 hv j (List.mem_range.2 hj)
  exact List.contains_iff_mem.1 this
theorem asks_good (k : Nat) (j : Nat) (hj : j < (asks k).size) : (3, byteAt (asks k) j) ∈ goodL := by
  have h := cm_all (p := fun r => lettersGood 3 r.fields) (by decide +kernel) (by decide +kernel) k
  unfold lettersGood at h
  have := List.all_eq_true.1 h j (List.mem_range.2 hj)
  exact List.contains_iff_mem.1 this

end Go.Proofs.YtefkfjbdmglkjaaDoor.Schema
