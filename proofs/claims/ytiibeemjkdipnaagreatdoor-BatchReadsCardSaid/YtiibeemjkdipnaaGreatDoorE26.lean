import Derived.Test.YtiibeemjkdipnaaGreatDoorE22
import Derived.Outline
import Derived.Deep.RegionHeld3
import Derived.Deep.DeepCutAuto
/-
  The document's own fields and bounds.
-/
namespace Go.Proofs.YtiibeemjkdipnaaGreatDoor.Schema
open Go Go.RowKit

/-- the fields of a kind in version 1; a blank: there is no such kind -/
def rold (k : Nat) : ByteArray := if tall 1 k then lets 1 k else ⟨#[32]⟩
theorem rold_out (k : Nat) (h : ¬ k < 21) : rold k = ⟨#[32]⟩ := by
  unfold rold
  have ht : tall 1 k = false := by
    by_cases h2 : k < 24
    · have : k = 21 ∨ k = 22 ∨ k = 23 := by omega
      rcases this with rfl | rfl | rfl <;> decide +kernel
    · unfold tall; rw [lets_out 1 k (by omega)]; rfl
  rw [ht]; rfl

theorem rOld_0 (w : World) : Calls Tryz.prog 80 #[.int .u8 0] w fun e w' => e = .returned (.string (rold 0)) ∧ w = w' := by
  rw [show rold 0 = ⟨#[32]⟩ from by kernel_rfl]
  go_enter Tryz.func80, Tryz.ntmps80
  go_wp2
  go_ret
  exact ⟨rfl, rfl⟩
theorem rOld_1 (w : World) : Calls Tryz.prog 80 #[.int .u8 1] w fun e w' => e = .returned (.string (rold 1)) ∧ w = w' := by
  rw [show rold 1 = ⟨#[97]⟩ from by kernel_rfl]
  go_enter Tryz.func80, Tryz.ntmps80
  go_wp2
  go_ret
  exact ⟨rfl, rfl⟩
theorem rOld_2 (w : World) : Calls Tryz.prog 80 #[.int .u8 2] w fun e w' => e = .returned (.string (rold 2)) ∧ w = w' := by
  rw [show rold 2 = ⟨#[97]⟩ from by kernel_rfl]
  go_enter Tryz.func80, Tryz.ntmps80
  go_wp2
  go_ret
  exact ⟨rfl, rfl⟩
theorem rOld_3 (w : World) : Calls Tryz.prog 80 #[.int .u8 3] w fun e w' => e = .returned (.string (rold 3)) ∧ w = w' := by
  rw [show rold 3 = ⟨#[105]⟩ from by kernel_rfl]
  go_enter Tryz.func80, Tryz.ntmps80
  go_wp2
  go_ret
  exact ⟨rfl, rfl⟩
theorem rOld_4 (w : World) : Calls Tryz.prog 80 #[.int .u8 4] w fun e w' => e = .returned (.string (rold 4)) ∧ w = w' := by
  rw [show rold 4 = ⟨#[105]⟩ from by kernel_rfl]
  go_enter Tryz.func80, Tryz.ntmps80
  go_wp2
  go_ret
  exact ⟨rfl, rfl⟩
theorem rOld_5 (w : World) : Calls Tryz.prog 80 #[.int .u8 5] w fun e w' => e = .returned (.string (rold 5)) ∧ w = w' := by
  rw [show rold 5 = ⟨#[105]⟩ from by kernel_rfl]
  go_enter Tryz.func80, Tryz.ntmps80
  go_wp2
  go_ret
  exact ⟨rfl, rfl⟩
theorem rOld_6 (w : World) : Calls Tryz.prog 80 #[.int .u8 6] w fun e w' => e = .returned (.string (rold 6)) ∧ w = w' := by
  rw [show rold 6 = ⟨#[97, 109]⟩ from by kernel_rfl]
  go_enter Tryz.func80, Tryz.ntmps80
  go_wp2
  go_ret
  exact ⟨rfl, rfl⟩
theorem rOld_7 (w : World) : Calls Tryz.prog 80 #[.int .u8 7] w fun e w' => e = .returned (.string (rold 7)) ∧ w = w' := by
  rw [show rold 7 = ⟨#[97, 109]⟩ from by kernel_rfl]
  go_enter Tryz.func80, Tryz.ntmps80
  go_wp2
  go_ret
  exact ⟨rfl, rfl⟩
theorem rOld_8 (w : World) : Calls Tryz.prog 80 #[.int .u8 8] w fun e w' => e = .returned (.string (rold 8)) ∧ w = w' := by
  rw [show rold 8 = ⟨#[97, 105, 113]⟩ from by kernel_rfl]
  go_enter Tryz.func80, Tryz.ntmps80
  go_wp2
  go_ret
  exact ⟨rfl, rfl⟩
theorem rOld_9 (w : World) : Calls Tryz.prog 80 #[.int .u8 9] w fun e w' => e = .returned (.string (rold 9)) ∧ w = w' := by
  rw [show rold 9 = ⟨#[97, 105, 113]⟩ from by kernel_rfl]
  go_enter Tryz.func80, Tryz.ntmps80
  go_wp2
  go_ret
  exact ⟨rfl, rfl⟩
theorem rOld_10 (w : World) : Calls Tryz.prog 80 #[.int .u8 10] w fun e w' => e = .returned (.string (rold 10)) ∧ w = w' := by
  rw [show rold 10 = ⟨#[98]⟩ from by kernel_rfl]
  go_enter Tryz.func80, Tryz.ntmps80
  go_wp2
  go_ret
  exact ⟨rfl, rfl⟩
theorem rOld_11 (w : World) : Calls Tryz.prog 80 #[.int .u8 11] w fun e w' => e = .returned (.string (rold 11)) ∧ w = w' := by
  rw [show rold 11 = ⟨#[111, 97, 105, 115, 112, 113]⟩ from by kernel_rfl]
  go_enter Tryz.func80, Tryz.ntmps80
  go_wp2
  go_ret
  exact ⟨rfl, rfl⟩
theorem rOld_12 (w : World) : Calls Tryz.prog 80 #[.int .u8 12] w fun e w' => e = .returned (.string (rold 12)) ∧ w = w' := by
  rw [show rold 12 = ⟨#[111]⟩ from by kernel_rfl]
  go_enter Tryz.func80, Tryz.ntmps80
  go_wp2
  go_ret
  exact ⟨rfl, rfl⟩
theorem rOld_13 (w : World) : Calls Tryz.prog 80 #[.int .u8 13] w fun e w' => e = .returned (.string (rold 13)) ∧ w = w' := by
  rw [show rold 13 = ⟨#[111, 111, 112, 113]⟩ from by kernel_rfl]
  go_enter Tryz.func80, Tryz.ntmps80
  go_wp2
  go_ret
  exact ⟨rfl, rfl⟩
theorem rOld_14 (w : World) : Calls Tryz.prog 80 #[.int .u8 14] w fun e w' => e = .returned (.string (rold 14)) ∧ w = w' := by
  rw [show rold 14 = ⟨#[99, 97, 105, 113, 109, 116]⟩ from by kernel_rfl]
  go_enter Tryz.func80, Tryz.ntmps80
  go_wp2
  go_ret
  exact ⟨rfl, rfl⟩
theorem rOld_15 (w : World) : Calls Tryz.prog 80 #[.int .u8 15] w fun e w' => e = .returned (.string (rold 15)) ∧ w = w' := by
  rw [show rold 15 = ⟨#[99, 97, 109]⟩ from by kernel_rfl]
  go_enter Tryz.func80, Tryz.ntmps80
  go_wp2
  go_ret
  exact ⟨rfl, rfl⟩
theorem rOld_16 (w : World) : Calls Tryz.prog 80 #[.int .u8 16] w fun e w' => e = .returned (.string (rold 16)) ∧ w = w' := by
  rw [show rold 16 = ⟨#[99, 97, 105, 113, 109, 116]⟩ from by kernel_rfl]
  go_enter Tryz.func80, Tryz.ntmps80
  go_wp2
  go_ret
  exact ⟨rfl, rfl⟩
theorem rOld_17 (w : World) : Calls Tryz.prog 80 #[.int .u8 17] w fun e w' => e = .returned (.string (rold 17)) ∧ w = w' := by
  rw [show rold 17 = ⟨#[99, 97, 109]⟩ from by kernel_rfl]
  go_enter Tryz.func80, Tryz.ntmps80
  go_wp2
  go_ret
  exact ⟨rfl, rfl⟩
theorem rOld_18 (w : World) : Calls Tryz.prog 80 #[.int .u8 18] w fun e w' => e = .returned (.string (rold 18)) ∧ w = w' := by
  rw [show rold 18 = ⟨#[99, 97, 109]⟩ from by kernel_rfl]
  go_enter Tryz.func80, Tryz.ntmps80
  go_wp2
  go_ret
  exact ⟨rfl, rfl⟩
theorem rOld_19 (w : World) : Calls Tryz.prog 80 #[.int .u8 19] w fun e w' => e = .returned (.string (rold 19)) ∧ w = w' := by
  rw [show rold 19 = ⟨#[99]⟩ from by kernel_rfl]
  go_enter Tryz.func80, Tryz.ntmps80
  go_wp2
  go_ret
  exact ⟨rfl, rfl⟩
theorem rOld_20 (w : World) : Calls Tryz.prog 80 #[.int .u8 20] w fun e w' => e = .returned (.string (rold 20)) ∧ w = w' := by
  rw [show rold 20 = ⟨#[116]⟩ from by kernel_rfl]
  go_enter Tryz.func80, Tryz.ntmps80
  go_wp2
  go_ret
  exact ⟨rfl, rfl⟩
theorem rOld_any (k : Nat) (hk : k < 256) (w : World) : Calls Tryz.prog 80 #[.int .u8 k] w fun e w' => e = .returned (.string (rold k)) ∧ w = w' := by
  by_cases h : k < 21
  · obtain rfl | rfl | rfl | rfl | rfl | rfl | rfl | rfl | rfl | rfl | rfl | rfl | rfl | rfl | rfl | rfl | rfl | rfl | rfl | rfl | rfl : k = 0 ∨ k = 1 ∨ k = 2 ∨ k = 3 ∨ k = 4 ∨ k = 5 ∨ k = 6 ∨ k = 7 ∨ k = 8 ∨ k = 9 ∨ k = 10 ∨ k = 11 ∨ k = 12 ∨ k = 13 ∨ k = 14 ∨ k = 15 ∨ k = 16 ∨ k = 17 ∨ k = 18 ∨ k = 19 ∨ k = 20 := by omega
    · exact rOld_0 w
    · exact rOld_1 w
    · exact rOld_2 w
    · exact rOld_3 w
    · exact rOld_4 w
    · exact rOld_5 w
    · exact rOld_6 w
    · exact rOld_7 w
    · exact rOld_8 w
    · exact rOld_9 w
    · exact rOld_10 w
    · exact rOld_11 w
    · exact rOld_12 w
    · exact rOld_13 w
    · exact rOld_14 w
    · exact rOld_15 w
    · exact rOld_16 w
    · exact rOld_17 w
    · exact rOld_18 w
    · exact rOld_19 w
    · exact rOld_20 w
  · rw [rold_out k h]
    have f1 : ((k : Int) == 1) = false := beq_eq_false_iff_ne.2 (by omega)
    have f2 : ((k : Int) == 2) = false := beq_eq_false_iff_ne.2 (by omega)
    have f3 : ((k : Int) == 3) = false := beq_eq_false_iff_ne.2 (by omega)
    have f4 : ((k : Int) == 4) = false := beq_eq_false_iff_ne.2 (by omega)
    have f5 : ((k : Int) == 5) = false := beq_eq_false_iff_ne.2 (by omega)
    have f6 : ((k : Int) == 6) = false := beq_eq_false_iff_ne.2 (by omega)
    have f7 : ((k : Int) == 7) = false := beq_eq_false_iff_ne.2 (by omega)
    have f8 : ((k : Int) == 8) = false := beq_eq_false_iff_ne.2 (by omega)
    have f9 : ((k : Int) == 9) = false := beq_eq_false_iff_ne.2 (by omega)
    have f10 : ((k : Int) == 10) = false := beq_eq_false_iff_ne.2 (by omega)
    have f11 : ((k : Int) == 11) = false := beq_eq_false_iff_ne.2 (by omega)
    have f12 : ((k : Int) == 12) = false := beq_eq_false_iff_ne.2 (by omega)
    have f13 : ((k : Int) == 13) = false := beq_eq_false_iff_ne.2 (by omega)
    have f14 : ((k : Int) == 14) = false := beq_eq_false_iff_ne.2 (by omega)
    have f15 : ((k : Int) == 15) = false := beq_eq_false_iff_ne.2 (by omega)
    have f16 : ((k : Int) == 16) = false := beq_eq_false_iff_ne.2 (by omega)
    have f17 : ((k : Int) == 17) = false := beq_eq_false_iff_ne.2 (by omega)
    have f18 : ((k : Int) == 18) = false := beq_eq_false_iff_ne.2 (by omega)
    have f19 : ((k : Int) == 19) = false := beq_eq_false_iff_ne.2 (by omega)
    have f20 : ((k : Int) == 20) = false := beq_eq_false_iff_ne.2 (by omega)
    clear h
    go_enter Tryz.func80, Tryz.ntmps80
    go_wp2
    go_ret
    exact ⟨rfl, rfl⟩

theorem ret_sbb {s t : ByteArray} {a b c d : Bool} (h1 : s = t) (h2 : a = b) (h3 : c = d) : Ending.returned (.tuple #[.string s, .bool a, .bool c]) = .returned (.tuple #[.string t, .bool b, .bool d]) := by rw [h1, h2, h3]
def FldRes (v k : Nat) (w : World) (e : Ending) (w' : World) : Prop := e = .returned (.tuple #[.string (lets v k), .bool (tall v k && tru k), .bool (tall v k)]) ∧ w = w'

theorem rFld_1_0 (w : World) : Calls Tryz.prog 55 #[.int .u8 1, .int .u8 0] w (FldRes 1 0 w) := by
  have HR := Lib.hid (show lets 1 0 = ⟨#[]⟩ from by kernel_rfl)
  have HO := Lib.hid (rOld_any 0 (by decide) w)
  rw [show rold 0 = ⟨#[32]⟩ from by kernel_rfl] at HO
  go_enter Tryz.func55, Tryz.ntmps55
  go_wp2_with (go_at_call 80; refine HO.out.mono ?_; rintro e w' ⟨rfl, rfl⟩)
  go_ret3
  exact ⟨ret_sbb (by rw [HR.out]) (by kernel_rfl) (by kernel_rfl), rfl⟩
theorem rFld_1_1 (w : World) : Calls Tryz.prog 55 #[.int .u8 1, .int .u8 1] w (FldRes 1 1 w) := by
  have HR := Lib.hid (show lets 1 1 = ⟨#[97]⟩ from by kernel_rfl)
  have HO := Lib.hid (rOld_any 1 (by decide) w)
  rw [show rold 1 = ⟨#[97]⟩ from by kernel_rfl] at HO
  go_enter Tryz.func55, Tryz.ntmps55
  go_wp2_with (go_at_call 80; refine HO.out.mono ?_; rintro e w' ⟨rfl, rfl⟩)
  go_ret3
  exact ⟨ret_sbb (by rw [HR.out]) (by kernel_rfl) (by kernel_rfl), rfl⟩
theorem rFld_1_2 (w : World) : Calls Tryz.prog 55 #[.int .u8 1, .int .u8 2] w (FldRes 1 2 w) := by
  have HR := Lib.hid (show lets 1 2 = ⟨#[97]⟩ from by kernel_rfl)
  have HO := Lib.hid (rOld_any 2 (by decide) w)
  rw [show rold 2 = ⟨#[97]⟩ from by kernel_rfl] at HO
  go_enter Tryz.func55, Tryz.ntmps55
  go_wp2_with (go_at_call 80; refine HO.out.mono ?_; rintro e w' ⟨rfl, rfl⟩)
  go_ret3
  exact ⟨ret_sbb (by rw [HR.out]) (by kernel_rfl) (by kernel_rfl), rfl⟩
theorem rFld_1_3 (w : World) : Calls Tryz.prog 55 #[.int .u8 1, .int .u8 3] w (FldRes 1 3 w) := by
  have HR := Lib.hid (show lets 1 3 = ⟨#[105]⟩ from by kernel_rfl)
  have HO := Lib.hid (rOld_any 3 (by decide) w)
  rw [show rold 3 = ⟨#[105]⟩ from by kernel_rfl] at HO
  go_enter Tryz.func55, Tryz.ntmps55
  go_wp2_with (go_at_call 80; refine HO.out.mono ?_; rintro e w' ⟨rfl, rfl⟩)
  go_ret3
  exact ⟨ret_sbb (by rw [HR.out]) (by kernel_rfl) (by kernel_rfl), rfl⟩
theorem rFld_1_4 (w : World) : Calls Tryz.prog 55 #[.int .u8 1, .int .u8 4] w (FldRes 1 4 w) := by
  have HR := Lib.hid (show lets 1 4 = ⟨#[105]⟩ from by kernel_rfl)
  have HO := Lib.hid (rOld_any 4 (by decide) w)
  rw [show rold 4 = ⟨#[105]⟩ from by kernel_rfl] at HO
  go_enter Tryz.func55, Tryz.ntmps55
  go_wp2_with (go_at_call 80; refine HO.out.mono ?_; rintro e w' ⟨rfl, rfl⟩)
  go_ret3
  exact ⟨ret_sbb (by rw [HR.out]) (by kernel_rfl) (by kernel_rfl), rfl⟩
theorem rFld_1_5 (w : World) : Calls Tryz.prog 55 #[.int .u8 1, .int .u8 5] w (FldRes 1 5 w) := by
  have HR := Lib.hid (show lets 1 5 = ⟨#[105]⟩ from by kernel_rfl)
  have HO := Lib.hid (rOld_any 5 (by decide) w)
  rw [show rold 5 = ⟨#[105]⟩ from by kernel_rfl] at HO
  go_enter Tryz.func55, Tryz.ntmps55
  go_wp2_with (go_at_call 80; refine HO.out.mono ?_; rintro e w' ⟨rfl, rfl⟩)
  go_ret3
  exact ⟨ret_sbb (by rw [HR.out]) (by kernel_rfl) (by kernel_rfl), rfl⟩
theorem rFld_1_6 (w : World) : Calls Tryz.prog 55 #[.int .u8 1, .int .u8 6] w (FldRes 1 6 w) := by
  have HR := Lib.hid (show lets 1 6 = ⟨#[97, 109]⟩ from by kernel_rfl)
  have HO := Lib.hid (rOld_any 6 (by decide) w)
  rw [show rold 6 = ⟨#[97, 109]⟩ from by kernel_rfl] at HO
  go_enter Tryz.func55, Tryz.ntmps55
  go_wp2_with (go_at_call 80; refine HO.out.mono ?_; rintro e w' ⟨rfl, rfl⟩)
  go_ret3
  exact ⟨ret_sbb (by rw [HR.out]) (by kernel_rfl) (by kernel_rfl), rfl⟩
theorem rFld_1_7 (w : World) : Calls Tryz.prog 55 #[.int .u8 1, .int .u8 7] w (FldRes 1 7 w) := by
  have HR := Lib.hid (show lets 1 7 = ⟨#[97, 109]⟩ from by kernel_rfl)
  have HO := Lib.hid (rOld_any 7 (by decide) w)
  rw [show rold 7 = ⟨#[97, 109]⟩ from by kernel_rfl] at HO
  go_enter Tryz.func55, Tryz.ntmps55
  go_wp2_with (go_at_call 80; refine HO.out.mono ?_; rintro e w' ⟨rfl, rfl⟩)
  go_ret3
  exact ⟨ret_sbb (by rw [HR.out]) (by kernel_rfl) (by kernel_rfl), rfl⟩
theorem rFld_1_8 (w : World) : Calls Tryz.prog 55 #[.int .u8 1, .int .u8 8] w (FldRes 1 8 w) := by
  have HR := Lib.hid (show lets 1 8 = ⟨#[97, 105, 113]⟩ from by kernel_rfl)
  have HO := Lib.hid (rOld_any 8 (by decide) w)
  rw [show rold 8 = ⟨#[97, 105, 113]⟩ from by kernel_rfl] at HO
  go_enter Tryz.func55, Tryz.ntmps55
  go_wp2_with (go_at_call 80; refine HO.out.mono ?_; rintro e w' ⟨rfl, rfl⟩)
  go_ret3
  exact ⟨ret_sbb (by rw [HR.out]) (by kernel_rfl) (by kernel_rfl), rfl⟩
theorem rFld_1_9 (w : World) : Calls Tryz.prog 55 #[.int .u8 1, .int .u8 9] w (FldRes 1 9 w) := by
  have HR := Lib.hid (show lets 1 9 = ⟨#[97, 105, 113]⟩ from by kernel_rfl)
  have HO := Lib.hid (rOld_any 9 (by decide) w)
  rw [show rold 9 = ⟨#[97, 105, 113]⟩ from by kernel_rfl] at HO
  go_enter Tryz.func55, Tryz.ntmps55
  go_wp2_with (go_at_call 80; refine HO.out.mono ?_; rintro e w' ⟨rfl, rfl⟩)
  go_ret3
  exact ⟨ret_sbb (by rw [HR.out]) (by kernel_rfl) (by kernel_rfl), rfl⟩
theorem rFld_1_10 (w : World) : Calls Tryz.prog 55 #[.int .u8 1, .int .u8 10] w (FldRes 1 10 w) := by
  have HR := Lib.hid (show lets 1 10 = ⟨#[98]⟩ from by kernel_rfl)
  have HO := Lib.hid (rOld_any 10 (by decide) w)
  rw [show rold 10 = ⟨#[98]⟩ from by kernel_rfl] at HO
  go_enter Tryz.func55, Tryz.ntmps55
  go_wp2_with (go_at_call 80; refine HO.out.mono ?_; rintro e w' ⟨rfl, rfl⟩)
  go_ret3
  exact ⟨ret_sbb (by rw [HR.out]) (by kernel_rfl) (by kernel_rfl), rfl⟩
theorem rFld_1_11 (w : World) : Calls Tryz.prog 55 #[.int .u8 1, .int .u8 11] w (FldRes 1 11 w) := by
  have HR := Lib.hid (show lets 1 11 = ⟨#[111, 97, 105, 115, 112, 113]⟩ from by kernel_rfl)
  have HO := Lib.hid (rOld_any 11 (by decide) w)
  rw [show rold 11 = ⟨#[111, 97, 105, 115, 112, 113]⟩ from by kernel_rfl] at HO
  go_enter Tryz.func55, Tryz.ntmps55
  go_wp2_with (go_at_call 80; refine HO.out.mono ?_; rintro e w' ⟨rfl, rfl⟩)
  go_ret3
  exact ⟨ret_sbb (by rw [HR.out]) (by kernel_rfl) (by kernel_rfl), rfl⟩
theorem rFld_1_12 (w : World) : Calls Tryz.prog 55 #[.int .u8 1, .int .u8 12] w (FldRes 1 12 w) := by
  have HR := Lib.hid (show lets 1 12 = ⟨#[111]⟩ from by kernel_rfl)
  have HO := Lib.hid (rOld_any 12 (by decide) w)
  rw [show rold 12 = ⟨#[111]⟩ from by kernel_rfl] at HO
  go_enter Tryz.func55, Tryz.ntmps55
  go_wp2_with (go_at_call 80; refine HO.out.mono ?_; rintro e w' ⟨rfl, rfl⟩)
  go_ret3
  exact ⟨ret_sbb (by rw [HR.out]) (by kernel_rfl) (by kernel_rfl), rfl⟩
theorem rFld_1_13 (w : World) : Calls Tryz.prog 55 #[.int .u8 1, .int .u8 13] w (FldRes 1 13 w) := by
  have HR := Lib.hid (show lets 1 13 = ⟨#[111, 111, 112, 113]⟩ from by kernel_rfl)
  have HO := Lib.hid (rOld_any 13 (by decide) w)
  rw [show rold 13 = ⟨#[111, 111, 112, 113]⟩ from by kernel_rfl] at HO
  go_enter Tryz.func55, Tryz.ntmps55
  go_wp2_with (go_at_call 80; refine HO.out.mono ?_; rintro e w' ⟨rfl, rfl⟩)
  go_ret3
  exact ⟨ret_sbb (by rw [HR.out]) (by kernel_rfl) (by kernel_rfl), rfl⟩
theorem rFld_1_14 (w : World) : Calls Tryz.prog 55 #[.int .u8 1, .int .u8 14] w (FldRes 1 14 w) := by
  have HR := Lib.hid (show lets 1 14 = ⟨#[99, 97, 105, 113, 109, 116]⟩ from by kernel_rfl)
  have HO := Lib.hid (rOld_any 14 (by decide) w)
  rw [show rold 14 = ⟨#[99, 97, 105, 113, 109, 116]⟩ from by kernel_rfl] at HO
  go_enter Tryz.func55, Tryz.ntmps55
  go_wp2_with (go_at_call 80; refine HO.out.mono ?_; rintro e w' ⟨rfl, rfl⟩)
  go_ret3
  exact ⟨ret_sbb (by rw [HR.out]) (by kernel_rfl) (by kernel_rfl), rfl⟩
theorem rFld_1_15 (w : World) : Calls Tryz.prog 55 #[.int .u8 1, .int .u8 15] w (FldRes 1 15 w) := by
  have HR := Lib.hid (show lets 1 15 = ⟨#[99, 97, 109]⟩ from by kernel_rfl)
  have HO := Lib.hid (rOld_any 15 (by decide) w)
  rw [show rold 15 = ⟨#[99, 97, 109]⟩ from by kernel_rfl] at HO
  go_enter Tryz.func55, Tryz.ntmps55
  go_wp2_with (go_at_call 80; refine HO.out.mono ?_; rintro e w' ⟨rfl, rfl⟩)
  go_ret3
  exact ⟨ret_sbb (by rw [HR.out]) (by kernel_rfl) (by kernel_rfl), rfl⟩
theorem rFld_1_16 (w : World) : Calls Tryz.prog 55 #[.int .u8 1, .int .u8 16] w (FldRes 1 16 w) := by
  have HR := Lib.hid (show lets 1 16 = ⟨#[99, 97, 105, 113, 109, 116]⟩ from by kernel_rfl)
  have HO := Lib.hid (rOld_any 16 (by decide) w)
  rw [show rold 16 = ⟨#[99, 97, 105, 113, 109, 116]⟩ from by kernel_rfl] at HO
  go_enter Tryz.func55, Tryz.ntmps55
  go_wp2_with (go_at_call 80; refine HO.out.mono ?_; rintro e w' ⟨rfl, rfl⟩)
  go_ret3
  exact ⟨ret_sbb (by rw [HR.out]) (by kernel_rfl) (by kernel_rfl), rfl⟩
theorem rFld_1_17 (w : World) : Calls Tryz.prog 55 #[.int .u8 1, .int .u8 17] w (FldRes 1 17 w) := by
  have HR := Lib.hid (show lets 1 17 = ⟨#[99, 97, 109]⟩ from by kernel_rfl)
  have HO := Lib.hid (rOld_any 17 (by decide) w)
  rw [show rold 17 = ⟨#[99, 97, 109]⟩ from by kernel_rfl] at HO
  go_enter Tryz.func55, Tryz.ntmps55
  go_wp2_with (go_at_call 80; refine HO.out.mono ?_; rintro e w' ⟨rfl, rfl⟩)
  go_ret3
  exact ⟨ret_sbb (by rw [HR.out]) (by kernel_rfl) (by kernel_rfl), rfl⟩
theorem rFld_1_18 (w : World) : Calls Tryz.prog 55 #[.int .u8 1, .int .u8 18] w (FldRes 1 18 w) := by
  have HR := Lib.hid (show lets 1 18 = ⟨#[99, 97, 109]⟩ from by kernel_rfl)
  have HO := Lib.hid (rOld_any 18 (by decide) w)
  rw [show rold 18 = ⟨#[99, 97, 109]⟩ from by kernel_rfl] at HO
  go_enter Tryz.func55, Tryz.ntmps55
  go_wp2_with (go_at_call 80; refine HO.out.mono ?_; rintro e w' ⟨rfl, rfl⟩)
  go_ret3
  exact ⟨ret_sbb (by rw [HR.out]) (by kernel_rfl) (by kernel_rfl), rfl⟩
theorem rFld_1_19 (w : World) : Calls Tryz.prog 55 #[.int .u8 1, .int .u8 19] w (FldRes 1 19 w) := by
  have HR := Lib.hid (show lets 1 19 = ⟨#[99]⟩ from by kernel_rfl)
  have HO := Lib.hid (rOld_any 19 (by decide) w)
  rw [show rold 19 = ⟨#[99]⟩ from by kernel_rfl] at HO
  go_enter Tryz.func55, Tryz.ntmps55
  go_wp2_with (go_at_call 80; refine HO.out.mono ?_; rintro e w' ⟨rfl, rfl⟩)
  go_ret3
  exact ⟨ret_sbb (by rw [HR.out]) (by kernel_rfl) (by kernel_rfl), rfl⟩
theorem rFld_1_20 (w : World) : Calls Tryz.prog 55 #[.int .u8 1, .int .u8 20] w (FldRes 1 20 w) := by
  have HR := Lib.hid (show lets 1 20 = ⟨#[116]⟩ from by kernel_rfl)
  have HO := Lib.hid (rOld_any 20 (by decide) w)
  rw [show rold 20 = ⟨#[116]⟩ from by kernel_rfl] at HO
  go_enter Tryz.func55, Tryz.ntmps55
  go_wp2_with (go_at_call 80; refine HO.out.mono ?_; rintro e w' ⟨rfl, rfl⟩)
  go_ret3
  exact ⟨ret_sbb (by rw [HR.out]) (by kernel_rfl) (by kernel_rfl), rfl⟩
theorem rFld_1_21 (w : World) : Calls Tryz.prog 55 #[.int .u8 1, .int .u8 21] w (FldRes 1 21 w) := by
  have HR := Lib.hid (show lets 1 21 = ⟨#[]⟩ from by kernel_rfl)
  have HO := Lib.hid (rOld_any 21 (by decide) w)
  rw [show rold 21 = ⟨#[32]⟩ from by kernel_rfl] at HO
  go_enter Tryz.func55, Tryz.ntmps55
  go_wp2_with (go_at_call 80; refine HO.out.mono ?_; rintro e w' ⟨rfl, rfl⟩)
  go_ret3
  exact ⟨ret_sbb (by rw [HR.out]) (by kernel_rfl) (by kernel_rfl), rfl⟩
theorem rFld_1_22 (w : World) : Calls Tryz.prog 55 #[.int .u8 1, .int .u8 22] w (FldRes 1 22 w) := by
  have HR := Lib.hid (show lets 1 22 = ⟨#[]⟩ from by kernel_rfl)
  have HO := Lib.hid (rOld_any 22 (by decide) w)
  rw [show rold 22 = ⟨#[32]⟩ from by kernel_rfl] at HO
  go_enter Tryz.func55, Tryz.ntmps55
  go_wp2_with (go_at_call 80; refine HO.out.mono ?_; rintro e w' ⟨rfl, rfl⟩)
  go_ret3
  exact ⟨ret_sbb (by rw [HR.out]) (by kernel_rfl) (by kernel_rfl), rfl⟩
theorem rFld_1_23 (w : World) : Calls Tryz.prog 55 #[.int .u8 1, .int .u8 23] w (FldRes 1 23 w) := by
  have HR := Lib.hid (show lets 1 23 = ⟨#[]⟩ from by kernel_rfl)
  have HO := Lib.hid (rOld_any 23 (by decide) w)
  rw [show rold 23 = ⟨#[32]⟩ from by kernel_rfl] at HO
  go_enter Tryz.func55, Tryz.ntmps55
  go_wp2_with (go_at_call 80; refine HO.out.mono ?_; rintro e w' ⟨rfl, rfl⟩)
  go_ret3
  exact ⟨ret_sbb (by rw [HR.out]) (by kernel_rfl) (by kernel_rfl), rfl⟩
theorem rFld_2_0 (w : World) : Calls Tryz.prog 55 #[.int .u8 2, .int .u8 0] w (FldRes 2 0 w) := by
  have HR := Lib.hid (show lets 2 0 = ⟨#[]⟩ from by kernel_rfl)
  have HO := Lib.hid (rOld_any 0 (by decide) w)
  rw [show rold 0 = ⟨#[32]⟩ from by kernel_rfl] at HO
  go_enter Tryz.func55, Tryz.ntmps55
  go_wp2_with (go_at_call 80; refine HO.out.mono ?_; rintro e w' ⟨rfl, rfl⟩)
  go_ret3
  exact ⟨ret_sbb (by rw [HR.out]) (by kernel_rfl) (by kernel_rfl), rfl⟩
theorem rFld_2_1 (w : World) : Calls Tryz.prog 55 #[.int .u8 2, .int .u8 1] w (FldRes 2 1 w) := by
  have HR := Lib.hid (show lets 2 1 = ⟨#[97]⟩ from by kernel_rfl)
  have HO := Lib.hid (rOld_any 1 (by decide) w)
  rw [show rold 1 = ⟨#[97]⟩ from by kernel_rfl] at HO
  go_enter Tryz.func55, Tryz.ntmps55
  go_wp2_with (go_at_call 80; refine HO.out.mono ?_; rintro e w' ⟨rfl, rfl⟩)
  go_ret3
  exact ⟨ret_sbb (by rw [HR.out]) (by kernel_rfl) (by kernel_rfl), rfl⟩
theorem rFld_2_2 (w : World) : Calls Tryz.prog 55 #[.int .u8 2, .int .u8 2] w (FldRes 2 2 w) := by
  have HR := Lib.hid (show lets 2 2 = ⟨#[97]⟩ from by kernel_rfl)
  have HO := Lib.hid (rOld_any 2 (by decide) w)
  rw [show rold 2 = ⟨#[97]⟩ from by kernel_rfl] at HO
  go_enter Tryz.func55, Tryz.ntmps55
  go_wp2_with (go_at_call 80; refine HO.out.mono ?_; rintro e w' ⟨rfl, rfl⟩)
  go_ret3
  exact ⟨ret_sbb (by rw [HR.out]) (by kernel_rfl) (by kernel_rfl), rfl⟩
theorem rFld_2_3 (w : World) : Calls Tryz.prog 55 #[.int .u8 2, .int .u8 3] w (FldRes 2 3 w) := by
  have HR := Lib.hid (show lets 2 3 = ⟨#[105, 107]⟩ from by kernel_rfl)
  have HO := Lib.hid (rOld_any 3 (by decide) w)
  rw [show rold 3 = ⟨#[105]⟩ from by kernel_rfl] at HO
  go_enter Tryz.func55, Tryz.ntmps55
  go_wp2_with (go_at_call 80; refine HO.out.mono ?_; rintro e w' ⟨rfl, rfl⟩)
  go_ret3
  exact ⟨ret_sbb (by rw [HR.out]) (by kernel_rfl) (by kernel_rfl), rfl⟩
theorem rFld_2_4 (w : World) : Calls Tryz.prog 55 #[.int .u8 2, .int .u8 4] w (FldRes 2 4 w) := by
  have HR := Lib.hid (show lets 2 4 = ⟨#[105]⟩ from by kernel_rfl)
  have HO := Lib.hid (rOld_any 4 (by decide) w)
  rw [show rold 4 = ⟨#[105]⟩ from by kernel_rfl] at HO
  go_enter Tryz.func55, Tryz.ntmps55
  go_wp2_with (go_at_call 80; refine HO.out.mono ?_; rintro e w' ⟨rfl, rfl⟩)
  go_ret3
  exact ⟨ret_sbb (by rw [HR.out]) (by kernel_rfl) (by kernel_rfl), rfl⟩
theorem rFld_2_5 (w : World) : Calls Tryz.prog 55 #[.int .u8 2, .int .u8 5] w (FldRes 2 5 w) := by
  have HR := Lib.hid (show lets 2 5 = ⟨#[105]⟩ from by kernel_rfl)
  have HO := Lib.hid (rOld_any 5 (by decide) w)
  rw [show rold 5 = ⟨#[105]⟩ from by kernel_rfl] at HO
  go_enter Tryz.func55, Tryz.ntmps55
  go_wp2_with (go_at_call 80; refine HO.out.mono ?_; rintro e w' ⟨rfl, rfl⟩)
  go_ret3
  exact ⟨ret_sbb (by rw [HR.out]) (by kernel_rfl) (by kernel_rfl), rfl⟩
theorem rFld_2_6 (w : World) : Calls Tryz.prog 55 #[.int .u8 2, .int .u8 6] w (FldRes 2 6 w) := by
  have HR := Lib.hid (show lets 2 6 = ⟨#[97, 109]⟩ from by kernel_rfl)
  have HO := Lib.hid (rOld_any 6 (by decide) w)
  rw [show rold 6 = ⟨#[97, 109]⟩ from by kernel_rfl] at HO
  go_enter Tryz.func55, Tryz.ntmps55
  go_wp2_with (go_at_call 80; refine HO.out.mono ?_; rintro e w' ⟨rfl, rfl⟩)
  go_ret3
  exact ⟨ret_sbb (by rw [HR.out]) (by kernel_rfl) (by kernel_rfl), rfl⟩
theorem rFld_2_7 (w : World) : Calls Tryz.prog 55 #[.int .u8 2, .int .u8 7] w (FldRes 2 7 w) := by
  have HR := Lib.hid (show lets 2 7 = ⟨#[97, 109]⟩ from by kernel_rfl)
  have HO := Lib.hid (rOld_any 7 (by decide) w)
  rw [show rold 7 = ⟨#[97, 109]⟩ from by kernel_rfl] at HO
  go_enter Tryz.func55, Tryz.ntmps55
  go_wp2_with (go_at_call 80; refine HO.out.mono ?_; rintro e w' ⟨rfl, rfl⟩)
  go_ret3
  exact ⟨ret_sbb (by rw [HR.out]) (by kernel_rfl) (by kernel_rfl), rfl⟩
theorem rFld_2_8 (w : World) : Calls Tryz.prog 55 #[.int .u8 2, .int .u8 8] w (FldRes 2 8 w) := by
  have HR := Lib.hid (show lets 2 8 = ⟨#[97, 105, 113]⟩ from by kernel_rfl)
  have HO := Lib.hid (rOld_any 8 (by decide) w)
  rw [show rold 8 = ⟨#[97, 105, 113]⟩ from by kernel_rfl] at HO
  go_enter Tryz.func55, Tryz.ntmps55
  go_wp2_with (go_at_call 80; refine HO.out.mono ?_; rintro e w' ⟨rfl, rfl⟩)
  go_ret3
  exact ⟨ret_sbb (by rw [HR.out]) (by kernel_rfl) (by kernel_rfl), rfl⟩
theorem rFld_2_9 (w : World) : Calls Tryz.prog 55 #[.int .u8 2, .int .u8 9] w (FldRes 2 9 w) := by
  have HR := Lib.hid (show lets 2 9 = ⟨#[97, 105, 113]⟩ from by kernel_rfl)
  have HO := Lib.hid (rOld_any 9 (by decide) w)
  rw [show rold 9 = ⟨#[97, 105, 113]⟩ from by kernel_rfl] at HO
  go_enter Tryz.func55, Tryz.ntmps55
  go_wp2_with (go_at_call 80; refine HO.out.mono ?_; rintro e w' ⟨rfl, rfl⟩)
  go_ret3
  exact ⟨ret_sbb (by rw [HR.out]) (by kernel_rfl) (by kernel_rfl), rfl⟩
theorem rFld_2_10 (w : World) : Calls Tryz.prog 55 #[.int .u8 2, .int .u8 10] w (FldRes 2 10 w) := by
  have HR := Lib.hid (show lets 2 10 = ⟨#[98]⟩ from by kernel_rfl)
  have HO := Lib.hid (rOld_any 10 (by decide) w)
  rw [show rold 10 = ⟨#[98]⟩ from by kernel_rfl] at HO
  go_enter Tryz.func55, Tryz.ntmps55
  go_wp2_with (go_at_call 80; refine HO.out.mono ?_; rintro e w' ⟨rfl, rfl⟩)
  go_ret3
  exact ⟨ret_sbb (by rw [HR.out]) (by kernel_rfl) (by kernel_rfl), rfl⟩
theorem rFld_2_11 (w : World) : Calls Tryz.prog 55 #[.int .u8 2, .int .u8 11] w (FldRes 2 11 w) := by
  have HR := Lib.hid (show lets 2 11 = ⟨#[111, 97, 105, 115, 112, 113]⟩ from by kernel_rfl)
  have HO := Lib.hid (rOld_any 11 (by decide) w)
  rw [show rold 11 = ⟨#[111, 97, 105, 115, 112, 113]⟩ from by kernel_rfl] at HO
  go_enter Tryz.func55, Tryz.ntmps55
  go_wp2_with (go_at_call 80; refine HO.out.mono ?_; rintro e w' ⟨rfl, rfl⟩)
  go_ret3
  exact ⟨ret_sbb (by rw [HR.out]) (by kernel_rfl) (by kernel_rfl), rfl⟩
theorem rFld_2_12 (w : World) : Calls Tryz.prog 55 #[.int .u8 2, .int .u8 12] w (FldRes 2 12 w) := by
  have HR := Lib.hid (show lets 2 12 = ⟨#[111]⟩ from by kernel_rfl)
  have HO := Lib.hid (rOld_any 12 (by decide) w)
  rw [show rold 12 = ⟨#[111]⟩ from by kernel_rfl] at HO
  go_enter Tryz.func55, Tryz.ntmps55
  go_wp2_with (go_at_call 80; refine HO.out.mono ?_; rintro e w' ⟨rfl, rfl⟩)
  go_ret3
  exact ⟨ret_sbb (by rw [HR.out]) (by kernel_rfl) (by kernel_rfl), rfl⟩
theorem rFld_2_13 (w : World) : Calls Tryz.prog 55 #[.int .u8 2, .int .u8 13] w (FldRes 2 13 w) := by
  have HR := Lib.hid (show lets 2 13 = ⟨#[111, 111, 112, 113, 122]⟩ from by kernel_rfl)
  have HO := Lib.hid (rOld_any 13 (by decide) w)
  rw [show rold 13 = ⟨#[111, 111, 112, 113]⟩ from by kernel_rfl] at HO
  go_enter Tryz.func55, Tryz.ntmps55
  go_wp2_with (go_at_call 80; refine HO.out.mono ?_; rintro e w' ⟨rfl, rfl⟩)
  go_ret3
  exact ⟨ret_sbb (by rw [HR.out]) (by kernel_rfl) (by kernel_rfl), rfl⟩
theorem rFld_2_14 (w : World) : Calls Tryz.prog 55 #[.int .u8 2, .int .u8 14] w (FldRes 2 14 w) := by
  have HR := Lib.hid (show lets 2 14 = ⟨#[99, 97, 105, 113, 109, 109, 116]⟩ from by kernel_rfl)
  have HO := Lib.hid (rOld_any 14 (by decide) w)
  rw [show rold 14 = ⟨#[99, 97, 105, 113, 109, 116]⟩ from by kernel_rfl] at HO
  go_enter Tryz.func55, Tryz.ntmps55
  go_wp2_with (go_at_call 80; refine HO.out.mono ?_; rintro e w' ⟨rfl, rfl⟩)
  go_ret3
  exact ⟨ret_sbb (by rw [HR.out]) (by kernel_rfl) (by kernel_rfl), rfl⟩
theorem rFld_2_15 (w : World) : Calls Tryz.prog 55 #[.int .u8 2, .int .u8 15] w (FldRes 2 15 w) := by
  have HR := Lib.hid (show lets 2 15 = ⟨#[99, 97, 109]⟩ from by kernel_rfl)
  have HO := Lib.hid (rOld_any 15 (by decide) w)
  rw [show rold 15 = ⟨#[99, 97, 109]⟩ from by kernel_rfl] at HO
  go_enter Tryz.func55, Tryz.ntmps55
  go_wp2_with (go_at_call 80; refine HO.out.mono ?_; rintro e w' ⟨rfl, rfl⟩)
  go_ret3
  exact ⟨ret_sbb (by rw [HR.out]) (by kernel_rfl) (by kernel_rfl), rfl⟩
theorem rFld_2_16 (w : World) : Calls Tryz.prog 55 #[.int .u8 2, .int .u8 16] w (FldRes 2 16 w) := by
  have HR := Lib.hid (show lets 2 16 = ⟨#[99, 97, 105, 113, 109, 116]⟩ from by kernel_rfl)
  have HO := Lib.hid (rOld_any 16 (by decide) w)
  rw [show rold 16 = ⟨#[99, 97, 105, 113, 109, 116]⟩ from by kernel_rfl] at HO
  go_enter Tryz.func55, Tryz.ntmps55
  go_wp2_with (go_at_call 80; refine HO.out.mono ?_; rintro e w' ⟨rfl, rfl⟩)
  go_ret3
  exact ⟨ret_sbb (by rw [HR.out]) (by kernel_rfl) (by kernel_rfl), rfl⟩
theorem rFld_2_17 (w : World) : Calls Tryz.prog 55 #[.int .u8 2, .int .u8 17] w (FldRes 2 17 w) := by
  have HR := Lib.hid (show lets 2 17 = ⟨#[99, 97, 109]⟩ from by kernel_rfl)
  have HO := Lib.hid (rOld_any 17 (by decide) w)
  rw [show rold 17 = ⟨#[99, 97, 109]⟩ from by kernel_rfl] at HO
  go_enter Tryz.func55, Tryz.ntmps55
  go_wp2_with (go_at_call 80; refine HO.out.mono ?_; rintro e w' ⟨rfl, rfl⟩)
  go_ret3
  exact ⟨ret_sbb (by rw [HR.out]) (by kernel_rfl) (by kernel_rfl), rfl⟩
theorem rFld_2_18 (w : World) : Calls Tryz.prog 55 #[.int .u8 2, .int .u8 18] w (FldRes 2 18 w) := by
  have HR := Lib.hid (show lets 2 18 = ⟨#[99, 97, 109, 122]⟩ from by kernel_rfl)
  have HO := Lib.hid (rOld_any 18 (by decide) w)
  rw [show rold 18 = ⟨#[99, 97, 109]⟩ from by kernel_rfl] at HO
  go_enter Tryz.func55, Tryz.ntmps55
  go_wp2_with (go_at_call 80; refine HO.out.mono ?_; rintro e w' ⟨rfl, rfl⟩)
  go_ret3
  exact ⟨ret_sbb (by rw [HR.out]) (by kernel_rfl) (by kernel_rfl), rfl⟩
theorem rFld_2_19 (w : World) : Calls Tryz.prog 55 #[.int .u8 2, .int .u8 19] w (FldRes 2 19 w) := by
  have HR := Lib.hid (show lets 2 19 = ⟨#[99]⟩ from by kernel_rfl)
  have HO := Lib.hid (rOld_any 19 (by decide) w)
  rw [show rold 19 = ⟨#[99]⟩ from by kernel_rfl] at HO
  go_enter Tryz.func55, Tryz.ntmps55
  go_wp2_with (go_at_call 80; refine HO.out.mono ?_; rintro e w' ⟨rfl, rfl⟩)
  go_ret3
  exact ⟨ret_sbb (by rw [HR.out]) (by kernel_rfl) (by kernel_rfl), rfl⟩
theorem rFld_2_20 (w : World) : Calls Tryz.prog 55 #[.int .u8 2, .int .u8 20] w (FldRes 2 20 w) := by
  have HR := Lib.hid (show lets 2 20 = ⟨#[116]⟩ from by kernel_rfl)
  have HO := Lib.hid (rOld_any 20 (by decide) w)
  rw [show rold 20 = ⟨#[116]⟩ from by kernel_rfl] at HO
  go_enter Tryz.func55, Tryz.ntmps55
  go_wp2_with (go_at_call 80; refine HO.out.mono ?_; rintro e w' ⟨rfl, rfl⟩)
  go_ret3
  exact ⟨ret_sbb (by rw [HR.out]) (by kernel_rfl) (by kernel_rfl), rfl⟩
theorem rFld_2_21 (w : World) : Calls Tryz.prog 55 #[.int .u8 2, .int .u8 21] w (FldRes 2 21 w) := by
  have HR := Lib.hid (show lets 2 21 = ⟨#[97, 97, 109]⟩ from by kernel_rfl)
  have HO := Lib.hid (rOld_any 21 (by decide) w)
  rw [show rold 21 = ⟨#[32]⟩ from by kernel_rfl] at HO
  go_enter Tryz.func55, Tryz.ntmps55
  go_wp2_with (go_at_call 80; refine HO.out.mono ?_; rintro e w' ⟨rfl, rfl⟩)
  go_ret3
  exact ⟨ret_sbb (by rw [HR.out]) (by kernel_rfl) (by kernel_rfl), rfl⟩
theorem rFld_2_22 (w : World) : Calls Tryz.prog 55 #[.int .u8 2, .int .u8 22] w (FldRes 2 22 w) := by
  have HR := Lib.hid (show lets 2 22 = ⟨#[]⟩ from by kernel_rfl)
  have HO := Lib.hid (rOld_any 22 (by decide) w)
  rw [show rold 22 = ⟨#[32]⟩ from by kernel_rfl] at HO
  go_enter Tryz.func55, Tryz.ntmps55
  go_wp2_with (go_at_call 80; refine HO.out.mono ?_; rintro e w' ⟨rfl, rfl⟩)
  go_ret3
  exact ⟨ret_sbb (by rw [HR.out]) (by kernel_rfl) (by kernel_rfl), rfl⟩
theorem rFld_2_23 (w : World) : Calls Tryz.prog 55 #[.int .u8 2, .int .u8 23] w (FldRes 2 23 w) := by
  have HR := Lib.hid (show lets 2 23 = ⟨#[]⟩ from by kernel_rfl)
  have HO := Lib.hid (rOld_any 23 (by decide) w)
  rw [show rold 23 = ⟨#[32]⟩ from by kernel_rfl] at HO
  go_enter Tryz.func55, Tryz.ntmps55
  go_wp2_with (go_at_call 80; refine HO.out.mono ?_; rintro e w' ⟨rfl, rfl⟩)
  go_ret3
  exact ⟨ret_sbb (by rw [HR.out]) (by kernel_rfl) (by kernel_rfl), rfl⟩
theorem rFld_3_0 (w : World) : Calls Tryz.prog 55 #[.int .u8 3, .int .u8 0] w (FldRes 3 0 w) := by
  have HR := Lib.hid (show lets 3 0 = ⟨#[]⟩ from by kernel_rfl)
  have HO := Lib.hid (rOld_any 0 (by decide) w)
  rw [show rold 0 = ⟨#[32]⟩ from by kernel_rfl] at HO
  go_enter Tryz.func55, Tryz.ntmps55
  go_wp2_with (go_at_call 80; refine HO.out.mono ?_; rintro e w' ⟨rfl, rfl⟩)
  go_ret3
  exact ⟨ret_sbb (by rw [HR.out]) (by kernel_rfl) (by kernel_rfl), rfl⟩
theorem rFld_3_1 (w : World) : Calls Tryz.prog 55 #[.int .u8 3, .int .u8 1] w (FldRes 3 1 w) := by
  have HR := Lib.hid (show lets 3 1 = ⟨#[97]⟩ from by kernel_rfl)
  have HO := Lib.hid (rOld_any 1 (by decide) w)
  rw [show rold 1 = ⟨#[97]⟩ from by kernel_rfl] at HO
  go_enter Tryz.func55, Tryz.ntmps55
  go_wp2_with (go_at_call 80; refine HO.out.mono ?_; rintro e w' ⟨rfl, rfl⟩)
  go_ret3
  exact ⟨ret_sbb (by rw [HR.out]) (by kernel_rfl) (by kernel_rfl), rfl⟩
theorem rFld_3_2 (w : World) : Calls Tryz.prog 55 #[.int .u8 3, .int .u8 2] w (FldRes 3 2 w) := by
  have HR := Lib.hid (show lets 3 2 = ⟨#[97]⟩ from by kernel_rfl)
  have HO := Lib.hid (rOld_any 2 (by decide) w)
  rw [show rold 2 = ⟨#[97]⟩ from by kernel_rfl] at HO
  go_enter Tryz.func55, Tryz.ntmps55
  go_wp2_with (go_at_call 80; refine HO.out.mono ?_; rintro e w' ⟨rfl, rfl⟩)
  go_ret3
  exact ⟨ret_sbb (by rw [HR.out]) (by kernel_rfl) (by kernel_rfl), rfl⟩
theorem rFld_3_3 (w : World) : Calls Tryz.prog 55 #[.int .u8 3, .int .u8 3] w (FldRes 3 3 w) := by
  have HR := Lib.hid (show lets 3 3 = ⟨#[105, 107]⟩ from by kernel_rfl)
  have HO := Lib.hid (rOld_any 3 (by decide) w)
  rw [show rold 3 = ⟨#[105]⟩ from by kernel_rfl] at HO
  go_enter Tryz.func55, Tryz.ntmps55
  go_wp2_with (go_at_call 80; refine HO.out.mono ?_; rintro e w' ⟨rfl, rfl⟩)
  go_ret3
  exact ⟨ret_sbb (by rw [HR.out]) (by kernel_rfl) (by kernel_rfl), rfl⟩
theorem rFld_3_4 (w : World) : Calls Tryz.prog 55 #[.int .u8 3, .int .u8 4] w (FldRes 3 4 w) := by
  have HR := Lib.hid (show lets 3 4 = ⟨#[105]⟩ from by kernel_rfl)
  have HO := Lib.hid (rOld_any 4 (by decide) w)
  rw [show rold 4 = ⟨#[105]⟩ from by kernel_rfl] at HO
  go_enter Tryz.func55, Tryz.ntmps55
  go_wp2_with (go_at_call 80; refine HO.out.mono ?_; rintro e w' ⟨rfl, rfl⟩)
  go_ret3
  exact ⟨ret_sbb (by rw [HR.out]) (by kernel_rfl) (by kernel_rfl), rfl⟩
theorem rFld_3_5 (w : World) : Calls Tryz.prog 55 #[.int .u8 3, .int .u8 5] w (FldRes 3 5 w) := by
  have HR := Lib.hid (show lets 3 5 = ⟨#[105]⟩ from by kernel_rfl)
  have HO := Lib.hid (rOld_any 5 (by decide) w)
  rw [show rold 5 = ⟨#[105]⟩ from by kernel_rfl] at HO
  go_enter Tryz.func55, Tryz.ntmps55
  go_wp2_with (go_at_call 80; refine HO.out.mono ?_; rintro e w' ⟨rfl, rfl⟩)
  go_ret3
  exact ⟨ret_sbb (by rw [HR.out]) (by kernel_rfl) (by kernel_rfl), rfl⟩
theorem rFld_3_6 (w : World) : Calls Tryz.prog 55 #[.int .u8 3, .int .u8 6] w (FldRes 3 6 w) := by
  have HR := Lib.hid (show lets 3 6 = ⟨#[97, 109]⟩ from by kernel_rfl)
  have HO := Lib.hid (rOld_any 6 (by decide) w)
  rw [show rold 6 = ⟨#[97, 109]⟩ from by kernel_rfl] at HO
  go_enter Tryz.func55, Tryz.ntmps55
  go_wp2_with (go_at_call 80; refine HO.out.mono ?_; rintro e w' ⟨rfl, rfl⟩)
  go_ret3
  exact ⟨ret_sbb (by rw [HR.out]) (by kernel_rfl) (by kernel_rfl), rfl⟩
theorem rFld_3_7 (w : World) : Calls Tryz.prog 55 #[.int .u8 3, .int .u8 7] w (FldRes 3 7 w) := by
  have HR := Lib.hid (show lets 3 7 = ⟨#[97, 109]⟩ from by kernel_rfl)
  have HO := Lib.hid (rOld_any 7 (by decide) w)
  rw [show rold 7 = ⟨#[97, 109]⟩ from by kernel_rfl] at HO
  go_enter Tryz.func55, Tryz.ntmps55
  go_wp2_with (go_at_call 80; refine HO.out.mono ?_; rintro e w' ⟨rfl, rfl⟩)
  go_ret3
  exact ⟨ret_sbb (by rw [HR.out]) (by kernel_rfl) (by kernel_rfl), rfl⟩
theorem rFld_3_8 (w : World) : Calls Tryz.prog 55 #[.int .u8 3, .int .u8 8] w (FldRes 3 8 w) := by
  have HR := Lib.hid (show lets 3 8 = ⟨#[97, 105, 113]⟩ from by kernel_rfl)
  have HO := Lib.hid (rOld_any 8 (by decide) w)
  rw [show rold 8 = ⟨#[97, 105, 113]⟩ from by kernel_rfl] at HO
  go_enter Tryz.func55, Tryz.ntmps55
  go_wp2_with (go_at_call 80; refine HO.out.mono ?_; rintro e w' ⟨rfl, rfl⟩)
  go_ret3
  exact ⟨ret_sbb (by rw [HR.out]) (by kernel_rfl) (by kernel_rfl), rfl⟩
theorem rFld_3_9 (w : World) : Calls Tryz.prog 55 #[.int .u8 3, .int .u8 9] w (FldRes 3 9 w) := by
  have HR := Lib.hid (show lets 3 9 = ⟨#[97, 105, 113]⟩ from by kernel_rfl)
  have HO := Lib.hid (rOld_any 9 (by decide) w)
  rw [show rold 9 = ⟨#[97, 105, 113]⟩ from by kernel_rfl] at HO
  go_enter Tryz.func55, Tryz.ntmps55
  go_wp2_with (go_at_call 80; refine HO.out.mono ?_; rintro e w' ⟨rfl, rfl⟩)
  go_ret3
  exact ⟨ret_sbb (by rw [HR.out]) (by kernel_rfl) (by kernel_rfl), rfl⟩
theorem rFld_3_10 (w : World) : Calls Tryz.prog 55 #[.int .u8 3, .int .u8 10] w (FldRes 3 10 w) := by
  have HR := Lib.hid (show lets 3 10 = ⟨#[98]⟩ from by kernel_rfl)
  have HO := Lib.hid (rOld_any 10 (by decide) w)
  rw [show rold 10 = ⟨#[98]⟩ from by kernel_rfl] at HO
  go_enter Tryz.func55, Tryz.ntmps55
  go_wp2_with (go_at_call 80; refine HO.out.mono ?_; rintro e w' ⟨rfl, rfl⟩)
  go_ret3
  exact ⟨ret_sbb (by rw [HR.out]) (by kernel_rfl) (by kernel_rfl), rfl⟩
theorem rFld_3_11 (w : World) : Calls Tryz.prog 55 #[.int .u8 3, .int .u8 11] w (FldRes 3 11 w) := by
  have HR := Lib.hid (show lets 3 11 = ⟨#[111, 97, 105, 115, 112, 113]⟩ from by kernel_rfl)
  have HO := Lib.hid (rOld_any 11 (by decide) w)
  rw [show rold 11 = ⟨#[111, 97, 105, 115, 112, 113]⟩ from by kernel_rfl] at HO
  go_enter Tryz.func55, Tryz.ntmps55
  go_wp2_with (go_at_call 80; refine HO.out.mono ?_; rintro e w' ⟨rfl, rfl⟩)
  go_ret3
  exact ⟨ret_sbb (by rw [HR.out]) (by kernel_rfl) (by kernel_rfl), rfl⟩
theorem rFld_3_12 (w : World) : Calls Tryz.prog 55 #[.int .u8 3, .int .u8 12] w (FldRes 3 12 w) := by
  have HR := Lib.hid (show lets 3 12 = ⟨#[111]⟩ from by kernel_rfl)
  have HO := Lib.hid (rOld_any 12 (by decide) w)
  rw [show rold 12 = ⟨#[111]⟩ from by kernel_rfl] at HO
  go_enter Tryz.func55, Tryz.ntmps55
  go_wp2_with (go_at_call 80; refine HO.out.mono ?_; rintro e w' ⟨rfl, rfl⟩)
  go_ret3
  exact ⟨ret_sbb (by rw [HR.out]) (by kernel_rfl) (by kernel_rfl), rfl⟩
theorem rFld_3_13 (w : World) : Calls Tryz.prog 55 #[.int .u8 3, .int .u8 13] w (FldRes 3 13 w) := by
  have HR := Lib.hid (show lets 3 13 = ⟨#[111, 111, 112, 113, 122]⟩ from by kernel_rfl)
  have HO := Lib.hid (rOld_any 13 (by decide) w)
  rw [show rold 13 = ⟨#[111, 111, 112, 113]⟩ from by kernel_rfl] at HO
  go_enter Tryz.func55, Tryz.ntmps55
  go_wp2_with (go_at_call 80; refine HO.out.mono ?_; rintro e w' ⟨rfl, rfl⟩)
  go_ret3
  exact ⟨ret_sbb (by rw [HR.out]) (by kernel_rfl) (by kernel_rfl), rfl⟩
theorem rFld_3_14 (w : World) : Calls Tryz.prog 55 #[.int .u8 3, .int .u8 14] w (FldRes 3 14 w) := by
  have HR := Lib.hid (show lets 3 14 = ⟨#[99, 97, 105, 113, 109, 109, 116]⟩ from by kernel_rfl)
  have HO := Lib.hid (rOld_any 14 (by decide) w)
  rw [show rold 14 = ⟨#[99, 97, 105, 113, 109, 116]⟩ from by kernel_rfl] at HO
  go_enter Tryz.func55, Tryz.ntmps55
  go_wp2_with (go_at_call 80; refine HO.out.mono ?_; rintro e w' ⟨rfl, rfl⟩)
  go_ret3
  exact ⟨ret_sbb (by rw [HR.out]) (by kernel_rfl) (by kernel_rfl), rfl⟩
theorem rFld_3_15 (w : World) : Calls Tryz.prog 55 #[.int .u8 3, .int .u8 15] w (FldRes 3 15 w) := by
  have HR := Lib.hid (show lets 3 15 = ⟨#[99, 97, 109]⟩ from by kernel_rfl)
  have HO := Lib.hid (rOld_any 15 (by decide) w)
  rw [show rold 15 = ⟨#[99, 97, 109]⟩ from by kernel_rfl] at HO
  go_enter Tryz.func55, Tryz.ntmps55
  go_wp2_with (go_at_call 80; refine HO.out.mono ?_; rintro e w' ⟨rfl, rfl⟩)
  go_ret3
  exact ⟨ret_sbb (by rw [HR.out]) (by kernel_rfl) (by kernel_rfl), rfl⟩
theorem rFld_3_16 (w : World) : Calls Tryz.prog 55 #[.int .u8 3, .int .u8 16] w (FldRes 3 16 w) := by
  have HR := Lib.hid (show lets 3 16 = ⟨#[99, 97, 105, 113, 109, 116]⟩ from by kernel_rfl)
  have HO := Lib.hid (rOld_any 16 (by decide) w)
  rw [show rold 16 = ⟨#[99, 97, 105, 113, 109, 116]⟩ from by kernel_rfl] at HO
  go_enter Tryz.func55, Tryz.ntmps55
  go_wp2_with (go_at_call 80; refine HO.out.mono ?_; rintro e w' ⟨rfl, rfl⟩)
  go_ret3
  exact ⟨ret_sbb (by rw [HR.out]) (by kernel_rfl) (by kernel_rfl), rfl⟩
theorem rFld_3_17 (w : World) : Calls Tryz.prog 55 #[.int .u8 3, .int .u8 17] w (FldRes 3 17 w) := by
  have HR := Lib.hid (show lets 3 17 = ⟨#[99, 97, 109]⟩ from by kernel_rfl)
  have HO := Lib.hid (rOld_any 17 (by decide) w)
  rw [show rold 17 = ⟨#[99, 97, 109]⟩ from by kernel_rfl] at HO
  go_enter Tryz.func55, Tryz.ntmps55
  go_wp2_with (go_at_call 80; refine HO.out.mono ?_; rintro e w' ⟨rfl, rfl⟩)
  go_ret3
  exact ⟨ret_sbb (by rw [HR.out]) (by kernel_rfl) (by kernel_rfl), rfl⟩
theorem rFld_3_18 (w : World) : Calls Tryz.prog 55 #[.int .u8 3, .int .u8 18] w (FldRes 3 18 w) := by
  have HR := Lib.hid (show lets 3 18 = ⟨#[99, 97, 109, 122]⟩ from by kernel_rfl)
  have HO := Lib.hid (rOld_any 18 (by decide) w)
  rw [show rold 18 = ⟨#[99, 97, 109]⟩ from by kernel_rfl] at HO
  go_enter Tryz.func55, Tryz.ntmps55
  go_wp2_with (go_at_call 80; refine HO.out.mono ?_; rintro e w' ⟨rfl, rfl⟩)
  go_ret3
  exact ⟨ret_sbb (by rw [HR.out]) (by kernel_rfl) (by kernel_rfl), rfl⟩
theorem rFld_3_19 (w : World) : Calls Tryz.prog 55 #[.int .u8 3, .int .u8 19] w (FldRes 3 19 w) := by
  have HR := Lib.hid (show lets 3 19 = ⟨#[99]⟩ from by kernel_rfl)
  have HO := Lib.hid (rOld_any 19 (by decide) w)
  rw [show rold 19 = ⟨#[99]⟩ from by kernel_rfl] at HO
  go_enter Tryz.func55, Tryz.ntmps55
  go_wp2_with (go_at_call 80; refine HO.out.mono ?_; rintro e w' ⟨rfl, rfl⟩)
  go_ret3
  exact ⟨ret_sbb (by rw [HR.out]) (by kernel_rfl) (by kernel_rfl), rfl⟩
theorem rFld_3_20 (w : World) : Calls Tryz.prog 55 #[.int .u8 3, .int .u8 20] w (FldRes 3 20 w) := by
  have HR := Lib.hid (show lets 3 20 = ⟨#[116]⟩ from by kernel_rfl)
  have HO := Lib.hid (rOld_any 20 (by decide) w)
  rw [show rold 20 = ⟨#[116]⟩ from by kernel_rfl] at HO
  go_enter Tryz.func55, Tryz.ntmps55
  go_wp2_with (go_at_call 80; refine HO.out.mono ?_; rintro e w' ⟨rfl, rfl⟩)
  go_ret3
  exact ⟨ret_sbb (by rw [HR.out]) (by kernel_rfl) (by kernel_rfl), rfl⟩
theorem rFld_3_21 (w : World) : Calls Tryz.prog 55 #[.int .u8 3, .int .u8 21] w (FldRes 3 21 w) := by
  have HR := Lib.hid (show lets 3 21 = ⟨#[97, 97, 109]⟩ from by kernel_rfl)
  have HO := Lib.hid (rOld_any 21 (by decide) w)
  rw [show rold 21 = ⟨#[32]⟩ from by kernel_rfl] at HO
  go_enter Tryz.func55, Tryz.ntmps55
  go_wp2_with (go_at_call 80; refine HO.out.mono ?_; rintro e w' ⟨rfl, rfl⟩)
  go_ret3
  exact ⟨ret_sbb (by rw [HR.out]) (by kernel_rfl) (by kernel_rfl), rfl⟩
theorem rFld_3_22 (w : World) : Calls Tryz.prog 55 #[.int .u8 3, .int .u8 22] w (FldRes 3 22 w) := by
  have HR := Lib.hid (show lets 3 22 = ⟨#[97]⟩ from by kernel_rfl)
  have HO := Lib.hid (rOld_any 22 (by decide) w)
  rw [show rold 22 = ⟨#[32]⟩ from by kernel_rfl] at HO
  go_enter Tryz.func55, Tryz.ntmps55
  go_wp2_with (go_at_call 80; refine HO.out.mono ?_; rintro e w' ⟨rfl, rfl⟩)
  go_ret3
  exact ⟨ret_sbb (by rw [HR.out]) (by kernel_rfl) (by kernel_rfl), rfl⟩
theorem rFld_3_23 (w : World) : Calls Tryz.prog 55 #[.int .u8 3, .int .u8 23] w (FldRes 3 23 w) := by
  have HR := Lib.hid (show lets 3 23 = ⟨#[105, 107]⟩ from by kernel_rfl)
  have HO := Lib.hid (rOld_any 23 (by decide) w)
  rw [show rold 23 = ⟨#[32]⟩ from by kernel_rfl] at HO
  go_enter Tryz.func55, Tryz.ntmps55
  go_wp2_with (go_at_call 80; refine HO.out.mono ?_; rintro e w' ⟨rfl, rfl⟩)
  go_ret3
  exact ⟨ret_sbb (by rw [HR.out]) (by kernel_rfl) (by kernel_rfl), rfl⟩

theorem rFields_any (v k : Nat) (hv : v < 256) (hk : k < 256) (w : World) : Calls Tryz.prog 55 #[.int .u8 v, .int .u8 k] w (FldRes v k w) := by
  by_cases h0 : v < 1
  · obtain rfl : v = 0 := by omega
    have HR := Lib.hid (lets_out 0 k (by omega))
    have HT := Lib.hid (show tall 0 k = false from by unfold tall; rw [HR.out]; rfl)
    go_enter Tryz.func55, Tryz.ntmps55
    go_wp2
    go_ret3
    exact ⟨ret_sbb (by rw [HR.out]) (by rw [HT.out]; rfl) (by rw [HT.out]), rfl⟩
  by_cases h3 : 3 < v
  · have HR := Lib.hid (lets_out v k (by omega))
    have HT := Lib.hid (show tall v k = false from by unfold tall; rw [HR.out]; rfl)
    have h0' : 1 ≤ v := by omega
    clear h0
    go_enter Tryz.func55, Tryz.ntmps55
    go_wp2
    go_ret3
    exact ⟨ret_sbb (by rw [HR.out]) (by rw [HT.out]; rfl) (by rw [HT.out]), rfl⟩
  obtain rfl | rfl | rfl : v = 1 ∨ v = 2 ∨ v = 3 := by omega
  · by_cases h : k < 24
    · obtain rfl | rfl | rfl | rfl | rfl | rfl | rfl | rfl | rfl | rfl | rfl | rfl | rfl | rfl | rfl | rfl | rfl | rfl | rfl | rfl | rfl | rfl | rfl | rfl : k = 0 ∨ k = 1 ∨ k = 2 ∨ k = 3 ∨ k = 4 ∨ k = 5 ∨ k = 6 ∨ k = 7 ∨ k = 8 ∨ k = 9 ∨ k = 10 ∨ k = 11 ∨ k = 12 ∨ k = 13 ∨ k = 14 ∨ k = 15 ∨ k = 16 ∨ k = 17 ∨ k = 18 ∨ k = 19 ∨ k = 20 ∨ k = 21 ∨ k = 22 ∨ k = 23 := by omega
      · exact rFld_1_0 w
      · exact rFld_1_1 w
      · exact rFld_1_2 w
      · exact rFld_1_3 w
      · exact rFld_1_4 w
      · exact rFld_1_5 w
      · exact rFld_1_6 w
      · exact rFld_1_7 w
      · exact rFld_1_8 w
      · exact rFld_1_9 w
      · exact rFld_1_10 w
      · exact rFld_1_11 w
      · exact rFld_1_12 w
      · exact rFld_1_13 w
      · exact rFld_1_14 w
      · exact rFld_1_15 w
      · exact rFld_1_16 w
      · exact rFld_1_17 w
      · exact rFld_1_18 w
      · exact rFld_1_19 w
      · exact rFld_1_20 w
      · exact rFld_1_21 w
      · exact rFld_1_22 w
      · exact rFld_1_23 w
    · have HR := Lib.hid (lets_out 1 k (by omega))
      have HT := Lib.hid (show tall 1 k = false from by unfold tall; rw [HR.out]; rfl)
      have HO := Lib.hid (rOld_any k hk w)
      rw [rold_out k (by omega)] at HO
      have f3 : ((k : Int) == 3) = false := beq_eq_false_iff_ne.2 (by omega)
      have f13 : ((k : Int) == 13) = false := beq_eq_false_iff_ne.2 (by omega)
      have f14 : ((k : Int) == 14) = false := beq_eq_false_iff_ne.2 (by omega)
      have f18 : ((k : Int) == 18) = false := beq_eq_false_iff_ne.2 (by omega)
      have f21 : ((k : Int) == 21) = false := beq_eq_false_iff_ne.2 (by omega)
      have f22 : ((k : Int) == 22) = false := beq_eq_false_iff_ne.2 (by omega)
      have f23 : ((k : Int) == 23) = false := beq_eq_false_iff_ne.2 (by omega)
      clear h h0 h3
      go_enter Tryz.func55, Tryz.ntmps55
      go_wp2_with (go_at_call 80; refine HO.out.mono ?_; rintro e w' ⟨rfl, rfl⟩)
      go_ret3
      exact ⟨ret_sbb (by rw [HR.out]) (by rw [HT.out]; rfl) (by rw [HT.out]), rfl⟩
  · by_cases h : k < 24
    · obtain rfl | rfl | rfl | rfl | rfl | rfl | rfl | rfl | rfl | rfl | rfl | rfl | rfl | rfl | rfl | rfl | rfl | rfl | rfl | rfl | rfl | rfl | rfl | rfl : k = 0 ∨ k = 1 ∨ k = 2 ∨ k = 3 ∨ k = 4 ∨ k = 5 ∨ k = 6 ∨ k = 7 ∨ k = 8 ∨ k = 9 ∨ k = 10 ∨ k = 11 ∨ k = 12 ∨ k = 13 ∨ k = 14 ∨ k = 15 ∨ k = 16 ∨ k = 17 ∨ k = 18 ∨ k = 19 ∨ k = 20 ∨ k = 21 ∨ k = 22 ∨ k = 23 := by omega
      · exact rFld_2_0 w
      · exact rFld_2_1 w
      · exact rFld_2_2 w
      · exact rFld_2_3 w
      · exact rFld_2_4 w
      · exact rFld_2_5 w
      · exact rFld_2_6 w
      · exact rFld_2_7 w
      · exact rFld_2_8 w
      · exact rFld_2_9 w
      · exact rFld_2_10 w
      · exact rFld_2_11 w
      · exact rFld_2_12 w
      · exact rFld_2_13 w
      · exact rFld_2_14 w
      · exact rFld_2_15 w
      · exact rFld_2_16 w
      · exact rFld_2_17 w
      · exact rFld_2_18 w
      · exact rFld_2_19 w
      · exact rFld_2_20 w
      · exact rFld_2_21 w
      · exact rFld_2_22 w
      · exact rFld_2_23 w
    · have HR := Lib.hid (lets_out 2 k (by omega))
      have HT := Lib.hid (show tall 2 k = false from by unfold tall; rw [HR.out]; rfl)
      have HO := Lib.hid (rOld_any k hk w)
      rw [rold_out k (by omega)] at HO
      have f3 : ((k : Int) == 3) = false := beq_eq_false_iff_ne.2 (by omega)
      have f13 : ((k : Int) == 13) = false := beq_eq_false_iff_ne.2 (by omega)
      have f14 : ((k : Int) == 14) = false := beq_eq_false_iff_ne.2 (by omega)
      have f18 : ((k : Int) == 18) = false := beq_eq_false_iff_ne.2 (by omega)
      have f21 : ((k : Int) == 21) = false := beq_eq_false_iff_ne.2 (by omega)
      have f22 : ((k : Int) == 22) = false := beq_eq_false_iff_ne.2 (by omega)
      have f23 : ((k : Int) == 23) = false := beq_eq_false_iff_ne.2 (by omega)
      clear h h0 h3
      go_enter Tryz.func55, Tryz.ntmps55
      go_wp2_with (go_at_call 80; refine HO.out.mono ?_; rintro e w' ⟨rfl, rfl⟩)
      go_ret3
      exact ⟨ret_sbb (by rw [HR.out]) (by rw [HT.out]; rfl) (by rw [HT.out]), rfl⟩
  · by_cases h : k < 24
    · obtain rfl | rfl | rfl | rfl | rfl | rfl | rfl | rfl | rfl | rfl | rfl | rfl | rfl | rfl | rfl | rfl | rfl | rfl | rfl | rfl | rfl | rfl | rfl | rfl : k = 0 ∨ k = 1 ∨ k = 2 ∨ k = 3 ∨ k = 4 ∨ k = 5 ∨ k = 6 ∨ k = 7 ∨ k = 8 ∨ k = 9 ∨ k = 10 ∨ k = 11 ∨ k = 12 ∨ k = 13 ∨ k = 14 ∨ k = 15 ∨ k = 16 ∨ k = 17 ∨ k = 18 ∨ k = 19 ∨ k = 20 ∨ k = 21 ∨ k = 22 ∨ k = 23 := by omega
      · exact rFld_3_0 w
      · exact rFld_3_1 w
      · exact rFld_3_2 w
      · exact rFld_3_3 w
      · exact rFld_3_4 w
      · exact rFld_3_5 w
      · exact rFld_3_6 w
      · exact rFld_3_7 w
      · exact rFld_3_8 w
      · exact rFld_3_9 w
      · exact rFld_3_10 w
      · exact rFld_3_11 w
      · exact rFld_3_12 w
      · exact rFld_3_13 w
      · exact rFld_3_14 w
      · exact rFld_3_15 w
      · exact rFld_3_16 w
      · exact rFld_3_17 w
      · exact rFld_3_18 w
      · exact rFld_3_19 w
      · exact rFld_3_20 w
      · exact rFld_3_21 w
      · exact rFld_3_22 w
      · exact rFld_3_23 w
    · have HR := Lib.hid (lets_out 3 k (by omega))
      have HT := Lib.hid (show tall 3 k = false from by unfold tall; rw [HR.out]; rfl)
      have HO := Lib.hid (rOld_any k hk w)
      rw [rold_out k (by omega)] at HO
      have f3 : ((k : Int) == 3) = false := beq_eq_false_iff_ne.2 (by omega)
      have f13 : ((k : Int) == 13) = false := beq_eq_false_iff_ne.2 (by omega)
      have f14 : ((k : Int) == 14) = false := beq_eq_false_iff_ne.2 (by omega)
      have f18 : ((k : Int) == 18) = false := beq_eq_false_iff_ne.2 (by omega)
      have f21 : ((k : Int) == 21) = false := beq_eq_false_iff_ne.2 (by omega)
      have f22 : ((k : Int) == 22) = false := beq_eq_false_iff_ne.2 (by omega)
      have f23 : ((k : Int) == 23) = false := beq_eq_false_iff_ne.2 (by omega)
      clear h h0 h3
      go_enter Tryz.func55, Tryz.ntmps55
      go_wp2_with (go_at_call 80; refine HO.out.mono ?_; rintro e w' ⟨rfl, rfl⟩)
      go_ret3
      exact ⟨ret_sbb (by rw [HR.out]) (by rw [HT.out]; rfl) (by rw [HT.out]), rfl⟩

/-- the classes of a version of which the table and the document say the same -/
def goodL : List (Nat × Nat) := [(1, 97), (1, 105), (1, 111), (1, 99), (1, 109), (1, 122), (1, 112), (1, 113), (1, 115), (1, 98), (1, 116), (2, 97), (2, 105), (2, 111), (2, 99), (2, 109), (2, 122), (2, 112), (2, 107), (2, 113), (2, 115), (2, 98), (2, 116), (3, 97), (3, 105), (3, 111), (3, 99), (3, 109), (3, 122), (3, 112), (3, 107), (3, 113), (3, 115), (3, 98), (3, 116)]
theorem rBd_1_97 (w : World) : Calls Tryz.prog 66 #[.int .u8 1, .int .u8 97] w fun e w' => e = .returned (.tuple #[.int .i64 (bnd 1 97).low, .int .i64 (bnd 1 97).high, .bool true]) ∧ w = w' := by
  rw [show (bnd 1 97).low = 1 from by kernel_rfl, show (bnd 1 97).high = 64 from by kernel_rfl]
  go_enter Tryz.func66, Tryz.ntmps66
  go_wp2
  go_ret3
  exact ⟨rfl, rfl⟩
theorem rBd_1_105 (w : World) : Calls Tryz.prog 66 #[.int .u8 1, .int .u8 105] w fun e w' => e = .returned (.tuple #[.int .i64 (bnd 1 105).low, .int .i64 (bnd 1 105).high, .bool true]) ∧ w = w' := by
  rw [show (bnd 1 105).low = 1 from by kernel_rfl, show (bnd 1 105).high = 16 from by kernel_rfl]
  go_enter Tryz.func66, Tryz.ntmps66
  go_wp2
  go_ret3
  exact ⟨rfl, rfl⟩
theorem rBd_1_111 (w : World) : Calls Tryz.prog 66 #[.int .u8 1, .int .u8 111] w fun e w' => e = .returned (.tuple #[.int .i64 (bnd 1 111).low, .int .i64 (bnd 1 111).high, .bool true]) ∧ w = w' := by
  rw [show (bnd 1 111).low = 1 from by kernel_rfl, show (bnd 1 111).high = 1099511627776 from by kernel_rfl]
  go_enter Tryz.func66, Tryz.ntmps66
  go_wp2
  go_ret3
  exact ⟨rfl, rfl⟩
theorem rBd_1_99 (w : World) : Calls Tryz.prog 66 #[.int .u8 1, .int .u8 99] w fun e w' => e = .returned (.tuple #[.int .i64 (bnd 1 99).low, .int .i64 (bnd 1 99).high, .bool true]) ∧ w = w' := by
  rw [show (bnd 1 99).low = 1 from by kernel_rfl, show (bnd 1 99).high = 1099511627776 from by kernel_rfl]
  go_enter Tryz.func66, Tryz.ntmps66
  go_wp2
  go_ret3
  exact ⟨rfl, rfl⟩
theorem rBd_1_109 (w : World) : Calls Tryz.prog 66 #[.int .u8 1, .int .u8 109] w fun e w' => e = .returned (.tuple #[.int .i64 (bnd 1 109).low, .int .i64 (bnd 1 109).high, .bool true]) ∧ w = w' := by
  rw [show (bnd 1 109).low = 1 from by kernel_rfl, show (bnd 1 109).high = 11258999068426 from by kernel_rfl]
  go_enter Tryz.func66, Tryz.ntmps66
  go_wp2
  go_ret3
  exact ⟨rfl, rfl⟩
theorem rBd_1_122 (w : World) : Calls Tryz.prog 66 #[.int .u8 1, .int .u8 122] w fun e w' => e = .returned (.tuple #[.int .i64 (bnd 1 122).low, .int .i64 (bnd 1 122).high, .bool true]) ∧ w = w' := by
  rw [show (bnd 1 122).low = 0 from by kernel_rfl, show (bnd 1 122).high = 11258999068426 from by kernel_rfl]
  go_enter Tryz.func66, Tryz.ntmps66
  go_wp2
  go_ret3
  exact ⟨rfl, rfl⟩
theorem rBd_1_112 (w : World) : Calls Tryz.prog 66 #[.int .u8 1, .int .u8 112] w fun e w' => e = .returned (.tuple #[.int .i64 (bnd 1 112).low, .int .i64 (bnd 1 112).high, .bool true]) ∧ w = w' := by
  rw [show (bnd 1 112).low = 1 from by kernel_rfl, show (bnd 1 112).high = 10737418 from by kernel_rfl]
  go_enter Tryz.func66, Tryz.ntmps66
  go_wp2
  go_ret3
  exact ⟨rfl, rfl⟩
theorem rBd_1_113 (w : World) : Calls Tryz.prog 66 #[.int .u8 1, .int .u8 113] w fun e w' => e = .returned (.tuple #[.int .i64 (bnd 1 113).low, .int .i64 (bnd 1 113).high, .bool true]) ∧ w = w' := by
  rw [show (bnd 1 113).low = 1 from by kernel_rfl, show (bnd 1 113).high = 1048576 from by kernel_rfl]
  go_enter Tryz.func66, Tryz.ntmps66
  go_wp2
  go_ret3
  exact ⟨rfl, rfl⟩
theorem rBd_1_115 (w : World) : Calls Tryz.prog 66 #[.int .u8 1, .int .u8 115] w fun e w' => e = .returned (.tuple #[.int .i64 (bnd 1 115).low, .int .i64 (bnd 1 115).high, .bool true]) ∧ w = w' := by
  rw [show (bnd 1 115).low = 0 from by kernel_rfl, show (bnd 1 115).high = 1 from by kernel_rfl]
  go_enter Tryz.func66, Tryz.ntmps66
  go_wp2
  go_ret3
  exact ⟨rfl, rfl⟩
theorem rBd_1_98 (w : World) : Calls Tryz.prog 66 #[.int .u8 1, .int .u8 98] w fun e w' => e = .returned (.tuple #[.int .i64 (bnd 1 98).low, .int .i64 (bnd 1 98).high, .bool true]) ∧ w = w' := by
  rw [show (bnd 1 98).low = 0 from by kernel_rfl, show (bnd 1 98).high = 10 from by kernel_rfl]
  go_enter Tryz.func66, Tryz.ntmps66
  go_wp2
  go_ret3
  exact ⟨rfl, rfl⟩
theorem rBd_1_116 (w : World) : Calls Tryz.prog 66 #[.int .u8 1, .int .u8 116] w fun e w' => e = .returned (.tuple #[.int .i64 (bnd 1 116).low, .int .i64 (bnd 1 116).high, .bool true]) ∧ w = w' := by
  rw [show (bnd 1 116).low = 1 from by kernel_rfl, show (bnd 1 116).high = 109951162777 from by kernel_rfl]
  go_enter Tryz.func66, Tryz.ntmps66
  go_wp2
  go_ret3
  exact ⟨rfl, rfl⟩
theorem rBd_2_97 (w : World) : Calls Tryz.prog 66 #[.int .u8 2, .int .u8 97] w fun e w' => e = .returned (.tuple #[.int .i64 (bnd 2 97).low, .int .i64 (bnd 2 97).high, .bool true]) ∧ w = w' := by
  rw [show (bnd 2 97).low = 1 from by kernel_rfl, show (bnd 2 97).high = 64 from by kernel_rfl]
  go_enter Tryz.func66, Tryz.ntmps66
  go_wp2
  go_ret3
  exact ⟨rfl, rfl⟩
theorem rBd_2_105 (w : World) : Calls Tryz.prog 66 #[.int .u8 2, .int .u8 105] w fun e w' => e = .returned (.tuple #[.int .i64 (bnd 2 105).low, .int .i64 (bnd 2 105).high, .bool true]) ∧ w = w' := by
  rw [show (bnd 2 105).low = 1 from by kernel_rfl, show (bnd 2 105).high = 16 from by kernel_rfl]
  go_enter Tryz.func66, Tryz.ntmps66
  go_wp2
  go_ret3
  exact ⟨rfl, rfl⟩
theorem rBd_2_111 (w : World) : Calls Tryz.prog 66 #[.int .u8 2, .int .u8 111] w fun e w' => e = .returned (.tuple #[.int .i64 (bnd 2 111).low, .int .i64 (bnd 2 111).high, .bool true]) ∧ w = w' := by
  rw [show (bnd 2 111).low = 1 from by kernel_rfl, show (bnd 2 111).high = 1099511627776 from by kernel_rfl]
  go_enter Tryz.func66, Tryz.ntmps66
  go_wp2
  go_ret3
  exact ⟨rfl, rfl⟩
theorem rBd_2_99 (w : World) : Calls Tryz.prog 66 #[.int .u8 2, .int .u8 99] w fun e w' => e = .returned (.tuple #[.int .i64 (bnd 2 99).low, .int .i64 (bnd 2 99).high, .bool true]) ∧ w = w' := by
  rw [show (bnd 2 99).low = 1 from by kernel_rfl, show (bnd 2 99).high = 1099511627776 from by kernel_rfl]
  go_enter Tryz.func66, Tryz.ntmps66
  go_wp2
  go_ret3
  exact ⟨rfl, rfl⟩
theorem rBd_2_109 (w : World) : Calls Tryz.prog 66 #[.int .u8 2, .int .u8 109] w fun e w' => e = .returned (.tuple #[.int .i64 (bnd 2 109).low, .int .i64 (bnd 2 109).high, .bool true]) ∧ w = w' := by
  rw [show (bnd 2 109).low = 1 from by kernel_rfl, show (bnd 2 109).high = 1125899906842624 from by kernel_rfl]
  go_enter Tryz.func66, Tryz.ntmps66
  go_wp2
  go_ret3
  exact ⟨rfl, rfl⟩
theorem rBd_2_122 (w : World) : Calls Tryz.prog 66 #[.int .u8 2, .int .u8 122] w fun e w' => e = .returned (.tuple #[.int .i64 (bnd 2 122).low, .int .i64 (bnd 2 122).high, .bool true]) ∧ w = w' := by
  rw [show (bnd 2 122).low = 0 from by kernel_rfl, show (bnd 2 122).high = 1125899906842624 from by kernel_rfl]
  go_enter Tryz.func66, Tryz.ntmps66
  go_wp2
  go_ret3
  exact ⟨rfl, rfl⟩
theorem rBd_2_112 (w : World) : Calls Tryz.prog 66 #[.int .u8 2, .int .u8 112] w fun e w' => e = .returned (.tuple #[.int .i64 (bnd 2 112).low, .int .i64 (bnd 2 112).high, .bool true]) ∧ w = w' := by
  rw [show (bnd 2 112).low = 1 from by kernel_rfl, show (bnd 2 112).high = 1073741824 from by kernel_rfl]
  go_enter Tryz.func66, Tryz.ntmps66
  go_wp2
  go_ret3
  exact ⟨rfl, rfl⟩
theorem rBd_2_107 (w : World) : Calls Tryz.prog 66 #[.int .u8 2, .int .u8 107] w fun e w' => e = .returned (.tuple #[.int .i64 (bnd 2 107).low, .int .i64 (bnd 2 107).high, .bool true]) ∧ w = w' := by
  rw [show (bnd 2 107).low = 1 from by kernel_rfl, show (bnd 2 107).high = 1073741824 from by kernel_rfl]
  go_enter Tryz.func66, Tryz.ntmps66
  go_wp2
  go_ret3
  exact ⟨rfl, rfl⟩
theorem rBd_2_113 (w : World) : Calls Tryz.prog 66 #[.int .u8 2, .int .u8 113] w fun e w' => e = .returned (.tuple #[.int .i64 (bnd 2 113).low, .int .i64 (bnd 2 113).high, .bool true]) ∧ w = w' := by
  rw [show (bnd 2 113).low = 1 from by kernel_rfl, show (bnd 2 113).high = 1048576 from by kernel_rfl]
  go_enter Tryz.func66, Tryz.ntmps66
  go_wp2
  go_ret3
  exact ⟨rfl, rfl⟩
theorem rBd_2_115 (w : World) : Calls Tryz.prog 66 #[.int .u8 2, .int .u8 115] w fun e w' => e = .returned (.tuple #[.int .i64 (bnd 2 115).low, .int .i64 (bnd 2 115).high, .bool true]) ∧ w = w' := by
  rw [show (bnd 2 115).low = 0 from by kernel_rfl, show (bnd 2 115).high = 1 from by kernel_rfl]
  go_enter Tryz.func66, Tryz.ntmps66
  go_wp2
  go_ret3
  exact ⟨rfl, rfl⟩
theorem rBd_2_98 (w : World) : Calls Tryz.prog 66 #[.int .u8 2, .int .u8 98] w fun e w' => e = .returned (.tuple #[.int .i64 (bnd 2 98).low, .int .i64 (bnd 2 98).high, .bool true]) ∧ w = w' := by
  rw [show (bnd 2 98).low = 0 from by kernel_rfl, show (bnd 2 98).high = 1000 from by kernel_rfl]
  go_enter Tryz.func66, Tryz.ntmps66
  go_wp2
  go_ret3
  exact ⟨rfl, rfl⟩
theorem rBd_2_116 (w : World) : Calls Tryz.prog 66 #[.int .u8 2, .int .u8 116] w fun e w' => e = .returned (.tuple #[.int .i64 (bnd 2 116).low, .int .i64 (bnd 2 116).high, .bool true]) ∧ w = w' := by
  rw [show (bnd 2 116).low = 1 from by kernel_rfl, show (bnd 2 116).high = 109951162777 from by kernel_rfl]
  go_enter Tryz.func66, Tryz.ntmps66
  go_wp2
  go_ret3
  exact ⟨rfl, rfl⟩
theorem rBd_3_97 (w : World) : Calls Tryz.prog 66 #[.int .u8 3, .int .u8 97] w fun e w' => e = .returned (.tuple #[.int .i64 (bnd 3 97).low, .int .i64 (bnd 3 97).high, .bool true]) ∧ w = w' := by
  rw [show (bnd 3 97).low = 1 from by kernel_rfl, show (bnd 3 97).high = 64 from by kernel_rfl]
  go_enter Tryz.func66, Tryz.ntmps66
  go_wp2
  go_ret3
  exact ⟨rfl, rfl⟩
theorem rBd_3_105 (w : World) : Calls Tryz.prog 66 #[.int .u8 3, .int .u8 105] w fun e w' => e = .returned (.tuple #[.int .i64 (bnd 3 105).low, .int .i64 (bnd 3 105).high, .bool true]) ∧ w = w' := by
  rw [show (bnd 3 105).low = 1 from by kernel_rfl, show (bnd 3 105).high = 16 from by kernel_rfl]
  go_enter Tryz.func66, Tryz.ntmps66
  go_wp2
  go_ret3
  exact ⟨rfl, rfl⟩
theorem rBd_3_111 (w : World) : Calls Tryz.prog 66 #[.int .u8 3, .int .u8 111] w fun e w' => e = .returned (.tuple #[.int .i64 (bnd 3 111).low, .int .i64 (bnd 3 111).high, .bool true]) ∧ w = w' := by
  rw [show (bnd 3 111).low = 1 from by kernel_rfl, show (bnd 3 111).high = 1099511627776 from by kernel_rfl]
  go_enter Tryz.func66, Tryz.ntmps66
  go_wp2
  go_ret3
  exact ⟨rfl, rfl⟩
theorem rBd_3_99 (w : World) : Calls Tryz.prog 66 #[.int .u8 3, .int .u8 99] w fun e w' => e = .returned (.tuple #[.int .i64 (bnd 3 99).low, .int .i64 (bnd 3 99).high, .bool true]) ∧ w = w' := by
  rw [show (bnd 3 99).low = 1 from by kernel_rfl, show (bnd 3 99).high = 1099511627776 from by kernel_rfl]
  go_enter Tryz.func66, Tryz.ntmps66
  go_wp2
  go_ret3
  exact ⟨rfl, rfl⟩
theorem rBd_3_109 (w : World) : Calls Tryz.prog 66 #[.int .u8 3, .int .u8 109] w fun e w' => e = .returned (.tuple #[.int .i64 (bnd 3 109).low, .int .i64 (bnd 3 109).high, .bool true]) ∧ w = w' := by
  rw [show (bnd 3 109).low = 1 from by kernel_rfl, show (bnd 3 109).high = 1125899906842624 from by kernel_rfl]
  go_enter Tryz.func66, Tryz.ntmps66
  go_wp2
  go_ret3
  exact ⟨rfl, rfl⟩
theorem rBd_3_122 (w : World) : Calls Tryz.prog 66 #[.int .u8 3, .int .u8 122] w fun e w' => e = .returned (.tuple #[.int .i64 (bnd 3 122).low, .int .i64 (bnd 3 122).high, .bool true]) ∧ w = w' := by
  rw [show (bnd 3 122).low = 0 from by kernel_rfl, show (bnd 3 122).high = 1125899906842624 from by kernel_rfl]
  go_enter Tryz.func66, Tryz.ntmps66
  go_wp2
  go_ret3
  exact ⟨rfl, rfl⟩
theorem rBd_3_112 (w : World) : Calls Tryz.prog 66 #[.int .u8 3, .int .u8 112] w fun e w' => e = .returned (.tuple #[.int .i64 (bnd 3 112).low, .int .i64 (bnd 3 112).high, .bool true]) ∧ w = w' := by
  rw [show (bnd 3 112).low = 1 from by kernel_rfl, show (bnd 3 112).high = 1073741824 from by kernel_rfl]
  go_enter Tryz.func66, Tryz.ntmps66
  go_wp2
  go_ret3
  exact ⟨rfl, rfl⟩
theorem rBd_3_107 (w : World) : Calls Tryz.prog 66 #[.int .u8 3, .int .u8 107] w fun e w' => e = .returned (.tuple #[.int .i64 (bnd 3 107).low, .int .i64 (bnd 3 107).high, .bool true]) ∧ w = w' := by
  rw [show (bnd 3 107).low = 1 from by kernel_rfl, show (bnd 3 107).high = 1073741824 from by kernel_rfl]
  go_enter Tryz.func66, Tryz.ntmps66
  go_wp2
  go_ret3
  exact ⟨rfl, rfl⟩
theorem rBd_3_113 (w : World) : Calls Tryz.prog 66 #[.int .u8 3, .int .u8 113] w fun e w' => e = .returned (.tuple #[.int .i64 (bnd 3 113).low, .int .i64 (bnd 3 113).high, .bool true]) ∧ w = w' := by
  rw [show (bnd 3 113).low = 1 from by kernel_rfl, show (bnd 3 113).high = 1048576 from by kernel_rfl]
  go_enter Tryz.func66, Tryz.ntmps66
  go_wp2
  go_ret3
  exact ⟨rfl, rfl⟩
theorem rBd_3_115 (w : World) : Calls Tryz.prog 66 #[.int .u8 3, .int .u8 115] w fun e w' => e = .returned (.tuple #[.int .i64 (bnd 3 115).low, .int .i64 (bnd 3 115).high, .bool true]) ∧ w = w' := by
  rw [show (bnd 3 115).low = 1 from by kernel_rfl, show (bnd 3 115).high = 2 from by kernel_rfl]
  go_enter Tryz.func66, Tryz.ntmps66
  go_wp2
  go_ret3
  exact ⟨rfl, rfl⟩
theorem rBd_3_98 (w : World) : Calls Tryz.prog 66 #[.int .u8 3, .int .u8 98] w fun e w' => e = .returned (.tuple #[.int .i64 (bnd 3 98).low, .int .i64 (bnd 3 98).high, .bool true]) ∧ w = w' := by
  rw [show (bnd 3 98).low = 0 from by kernel_rfl, show (bnd 3 98).high = 1000 from by kernel_rfl]
  go_enter Tryz.func66, Tryz.ntmps66
  go_wp2
  go_ret3
  exact ⟨rfl, rfl⟩
theorem rBd_3_116 (w : World) : Calls Tryz.prog 66 #[.int .u8 3, .int .u8 116] w fun e w' => e = .returned (.tuple #[.int .i64 (bnd 3 116).low, .int .i64 (bnd 3 116).high, .bool true]) ∧ w = w' := by
  rw [show (bnd 3 116).low = 1 from by kernel_rfl, show (bnd 3 116).high = 1099511627776 from by kernel_rfl]
  go_enter Tryz.func66, Tryz.ntmps66
  go_wp2
  go_ret3
  exact ⟨rfl, rfl⟩

theorem rBound_any (v c : Nat) (h : (v, c) ∈ goodL) (w : World) : Calls Tryz.prog 66 #[.int .u8 v, .int .u8 c] w fun e w' => e = .returned (.tuple #[.int .i64 (bnd v c).low, .int .i64 (bnd v c).high, .bool true]) ∧ w = w' := by
  simp only [goodL, List.mem_cons, Prod.mk.injEq, List.not_mem_nil, or_false] at h
  rcases h with ⟨rfl, rfl⟩ | ⟨rfl, rfl⟩ | ⟨rfl, rfl⟩ | ⟨rfl, rfl⟩ | ⟨rfl, rfl⟩ | ⟨rfl, rfl⟩ | ⟨rfl, rfl⟩ | ⟨rfl, rfl⟩ | ⟨rfl, rfl⟩ | ⟨rfl, rfl⟩ | ⟨rfl, rfl⟩ | ⟨rfl, rfl⟩ | ⟨rfl, rfl⟩ | ⟨rfl, rfl⟩ | ⟨rfl, rfl⟩ | ⟨rfl, rfl⟩ | ⟨rfl, rfl⟩ | ⟨rfl, rfl⟩ | ⟨rfl, rfl⟩ | ⟨rfl, rfl⟩ | ⟨rfl, rfl⟩ | ⟨rfl, rfl⟩ | ⟨rfl, rfl⟩ | ⟨rfl, rfl⟩ | ⟨rfl, rfl⟩ | ⟨rfl, rfl⟩ | ⟨rfl, rfl⟩ | ⟨rfl, rfl⟩ | ⟨rfl, rfl⟩ | ⟨rfl, rfl⟩ | ⟨rfl, rfl⟩ | ⟨rfl, rfl⟩ | ⟨rfl, rfl⟩ | ⟨rfl, rfl⟩ | ⟨rfl, rfl⟩
  · exact rBd_1_97 w
  · exact rBd_1_105 w
  · exact rBd_1_111 w
  · exact rBd_1_99 w
  · exact rBd_1_109 w
  · exact rBd_1_122 w
  · exact rBd_1_112 w
  · exact rBd_1_113 w
  · exact rBd_1_115 w
  · exact rBd_1_98 w
  · exact rBd_1_116 w
  · exact rBd_2_97 w
  · exact rBd_2_105 w
  · exact rBd_2_111 w
  · exact rBd_2_99 w
  · exact rBd_2_109 w
  · exact rBd_2_122 w
  · exact rBd_2_112 w
  · exact rBd_2_107 w
  · exact rBd_2_113 w
  · exact rBd_2_115 w
  · exact rBd_2_98 w
  · exact rBd_2_116 w
  · exact rBd_3_97 w
  · exact rBd_3_105 w
  · exact rBd_3_111 w
  · exact rBd_3_99 w
  · exact rBd_3_109 w
  · exact rBd_3_122 w
  · exact rBd_3_112 w
  · exact rBd_3_107 w
  · exact rBd_3_113 w
  · exact rBd_3_115 w
  · exact rBd_3_98 w
  · exact rBd_3_116 w

/-- each letter of a table's row is such a class -/
def lettersGood (v : Nat) (s : ByteArray) : Bool := (List.range s.size).all fun j => goodL.contains (v, byteAt s j)
theorem lets_good (v k : Nat) (j : Nat) (hj : j < (lets v k).size) : (v, byteAt (lets v k) j) ∈ goodL := by
  have h := ev_all (p := fun r => lettersGood 1 r.f1 && lettersGood 2 r.f2 && lettersGood 3 r.f3) (by decide +kernel) (by decide +kernel) k
  simp only [Bool.and_eq_true] at h
  have hv : lettersGood v (lets v k) = true := by
    unfold lets
    split
    · rename_i e; subst e; exact h.1.1
    · split
      · rename_i e; subst e; exact h.1.2
      · split
        · rename_i e; subst e; exact h.2
        · rfl
  unfold lettersGood at hv
  have := List.all_eq_true.1 hv j (List.mem_range.2 hj)
  exact List.contains_iff_mem.1 this
theorem asks_good (k : Nat) (j : Nat) (hj : j < (asks k).size) : (3, byteAt (asks k) j) ∈ goodL := by
  have h := cm_all (p := fun r => lettersGood 3 r.fields) (by decide +kernel) (by decide +kernel) k
  unfold lettersGood at h
  have := List.all_eq_true.1 h j (List.mem_range.2 hj)
  exact List.contains_iff_mem.1 this

end Go.Proofs.YtiibeemjkdipnaaGreatDoor.Schema

/-
  The document's own MayName, all, May, Same.
-/
namespace Go.Proofs.YtiibeemjkdipnaaGreatDoor.Schema
open Go Go.RowKit

set_option maxRecDepth 100000 in
set_option maxHeartbeats 1000000 in
theorem rMayName_any (s : ByteArray) (hs : s.size ≤ maxLen) (w : World) :
    Calls Tryz.prog 57 #[.string s] w fun e w' => e = .returned (.bool (mayName s)) ∧ w = w' := by
  unfold maxLen at hs
  by_cases h1 : s.size < 1
  · have HR := Lib.hid (mayName_len (s := s) (by omega))
    have d1 : decide ((s.size : Int) < 1) = true := decide_eq_true (by omega)
    clear h1
    go_enter Tryz.func57, Tryz.ntmps57
    go_wp2
    go_ret
    exact ⟨ret_bool HR.out.symm, rfl⟩
  have d1 : decide ((s.size : Int) < 1) = false := decide_eq_false (by omega)
  by_cases h2 : 24 < s.size
  · have HR := Lib.hid (mayName_len (s := s) (by omega))
    have d2 : decide ((24 : Int) < (s.size : Int)) = true := decide_eq_true (by omega)
    clear h1 h2
    go_enter Tryz.func57, Tryz.ntmps57
    go_wp2
    go_ret
    exact ⟨ret_bool HR.out.symm, rfl⟩
  have d2 : decide ((24 : Int) < (s.size : Int)) = false := decide_eq_false (by omega)
  have h1' : 1 ≤ s.size := by omega
  have h2' : s.size ≤ 24 := by omega
  clear h1 h2
  go_enter Tryz.func57, Tryz.ntmps57
  go_wp2
  clear d1 d2
  go_loop [3] (fun i => ∃ k : Nat, k ≤ s.size ∧ i = .int .i64 k ∧ Hid (∀ j, j < k → okC (byteAt s j) = true)) (fun i => s.size - (intOf i).toNat)
  case atStart => exact ⟨0, Nat.zero_le _, rfl, fun j hj => absurd hj (by omega)⟩
  case round =>
    obtain ⟨k, hk, rfl, HY⟩ := hrel
    by_cases hlt : k < s.size
    · have z0 : (0 : Int) ≤ (k : Int) := by omega
      have z1 : (k : Int) < (s.size : Int) := by omega
      have HBE := Lib.hid (byteAt_eq s k hlt)
      cases hk : okC s[k].toNat with
      | true =>
        have hk2 := okC_yes hk
        have HK : Hid (okC (byteAt s k) = true) := by rw [← HBE.out]; exact hk
        clear hk
        obtain ⟨a1, a2⟩ | ⟨a1, a2⟩ | a | a := hk2
        · have b97 : (97 : Int) ≤ (s[k].toNat : Int) := by omega
          have c122 : (s[k].toNat : Int) ≤ 122 := by omega
          clear a1 a2
          go_wp2
          go_round
          case rel => exact ⟨k + 1, by omega, by go_num, yes_step HY HK.out⟩
          case measure => simp [intOf] <;> omega
        · have l97 : (s[k].toNat : Int) < 97 := by omega
          have m97 : decide ((97 : Int) ≤ (s[k].toNat : Int)) = false := decide_eq_false (by omega)
          have b48 : (48 : Int) ≤ (s[k].toNat : Int) := by omega
          have c57 : (s[k].toNat : Int) ≤ 57 := by omega
          clear a1 a2
          go_wp2
          go_round
          case rel => exact ⟨k + 1, by omega, by go_num, yes_step HY HK.out⟩
          case measure => simp [intOf] <;> omega
        · have l97 : (s[k].toNat : Int) < 97 := by omega
          have m97 : decide ((97 : Int) ≤ (s[k].toNat : Int)) = false := decide_eq_false (by omega)
          have l48 : (s[k].toNat : Int) < 48 := by omega
          have m48 : decide ((48 : Int) ≤ (s[k].toNat : Int)) = false := decide_eq_false (by omega)
          have f45 : ((s[k].toNat : Int) == 45) = true := by simp <;> omega
          clear a
          go_wp2
          go_round
          case rel => exact ⟨k + 1, by omega, by go_num, yes_step HY HK.out⟩
          case measure => simp [intOf] <;> omega
        · have l97 : (s[k].toNat : Int) < 97 := by omega
          have m97 : decide ((97 : Int) ≤ (s[k].toNat : Int)) = false := decide_eq_false (by omega)
          have b48 : (48 : Int) ≤ (s[k].toNat : Int) := by omega
          have g57 : (57 : Int) < (s[k].toNat : Int) := by omega
          have h57 : decide ((s[k].toNat : Int) ≤ 57) = false := decide_eq_false (by omega)
          have f45 : ((s[k].toNat : Int) == 45) = false := by simp <;> omega
          have f95 : ((s[k].toNat : Int) == 95) = true := by simp <;> omega
          clear a
          go_wp2
          go_round
          case rel => exact ⟨k + 1, by omega, by go_num, yes_step HY HK.out⟩
          case measure => simp [intOf] <;> omega
      | false =>
        have HR := Lib.hid (mayName_no hlt (by rw [← HBE.out]; exact hk))
        have hk2 := okC_no hk
        clear hk
        obtain a1 | a | ⟨a1, a2⟩ | ⟨a1, a2⟩ | a2 := hk2
        · have b97 : (97 : Int) ≤ (s[k].toNat : Int) := by omega
          have g122 : (122 : Int) < (s[k].toNat : Int) := by omega
          have h122 : decide ((s[k].toNat : Int) ≤ 122) = false := decide_eq_false (by omega)
          have b48 : (48 : Int) ≤ (s[k].toNat : Int) := by omega
          have g57 : (57 : Int) < (s[k].toNat : Int) := by omega
          have h57 : decide ((s[k].toNat : Int) ≤ 57) = false := decide_eq_false (by omega)
          have f45 : ((s[k].toNat : Int) == 45) = false := by simp <;> omega
          have f95 : ((s[k].toNat : Int) == 95) = false := by simp <;> omega
          clear a1
          go_wp2
          go_ret
          exact ⟨ret_bool HR.out.symm, rfl⟩
        · have l97 : (s[k].toNat : Int) < 97 := by omega
          have m97 : decide ((97 : Int) ≤ (s[k].toNat : Int)) = false := decide_eq_false (by omega)
          have b48 : (48 : Int) ≤ (s[k].toNat : Int) := by omega
          have g57 : (57 : Int) < (s[k].toNat : Int) := by omega
          have h57 : decide ((s[k].toNat : Int) ≤ 57) = false := decide_eq_false (by omega)
          have f45 : ((s[k].toNat : Int) == 45) = false := by simp <;> omega
          have f95 : ((s[k].toNat : Int) == 95) = false := by simp <;> omega
          clear a
          go_wp2
          go_ret
          exact ⟨ret_bool HR.out.symm, rfl⟩
        · have l97 : (s[k].toNat : Int) < 97 := by omega
          have m97 : decide ((97 : Int) ≤ (s[k].toNat : Int)) = false := decide_eq_false (by omega)
          have b48 : (48 : Int) ≤ (s[k].toNat : Int) := by omega
          have g57 : (57 : Int) < (s[k].toNat : Int) := by omega
          have h57 : decide ((s[k].toNat : Int) ≤ 57) = false := decide_eq_false (by omega)
          have f45 : ((s[k].toNat : Int) == 45) = false := by simp <;> omega
          have f95 : ((s[k].toNat : Int) == 95) = false := by simp <;> omega
          clear a1 a2
          go_wp2
          go_ret
          exact ⟨ret_bool HR.out.symm, rfl⟩
        · have l97 : (s[k].toNat : Int) < 97 := by omega
          have m97 : decide ((97 : Int) ≤ (s[k].toNat : Int)) = false := decide_eq_false (by omega)
          have l48 : (s[k].toNat : Int) < 48 := by omega
          have m48 : decide ((48 : Int) ≤ (s[k].toNat : Int)) = false := decide_eq_false (by omega)
          have f45 : ((s[k].toNat : Int) == 45) = false := by simp <;> omega
          have f95 : ((s[k].toNat : Int) == 95) = false := by simp <;> omega
          clear a1 a2
          go_wp2
          go_ret
          exact ⟨ret_bool HR.out.symm, rfl⟩
        · have l97 : (s[k].toNat : Int) < 97 := by omega
          have m97 : decide ((97 : Int) ≤ (s[k].toNat : Int)) = false := decide_eq_false (by omega)
          have l48 : (s[k].toNat : Int) < 48 := by omega
          have m48 : decide ((48 : Int) ≤ (s[k].toNat : Int)) = false := decide_eq_false (by omega)
          have f45 : ((s[k].toNat : Int) == 45) = false := by simp <;> omega
          have f95 : ((s[k].toNat : Int) == 95) = false := by simp <;> omega
          clear a2
          go_wp2
          go_ret
          exact ⟨ret_bool HR.out.symm, rfl⟩
    · have z1 : ¬ (k : Int) < (s.size : Int) := by omega
      have HR := Lib.hid (mayName_yes h1' h2' (fun j hj => HY.out j (by omega)))
      go_wp2
      go_ret
      exact ⟨ret_bool HR.out.symm, rfl⟩

/-- letters that are classes of a version, as the document has them too -/
def Good (v : Nat) (s : ByteArray) : Prop := s.size ≤ 100 ∧ ∀ j, j < s.size → (v, byteAt s j) ∈ goodL
theorem good_lets (v k : Nat) : Good v (lets v k) := ⟨by have := (lets_ok v k).1; omega, fun j hj => lets_good v k j hj⟩
theorem good_asks (k : Nat) : Good 3 (asks k) := ⟨by have := (asks_ok k).1; omega, fun j hj => asks_good k j hj⟩
theorem good_is {v c : Nat} (h : (v, c) ∈ goodL) : (bnd v c).is = true := by
  have : goodL.all (fun p => (bnd p.1 p.2).is) = true := by decide +kernel
  exact List.all_eq_true.1 this _ h
theorem fits_low {v c n : Int} (h : n < (bnd v c).low) : fits v c n = false := by
  unfold fits; rw [decide_eq_false (show ¬ (bnd v c).low ≤ n by omega)]; simp
theorem fits_high {v c n : Int} (h : (bnd v c).high < n) : fits v c n = false := by
  unfold fits; rw [decide_eq_false (show ¬ n ≤ (bnd v c).high by omega)]; simp
theorem fits_both {v c n : Int} (hi : (bnd v c).is = true) (h1 : (bnd v c).low ≤ n) (h2 : n ≤ (bnd v c).high) : fits v c n = true := by
  unfold fits; rw [hi, decide_eq_true h1, decide_eq_true h2]; rfl

set_option maxRecDepth 100000 in
set_option maxHeartbeats 1000000 in
theorem rAll_any (v : Nat) (s : ByteArray) (hs : Good v s) (A : Option Addr) (cap : Nat) (xs : List Int) (hx : Fits64 xs) (w : World) (hA : VAt w A (nums xs)) :
    Calls Tryz.prog 56 #[.int .u8 v, .string s, .slice A xs.length cap] w fun e w' => e = .returned (.bool (fitB v s xs)) ∧ w = w' := by
  have HA := Lib.hid hA
  have HX := Lib.hid hx
  have HG := Lib.hid hs.2
  have hs1 := hs.1
  clear hA hx hs
  by_cases hn : xs.length = s.size
  · have e1 : ((s.size : Int) != (xs.length : Int)) = false := by rw [hn]; simp
    have e2 : (s.size != xs.length) = false := by rw [hn]; simp
    have HN := Lib.hid hn
    have hn' : s.size ≤ xs.length := by omega
    clear hn
    go_enter Tryz.func56, Tryz.ntmps56
    go_wp2
    clear e1 e2
    go_loop [7] (fun i => ∃ k : Nat, k ≤ s.size ∧ i = .int .i64 k ∧ Hid (∀ j, j < k → fits v (byteAt s j) (xs.getD j 0) = true)) (fun i => s.size - (intOf i).toNat)
    case atStart => exact ⟨0, Nat.zero_le _, rfl, fun j hj => absurd hj (by omega)⟩
    case round =>
      obtain ⟨k, hk, rfl, HY⟩ := hrel
      by_cases hlt : k < s.size
      · have z0 : (0 : Int) ≤ (k : Int) := by omega
        have z1 : (k : Int) < (s.size : Int) := by omega
        have z2 : (k : Int) < (xs.length : Int) := by omega
        have HBE := Lib.hid (byteAt_eq s k hlt)
        have hg := HG.out k hlt
        have HI := Lib.hid (good_is hg)
        have HC := Lib.hid (show ∀ W, Calls Tryz.prog 66 #[.int .u8 v, .int .u8 s[k].toNat] W fun e w' => e = .returned (.tuple #[.int .i64 (bnd v (byteAt s k)).low, .int .i64 (bnd v (byteAt s k)).high, .bool true]) ∧ W = w' from fun W => by rw [byteAt_eq s k hlt]; exact rBound_any v _ hg W)
        have HF := Lib.hid (fun h => fits_low (v := v) (c := byteAt s k) (n := xs.getD k 0) h)
        have HH := Lib.hid (fun h => fits_high (v := v) (c := byteAt s k) (n := xs.getD k 0) h)
        have HB := Lib.hid (fun h1 h2 => fits_both (v := v) (c := byteAt s k) (n := xs.getD k 0) HI.out h1 h2)
        obtain ⟨b, o, rfl, c0⟩ := HA.out k _ (nums_at xs k (by omega))
        obtain ⟨x1, x2⟩ := HX.out.at k
        obtain ⟨f, hf⟩ : ∃ f, fits v (byteAt s k) (xs.getD k 0) = f := ⟨_, rfl⟩
        have HFF := Lib.hid hf
        rw [hf] at HF HH HB
        generalize xs.getD k 0 = x at c0 x1 x2 HF HH HB
        generalize (bnd v (byteAt s k)).low = lo at HC HF HB
        generalize (bnd v (byteAt s k)).high = hi at HC HH HB
        clear hg hf HI
        by_cases q1 : x < lo
        · have HR : Hid (fitB v s xs = false) := fitB_no hlt (HFF.out.trans (HF.out q1))
          have q1' : decide (x < lo) = true := decide_eq_true q1
          go_wp2_with (go_at_call 66; refine (HC.out _).mono ?_; rintro e w' ⟨rfl, rfl⟩)
          go_ret
          exact ⟨ret_bool HR.out.symm, rfl⟩
        · have q1' : decide (x < lo) = false := decide_eq_false q1
          by_cases q2 : hi < x
          · have HR : Hid (fitB v s xs = false) := fitB_no hlt (HFF.out.trans (HH.out q2))
            have q2' : decide (hi < x) = true := decide_eq_true q2
            clear q1
            go_wp2_with (go_at_call 66; refine (HC.out _).mono ?_; rintro e w' ⟨rfl, rfl⟩)
            go_ret
            exact ⟨ret_bool HR.out.symm, rfl⟩
          · have HK : Hid (fits v (byteAt s k) (xs.getD k 0) = true) := HFF.out.trans (HB.out (by omega) (by omega))
            have q2' : decide (hi < x) = false := decide_eq_false q2
            clear q1 q2
            go_wp2_with (go_at_call 66; refine (HC.out _).mono ?_; rintro e w' ⟨rfl, rfl⟩)
            go_round
            case rel => exact ⟨k + 1, by omega, by go_num, yes_step HY HK.out⟩
            case measure => simp [intOf] <;> omega
      · have z1 : ¬ (k : Int) < (s.size : Int) := by omega
        have HR := Lib.hid (fitB_yes HN.out (fun j hj => HY.out j (by omega)))
        go_wp2
        go_ret
        exact ⟨ret_bool HR.out.symm, rfl⟩
  · have e1 : ((s.size : Int) != (xs.length : Int)) = true := by simp; omega
    have e2 : (s.size != xs.length) = true := by simp; omega
    have HR := Lib.hid (fitB_len (v := v) hn)
    clear hn
    go_enter Tryz.func56, Tryz.ntmps56
    go_wp2
    go_ret
    exact ⟨ret_bool HR.out.symm, rfl⟩

end Go.Proofs.YtiibeemjkdipnaaGreatDoor.Schema

/-
  Boxes of three cells; one value more, in a region that draws; commands of the call's own.
-/
namespace Go.Proofs.YtiibeemjkdipnaaGreatDoor.Schema
open Go Go.RowKit

/-- three cells -/
def Three (w : World) (b : Nat) (a0 a1 a2 : Value) : Prop := w.cell? ⟨b, 0, none⟩ = some a0 ∧ w.cell? ⟨b, 1, none⟩ = some a1 ∧ w.cell? ⟨b, 2, none⟩ = some a2
theorem Three.below {w w' : World} {b : Nat} {a0 a1 a2 : Value} (h : Three w b a0 a1 a2) (hb : Below w.heap.size w w') : Three w' b a0 a1 a2 := ⟨cell_kept h.1 hb, cell_kept h.2.1 hb, cell_kept h.2.2 hb⟩
theorem Three.touch {lo hi : Nat} {w w' : World} {b : Nat} {a0 a1 a2 : Value} (h : Three w b a0 a1 a2) (g : Touch lo hi w w') (ho : b < lo ∨ hi ≤ b) : Three w' b a0 a1 a2 := ⟨cell_touch h.1 g ho, cell_touch h.2.1 g ho, cell_touch h.2.2 g ho⟩
theorem Three.set0 {w : World} {b : Nat} {a0 a1 a2 : Value} (h : Three w b a0 a1 a2) (x : Value) : Three (w.setCell ⟨b, 0, none⟩ x) b x a1 a2 :=
  ⟨World.cell?_setCell_same _ _ _ h.1, (World.cell?_setCell_other _ _ _ _ (by simp)).trans h.2.1, (World.cell?_setCell_other _ _ _ _ (by simp)).trans h.2.2⟩
theorem Three.set1 {w : World} {b : Nat} {a0 a1 a2 : Value} (h : Three w b a0 a1 a2) (x : Value) : Three (w.setCell ⟨b, 1, none⟩ x) b a0 x a2 :=
  ⟨(World.cell?_setCell_other _ _ _ _ (by simp)).trans h.1, World.cell?_setCell_same _ _ _ h.2.1, (World.cell?_setCell_other _ _ _ _ (by simp)).trans h.2.2⟩
theorem Three.set2 {w : World} {b : Nat} {a0 a1 a2 : Value} (h : Three w b a0 a1 a2) (x : Value) : Three (w.setCell ⟨b, 2, none⟩ x) b a0 a1 x :=
  ⟨(World.cell?_setCell_other _ _ _ _ (by simp)).trans h.1, (World.cell?_setCell_other _ _ _ _ (by simp)).trans h.2.1, World.cell?_setCell_same _ _ _ h.2.2⟩
theorem VAt.touch {lo hi : Nat} {w w' : World} {b : Nat} {u : Value} (h : VAt w (some ⟨b, 0, none⟩) [u]) (g : Touch lo hi w w') (ho : b < lo ∨ hi ≤ b) : VAt w' (some ⟨b, 0, none⟩) [u] := fun j v hj => by
  obtain ⟨b', o', e, hc⟩ := h j v hj
  injection e with e
  injection e with e1 e2
  subst e1 e2
  exact ⟨_, _, rfl, cell_touch hc g ho⟩
theorem OwnE.b {w : World} {base : Nat} {E : TypeId} {v : Value} {vs : List Value} (h : OwnE w base E v vs) : OwnB w base w.heap.size E v vs := h.put h.under

/-- a block of values of a type -/
def BoxT (w : World) (T : TypeId) (b : Nat) : Prop := ∃ c f, w.heap[b]? = some (.cells c T f)
theorem boxT_new (w : World) (cs : Array Value) (T : TypeId) : BoxT (w.alloc (.cells cs T)) T w.heap.size := ⟨cs, (0, 0), (MapKept.heap_alloc w _).1⟩
theorem BoxT.below {w w' : World} {T : TypeId} {b : Nat} (h : BoxT w T b) (hb : Below w.heap.size w w') : BoxT w' T b := by
  obtain ⟨c, f, h⟩ := h
  exact ⟨c, f, (hb.block b (Array.getElem?_eq_some_iff.1 h).1).trans h⟩
theorem BoxT.touch {lo hi : Nat} {w w' : World} {T : TypeId} {b : Nat} (h : BoxT w T b) (g : Touch lo hi w w') (ho : b < lo ∨ hi ≤ b) : BoxT w' T b := by
  obtain ⟨c, f, h⟩ := h
  exact ⟨c, f, (g.block b (Array.getElem?_eq_some_iff.1 h).1 ho).trans h⟩
theorem BoxT.set {w : World} {T : TypeId} {b : Nat} (h : BoxT w T b) (o : Nat) (x : Value) : BoxT (w.setCell ⟨b, o, none⟩ x) T b := by
  obtain ⟨c, f, h⟩ := h
  exact ⟨c.setIfInBounds o x, f, by simp [World.setCell, Array.getElem?_modify, h]⟩
/-- a slice's block is none of another type -/
theorem OwnB.boxT {w : World} {base top : Nat} {E : TypeId} {v : Value} {vs : List Value} (h : OwnB w base top E v vs) {T : TypeId} {b : Nat} (hx : BoxT w T b) (hE : ¬ E = T) (o : Nat) (x : Value) : OwnB (w.setCell ⟨b, o, none⟩ x) base top E v vs := by
  rcases h with ⟨⟨h1, h2⟩, h3⟩ | h
  · refine Or.inl ⟨⟨h1, ?_⟩, h3⟩
    rcases h2 with h2 | ⟨g, cap, cur, rfl, hb, hg, r⟩
    · exact Or.inl h2
    · have hne : g ≠ b := by
        intro e
        subst e
        obtain ⟨c, f, hc⟩ := hx
        rw [hg] at hc
        injection hc with hc
        injection hc with _ hc
        exact hE hc
      exact Or.inr ⟨g, cap, cur, rfl, hb, (Below.heap_setCell w ⟨b, o, none⟩ x g hne).trans hg, r⟩
  · exact Or.inr h

/-- one value more, in a region that draws its order -/
theorem step_append_one {ops : Array Oper} {o : Oper} {a : Act} {w : World} {K : Act → World → Prop} {Q : Exit → Act → World → Prop} {X : Prop} (T E : TypeId) (z : Value) (bytes : Nat) (hT : Tryz.prog.underlying T = some (.slice E))
    (hinfo : (Tryz.prog.info? E).map (fun i => (i.zero, i.size, i.bytes)) = some (some z, 1, bytes)) (hzs : z.cells.size = 1) (hby : bytes ≤ 16) (hgd : o.guard = none) (s x : Operand)
    (ho : o.op = .call { callee := .builtin .append, args := #[s, x], argTypes := #[T, T] })
    (base top : Nat) (v : Value) (xs : List Value) (hs : a.eval s = v) (hown : OwnB w base top E v xs)
    (A : Option Addr) (cap : Nat) (u : Value) (hx : a.eval x = .slice A 1 cap) (hn : VAt w A [u]) (h1 : u.oneCell' = true)
    (hlen : xs.length ≤ 1000) (hbase : base ≤ w.heap.size)
    (h : ∀ v' w', OwnB w' base w'.heap.size E v' (xs ++ [u]) → Touch base top w w' → K (a.put o.dst v') w') :
    if Region.wanted o (yielded ops a.tmps) = true then Oper.wp Tryz.prog o a w K Q else X := by
  have h1' : ∀ y ∈ [u], y.oneCell' = true := fun y hy => by rw [List.mem_singleton.1 hy]; exact h1
  have hA : A = none → cap = 0 := fun e => by subst e; obtain ⟨b, o, e, _⟩ := hn 0 u rfl; cases e
  rcases hown with ⟨hown, hu⟩ | ⟨rfl, g, rfl⟩
  · refine step_append_vals T E z bytes hT hinfo hzs hby hgd s x ho base v xs hs hown A 1 cap [u] hx rfl hn h1' hA (by simp; omega) hbase ?_
    intro v' w' hO hg
    exact h v' w' (Or.inl ⟨hO, fun b hb => (World.ownsRow.lt hO b hb).2⟩) ⟨hg.os, hg.tape, hg.output, hg.size, fun k hk ho => hg.block k hk (fun e => by
      have h3 := World.ownsRow.lt hown k e.symm
      have h4 := hu k e.symm
      omega)⟩
  · refine step_append_new T E z bytes hT hinfo hzs hby hgd s x ho g hs A 1 cap [u] hx rfl hn h1' hA (by simp) ?_
    intro v' w' hO hb
    exact h v' w' (by simpa using (hO.less hbase).b) (touch_of hb _ _)

theorem wpList_append_new {ops : Array Oper} {rest : List Oper} {o : Oper} {a : Act} {w : World} {Q : Exit → Act → World → Prop} (T E : TypeId) (z : Value) (bytes : Nat) (hT : Tryz.prog.underlying T = some (.slice E))
    (hinfo : (Tryz.prog.info? E).map (fun i => (i.zero, i.size, i.bytes)) = some (some z, 1, bytes)) (hzs : z.cells.size = 1) (hby : bytes ≤ 16) (hgd : o.guard = none) (s x : Operand)
    (ho : o.op = .call { callee := .builtin .append, args := #[s, x], argTypes := #[T, T] })
    (g : Nat) (hs : a.eval s = .slice (some ⟨g, 0, none⟩) 0 0)
    (A : Option Addr) (m cap : Nat) (ys : List Value) (hx : a.eval x = .slice A m cap) (hm : m = ys.length) (hn : VAt w A ys) (h1 : ∀ u ∈ ys, u.oneCell' = true) (hA : A = none → cap = 0)
    (hlen : ys.length ≤ 1000000)
    (h : ∀ v' w', OwnE w' w.heap.size E v' ys → Below w.heap.size w w' → wpList Tryz.prog ops Q rest (a.put o.dst v') w') : wpList Tryz.prog ops Q (o :: rest) a w :=
  wpList_plain hgd fun K hK => by
    have h2 := step_append_new (ops := ops) (K := K) (Q := Q) (X := True) T E z bytes hT hinfo hzs hby hgd s x ho g hs A m cap ys hx hm hn h1 hA hlen (fun v' w' h3 h4 => hK _ _ (h v' w' h3 h4))
    rwa [if_pos (by simp [Region.wanted, hgd])] at h2

end Go.Proofs.YtiibeemjkdipnaaGreatDoor.Schema

/-
  The document's own May, Same.
-/
namespace Go.Proofs.YtiibeemjkdipnaaGreatDoor.Schema
open Go Go.RowKit

set_option maxRecDepth 100000 in
set_option maxHeartbeats 1000000 in
theorem rMay_any (A : Option Addr) (ca : Nat) (B : Option Addr) (cb : Nat) (e : Ev) (w : World) (hA : EvAt w A ca B cb e) :
    Calls Tryz.prog 33 #[evV A ca B cb e] w fun z w' => z = .returned (.bool (may e)) ∧ Below w.heap.size w w' := by
  have HM := Lib.hid (show may e = (tall e.v e.k && fitB e.v (lets e.v e.k) e.ns && mayT e.k e.ts) from rfl)
  have HG := Lib.hid (fun W (hW : VAt W A (nums e.ns)) => rAll_any e.v (lets e.v e.k) (good_lets e.v e.k) A ca e.ns hA.fit W hW)
  have hv := hA.v
  have hk := hA.k
  have HTx := Lib.hid hA.txt
  have HNs := Lib.hid hA.ns
  have HTs := Lib.hid hA.ts
  have HF := Lib.hid (fun W => show Calls Tryz.prog 55 #[.int .u8 e.v, .int .u8 e.k] W (fun z w' => z = .returned (.tuple #[.string (lets e.v e.k), .bool (tall e.v e.k && tru e.k), .bool (tall e.v e.k)]) ∧ W = w') from rFields_any e.v e.k hv hk W)
  have HTT := Lib.hid (show mayT e.k e.ts = if tru e.k then decide (e.ts.length = 1) && mayName (e.ts.getD 0 ByteArray.empty) else decide (e.ts.length = 0) from rfl)
  obtain ⟨v, k, ns, ts⟩ := e
  simp only [evV] at *
  have HA0 := Lib.hid ((Below.refl w.heap.size w).alloc (Nat.le_refl _) (.cells #[.int .u8 v, .int .u8 k, .slice A ns.length ca, .slice B ts.length cb] 39))
  have HB4 := Lib.hid (show Four _ w.heap.size _ _ _ _ from box4 w (.int .u8 v) (.int .u8 k) (.slice A ns.length ca) (.slice B ts.length cb) 39)
  clear hA
  generalize lets v k = s at HM HG HF
  generalize tall v k = ta at HM HF
  generalize tru k = tr at HF HTT
  generalize fitB v s ns = fb at HM HG
  go_enter Tryz.func33, Tryz.ntmps33
  go_wp2_with fail
  generalize w.alloc (.cells #[.int .u8 v, .int .u8 k, .slice A ns.length ca, .slice B ts.length cb] 39) = W at HA0 HB4 ⊢
  obtain ⟨p0, p1, p2, p3⟩ := HB4.out
  cases ta with
  | false =>
    have HR : Hid (may ⟨v, k, ns, ts⟩ = false) := by rw [HM.out]; rfl
    simp only [Bool.false_and] at HF
    go_wp2_with (go_at_call 55; refine (HF.out _).mono ?_; rintro z w' ⟨rfl, rfl⟩)
    go_ret
    exact ⟨ret_bool HR.out.symm, HA0.out⟩
  | true =>
    have HM2 : Hid (may ⟨v, k, ns, ts⟩ = (fb && mayT k ts)) := by rw [HM.out]; rfl
    simp only [Bool.true_and] at HF
    clear HM
    cases fb with
    | false =>
      have HR : Hid (may ⟨v, k, ns, ts⟩ = false) := by rw [HM2.out]; rfl
      go_wp2_with (first
        | (go_at_call 55; refine (HF.out _).mono ?_; rintro z w' ⟨rfl, rfl⟩)
        | (go_at_call 56; refine (HG.out _ (HNs.out.below HA0.out)).mono ?_; rintro z w' ⟨rfl, rfl⟩))
      go_ret
      exact ⟨ret_bool HR.out.symm, HA0.out⟩
    | true =>
      have HM3 : Hid (may ⟨v, k, ns, ts⟩ = mayT k ts) := by rw [HM2.out]; rfl
      clear HM2
      cases tr with
      | false =>
        have HR : Hid (may ⟨v, k, ns, ts⟩ = decide (ts.length = 0)) := by rw [HM3.out, HTT.out]; rfl
        go_wp2_with (first
          | (go_at_call 55; refine (HF.out _).mono ?_; rintro z w' ⟨rfl, rfl⟩)
          | (go_at_call 56; refine (HG.out _ (HNs.out.below HA0.out)).mono ?_; rintro z w' ⟨rfl, rfl⟩))
        go_ret
        exact ⟨ret_bool (by rw [HR.out]; exact int_beq _ 0), HA0.out⟩
      | true =>
        have HR : Hid (may ⟨v, k, ns, ts⟩ = (decide (ts.length = 1) && mayName (ts.getD 0 ByteArray.empty))) := by rw [HM3.out, HTT.out]; rfl
        clear HM3 HTT
        by_cases h1 : ts.length = 1
        · obtain ⟨b', o', rfl, c0⟩ := HTs.out 0 _ (texts_at ts 0 (by omega))
          have HNm := Lib.hid (fun W => rMayName_any (ts.getD 0 ByteArray.empty) (mem_getD HTx.out 0) W)
          have HR2 : Hid (may ⟨v, k, ns, ts⟩ = mayName (ts.getD 0 ByteArray.empty)) := by rw [HR.out, decide_eq_true h1]; rfl
          have c0' : W.cell? ⟨b', o', none⟩ = some (.string (ts.getD 0 ByteArray.empty)) := cell_kept c0 HA0.out
          generalize ts.getD 0 ByteArray.empty = t at c0' HNm HR2
          have e5 : ((ts.length : Int) == 1) = true := by rw [h1]; rfl
          have z2 : (0 : Int) < (ts.length : Int) := by omega
          clear c0 h1 HR
          go_wp2_with (first
            | (go_at_call 55; refine (HF.out _).mono ?_; rintro z w' ⟨rfl, rfl⟩)
            | (go_at_call 56; refine (HG.out _ (HNs.out.below HA0.out)).mono ?_; rintro z w' ⟨rfl, rfl⟩)
            | (go_at_call 57; refine (HNm.out _).mono ?_; rintro z w4 ⟨rfl, rfl⟩))
          go_ret
          exact ⟨ret_bool HR2.out.symm, HA0.out⟩
        · have HR2 : Hid (may ⟨v, k, ns, ts⟩ = false) := by rw [HR.out, decide_eq_false h1]; rfl
          have e5 : ((ts.length : Int) == 1) = false := by simp; omega
          clear h1 HR
          go_wp2_with (first
            | (go_at_call 55; refine (HF.out _).mono ?_; rintro z w' ⟨rfl, rfl⟩)
            | (go_at_call 56; refine (HG.out _ (HNs.out.below HA0.out)).mono ?_; rintro z w' ⟨rfl, rfl⟩))
          go_ret
          exact ⟨ret_bool HR2.out.symm, HA0.out⟩

theorem same_len {a b : Ev} (h : ¬ a.ns.length = b.ns.length) : same a b = false := by
  unfold same; rw [decide_eq_false (show ¬ a.ns = b.ns from fun e => h (by rw [e]))]; simp
theorem same_lenT {a b : Ev} (h : ¬ a.ts.length = b.ts.length) : same a b = false := by
  unfold same; rw [decide_eq_false (show ¬ a.ts = b.ts from fun e => h (by rw [e]))]; simp
theorem same_noN {a b : Ev} {k : Nat} (h : ¬ a.ns.getD k 0 = b.ns.getD k 0) : same a b = false := by
  unfold same; rw [decide_eq_false (show ¬ a.ns = b.ns from fun e => h (by rw [e]))]; simp
theorem same_noS {a b : Ev} {k : Nat} (h : ¬ a.ts.getD k ByteArray.empty = b.ts.getD k ByteArray.empty) : same a b = false := by
  unfold same; rw [decide_eq_false (show ¬ a.ts = b.ts from fun e => h (by rw [e]))]; simp
theorem same_yes {a b : Ev} (h1 : a.v = b.v) (h2 : a.k = b.k) (h3 : a.ns = b.ns) (h4 : a.ts = b.ts) : same a b = true := by
  unfold same; rw [decide_eq_true h1, decide_eq_true h2, decide_eq_true h3, decide_eq_true h4]; rfl
theorem hid_step {p : Nat → Prop} {k : Nat} (h : Hid (∀ j, j < k → p j)) (hk : p k) : Hid (∀ j, j < k + 1 → p j) := fun j hj => by
  by_cases e : j = k
  · exact e ▸ hk
  · exact h j (by omega)

end Go.Proofs.YtiibeemjkdipnaaGreatDoor.Schema
